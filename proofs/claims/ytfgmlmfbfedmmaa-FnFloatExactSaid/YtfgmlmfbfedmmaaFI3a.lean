/- The program's floating numbers: the nearest whole number, numbers of single precision. -/
import Derived.Test.YtfgmlmfbfedmmaaFI1
import Derived.Test.YtfgmlmfbfedmmaaFS4
namespace Go.Proofs.Ytfgmlmfbfedmmaa
open Go.RowKit
namespace Tm
theorem shf_float {xs : List Int} {e : Int} (h : isF xs e = true) : shfOk xs e = true ∧ isW (shf xs e) = true ∧ value (shf xs e) = flrV xs e := by
  have f := (isF_iff _ _).1 h
  obtain ⟨f1, f2, f3, -⟩ := f
  have SO : shfOk xs e = true := by simp [shfOk, f1, f2]; omega
  have W : isW (shf xs e) = true ∧ val (shf xs e) = flrV xs e := by
    rw [shf, if_pos SO, flrV, h, if_pos rfl]
    by_cases e0 : 0 ≤ e
    · rw [if_pos e0, if_pos e0]
      refine ⟨isW_mk (fun z hz => ?_) (by simp; omega) (by simp; omega), by rw [val_shift, Int.mul_comm]⟩
      rcases List.mem_append.1 hz with h | h
      · obtain ⟨-, rfl⟩ := List.mem_replicate.1 h; omega
      · exact isW_trits f1 z h
    · rw [if_neg e0, if_neg e0]
      split
      · rename_i c
        rw [List.drop_of_length_le (by omega)]
        exact ⟨by decide, rfl⟩
      · rename_i c
        exact ⟨isW_mk (trits_drop (isW_trits f1) _) (by rw [List.length_drop]; omega) (by rw [List.length_drop, f2]; omega), rfl⟩
  exact ⟨SO, W.1, by rw [value_eq W.1, W.2]⟩
end Tm
theorem iFloorFloat (a : Option Addr) (n cap : Nat) (xs : List Int) (e : Int) (w : World) (h : Ints w a n cap xs) : Calls Try.prog 20 #[.agg #[.slice a n cap, .int .i64 e]] w fun r w' => r = .returned (.tuple #[.int .i64 (Tm.flrV xs e), .bool (Tm.isF xs e)]) ∧ Below w.heap.size w w' := by
  have H := Lib.hid h
  obtain rfl : n = xs.length := h.1.symm
  clear h
  have IX := Lib.hid (fun (w : World) (h : Ints w a xs.length cap xs) => iIsFloat a _ cap xs e w h)
  cases hx : Tm.isF xs e with
  | false =>
    rw [hx] at IX
    have Z : Tm.flrV xs e = 0 := by rw [Tm.flrV, hx]; rfl
    rw [Z]
    clear hx Z
    go_enter Try.func20, Try.ntmps20
    go_wp2_with fail
    refine (IX.out _ (H.out.below (by (repeat' (first | (with_reducible exact Below.refl _ _) | (with_reducible assumption) | (with_reducible refine below_drewN ?_ _) | (with_reducible refine Below.drew ?_) | (with_reducible refine Below.alloc ?_ ?_ _) | (with_reducible refine Below.setCell ?_ ?_ _) | (with_reducible refine below_gw ?_ ?_ _) | (with_reducible refine below_via ?_ ‹Below _ _ _› ?_) | (with_reducible exact Nat.le_refl _) | (with_reducible refine le_gw ?_ _) | (with_reducible refine le_alloc ?_ _) | (with_reducible refine le_setCell ?_ _ _) | (with_reducible refine le_drew ?_) | (with_reducible refine le_drewN ?_ _) | go_size))))).mono ?_
    rintro r w1 ⟨rfl, hb⟩
    obtain ⟨p, rfl⟩ := gw_of_below hb
    clear hb
    go_wp2
    go_returns
    exact ⟨rfl, by (repeat' (first | (with_reducible exact Below.refl _ _) | (with_reducible assumption) | (with_reducible refine below_drewN ?_ _) | (with_reducible refine Below.drew ?_) | (with_reducible refine Below.alloc ?_ ?_ _) | (with_reducible refine Below.setCell ?_ ?_ _) | (with_reducible refine below_gw ?_ ?_ _) | (with_reducible refine below_via ?_ ‹Below _ _ _› ?_) | (with_reducible exact Nat.le_refl _) | (with_reducible refine le_gw ?_ _) | (with_reducible refine le_alloc ?_ _) | (with_reducible refine le_setCell ?_ _ _) | (with_reducible refine le_drew ?_) | (with_reducible refine le_drewN ?_ _) | go_size))⟩
  | true =>
    rw [hx] at IX
    obtain ⟨s1, s2, s3⟩ := Tm.shf_float hx
    have SH := Lib.hid (fun (w : World) (h : Ints w a xs.length cap xs) => iShiftWord a _ cap xs e w h)
    rw [s1] at SH
    rw [← s3]
    obtain ⟨zs, hz⟩ : ∃ zs, zs = Tm.shf xs e := ⟨_, rfl⟩
    rw [← hz] at SH ⊢
    clear hx hz s1 s2 s3
    go_enter Try.func20, Try.ntmps20
    go_wp2_with fail
    refine (IX.out _ (H.out.below (by (repeat' (first | (with_reducible exact Below.refl _ _) | (with_reducible assumption) | (with_reducible refine below_drewN ?_ _) | (with_reducible refine Below.drew ?_) | (with_reducible refine Below.alloc ?_ ?_ _) | (with_reducible refine Below.setCell ?_ ?_ _) | (with_reducible refine below_gw ?_ ?_ _) | (with_reducible refine below_via ?_ ‹Below _ _ _› ?_) | (with_reducible exact Nat.le_refl _) | (with_reducible refine le_gw ?_ _) | (with_reducible refine le_alloc ?_ _) | (with_reducible refine le_setCell ?_ _ _) | (with_reducible refine le_drew ?_) | (with_reducible refine le_drewN ?_ _) | go_size))))).mono ?_
    rintro r w1 ⟨rfl, hb⟩
    obtain ⟨p, rfl⟩ := gw_of_below hb
    clear hb
    go_wp2_with fail
    refine (SH.out _ (H.out.below (by (repeat' (first | (with_reducible exact Below.refl _ _) | (with_reducible assumption) | (with_reducible refine below_drewN ?_ _) | (with_reducible refine Below.drew ?_) | (with_reducible refine Below.alloc ?_ ?_ _) | (with_reducible refine Below.setCell ?_ ?_ _) | (with_reducible refine below_gw ?_ ?_ _) | (with_reducible refine below_via ?_ ‹Below _ _ _› ?_) | (with_reducible exact Nat.le_refl _) | (with_reducible refine le_gw ?_ _) | (with_reducible refine le_alloc ?_ _) | (with_reducible refine le_setCell ?_ _ _) | (with_reducible refine le_drew ?_) | (with_reducible refine le_drewN ?_ _) | go_size))))).mono ?_
    rintro r w1 ⟨a1, c1, rfl, hown, hb, ln⟩
    obtain ⟨q, rfl⟩ := gw_of_below hb
    have IZ := Lib.hid (Ints.of_own hown)
    clear hown hb
    go_wp2_with fail
    refine (iValueOf a1 _ c1 zs _ (by have hh := IZ.out; simp only [gw_gw] at hh ⊢; exact hh)).mono ?_
    rintro r w' ⟨rfl, rfl⟩
    go_wp2
    go_returns
    exact ⟨rfl, by (repeat' (first | (with_reducible exact Below.refl _ _) | (with_reducible assumption) | (with_reducible refine below_drewN ?_ _) | (with_reducible refine Below.drew ?_) | (with_reducible refine Below.alloc ?_ ?_ _) | (with_reducible refine Below.setCell ?_ ?_ _) | (with_reducible refine below_gw ?_ ?_ _) | (with_reducible refine below_via ?_ ‹Below _ _ _› ?_) | (with_reducible exact Nat.le_refl _) | (with_reducible refine le_gw ?_ _) | (with_reducible refine le_alloc ?_ _) | (with_reducible refine le_setCell ?_ _ _) | (with_reducible refine le_drew ?_) | (with_reducible refine le_drewN ?_ _) | go_size))⟩
set_option maxRecDepth 20000 in
theorem iSingleOf (a : Option Addr) (n cap : Nat) (xs : List Int) (e : Int) (w : World) (h : Ints w a n cap xs) : Calls Try.prog 24 #[.agg #[.slice a n cap, .int .i64 e]] w fun r w' => r = .returned (.float .f32 (Tm.snV xs e)) ∧ Below w.heap.size w w' := by
  have H := Lib.hid h
  obtain rfl : n = xs.length := h.1.symm
  clear h
  have IX := Lib.hid (fun (w : World) (h : Ints w a xs.length cap xs) => iIsFloat a _ cap xs e w h)
  cases hx : Tm.isF xs e with
  | false =>
    rw [hx] at IX
    have Z : Tm.snV xs e = 0 := by rw [Tm.snV, hx]; rfl
    rw [Z]
    clear hx Z
    go_enter Try.func24, Try.ntmps24
    go_wp2_with fail
    refine (IX.out _ (H.out.below (by (repeat' (first | (with_reducible exact Below.refl _ _) | (with_reducible assumption) | (with_reducible refine below_drewN ?_ _) | (with_reducible refine Below.drew ?_) | (with_reducible refine Below.alloc ?_ ?_ _) | (with_reducible refine Below.setCell ?_ ?_ _) | (with_reducible refine below_gw ?_ ?_ _) | (with_reducible refine below_via ?_ ‹Below _ _ _› ?_) | (with_reducible exact Nat.le_refl _) | (with_reducible refine le_gw ?_ _) | (with_reducible refine le_alloc ?_ _) | (with_reducible refine le_setCell ?_ _ _) | (with_reducible refine le_drew ?_) | (with_reducible refine le_drewN ?_ _) | go_size))))).mono ?_
    rintro r w1 ⟨rfl, hb⟩
    obtain ⟨p, rfl⟩ := gw_of_below hb
    clear hb
    go_wp2
    go_returns
    exact ⟨rfl, by (repeat' (first | (with_reducible exact Below.refl _ _) | (with_reducible assumption) | (with_reducible refine below_drewN ?_ _) | (with_reducible refine Below.drew ?_) | (with_reducible refine Below.alloc ?_ ?_ _) | (with_reducible refine Below.setCell ?_ ?_ _) | (with_reducible refine below_gw ?_ ?_ _) | (with_reducible refine below_via ?_ ‹Below _ _ _› ?_) | (with_reducible exact Nat.le_refl _) | (with_reducible refine le_gw ?_ _) | (with_reducible refine le_alloc ?_ _) | (with_reducible refine le_setCell ?_ _ _) | (with_reducible refine le_drew ?_) | (with_reducible refine le_drewN ?_ _) | go_size))⟩
  | true =>
    rw [hx] at IX
    have f := (Tm.isF_iff _ _).1 hx
    have VX := Lib.hid (fun (w : World) (h : Ints w a xs.length cap xs) => iValueOf a _ cap xs w h)
    rw [Tm.value_eq f.1] at VX
    have b3 := f.2.2.1
    obtain ⟨b31, b32⟩ := b3
    have FO := Tm.float_ok hx
    have Z : Tm.snV xs e = Tm.sgl (Tm.val xs) e := by rw [Tm.snV, hx]; rfl
    rw [Z, Tm.sgl]
    clear Z
    obtain ⟨u, hu⟩ : ∃ u, u = Tm.val xs := ⟨_, rfl⟩
    rw [← hu] at FO VX ⊢
    obtain ⟨x0, hx0⟩ : ∃ x0, x0 = floatOfInt .f64 u := ⟨_, rfl⟩
    by_cases e0 : 0 ≤ e
    · obtain ⟨k, rfl⟩ := Int.eq_ofNat_of_zero_le e0
      have CH := Tm.chk_spec _ (FO.1 e0)
      rw [Tm.dbl, if_pos e0]
      rw [Int.toNat_natCast] at CH ⊢
      rw [← hx0] at CH ⊢
      have ST : Hid (∀ j, j < k → ∀ w, (binOp .mul 59 (.float .f64 (Tm.iter Tm.mulT x0 j)) (.float .f64 4613937818241073152)).run Try.prog w = .ok (.float .f64 (Tm.iter Tm.mulT x0 (j + 1))) w) := Lib.hid fun j hj w => run_float_arith w .mul _ .f64 _ _ _ (CH.1 j hj)
      have CV := run_convert_float_float (P := Try.prog) (src := 59) (dst := 43) (s := .f64) (k := .f32)
      have CV : Hid (∀ w, (convert 59 43 (.float .f64 (Tm.iter Tm.mulT x0 k))).run Try.prog w = .ok (.float .f32 ((Tm.toS (Tm.iter Tm.mulT x0 k)).getD 0)) w) := Lib.hid fun w => CV w _ _ (by kernel_rfl) (by kernel_rfl) (CH.2 k (Nat.le_refl _))
      clear CH FO hx hu f
      have X0 := Lib.hid hx0.symm
      have hx1 := hx0.symm
      clear hx0
      go_enter Try.func24, Try.ntmps24
      go_wp2_with fail
      refine (IX.out _ (H.out.below (by (repeat' (first | (with_reducible exact Below.refl _ _) | (with_reducible assumption) | (with_reducible refine below_drewN ?_ _) | (with_reducible refine Below.drew ?_) | (with_reducible refine Below.alloc ?_ ?_ _) | (with_reducible refine Below.setCell ?_ ?_ _) | (with_reducible refine below_gw ?_ ?_ _) | (with_reducible refine below_via ?_ ‹Below _ _ _› ?_) | (with_reducible exact Nat.le_refl _) | (with_reducible refine le_gw ?_ _) | (with_reducible refine le_alloc ?_ _) | (with_reducible refine le_setCell ?_ _ _) | (with_reducible refine le_drew ?_) | (with_reducible refine le_drewN ?_ _) | go_size))))).mono ?_
      rintro r w1 ⟨rfl, hb⟩
      obtain ⟨p, rfl⟩ := gw_of_below hb
      clear hb
      go_wp2_with fail
      refine (VX.out _ (H.out.below (by (repeat' (first | (with_reducible exact Below.refl _ _) | (with_reducible assumption) | (with_reducible refine below_drewN ?_ _) | (with_reducible refine Below.drew ?_) | (with_reducible refine Below.alloc ?_ ?_ _) | (with_reducible refine Below.setCell ?_ ?_ _) | (with_reducible refine below_gw ?_ ?_ _) | (with_reducible refine below_via ?_ ‹Below _ _ _› ?_) | (with_reducible exact Nat.le_refl _) | (with_reducible refine le_gw ?_ _) | (with_reducible refine le_alloc ?_ _) | (with_reducible refine le_setCell ?_ _ _) | (with_reducible refine le_drew ?_) | (with_reducible refine le_drewN ?_ _) | go_size))))).mono ?_
      rintro r w' ⟨rfl, rfl⟩
      go_wp2_with fail
      go_loop [3, 13] (fun xv kv => ∃ j : Nat, j ≤ k ∧ kv = .int .i64 (j : Int) ∧ xv = .float .f64 (Tm.iter Tm.mulT x0 j)) (fun _ kv => k - (intOf kv).toNat)
      case atStart => exact ⟨0, by omega, by simp, by first | rfl | (rw [X0.out]; rfl)⟩
      case round =>
        clear hx1
        obtain ⟨j, hj, rfl, rfl⟩ := hrel
        by_cases hlt : j < k
        · have st := ST.out j hlt
          obtain ⟨y, hy⟩ : ∃ y, y = Tm.iter Tm.mulT x0 (j + 1) := ⟨_, rfl⟩
          obtain ⟨z, hz⟩ : ∃ z, z = Tm.iter Tm.mulT x0 j := ⟨_, rfl⟩
          rw [← hy, ← hz] at st
          rw [← hz]
          have HY := Lib.hid hy
          clear hy hz
          go_wp2
          exact ⟨⟨j + 1, by omega, by go_num, by rw [HY.out]⟩, by simp [intOf]; omega⟩
        · obtain rfl : j = k := by omega
          have cv := CV.out
          obtain ⟨z, hz⟩ : ∃ z, z = Tm.iter Tm.mulT x0 j := ⟨_, rfl⟩
          rw [← hz] at cv ⊢
          obtain ⟨y, hy⟩ : ∃ y, y = (Tm.toS z).getD 0 := ⟨_, rfl⟩
          have HY := Lib.hid hy
          have HZ := Lib.hid hz
          rw [← hy] at cv
          clear CV hz hy
          have e1 : ¬ ((0 : Int) < -(j : Int)) := by omega
          go_wp2_with fail
          go_loop [3, 21] (fun xv kv => xv = .float .f64 z ∧ kv = .int .i64 0) (fun _ kv => (intOf kv).toNat)
          case atStart => exact ⟨rfl, rfl⟩
          case round =>
            obtain ⟨rfl, rfl⟩ := hrel
            go_wp2
            go_returns
            exact ⟨by rw [← HZ.out, ← HY.out]; rfl, by (repeat' (first | (with_reducible exact Below.refl _ _) | (with_reducible assumption) | (with_reducible refine below_drewN ?_ _) | (with_reducible refine Below.drew ?_) | (with_reducible refine Below.alloc ?_ ?_ _) | (with_reducible refine Below.setCell ?_ ?_ _) | (with_reducible refine below_gw ?_ ?_ _) | (with_reducible refine below_via ?_ ‹Below _ _ _› ?_) | (with_reducible exact Nat.le_refl _) | (with_reducible refine le_gw ?_ _) | (with_reducible refine le_alloc ?_ _) | (with_reducible refine le_setCell ?_ _ _) | (with_reducible refine le_drew ?_) | (with_reducible refine le_drewN ?_ _) | go_size))⟩
    · obtain ⟨k, hk⟩ : ∃ k : Nat, e = -(k : Int) := ⟨(-e).toNat, by omega⟩
      subst hk
      have CH := Tm.chk_spec _ (FO.2 (by omega))
      rw [Tm.dbl, if_neg e0]
      rw [show (- -(k : Int)).toNat = k by omega] at CH ⊢
      rw [← hx0] at CH ⊢
      have ST : Hid (∀ j, j < k → ∀ w, (binOp .quo 59 (.float .f64 (Tm.iter Tm.divT x0 j)) (.float .f64 4613937818241073152)).run Try.prog w = .ok (.float .f64 (Tm.iter Tm.divT x0 (j + 1))) w) := Lib.hid fun j hj w => run_float_arith w .quo _ .f64 _ _ _ (CH.1 j hj)
      have CV := run_convert_float_float (P := Try.prog) (src := 59) (dst := 43) (s := .f64) (k := .f32)
      have CV : Hid (∀ w, (convert 59 43 (.float .f64 (Tm.iter Tm.divT x0 k))).run Try.prog w = .ok (.float .f32 ((Tm.toS (Tm.iter Tm.divT x0 k)).getD 0)) w) := Lib.hid fun w => CV w _ _ (by kernel_rfl) (by kernel_rfl) (CH.2 k (Nat.le_refl _))
      clear CH FO hx hu f
      have X0 := Lib.hid hx0.symm
      have hx1 := hx0.symm
      clear hx0
      go_enter Try.func24, Try.ntmps24
      go_wp2_with fail
      refine (IX.out _ (H.out.below (by (repeat' (first | (with_reducible exact Below.refl _ _) | (with_reducible assumption) | (with_reducible refine below_drewN ?_ _) | (with_reducible refine Below.drew ?_) | (with_reducible refine Below.alloc ?_ ?_ _) | (with_reducible refine Below.setCell ?_ ?_ _) | (with_reducible refine below_gw ?_ ?_ _) | (with_reducible refine below_via ?_ ‹Below _ _ _› ?_) | (with_reducible exact Nat.le_refl _) | (with_reducible refine le_gw ?_ _) | (with_reducible refine le_alloc ?_ _) | (with_reducible refine le_setCell ?_ _ _) | (with_reducible refine le_drew ?_) | (with_reducible refine le_drewN ?_ _) | go_size))))).mono ?_
      rintro r w1 ⟨rfl, hb⟩
      obtain ⟨p, rfl⟩ := gw_of_below hb
      clear hb
      go_wp2_with fail
      refine (VX.out _ (H.out.below (by (repeat' (first | (with_reducible exact Below.refl _ _) | (with_reducible assumption) | (with_reducible refine below_drewN ?_ _) | (with_reducible refine Below.drew ?_) | (with_reducible refine Below.alloc ?_ ?_ _) | (with_reducible refine Below.setCell ?_ ?_ _) | (with_reducible refine below_gw ?_ ?_ _) | (with_reducible refine below_via ?_ ‹Below _ _ _› ?_) | (with_reducible exact Nat.le_refl _) | (with_reducible refine le_gw ?_ _) | (with_reducible refine le_alloc ?_ _) | (with_reducible refine le_setCell ?_ _ _) | (with_reducible refine le_drew ?_) | (with_reducible refine le_drewN ?_ _) | go_size))))).mono ?_
      rintro r w' ⟨rfl, rfl⟩
      go_wp2_with fail
      go_loop [3, 13] (fun xv kv => xv = .float .f64 x0 ∧ kv = .int .i64 0) (fun _ kv => (intOf kv).toNat)
      case atStart => exact ⟨by first | rfl | (rw [X0.out]; rfl), rfl⟩
      case round =>
        clear hx1
        obtain ⟨rfl, rfl⟩ := hrel
        have e1 : ¬ ((0 : Int) < -(k : Int)) := by omega
        have e2 : IntKind.i64.wrap (- -(k : Int)) = (k : Int) := by rw [Int.neg_neg]; exact IntWalk.i64_in _ (by omega)
        go_wp2_with fail
        go_loop [3, 21] (fun xv kv => ∃ j : Nat, j ≤ k ∧ kv = .int .i64 (j : Int) ∧ xv = .float .f64 (Tm.iter Tm.divT x0 j)) (fun _ kv => k - (intOf kv).toNat)
        case atStart => exact ⟨0, by omega, by simp, rfl⟩
        case round =>
          obtain ⟨j, hj, rfl, rfl⟩ := hrel
          by_cases hlt : j < k
          · have st := ST.out j hlt
            obtain ⟨y, hy⟩ : ∃ y, y = Tm.iter Tm.divT x0 (j + 1) := ⟨_, rfl⟩
            obtain ⟨z, hz⟩ : ∃ z, z = Tm.iter Tm.divT x0 j := ⟨_, rfl⟩
            rw [← hy, ← hz] at st
            rw [← hz]
            have HY := Lib.hid hy
            clear hy hz
            go_wp2
            exact ⟨⟨j + 1, by omega, by go_num, by rw [HY.out]⟩, by simp [intOf]; omega⟩
          · obtain rfl : j = k := by omega
            have cv := CV.out
            obtain ⟨z, hz⟩ : ∃ z, z = Tm.iter Tm.divT x0 j := ⟨_, rfl⟩
            rw [← hz] at cv ⊢
            obtain ⟨y, hy⟩ : ∃ y, y = (Tm.toS z).getD 0 := ⟨_, rfl⟩
            have HY := Lib.hid hy
            have HZ := Lib.hid hz
            rw [← hy] at cv
            clear CV hz hy
            go_wp2
            go_returns
            exact ⟨by rw [← HZ.out, ← HY.out]; rfl, by (repeat' (first | (with_reducible exact Below.refl _ _) | (with_reducible assumption) | (with_reducible refine below_drewN ?_ _) | (with_reducible refine Below.drew ?_) | (with_reducible refine Below.alloc ?_ ?_ _) | (with_reducible refine Below.setCell ?_ ?_ _) | (with_reducible refine below_gw ?_ ?_ _) | (with_reducible refine below_via ?_ ‹Below _ _ _› ?_) | (with_reducible exact Nat.le_refl _) | (with_reducible refine le_gw ?_ _) | (with_reducible refine le_alloc ?_ _) | (with_reducible refine le_setCell ?_ _ _) | (with_reducible refine le_drew ?_) | (with_reducible refine le_drewN ?_ _) | go_size))⟩
end Go.Proofs.Ytfgmlmfbfedmmaa

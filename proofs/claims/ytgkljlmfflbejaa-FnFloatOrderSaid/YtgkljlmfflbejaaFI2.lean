/- The program's floating numbers: sums, comparing, products, quotients, scaling. -/
import Derived.Test.YtgkljlmfflbejaaFI1
import Derived.Test.YtgkljlmfflbejaaFS3
namespace Go.Proofs.Ytgkljlmfflbejaa
set_option maxRecDepth 20000
open Go.RowKit
theorem iPowerI (k : Int) (w : World) (h : 0 ≤ k ∧ k ≤ 30) : Calls Try.prog 32 #[.int .i64 k] w fun e w' => e = .returned (.int .i64 (Tm.pow3 k.toNat)) ∧ w = w' := by
  have L := Lib.hid (fun w => iLimitOf k w)
  have l : Tm.lim k = Tm.limN k.toNat := by
    rw [Tm.lim]; split
    · rfl
    · rename_i c
      obtain rfl : k = 0 := by omega
      rfl
  rw [l] at L
  have b1 := Tm.limN_le (show k.toNat ≤ 30 by omega)
  have b2 := Tm.limN_nonneg k.toNat
  rw [Tm.pow3_limN]
  obtain ⟨l, hl⟩ : ∃ l, l = Tm.limN k.toNat := ⟨_, rfl⟩
  rw [← hl] at L b1 b2 ⊢
  clear hl
  go_enter Try.func32, Try.ntmps32
  go_wp2_with fail
  refine (L.out _).mono ?_
  rintro e w' ⟨rfl, rfl⟩
  go_wp2
  go_ret
  exact ⟨ret_int (by omega), rfl⟩
set_option maxRecDepth 20000 in
theorem iSumTerms (a : Option Addr) (n cap : Nat) (xs : List Int) (e : Int) (b : Option Addr) (m cap2 : Nat) (ys : List Int) (f : Int) (w : World) (h : Ints w a n cap xs) (h2 : Ints w b m cap2 ys) (hx : Tm.isF xs e = true) (hy : Tm.isF ys f = true) : Calls Try.prog 24 #[.agg #[.slice a n cap, .int .i64 e], .agg #[.slice b m cap2, .int .i64 f]] w fun r w' => r = .returned (.tuple #[.int .i64 (Tm.stN xs e ys f), .int .i64 (Tm.stE e f)]) ∧ Below w.heap.size w w' := by
  have H := Lib.hid h
  obtain rfl : n = xs.length := h.1.symm
  have H2 := Lib.hid h2
  obtain rfl : m = ys.length := h2.1.symm
  clear h h2
  have VX := Lib.hid (fun (w : World) (h : Ints w a xs.length cap xs) => iValueOf a _ cap xs w h)
  have VY := Lib.hid (fun (w : World) (h : Ints w b ys.length cap2 ys) => iValueOf b _ cap2 ys w h)
  rw [Tm.value_eq ((Tm.isF_iff _ _).1 hx).1] at VX
  rw [Tm.value_eq ((Tm.isF_iff _ _).1 hy).1] at VY
  have b1 := Tm.isF_val hx
  have b2 := Tm.isF_val hy
  have b3 := ((Tm.isF_iff _ _).1 hx).2.2.1
  have b4 := ((Tm.isF_iff _ _).1 hy).2.2.1
  obtain ⟨u, hu⟩ : ∃ u, u = Tm.val xs := ⟨_, rfl⟩
  obtain ⟨v, hv⟩ : ∃ v, v = Tm.val ys := ⟨_, rfl⟩
  rw [← hu] at b1 VX
  rw [← hv] at b2 VY
  obtain ⟨b31, b32⟩ := b3
  obtain ⟨b41, b42⟩ := b4
  obtain ⟨b11, b12⟩ := b1
  obtain ⟨b21, b22⟩ := b2
  by_cases c0 : e < f
  · by_cases c1 : f - e ≤ 24
    · skip
      have PW := Lib.hid (fun w => iPowerI (f - e) w ⟨by omega, by omega⟩)
      have TP : Tm.trmP f e = (f - e : Int).toNat := by unfold Tm.trmP; omega
      have P2 := Tm.pow3_le (show (f - e : Int).toNat ≤ 24 by omega)
      rw [Tm.pow3_24] at P2
      have P1 := Tm.pow3_one (f - e : Int).toNat
      have N : Hid (Tm.stN xs e ys f = v * Tm.pow3 (f - e : Int).toNat + u ∧ Tm.stE e f = f - (f - e)) := Lib.hid ⟨by rw [Tm.stN, if_pos c0, Tm.trmN, TP, ← hu, ← hv], by rw [Tm.stE, if_pos c0, Tm.trmE, TP]; omega⟩
      obtain ⟨q, hq⟩ : ∃ q, q = Tm.pow3 (f - e : Int).toNat := ⟨_, rfl⟩
      rw [← hq] at PW P2 P1 N
      have mb := Tm.mul_bd (a := v) (b := q) (A := 364) (B := 282429536481) ⟨by omega, by omega⟩ ⟨by omega, by omega⟩
      obtain ⟨mb1, mb2⟩ := mb
      rw [N.out.1, N.out.2]
      have s1 : IntKind.i64.wrap (v * q) = v * q := IntWalk.i64_in _ (by omega)
      have s2 : IntKind.i64.wrap (v * q + u) = v * q + u := IntWalk.i64_in _ (by omega)
      have s3 : min (f - e) 24 = f - e := by omega
      have s4 : IntKind.i64.wrap (f - (f - e)) = f - (f - e) := IntWalk.i64_in _ (by omega)
      clear hx hy hu hv hq TP
      go_enter Try.func24, Try.ntmps24
      go_wp2_with fail
      go_region_held3 (fun W => W.cell? ⟨w.heap.size, 0, none⟩ = some (.slice b ys.length cap2) ∧ W.cell? ⟨w.heap.size, 1, none⟩ = some (.int .i64 f) ∧ W.cell? ⟨w.heap.size + 1, 0, none⟩ = some (.slice a xs.length cap) ∧ W.cell? ⟨w.heap.size + 1, 1, none⟩ = some (.int .i64 e)) (go_simp) ((first | (go_at_call 16; with_reducible refine (VX.out _ (H.out.below (by (repeat' (first | (with_reducible exact Below.refl _ _) | (with_reducible assumption) | (with_reducible refine below_drewN ?_ _) | (with_reducible refine Below.drew ?_) | (with_reducible refine Below.alloc ?_ ?_ _) | (with_reducible refine Below.setCell ?_ ?_ _) | (with_reducible refine below_gw ?_ ?_ _) | (with_reducible refine below_via ?_ ‹Below _ _ _› ?_) | (with_reducible exact Nat.le_refl _) | (with_reducible refine le_gw ?_ _) | (with_reducible refine le_alloc ?_ _) | (with_reducible refine le_setCell ?_ _ _) | (with_reducible refine le_drew ?_) | (with_reducible refine le_drewN ?_ _) | go_size))))).mono ?_; rintro r w' ⟨rfl, rfl⟩) | (go_at_call 16; with_reducible refine (VY.out _ (H2.out.below (by (repeat' (first | (with_reducible exact Below.refl _ _) | (with_reducible assumption) | (with_reducible refine below_drewN ?_ _) | (with_reducible refine Below.drew ?_) | (with_reducible refine Below.alloc ?_ ?_ _) | (with_reducible refine Below.setCell ?_ ?_ _) | (with_reducible refine below_gw ?_ ?_ _) | (with_reducible refine below_via ?_ ‹Below _ _ _› ?_) | (with_reducible exact Nat.le_refl _) | (with_reducible refine le_gw ?_ _) | (with_reducible refine le_alloc ?_ _) | (with_reducible refine le_setCell ?_ _ _) | (with_reducible refine le_drew ?_) | (with_reducible refine le_drewN ?_ _) | go_size))))).mono ?_; rintro r w' ⟨rfl, rfl⟩) | (go_at_call 32; with_reducible refine (PW.out _).mono ?_; rintro r w' ⟨rfl, rfl⟩)))
      go_wp2
      go_returns
      exact ⟨rfl, by (repeat' (first | (with_reducible exact Below.refl _ _) | (with_reducible assumption) | (with_reducible refine below_drewN ?_ _) | (with_reducible refine Below.drew ?_) | (with_reducible refine Below.alloc ?_ ?_ _) | (with_reducible refine Below.setCell ?_ ?_ _) | (with_reducible refine below_gw ?_ ?_ _) | (with_reducible refine below_via ?_ ‹Below _ _ _› ?_) | (with_reducible exact Nat.le_refl _) | (with_reducible refine le_gw ?_ _) | (with_reducible refine le_alloc ?_ _) | (with_reducible refine le_setCell ?_ _ _) | (with_reducible refine le_drew ?_) | (with_reducible refine le_drewN ?_ _) | go_size))⟩
    · skip
      have PW := Lib.hid (fun w => iPowerI (24) w ⟨by omega, by omega⟩)
      have TP : Tm.trmP f e = (24 : Int).toNat := by unfold Tm.trmP; omega
      have P2 := Tm.pow3_le (show (24 : Int).toNat ≤ 24 by omega)
      rw [Tm.pow3_24] at P2
      have P1 := Tm.pow3_one (24 : Int).toNat
      have N : Hid (Tm.stN xs e ys f = v * Tm.pow3 (24 : Int).toNat + u ∧ Tm.stE e f = f - (24)) := Lib.hid ⟨by rw [Tm.stN, if_pos c0, Tm.trmN, TP, ← hu, ← hv], by rw [Tm.stE, if_pos c0, Tm.trmE, TP]; omega⟩
      obtain ⟨q, hq⟩ : ∃ q, q = Tm.pow3 (24 : Int).toNat := ⟨_, rfl⟩
      rw [← hq] at PW P2 P1 N
      have mb := Tm.mul_bd (a := v) (b := q) (A := 364) (B := 282429536481) ⟨by omega, by omega⟩ ⟨by omega, by omega⟩
      obtain ⟨mb1, mb2⟩ := mb
      rw [N.out.1, N.out.2]
      have s1 : IntKind.i64.wrap (v * q) = v * q := IntWalk.i64_in _ (by omega)
      have s2 : IntKind.i64.wrap (v * q + u) = v * q + u := IntWalk.i64_in _ (by omega)
      have s3 : min (f - e) 24 = 24 := by omega
      have s4 : IntKind.i64.wrap (f - (24)) = f - (24) := IntWalk.i64_in _ (by omega)
      clear hx hy hu hv hq TP
      go_enter Try.func24, Try.ntmps24
      go_wp2_with fail
      go_region_held3 (fun W => W.cell? ⟨w.heap.size, 0, none⟩ = some (.slice b ys.length cap2) ∧ W.cell? ⟨w.heap.size, 1, none⟩ = some (.int .i64 f) ∧ W.cell? ⟨w.heap.size + 1, 0, none⟩ = some (.slice a xs.length cap) ∧ W.cell? ⟨w.heap.size + 1, 1, none⟩ = some (.int .i64 e)) (go_simp) ((first | (go_at_call 16; with_reducible refine (VX.out _ (H.out.below (by (repeat' (first | (with_reducible exact Below.refl _ _) | (with_reducible assumption) | (with_reducible refine below_drewN ?_ _) | (with_reducible refine Below.drew ?_) | (with_reducible refine Below.alloc ?_ ?_ _) | (with_reducible refine Below.setCell ?_ ?_ _) | (with_reducible refine below_gw ?_ ?_ _) | (with_reducible refine below_via ?_ ‹Below _ _ _› ?_) | (with_reducible exact Nat.le_refl _) | (with_reducible refine le_gw ?_ _) | (with_reducible refine le_alloc ?_ _) | (with_reducible refine le_setCell ?_ _ _) | (with_reducible refine le_drew ?_) | (with_reducible refine le_drewN ?_ _) | go_size))))).mono ?_; rintro r w' ⟨rfl, rfl⟩) | (go_at_call 16; with_reducible refine (VY.out _ (H2.out.below (by (repeat' (first | (with_reducible exact Below.refl _ _) | (with_reducible assumption) | (with_reducible refine below_drewN ?_ _) | (with_reducible refine Below.drew ?_) | (with_reducible refine Below.alloc ?_ ?_ _) | (with_reducible refine Below.setCell ?_ ?_ _) | (with_reducible refine below_gw ?_ ?_ _) | (with_reducible refine below_via ?_ ‹Below _ _ _› ?_) | (with_reducible exact Nat.le_refl _) | (with_reducible refine le_gw ?_ _) | (with_reducible refine le_alloc ?_ _) | (with_reducible refine le_setCell ?_ _ _) | (with_reducible refine le_drew ?_) | (with_reducible refine le_drewN ?_ _) | go_size))))).mono ?_; rintro r w' ⟨rfl, rfl⟩) | (go_at_call 32; with_reducible refine (PW.out _).mono ?_; rintro r w' ⟨rfl, rfl⟩)))
      go_wp2
      go_returns
      exact ⟨rfl, by (repeat' (first | (with_reducible exact Below.refl _ _) | (with_reducible assumption) | (with_reducible refine below_drewN ?_ _) | (with_reducible refine Below.drew ?_) | (with_reducible refine Below.alloc ?_ ?_ _) | (with_reducible refine Below.setCell ?_ ?_ _) | (with_reducible refine below_gw ?_ ?_ _) | (with_reducible refine below_via ?_ ‹Below _ _ _› ?_) | (with_reducible exact Nat.le_refl _) | (with_reducible refine le_gw ?_ _) | (with_reducible refine le_alloc ?_ _) | (with_reducible refine le_setCell ?_ _ _) | (with_reducible refine le_drew ?_) | (with_reducible refine le_drewN ?_ _) | go_size))⟩
  · by_cases c1 : e - f ≤ 24
    · skip
      have PW := Lib.hid (fun w => iPowerI (e - f) w ⟨by omega, by omega⟩)
      have TP : Tm.trmP e f = (e - f : Int).toNat := by unfold Tm.trmP; omega
      have P2 := Tm.pow3_le (show (e - f : Int).toNat ≤ 24 by omega)
      rw [Tm.pow3_24] at P2
      have P1 := Tm.pow3_one (e - f : Int).toNat
      have N : Hid (Tm.stN xs e ys f = u * Tm.pow3 (e - f : Int).toNat + v ∧ Tm.stE e f = e - (e - f)) := Lib.hid ⟨by rw [Tm.stN, if_neg c0, Tm.trmN, TP, ← hu, ← hv], by rw [Tm.stE, if_neg c0, Tm.trmE, TP]; omega⟩
      obtain ⟨q, hq⟩ : ∃ q, q = Tm.pow3 (e - f : Int).toNat := ⟨_, rfl⟩
      rw [← hq] at PW P2 P1 N
      have mb := Tm.mul_bd (a := u) (b := q) (A := 364) (B := 282429536481) ⟨by omega, by omega⟩ ⟨by omega, by omega⟩
      obtain ⟨mb1, mb2⟩ := mb
      rw [N.out.1, N.out.2]
      have s1 : IntKind.i64.wrap (u * q) = u * q := IntWalk.i64_in _ (by omega)
      have s2 : IntKind.i64.wrap (u * q + v) = u * q + v := IntWalk.i64_in _ (by omega)
      have s3 : min (e - f) 24 = e - f := by omega
      have s4 : IntKind.i64.wrap (e - (e - f)) = e - (e - f) := IntWalk.i64_in _ (by omega)
      clear hx hy hu hv hq TP
      go_enter Try.func24, Try.ntmps24
      go_wp2_with fail
      go_region_held3 (fun W => W.cell? ⟨w.heap.size, 0, none⟩ = some (.slice a xs.length cap) ∧ W.cell? ⟨w.heap.size, 1, none⟩ = some (.int .i64 e) ∧ W.cell? ⟨w.heap.size + 1, 0, none⟩ = some (.slice b ys.length cap2) ∧ W.cell? ⟨w.heap.size + 1, 1, none⟩ = some (.int .i64 f)) (go_simp) ((first | (go_at_call 16; with_reducible refine (VX.out _ (H.out.below (by (repeat' (first | (with_reducible exact Below.refl _ _) | (with_reducible assumption) | (with_reducible refine below_drewN ?_ _) | (with_reducible refine Below.drew ?_) | (with_reducible refine Below.alloc ?_ ?_ _) | (with_reducible refine Below.setCell ?_ ?_ _) | (with_reducible refine below_gw ?_ ?_ _) | (with_reducible refine below_via ?_ ‹Below _ _ _› ?_) | (with_reducible exact Nat.le_refl _) | (with_reducible refine le_gw ?_ _) | (with_reducible refine le_alloc ?_ _) | (with_reducible refine le_setCell ?_ _ _) | (with_reducible refine le_drew ?_) | (with_reducible refine le_drewN ?_ _) | go_size))))).mono ?_; rintro r w' ⟨rfl, rfl⟩) | (go_at_call 16; with_reducible refine (VY.out _ (H2.out.below (by (repeat' (first | (with_reducible exact Below.refl _ _) | (with_reducible assumption) | (with_reducible refine below_drewN ?_ _) | (with_reducible refine Below.drew ?_) | (with_reducible refine Below.alloc ?_ ?_ _) | (with_reducible refine Below.setCell ?_ ?_ _) | (with_reducible refine below_gw ?_ ?_ _) | (with_reducible refine below_via ?_ ‹Below _ _ _› ?_) | (with_reducible exact Nat.le_refl _) | (with_reducible refine le_gw ?_ _) | (with_reducible refine le_alloc ?_ _) | (with_reducible refine le_setCell ?_ _ _) | (with_reducible refine le_drew ?_) | (with_reducible refine le_drewN ?_ _) | go_size))))).mono ?_; rintro r w' ⟨rfl, rfl⟩) | (go_at_call 32; with_reducible refine (PW.out _).mono ?_; rintro r w' ⟨rfl, rfl⟩)))
      go_wp2
      go_returns
      exact ⟨rfl, by (repeat' (first | (with_reducible exact Below.refl _ _) | (with_reducible assumption) | (with_reducible refine below_drewN ?_ _) | (with_reducible refine Below.drew ?_) | (with_reducible refine Below.alloc ?_ ?_ _) | (with_reducible refine Below.setCell ?_ ?_ _) | (with_reducible refine below_gw ?_ ?_ _) | (with_reducible refine below_via ?_ ‹Below _ _ _› ?_) | (with_reducible exact Nat.le_refl _) | (with_reducible refine le_gw ?_ _) | (with_reducible refine le_alloc ?_ _) | (with_reducible refine le_setCell ?_ _ _) | (with_reducible refine le_drew ?_) | (with_reducible refine le_drewN ?_ _) | go_size))⟩
    · skip
      have PW := Lib.hid (fun w => iPowerI (24) w ⟨by omega, by omega⟩)
      have TP : Tm.trmP e f = (24 : Int).toNat := by unfold Tm.trmP; omega
      have P2 := Tm.pow3_le (show (24 : Int).toNat ≤ 24 by omega)
      rw [Tm.pow3_24] at P2
      have P1 := Tm.pow3_one (24 : Int).toNat
      have N : Hid (Tm.stN xs e ys f = u * Tm.pow3 (24 : Int).toNat + v ∧ Tm.stE e f = e - (24)) := Lib.hid ⟨by rw [Tm.stN, if_neg c0, Tm.trmN, TP, ← hu, ← hv], by rw [Tm.stE, if_neg c0, Tm.trmE, TP]; omega⟩
      obtain ⟨q, hq⟩ : ∃ q, q = Tm.pow3 (24 : Int).toNat := ⟨_, rfl⟩
      rw [← hq] at PW P2 P1 N
      have mb := Tm.mul_bd (a := u) (b := q) (A := 364) (B := 282429536481) ⟨by omega, by omega⟩ ⟨by omega, by omega⟩
      obtain ⟨mb1, mb2⟩ := mb
      rw [N.out.1, N.out.2]
      have s1 : IntKind.i64.wrap (u * q) = u * q := IntWalk.i64_in _ (by omega)
      have s2 : IntKind.i64.wrap (u * q + v) = u * q + v := IntWalk.i64_in _ (by omega)
      have s3 : min (e - f) 24 = 24 := by omega
      have s4 : IntKind.i64.wrap (e - (24)) = e - (24) := IntWalk.i64_in _ (by omega)
      clear hx hy hu hv hq TP
      go_enter Try.func24, Try.ntmps24
      go_wp2_with fail
      go_region_held3 (fun W => W.cell? ⟨w.heap.size, 0, none⟩ = some (.slice a xs.length cap) ∧ W.cell? ⟨w.heap.size, 1, none⟩ = some (.int .i64 e) ∧ W.cell? ⟨w.heap.size + 1, 0, none⟩ = some (.slice b ys.length cap2) ∧ W.cell? ⟨w.heap.size + 1, 1, none⟩ = some (.int .i64 f)) (go_simp) ((first | (go_at_call 16; with_reducible refine (VX.out _ (H.out.below (by (repeat' (first | (with_reducible exact Below.refl _ _) | (with_reducible assumption) | (with_reducible refine below_drewN ?_ _) | (with_reducible refine Below.drew ?_) | (with_reducible refine Below.alloc ?_ ?_ _) | (with_reducible refine Below.setCell ?_ ?_ _) | (with_reducible refine below_gw ?_ ?_ _) | (with_reducible refine below_via ?_ ‹Below _ _ _› ?_) | (with_reducible exact Nat.le_refl _) | (with_reducible refine le_gw ?_ _) | (with_reducible refine le_alloc ?_ _) | (with_reducible refine le_setCell ?_ _ _) | (with_reducible refine le_drew ?_) | (with_reducible refine le_drewN ?_ _) | go_size))))).mono ?_; rintro r w' ⟨rfl, rfl⟩) | (go_at_call 16; with_reducible refine (VY.out _ (H2.out.below (by (repeat' (first | (with_reducible exact Below.refl _ _) | (with_reducible assumption) | (with_reducible refine below_drewN ?_ _) | (with_reducible refine Below.drew ?_) | (with_reducible refine Below.alloc ?_ ?_ _) | (with_reducible refine Below.setCell ?_ ?_ _) | (with_reducible refine below_gw ?_ ?_ _) | (with_reducible refine below_via ?_ ‹Below _ _ _› ?_) | (with_reducible exact Nat.le_refl _) | (with_reducible refine le_gw ?_ _) | (with_reducible refine le_alloc ?_ _) | (with_reducible refine le_setCell ?_ _ _) | (with_reducible refine le_drew ?_) | (with_reducible refine le_drewN ?_ _) | go_size))))).mono ?_; rintro r w' ⟨rfl, rfl⟩) | (go_at_call 32; with_reducible refine (PW.out _).mono ?_; rintro r w' ⟨rfl, rfl⟩)))
      go_wp2
      go_returns
      exact ⟨rfl, by (repeat' (first | (with_reducible exact Below.refl _ _) | (with_reducible assumption) | (with_reducible refine below_drewN ?_ _) | (with_reducible refine Below.drew ?_) | (with_reducible refine Below.alloc ?_ ?_ _) | (with_reducible refine Below.setCell ?_ ?_ _) | (with_reducible refine below_gw ?_ ?_ _) | (with_reducible refine below_via ?_ ‹Below _ _ _› ?_) | (with_reducible exact Nat.le_refl _) | (with_reducible refine le_gw ?_ _) | (with_reducible refine le_alloc ?_ _) | (with_reducible refine le_setCell ?_ _ _) | (with_reducible refine le_drew ?_) | (with_reducible refine le_drewN ?_ _) | go_size))⟩
set_option maxRecDepth 20000 in
set_option maxHeartbeats 1000000 in
theorem iCompareFloats (a : Option Addr) (n cap : Nat) (xs : List Int) (e : Int) (b : Option Addr) (m cap2 : Nat) (ys : List Int) (f : Int) (w : World) (h : Ints w a n cap xs) (h2 : Ints w b m cap2 ys) : Calls Try.prog 9 #[.agg #[.slice a n cap, .int .i64 e], .agg #[.slice b m cap2, .int .i64 f]] w fun r w' => r = .returned (.int .i64 (Tm.cmpF xs e ys f)) ∧ Below w.heap.size w w' := by
  have H := Lib.hid h
  obtain rfl : n = xs.length := h.1.symm
  have H2 := Lib.hid h2
  obtain rfl : m = ys.length := h2.1.symm
  clear h h2
  have AF := Lib.hid (fun (w : World) (h : Ints w a xs.length cap xs) (h2 : Ints w b ys.length cap2 ys) => iAreFloats a _ cap xs e b _ cap2 ys f w h h2)
  cases hxy : (Tm.isF xs e && Tm.isF ys f) with
  | false =>
    rw [hxy] at AF
    have CE : Tm.cmpF xs e ys f = 0 := by rw [Tm.cmpF, hxy]; rfl
    rw [CE]
    clear hxy CE
    go_enter Try.func9, Try.ntmps9
    go_wp2_with fail
    refine (AF.out _ (H.out.below (by (repeat' (first | (with_reducible exact Below.refl _ _) | (with_reducible assumption) | (with_reducible refine below_drewN ?_ _) | (with_reducible refine Below.drew ?_) | (with_reducible refine Below.alloc ?_ ?_ _) | (with_reducible refine Below.setCell ?_ ?_ _) | (with_reducible refine below_gw ?_ ?_ _) | (with_reducible refine below_via ?_ ‹Below _ _ _› ?_) | (with_reducible exact Nat.le_refl _) | (with_reducible refine le_gw ?_ _) | (with_reducible refine le_alloc ?_ _) | (with_reducible refine le_setCell ?_ _ _) | (with_reducible refine le_drew ?_) | (with_reducible refine le_drewN ?_ _) | go_size)))) (H2.out.below (by (repeat' (first | (with_reducible exact Below.refl _ _) | (with_reducible assumption) | (with_reducible refine below_drewN ?_ _) | (with_reducible refine Below.drew ?_) | (with_reducible refine Below.alloc ?_ ?_ _) | (with_reducible refine Below.setCell ?_ ?_ _) | (with_reducible refine below_gw ?_ ?_ _) | (with_reducible refine below_via ?_ ‹Below _ _ _› ?_) | (with_reducible exact Nat.le_refl _) | (with_reducible refine le_gw ?_ _) | (with_reducible refine le_alloc ?_ _) | (with_reducible refine le_setCell ?_ _ _) | (with_reducible refine le_drew ?_) | (with_reducible refine le_drewN ?_ _) | go_size))))).mono ?_
    rintro r w1 ⟨rfl, hb⟩
    obtain ⟨p, rfl⟩ := gw_of_below hb
    clear hb
    go_wp2
    go_returns
    exact ⟨rfl, by (repeat' (first | (with_reducible exact Below.refl _ _) | (with_reducible assumption) | (with_reducible refine below_drewN ?_ _) | (with_reducible refine Below.drew ?_) | (with_reducible refine Below.alloc ?_ ?_ _) | (with_reducible refine Below.setCell ?_ ?_ _) | (with_reducible refine below_gw ?_ ?_ _) | (with_reducible refine below_via ?_ ‹Below _ _ _› ?_) | (with_reducible exact Nat.le_refl _) | (with_reducible refine le_gw ?_ _) | (with_reducible refine le_alloc ?_ _) | (with_reducible refine le_setCell ?_ _ _) | (with_reducible refine le_drew ?_) | (with_reducible refine le_drewN ?_ _) | go_size))⟩
  | true =>
    rw [hxy] at AF
    obtain ⟨hx, hy⟩ : Tm.isF xs e = true ∧ Tm.isF ys f = true := by simpa using hxy
    clear hxy
    have NG := Lib.hid (fun (w : World) (h : Ints w b ys.length cap2 ys) => iNegateFloat b _ cap2 ys f w h)
    have e1 : Tm.ngD ys f = Tm.negL ys := by rw [Tm.ngD, hy]; rfl
    have e2 : Tm.ngE ys f = f := by rw [Tm.ngE, hy]; rfl
    rw [e1, e2] at NG
    have hz := Tm.isF_neg hy
    have TR := Tm.st_of hx hz
    rw [← Tm.cmp_of hx hy]
    have ST := Lib.hid (fun (z : Option Addr) (c : Nat) (w : World) (h : Ints w a xs.length cap xs) (h2 : Ints w z (Tm.negL ys).length c (Tm.negL ys)) => iSumTerms a _ cap xs e z _ c (Tm.negL ys) f w h h2 hx hz)
    obtain ⟨N, hN⟩ : ∃ N, N = Tm.stN xs e (Tm.negL ys) f := ⟨_, rfl⟩
    obtain ⟨E, hE⟩ : ∃ E, E = Tm.stE e f := ⟨_, rfl⟩
    rw [← hN, ← hE] at ST
    rw [← hN]
    obtain ⟨zs, hzs⟩ : ∃ zs, zs = Tm.negL ys := ⟨_, rfl⟩
    rw [← hzs] at NG ST
    clear hN hE hzs hx hy hz TR e1 e2
    go_enter Try.func9, Try.ntmps9
    go_wp2_with fail
    refine (AF.out _ (H.out.below (by (repeat' (first | (with_reducible exact Below.refl _ _) | (with_reducible assumption) | (with_reducible refine below_drewN ?_ _) | (with_reducible refine Below.drew ?_) | (with_reducible refine Below.alloc ?_ ?_ _) | (with_reducible refine Below.setCell ?_ ?_ _) | (with_reducible refine below_gw ?_ ?_ _) | (with_reducible refine below_via ?_ ‹Below _ _ _› ?_) | (with_reducible exact Nat.le_refl _) | (with_reducible refine le_gw ?_ _) | (with_reducible refine le_alloc ?_ _) | (with_reducible refine le_setCell ?_ _ _) | (with_reducible refine le_drew ?_) | (with_reducible refine le_drewN ?_ _) | go_size)))) (H2.out.below (by (repeat' (first | (with_reducible exact Below.refl _ _) | (with_reducible assumption) | (with_reducible refine below_drewN ?_ _) | (with_reducible refine Below.drew ?_) | (with_reducible refine Below.alloc ?_ ?_ _) | (with_reducible refine Below.setCell ?_ ?_ _) | (with_reducible refine below_gw ?_ ?_ _) | (with_reducible refine below_via ?_ ‹Below _ _ _› ?_) | (with_reducible exact Nat.le_refl _) | (with_reducible refine le_gw ?_ _) | (with_reducible refine le_alloc ?_ _) | (with_reducible refine le_setCell ?_ _ _) | (with_reducible refine le_drew ?_) | (with_reducible refine le_drewN ?_ _) | go_size))))).mono ?_
    rintro r w1 ⟨rfl, hb⟩
    obtain ⟨p, rfl⟩ := gw_of_below hb
    clear hb
    go_wp2_with fail
    go_region_held3 (fun W => W.cell? ⟨w.heap.size, 0, none⟩ = some (.slice a xs.length cap) ∧ W.cell? ⟨w.heap.size, 1, none⟩ = some (.int .i64 e) ∧ W.cell? ⟨w.heap.size + 1, 0, none⟩ = some (.slice b ys.length cap2) ∧ W.cell? ⟨w.heap.size + 1, 1, none⟩ = some (.int .i64 f)) (go_simp) ((first | (go_at_call 25; refine (NG.out _ (H2.out.below (by (repeat' (first | (with_reducible exact Below.refl _ _) | (with_reducible assumption) | (with_reducible refine below_drewN ?_ _) | (with_reducible refine Below.drew ?_) | (with_reducible refine Below.alloc ?_ ?_ _) | (with_reducible refine Below.setCell ?_ ?_ _) | (with_reducible refine below_gw ?_ ?_ _) | (with_reducible refine below_via ?_ ‹Below _ _ _› ?_) | (with_reducible exact Nat.le_refl _) | (with_reducible refine le_gw ?_ _) | (with_reducible refine le_alloc ?_ _) | (with_reducible refine le_setCell ?_ _ _) | (with_reducible refine le_drew ?_) | (with_reducible refine le_drewN ?_ _) | go_size))))).mono ?_; rintro r w1 ⟨a1, c1, rfl, hown, hb, ln1⟩; obtain ⟨p, rfl⟩ := gw_of_below hb; have HN := Lib.hid (Ints.of_own hown); clear hown hb) | (go_at_call 24; refine (ST.out _ _ _ (H.out.below (by (repeat' (first | (with_reducible exact Below.refl _ _) | (with_reducible assumption) | (with_reducible refine below_drewN ?_ _) | (with_reducible refine Below.drew ?_) | (with_reducible refine Below.alloc ?_ ?_ _) | (with_reducible refine Below.setCell ?_ ?_ _) | (with_reducible refine below_gw ?_ ?_ _) | (with_reducible refine below_via ?_ ‹Below _ _ _› ?_) | (with_reducible exact Nat.le_refl _) | (with_reducible refine le_gw ?_ _) | (with_reducible refine le_alloc ?_ _) | (with_reducible refine le_setCell ?_ _ _) | (with_reducible refine le_drew ?_) | (with_reducible refine le_drewN ?_ _) | go_size)))) (by first | (have hh := HN.out; simp only [gw_gw] at hh ⊢; exact hh) | exact HN.out | exact HN.out.below (by (repeat' (first | (with_reducible exact Below.refl _ _) | (with_reducible assumption) | (with_reducible refine below_drewN ?_ _) | (with_reducible refine Below.drew ?_) | (with_reducible refine Below.alloc ?_ ?_ _) | (with_reducible refine Below.setCell ?_ ?_ _) | (with_reducible refine below_gw ?_ ?_ _) | (with_reducible refine below_via ?_ ‹Below _ _ _› ?_) | (with_reducible exact Nat.le_refl _) | (with_reducible refine le_gw ?_ _) | (with_reducible refine le_alloc ?_ _) | (with_reducible refine le_setCell ?_ _ _) | (with_reducible refine le_drew ?_) | (with_reducible refine le_drewN ?_ _) | go_size))))).mono ?_; rintro r w1 ⟨rfl, hb⟩; obtain ⟨q, rfl⟩ := gw_of_below hb; clear hb)))
    go_wp2_with fail
    refine (iSignOf _ _).mono ?_
    rintro r w' ⟨rfl, rfl⟩
    go_wp2
    go_returns
    exact ⟨rfl, by (repeat' (first | (with_reducible exact Below.refl _ _) | (with_reducible assumption) | (with_reducible refine below_drewN ?_ _) | (with_reducible refine Below.drew ?_) | (with_reducible refine Below.alloc ?_ ?_ _) | (with_reducible refine Below.setCell ?_ ?_ _) | (with_reducible refine below_gw ?_ ?_ _) | (with_reducible refine below_via ?_ ‹Below _ _ _› ?_) | (with_reducible exact Nat.le_refl _) | (with_reducible refine le_gw ?_ _) | (with_reducible refine le_alloc ?_ _) | (with_reducible refine le_setCell ?_ _ _) | (with_reducible refine le_drew ?_) | (with_reducible refine le_drewN ?_ _) | go_size))⟩
set_option maxRecDepth 20000 in
set_option maxHeartbeats 1000000 in
theorem iAddFloats (a : Option Addr) (n cap : Nat) (xs : List Int) (e : Int) (b : Option Addr) (m cap2 : Nat) (ys : List Int) (f : Int) (w : World) (h : Ints w a n cap xs) (h2 : Ints w b m cap2 ys) : Calls Try.prog 7 #[.agg #[.slice a n cap, .int .i64 e], .agg #[.slice b m cap2, .int .i64 f]] w (RetFB 3 w (Tm.adD xs e ys f) (Tm.adE xs e ys f) (Tm.adOk xs e ys f)) := by
  have H := Lib.hid h
  obtain rfl : n = xs.length := h.1.symm
  have H2 := Lib.hid h2
  obtain rfl : m = ys.length := h2.1.symm
  clear h h2
  have AF := Lib.hid (fun (w : World) (h : Ints w a xs.length cap xs) (h2 : Ints w b ys.length cap2 ys) => iAreFloats a _ cap xs e b _ cap2 ys f w h h2)
  cases hxy : (Tm.isF xs e && Tm.isF ys f) with
  | false =>
    rw [hxy] at AF
    have CE : Tm.adOk xs e ys f = false := by rw [Tm.adOk, hxy]; rfl
    rw [Tm.adD, Tm.adE, CE]
    clear hxy CE
    go_enter Try.func7, Try.ntmps7
    go_wp2_with fail
    refine (AF.out _ (H.out.below (by (repeat' (first | (with_reducible exact Below.refl _ _) | (with_reducible assumption) | (with_reducible refine below_drewN ?_ _) | (with_reducible refine Below.drew ?_) | (with_reducible refine Below.alloc ?_ ?_ _) | (with_reducible refine Below.setCell ?_ ?_ _) | (with_reducible refine below_gw ?_ ?_ _) | (with_reducible refine below_via ?_ ‹Below _ _ _› ?_) | (with_reducible exact Nat.le_refl _) | (with_reducible refine le_gw ?_ _) | (with_reducible refine le_alloc ?_ _) | (with_reducible refine le_setCell ?_ _ _) | (with_reducible refine le_drew ?_) | (with_reducible refine le_drewN ?_ _) | go_size)))) (H2.out.below (by (repeat' (first | (with_reducible exact Below.refl _ _) | (with_reducible assumption) | (with_reducible refine below_drewN ?_ _) | (with_reducible refine Below.drew ?_) | (with_reducible refine Below.alloc ?_ ?_ _) | (with_reducible refine Below.setCell ?_ ?_ _) | (with_reducible refine below_gw ?_ ?_ _) | (with_reducible refine below_via ?_ ‹Below _ _ _› ?_) | (with_reducible exact Nat.le_refl _) | (with_reducible refine le_gw ?_ _) | (with_reducible refine le_alloc ?_ _) | (with_reducible refine le_setCell ?_ _ _) | (with_reducible refine le_drew ?_) | (with_reducible refine le_drewN ?_ _) | go_size))))).mono ?_
    rintro r w1 ⟨rfl, hb⟩
    obtain ⟨p, rfl⟩ := gw_of_below hb
    clear hb
    go_wp2
    go_returns
    exact ret_nil_fb (by (repeat' (first | (with_reducible exact Below.refl _ _) | (with_reducible assumption) | (with_reducible refine below_drewN ?_ _) | (with_reducible refine Below.drew ?_) | (with_reducible refine Below.alloc ?_ ?_ _) | (with_reducible refine Below.setCell ?_ ?_ _) | (with_reducible refine below_gw ?_ ?_ _) | (with_reducible refine below_via ?_ ‹Below _ _ _› ?_) | (with_reducible exact Nat.le_refl _) | (with_reducible refine le_gw ?_ _) | (with_reducible refine le_alloc ?_ _) | (with_reducible refine le_setCell ?_ _ _) | (with_reducible refine le_drew ?_) | (with_reducible refine le_drewN ?_ _) | go_size)))
  | true =>
    rw [hxy] at AF
    obtain ⟨hx, hy⟩ : Tm.isF xs e = true ∧ Tm.isF ys f = true := by simpa using hxy
    clear hxy
    have AE := Tm.ad_eq hx hy
    have TR := Tm.st_of hx hy
    obtain ⟨t1, t2, t3, -, t5, t6⟩ := TR
    have FR := Tm.frm_of t1 ⟨t5, t6⟩ t2 t3
    have OF := Lib.hid (fun w => iFloatOf (Tm.stN xs e ys f) (Tm.stE e f) w)
    rw [FR.1, FR.2.1, FR.2.2] at OF
    rw [AE.1, AE.2.1, AE.2.2]
    have ST := Lib.hid (fun (w : World) (h : Ints w a xs.length cap xs) (h2 : Ints w b ys.length cap2 ys) => iSumTerms a _ cap xs e b _ cap2 ys f w h h2 hx hy)
    obtain ⟨N, hN⟩ : ∃ N, N = Tm.stN xs e ys f := ⟨_, rfl⟩
    obtain ⟨E, hE⟩ : ∃ E, E = Tm.stE e f := ⟨_, rfl⟩
    rw [← hN, ← hE] at ST OF
    clear hN hE hx hy t1 t2 t3 t5 t6 FR AE
    go_enter Try.func7, Try.ntmps7
    go_wp2_with fail
    refine (AF.out _ (H.out.below (by (repeat' (first | (with_reducible exact Below.refl _ _) | (with_reducible assumption) | (with_reducible refine below_drewN ?_ _) | (with_reducible refine Below.drew ?_) | (with_reducible refine Below.alloc ?_ ?_ _) | (with_reducible refine Below.setCell ?_ ?_ _) | (with_reducible refine below_gw ?_ ?_ _) | (with_reducible refine below_via ?_ ‹Below _ _ _› ?_) | (with_reducible exact Nat.le_refl _) | (with_reducible refine le_gw ?_ _) | (with_reducible refine le_alloc ?_ _) | (with_reducible refine le_setCell ?_ _ _) | (with_reducible refine le_drew ?_) | (with_reducible refine le_drewN ?_ _) | go_size)))) (H2.out.below (by (repeat' (first | (with_reducible exact Below.refl _ _) | (with_reducible assumption) | (with_reducible refine below_drewN ?_ _) | (with_reducible refine Below.drew ?_) | (with_reducible refine Below.alloc ?_ ?_ _) | (with_reducible refine Below.setCell ?_ ?_ _) | (with_reducible refine below_gw ?_ ?_ _) | (with_reducible refine below_via ?_ ‹Below _ _ _› ?_) | (with_reducible exact Nat.le_refl _) | (with_reducible refine le_gw ?_ _) | (with_reducible refine le_alloc ?_ _) | (with_reducible refine le_setCell ?_ _ _) | (with_reducible refine le_drew ?_) | (with_reducible refine le_drewN ?_ _) | go_size))))).mono ?_
    rintro r w1 ⟨rfl, hb⟩
    obtain ⟨p, rfl⟩ := gw_of_below hb
    clear hb
    go_wp2_with fail
    refine (ST.out _ (H.out.below (by (repeat' (first | (with_reducible exact Below.refl _ _) | (with_reducible assumption) | (with_reducible refine below_drewN ?_ _) | (with_reducible refine Below.drew ?_) | (with_reducible refine Below.alloc ?_ ?_ _) | (with_reducible refine Below.setCell ?_ ?_ _) | (with_reducible refine below_gw ?_ ?_ _) | (with_reducible refine below_via ?_ ‹Below _ _ _› ?_) | (with_reducible exact Nat.le_refl _) | (with_reducible refine le_gw ?_ _) | (with_reducible refine le_alloc ?_ _) | (with_reducible refine le_setCell ?_ _ _) | (with_reducible refine le_drew ?_) | (with_reducible refine le_drewN ?_ _) | go_size)))) (H2.out.below (by (repeat' (first | (with_reducible exact Below.refl _ _) | (with_reducible assumption) | (with_reducible refine below_drewN ?_ _) | (with_reducible refine Below.drew ?_) | (with_reducible refine Below.alloc ?_ ?_ _) | (with_reducible refine Below.setCell ?_ ?_ _) | (with_reducible refine below_gw ?_ ?_ _) | (with_reducible refine below_via ?_ ‹Below _ _ _› ?_) | (with_reducible exact Nat.le_refl _) | (with_reducible refine le_gw ?_ _) | (with_reducible refine le_alloc ?_ _) | (with_reducible refine le_setCell ?_ _ _) | (with_reducible refine le_drew ?_) | (with_reducible refine le_drewN ?_ _) | go_size))))).mono ?_
    rintro r w1 ⟨rfl, hb⟩
    obtain ⟨p, rfl⟩ := gw_of_below hb
    clear hb
    go_wp2_with fail
    refine (OF.out _).mono ?_
    rintro r w1 ⟨a1, c1, rfl, hown, hb, ln⟩
    obtain ⟨q, rfl⟩ := gw_of_below hb
    have HO := Lib.hid hown
    clear hown hb
    go_wp2
    go_returns
    have ho := HO.out
    simp only [gw_gw] at ho
    exact ret_own_fb (own_weak (own_gw ho (by simp only [gw_size, World.size_alloc]; omega)) (by simp only [gw_size, World.size_alloc]; omega)) (by (repeat' (first | (with_reducible exact Below.refl _ _) | (with_reducible assumption) | (with_reducible refine below_drewN ?_ _) | (with_reducible refine Below.drew ?_) | (with_reducible refine Below.alloc ?_ ?_ _) | (with_reducible refine Below.setCell ?_ ?_ _) | (with_reducible refine below_gw ?_ ?_ _) | (with_reducible refine below_via ?_ ‹Below _ _ _› ?_) | (with_reducible exact Nat.le_refl _) | (with_reducible refine le_gw ?_ _) | (with_reducible refine le_alloc ?_ _) | (with_reducible refine le_setCell ?_ _ _) | (with_reducible refine le_drew ?_) | (with_reducible refine le_drewN ?_ _) | go_size))) ln
set_option maxRecDepth 20000 in
set_option maxHeartbeats 1000000 in
theorem iMulFloats (a : Option Addr) (n cap : Nat) (xs : List Int) (e : Int) (b : Option Addr) (m cap2 : Nat) (ys : List Int) (f : Int) (w : World) (h : Ints w a n cap xs) (h2 : Ints w b m cap2 ys) : Calls Try.prog 11 #[.agg #[.slice a n cap, .int .i64 e], .agg #[.slice b m cap2, .int .i64 f]] w (RetFB 3 w (Tm.mlD xs e ys f) (Tm.mlE xs e ys f) (Tm.mlOk xs e ys f)) := by
  have H := Lib.hid h
  obtain rfl : n = xs.length := h.1.symm
  have H2 := Lib.hid h2
  obtain rfl : m = ys.length := h2.1.symm
  clear h h2
  have AF := Lib.hid (fun (w : World) (h : Ints w a xs.length cap xs) (h2 : Ints w b ys.length cap2 ys) => iAreFloats a _ cap xs e b _ cap2 ys f w h h2)
  cases hxy : (Tm.isF xs e && Tm.isF ys f) with
  | false =>
    rw [hxy] at AF
    have CE : Tm.mlOk xs e ys f = false := by rw [Tm.mlOk, hxy]; rfl
    rw [Tm.mlD, Tm.mlE, CE]
    clear hxy CE
    go_enter Try.func11, Try.ntmps11
    go_wp2_with fail
    refine (AF.out _ (H.out.below (by (repeat' (first | (with_reducible exact Below.refl _ _) | (with_reducible assumption) | (with_reducible refine below_drewN ?_ _) | (with_reducible refine Below.drew ?_) | (with_reducible refine Below.alloc ?_ ?_ _) | (with_reducible refine Below.setCell ?_ ?_ _) | (with_reducible refine below_gw ?_ ?_ _) | (with_reducible refine below_via ?_ ‹Below _ _ _› ?_) | (with_reducible exact Nat.le_refl _) | (with_reducible refine le_gw ?_ _) | (with_reducible refine le_alloc ?_ _) | (with_reducible refine le_setCell ?_ _ _) | (with_reducible refine le_drew ?_) | (with_reducible refine le_drewN ?_ _) | go_size)))) (H2.out.below (by (repeat' (first | (with_reducible exact Below.refl _ _) | (with_reducible assumption) | (with_reducible refine below_drewN ?_ _) | (with_reducible refine Below.drew ?_) | (with_reducible refine Below.alloc ?_ ?_ _) | (with_reducible refine Below.setCell ?_ ?_ _) | (with_reducible refine below_gw ?_ ?_ _) | (with_reducible refine below_via ?_ ‹Below _ _ _› ?_) | (with_reducible exact Nat.le_refl _) | (with_reducible refine le_gw ?_ _) | (with_reducible refine le_alloc ?_ _) | (with_reducible refine le_setCell ?_ _ _) | (with_reducible refine le_drew ?_) | (with_reducible refine le_drewN ?_ _) | go_size))))).mono ?_
    rintro r w1 ⟨rfl, hb⟩
    obtain ⟨p, rfl⟩ := gw_of_below hb
    clear hb
    go_wp2
    go_returns
    exact ret_nil_fb (by (repeat' (first | (with_reducible exact Below.refl _ _) | (with_reducible assumption) | (with_reducible refine below_drewN ?_ _) | (with_reducible refine Below.drew ?_) | (with_reducible refine Below.alloc ?_ ?_ _) | (with_reducible refine Below.setCell ?_ ?_ _) | (with_reducible refine below_gw ?_ ?_ _) | (with_reducible refine below_via ?_ ‹Below _ _ _› ?_) | (with_reducible exact Nat.le_refl _) | (with_reducible refine le_gw ?_ _) | (with_reducible refine le_alloc ?_ _) | (with_reducible refine le_setCell ?_ _ _) | (with_reducible refine le_drew ?_) | (with_reducible refine le_drewN ?_ _) | go_size)))
  | true =>
    rw [hxy] at AF
    obtain ⟨hx, hy⟩ : Tm.isF xs e = true ∧ Tm.isF ys f = true := by simpa using hxy
    clear hxy
    have ME := Tm.ml_eq hx hy
    rw [ME.1, ME.2.1, ME.2.2]
    clear ME
    have VX := Lib.hid (fun (w : World) (h : Ints w a xs.length cap xs) => iValueOf a _ cap xs w h)
    have VY := Lib.hid (fun (w : World) (h : Ints w b ys.length cap2 ys) => iValueOf b _ cap2 ys w h)
    rw [Tm.value_eq ((Tm.isF_iff _ _).1 hx).1] at VX
    rw [Tm.value_eq ((Tm.isF_iff _ _).1 hy).1] at VY
    have b1 := Tm.isF_val hx
    have b2 := Tm.isF_val hy
    have b3 := ((Tm.isF_iff _ _).1 hx).2.2.1
    have b4 := ((Tm.isF_iff _ _).1 hy).2.2.1
    obtain ⟨u, hu⟩ : ∃ u, u = Tm.val xs := ⟨_, rfl⟩
    obtain ⟨v, hv⟩ : ∃ v, v = Tm.val ys := ⟨_, rfl⟩
    rw [← hu] at b1 VX
    rw [← hv] at b2 VY
    obtain ⟨b31, b32⟩ := b3
    obtain ⟨b41, b42⟩ := b4
    obtain ⟨b11, b12⟩ := b1
    obtain ⟨b21, b22⟩ := b2
    rw [← hu, ← hv]
    have mb := Tm.mul_bd (a := u) (b := v) (A := 364) (B := 364) ⟨by omega, by omega⟩ ⟨by omega, by omega⟩
    obtain ⟨mb1, mb2⟩ := mb
    have FR := Tm.frm_of (n := u * v) (e := e + f) (m := u * v) (f := e + f) ⟨by omega, by omega⟩ ⟨by omega, by omega⟩ rfl rfl
    have OF := Lib.hid (fun w => iFloatOf (u * v) (e + f) w)
    rw [FR.1, FR.2.1, FR.2.2] at OF
    have s1 : IntKind.i64.wrap (e + f) = e + f := IntWalk.i64_in _ (by omega)
    have s2 : IntKind.i64.wrap (u * v) = u * v := IntWalk.i64_in _ (by omega)
    clear hx hy hu hv FR
    go_enter Try.func11, Try.ntmps11
    go_wp2_with fail
    refine (AF.out _ (H.out.below (by (repeat' (first | (with_reducible exact Below.refl _ _) | (with_reducible assumption) | (with_reducible refine below_drewN ?_ _) | (with_reducible refine Below.drew ?_) | (with_reducible refine Below.alloc ?_ ?_ _) | (with_reducible refine Below.setCell ?_ ?_ _) | (with_reducible refine below_gw ?_ ?_ _) | (with_reducible refine below_via ?_ ‹Below _ _ _› ?_) | (with_reducible exact Nat.le_refl _) | (with_reducible refine le_gw ?_ _) | (with_reducible refine le_alloc ?_ _) | (with_reducible refine le_setCell ?_ _ _) | (with_reducible refine le_drew ?_) | (with_reducible refine le_drewN ?_ _) | go_size)))) (H2.out.below (by (repeat' (first | (with_reducible exact Below.refl _ _) | (with_reducible assumption) | (with_reducible refine below_drewN ?_ _) | (with_reducible refine Below.drew ?_) | (with_reducible refine Below.alloc ?_ ?_ _) | (with_reducible refine Below.setCell ?_ ?_ _) | (with_reducible refine below_gw ?_ ?_ _) | (with_reducible refine below_via ?_ ‹Below _ _ _› ?_) | (with_reducible exact Nat.le_refl _) | (with_reducible refine le_gw ?_ _) | (with_reducible refine le_alloc ?_ _) | (with_reducible refine le_setCell ?_ _ _) | (with_reducible refine le_drew ?_) | (with_reducible refine le_drewN ?_ _) | go_size))))).mono ?_
    rintro r w1 ⟨rfl, hb⟩
    obtain ⟨p, rfl⟩ := gw_of_below hb
    clear hb
    go_wp2_with fail
    go_region_held3 (fun W => W.cell? ⟨w.heap.size, 0, none⟩ = some (.slice a xs.length cap) ∧ W.cell? ⟨w.heap.size, 1, none⟩ = some (.int .i64 e) ∧ W.cell? ⟨w.heap.size + 1, 0, none⟩ = some (.slice b ys.length cap2) ∧ W.cell? ⟨w.heap.size + 1, 1, none⟩ = some (.int .i64 f)) (go_simp) ((first | (go_at_call 16; with_reducible refine (VX.out _ (H.out.below (by (repeat' (first | (with_reducible exact Below.refl _ _) | (with_reducible assumption) | (with_reducible refine below_drewN ?_ _) | (with_reducible refine Below.drew ?_) | (with_reducible refine Below.alloc ?_ ?_ _) | (with_reducible refine Below.setCell ?_ ?_ _) | (with_reducible refine below_gw ?_ ?_ _) | (with_reducible refine below_via ?_ ‹Below _ _ _› ?_) | (with_reducible exact Nat.le_refl _) | (with_reducible refine le_gw ?_ _) | (with_reducible refine le_alloc ?_ _) | (with_reducible refine le_setCell ?_ _ _) | (with_reducible refine le_drew ?_) | (with_reducible refine le_drewN ?_ _) | go_size))))).mono ?_; rintro r w' ⟨rfl, rfl⟩) | (go_at_call 16; with_reducible refine (VY.out _ (H2.out.below (by (repeat' (first | (with_reducible exact Below.refl _ _) | (with_reducible assumption) | (with_reducible refine below_drewN ?_ _) | (with_reducible refine Below.drew ?_) | (with_reducible refine Below.alloc ?_ ?_ _) | (with_reducible refine Below.setCell ?_ ?_ _) | (with_reducible refine below_gw ?_ ?_ _) | (with_reducible refine below_via ?_ ‹Below _ _ _› ?_) | (with_reducible exact Nat.le_refl _) | (with_reducible refine le_gw ?_ _) | (with_reducible refine le_alloc ?_ _) | (with_reducible refine le_setCell ?_ _ _) | (with_reducible refine le_drew ?_) | (with_reducible refine le_drewN ?_ _) | go_size))))).mono ?_; rintro r w' ⟨rfl, rfl⟩) | (go_at_call 6; refine (OF.out _).mono ?_; rintro r w1 ⟨a1, c1, rfl, hown, hb, ln⟩; obtain ⟨q, rfl⟩ := gw_of_below hb; have HO := Lib.hid hown; clear hown hb)))
    go_wp2
    go_returns
    have ho := HO.out
    simp only [gw_gw] at ho
    exact ret_own_fb (own_weak (own_gw ho (by simp only [gw_size, World.size_alloc]; omega)) (by simp only [gw_size, World.size_alloc]; omega)) (by (repeat' (first | (with_reducible exact Below.refl _ _) | (with_reducible assumption) | (with_reducible refine below_drewN ?_ _) | (with_reducible refine Below.drew ?_) | (with_reducible refine Below.alloc ?_ ?_ _) | (with_reducible refine Below.setCell ?_ ?_ _) | (with_reducible refine below_gw ?_ ?_ _) | (with_reducible refine below_via ?_ ‹Below _ _ _› ?_) | (with_reducible exact Nat.le_refl _) | (with_reducible refine le_gw ?_ _) | (with_reducible refine le_alloc ?_ _) | (with_reducible refine le_setCell ?_ _ _) | (with_reducible refine le_drew ?_) | (with_reducible refine le_drewN ?_ _) | go_size))) ln
set_option maxRecDepth 20000 in
set_option maxHeartbeats 1000000 in
theorem iDivFloats (a : Option Addr) (n cap : Nat) (xs : List Int) (e : Int) (b : Option Addr) (m cap2 : Nat) (ys : List Int) (f : Int) (w : World) (h : Ints w a n cap xs) (h2 : Ints w b m cap2 ys) : Calls Try.prog 17 #[.agg #[.slice a n cap, .int .i64 e], .agg #[.slice b m cap2, .int .i64 f]] w (RetFB 3 w (Tm.dvD xs e ys f) (Tm.dvE xs e ys f) (Tm.dvOk xs e ys f)) := by
  have H := Lib.hid h
  obtain rfl : n = xs.length := h.1.symm
  have H2 := Lib.hid h2
  obtain rfl : m = ys.length := h2.1.symm
  clear h h2
  have AF := Lib.hid (fun (w : World) (h : Ints w a xs.length cap xs) (h2 : Ints w b ys.length cap2 ys) => iAreFloats a _ cap xs e b _ cap2 ys f w h h2)
  cases hxy : (Tm.isF xs e && Tm.isF ys f) with
  | false =>
    rw [hxy] at AF
    have CE : Tm.dvOk xs e ys f = false := by rw [Tm.dvOk, hxy]; rfl
    rw [Tm.dvD, Tm.dvE, CE]
    clear hxy CE
    go_enter Try.func17, Try.ntmps17
    go_wp2_with fail
    refine (AF.out _ (H.out.below (by (repeat' (first | (with_reducible exact Below.refl _ _) | (with_reducible assumption) | (with_reducible refine below_drewN ?_ _) | (with_reducible refine Below.drew ?_) | (with_reducible refine Below.alloc ?_ ?_ _) | (with_reducible refine Below.setCell ?_ ?_ _) | (with_reducible refine below_gw ?_ ?_ _) | (with_reducible refine below_via ?_ ‹Below _ _ _› ?_) | (with_reducible exact Nat.le_refl _) | (with_reducible refine le_gw ?_ _) | (with_reducible refine le_alloc ?_ _) | (with_reducible refine le_setCell ?_ _ _) | (with_reducible refine le_drew ?_) | (with_reducible refine le_drewN ?_ _) | go_size)))) (H2.out.below (by (repeat' (first | (with_reducible exact Below.refl _ _) | (with_reducible assumption) | (with_reducible refine below_drewN ?_ _) | (with_reducible refine Below.drew ?_) | (with_reducible refine Below.alloc ?_ ?_ _) | (with_reducible refine Below.setCell ?_ ?_ _) | (with_reducible refine below_gw ?_ ?_ _) | (with_reducible refine below_via ?_ ‹Below _ _ _› ?_) | (with_reducible exact Nat.le_refl _) | (with_reducible refine le_gw ?_ _) | (with_reducible refine le_alloc ?_ _) | (with_reducible refine le_setCell ?_ _ _) | (with_reducible refine le_drew ?_) | (with_reducible refine le_drewN ?_ _) | go_size))))).mono ?_
    rintro r w1 ⟨rfl, hb⟩
    obtain ⟨p, rfl⟩ := gw_of_below hb
    clear hb
    go_wp2
    go_returns
    exact ret_nil_fb (by (repeat' (first | (with_reducible exact Below.refl _ _) | (with_reducible assumption) | (with_reducible refine below_drewN ?_ _) | (with_reducible refine Below.drew ?_) | (with_reducible refine Below.alloc ?_ ?_ _) | (with_reducible refine Below.setCell ?_ ?_ _) | (with_reducible refine below_gw ?_ ?_ _) | (with_reducible refine below_via ?_ ‹Below _ _ _› ?_) | (with_reducible exact Nat.le_refl _) | (with_reducible refine le_gw ?_ _) | (with_reducible refine le_alloc ?_ _) | (with_reducible refine le_setCell ?_ _ _) | (with_reducible refine le_drew ?_) | (with_reducible refine le_drewN ?_ _) | go_size)))
  | true =>
    rw [hxy] at AF
    obtain ⟨hx, hy⟩ : Tm.isF xs e = true ∧ Tm.isF ys f = true := by simpa using hxy
    clear hxy
    have SY := Lib.hid (fun (w : World) (h : Ints w b ys.length cap2 ys) => iSignWord b _ cap2 ys w h)
    rw [Tm.value_eq ((Tm.isF_iff _ _).1 hy).1] at SY
    have VX := Lib.hid (fun (w : World) (h : Ints w a xs.length cap xs) => iValueOf a _ cap xs w h)
    have VY := Lib.hid (fun (w : World) (h : Ints w b ys.length cap2 ys) => iValueOf b _ cap2 ys w h)
    rw [Tm.value_eq ((Tm.isF_iff _ _).1 hx).1] at VX
    rw [Tm.value_eq ((Tm.isF_iff _ _).1 hy).1] at VY
    have b1 := Tm.isF_val hx
    have b2 := Tm.isF_val hy
    have b3 := ((Tm.isF_iff _ _).1 hx).2.2.1
    have b4 := ((Tm.isF_iff _ _).1 hy).2.2.1
    obtain ⟨u, hu⟩ : ∃ u, u = Tm.val xs := ⟨_, rfl⟩
    obtain ⟨v, hv⟩ : ∃ v, v = Tm.val ys := ⟨_, rfl⟩
    rw [← hu] at b1 VX
    rw [← hv] at b2 VY
    obtain ⟨b31, b32⟩ := b3
    obtain ⟨b41, b42⟩ := b4
    obtain ⟨b11, b12⟩ := b1
    obtain ⟨b21, b22⟩ := b2
    rw [← hv] at SY
    by_cases v0 : v = 0
    · subst v0
      rw [Tm.sgnZ] at SY
      have CE : Tm.dvOk xs e ys f = false := by rw [Tm.dvOk, ← hv]; simp
      rw [Tm.dvD, Tm.dvE, CE]
      clear CE hx hy hu hv
      go_enter Try.func17, Try.ntmps17
      go_wp2_with fail
      refine (AF.out _ (H.out.below (by (repeat' (first | (with_reducible exact Below.refl _ _) | (with_reducible assumption) | (with_reducible refine below_drewN ?_ _) | (with_reducible refine Below.drew ?_) | (with_reducible refine Below.alloc ?_ ?_ _) | (with_reducible refine Below.setCell ?_ ?_ _) | (with_reducible refine below_gw ?_ ?_ _) | (with_reducible refine below_via ?_ ‹Below _ _ _› ?_) | (with_reducible exact Nat.le_refl _) | (with_reducible refine le_gw ?_ _) | (with_reducible refine le_alloc ?_ _) | (with_reducible refine le_setCell ?_ _ _) | (with_reducible refine le_drew ?_) | (with_reducible refine le_drewN ?_ _) | go_size)))) (H2.out.below (by (repeat' (first | (with_reducible exact Below.refl _ _) | (with_reducible assumption) | (with_reducible refine below_drewN ?_ _) | (with_reducible refine Below.drew ?_) | (with_reducible refine Below.alloc ?_ ?_ _) | (with_reducible refine Below.setCell ?_ ?_ _) | (with_reducible refine below_gw ?_ ?_ _) | (with_reducible refine below_via ?_ ‹Below _ _ _› ?_) | (with_reducible exact Nat.le_refl _) | (with_reducible refine le_gw ?_ _) | (with_reducible refine le_alloc ?_ _) | (with_reducible refine le_setCell ?_ _ _) | (with_reducible refine le_drew ?_) | (with_reducible refine le_drewN ?_ _) | go_size))))).mono ?_
      rintro r w1 ⟨rfl, hb⟩
      obtain ⟨p, rfl⟩ := gw_of_below hb
      clear hb
      go_wp2_with fail
      refine (SY.out _ (H2.out.below (by (repeat' (first | (with_reducible exact Below.refl _ _) | (with_reducible assumption) | (with_reducible refine below_drewN ?_ _) | (with_reducible refine Below.drew ?_) | (with_reducible refine Below.alloc ?_ ?_ _) | (with_reducible refine Below.setCell ?_ ?_ _) | (with_reducible refine below_gw ?_ ?_ _) | (with_reducible refine below_via ?_ ‹Below _ _ _› ?_) | (with_reducible exact Nat.le_refl _) | (with_reducible refine le_gw ?_ _) | (with_reducible refine le_alloc ?_ _) | (with_reducible refine le_setCell ?_ _ _) | (with_reducible refine le_drew ?_) | (with_reducible refine le_drewN ?_ _) | go_size))))).mono ?_
      rintro r w' ⟨rfl, rfl⟩
      go_wp2
      go_returns
      exact ret_nil_fb (by (repeat' (first | (with_reducible exact Below.refl _ _) | (with_reducible assumption) | (with_reducible refine below_drewN ?_ _) | (with_reducible refine Below.drew ?_) | (with_reducible refine Below.alloc ?_ ?_ _) | (with_reducible refine Below.setCell ?_ ?_ _) | (with_reducible refine below_gw ?_ ?_ _) | (with_reducible refine below_via ?_ ‹Below _ _ _› ?_) | (with_reducible exact Nat.le_refl _) | (with_reducible refine le_gw ?_ _) | (with_reducible refine le_alloc ?_ _) | (with_reducible refine le_setCell ?_ _ _) | (with_reducible refine le_drew ?_) | (with_reducible refine le_drewN ?_ _) | go_size)))
    · skip
      have DE := Tm.dv_eq hx hy (by rw [← hv]; exact v0)
      rw [DE.1, DE.2.1, DE.2.2, Tm.dvN]
      clear DE
      rw [← hu, ← hv]
      obtain ⟨s, hs⟩ : ∃ s, s = Tm.sgn v := ⟨_, rfl⟩
      have s0 : (s == 0) = false := by rw [hs, Tm.sgn]; split <;> (try split) <;> first | rfl | omega
      rw [← hs] at SY
      clear hs
      have lb := Tm.lift_bd (x := u) (j := 9) ⟨by omega, by omega⟩ (by omega)
      rw [show Tm.pow3 9 = 19683 from by decide] at lb
      have PW : Hid (∀ w : World, Calls Try.prog 32 #[.int .i64 9] w fun e w' => e = .returned (.int .i64 19683) ∧ w = w') := Lib.hid fun w => by
        have h := iPowerI 9 w ⟨by omega, by omega⟩
        rw [show Tm.pow3 (9 : Int).toNat = 19683 from by decide] at h
        exact h
      have DV := Lib.hid (fun w => iDivideNear (u * 19683) v w (by omega) (by omega) (by omega) (by omega) v0)
      have qb := Tm.abs_in (Tm.quo_bd (u * 19683) v0)
      have ab := Tm.absI_abs (u * 19683)
      obtain ⟨k, hk⟩ : ∃ k, k = Tm.quo (u * 19683) v := ⟨_, rfl⟩
      obtain ⟨t, ht⟩ : ∃ t, t = Tm.rem (u * 19683) v := ⟨_, rfl⟩
      rw [← hk] at qb
      rw [← hk, ← ht] at DV
      rw [← hk]
      have k1 : -7166412 ≤ k := by omega
      have k2 : k ≤ 7166412 := by omega
      have FR := Tm.frm_of (n := k) (e := e - f - 9) (m := k) (f := e - f - 9) ⟨by omega, by omega⟩ ⟨by omega, by omega⟩ rfl rfl
      have OF := Lib.hid (fun w => iFloatOf k (e - f - 9) w)
      rw [FR.1, FR.2.1, FR.2.2] at OF
      have s1 : IntKind.i64.wrap (u * 19683) = u * 19683 := IntWalk.i64_in _ (by omega)
      clear hx hy hu hv hk ht qb ab v0 FR
      go_enter Try.func17, Try.ntmps17
      go_wp2_with fail
      refine (AF.out _ (H.out.below (by (repeat' (first | (with_reducible exact Below.refl _ _) | (with_reducible assumption) | (with_reducible refine below_drewN ?_ _) | (with_reducible refine Below.drew ?_) | (with_reducible refine Below.alloc ?_ ?_ _) | (with_reducible refine Below.setCell ?_ ?_ _) | (with_reducible refine below_gw ?_ ?_ _) | (with_reducible refine below_via ?_ ‹Below _ _ _› ?_) | (with_reducible exact Nat.le_refl _) | (with_reducible refine le_gw ?_ _) | (with_reducible refine le_alloc ?_ _) | (with_reducible refine le_setCell ?_ _ _) | (with_reducible refine le_drew ?_) | (with_reducible refine le_drewN ?_ _) | go_size)))) (H2.out.below (by (repeat' (first | (with_reducible exact Below.refl _ _) | (with_reducible assumption) | (with_reducible refine below_drewN ?_ _) | (with_reducible refine Below.drew ?_) | (with_reducible refine Below.alloc ?_ ?_ _) | (with_reducible refine Below.setCell ?_ ?_ _) | (with_reducible refine below_gw ?_ ?_ _) | (with_reducible refine below_via ?_ ‹Below _ _ _› ?_) | (with_reducible exact Nat.le_refl _) | (with_reducible refine le_gw ?_ _) | (with_reducible refine le_alloc ?_ _) | (with_reducible refine le_setCell ?_ _ _) | (with_reducible refine le_drew ?_) | (with_reducible refine le_drewN ?_ _) | go_size))))).mono ?_
      rintro r w1 ⟨rfl, hb⟩
      obtain ⟨p, rfl⟩ := gw_of_below hb
      clear hb
      go_wp2_with fail
      refine (SY.out _ (H2.out.below (by (repeat' (first | (with_reducible exact Below.refl _ _) | (with_reducible assumption) | (with_reducible refine below_drewN ?_ _) | (with_reducible refine Below.drew ?_) | (with_reducible refine Below.alloc ?_ ?_ _) | (with_reducible refine Below.setCell ?_ ?_ _) | (with_reducible refine below_gw ?_ ?_ _) | (with_reducible refine below_via ?_ ‹Below _ _ _› ?_) | (with_reducible exact Nat.le_refl _) | (with_reducible refine le_gw ?_ _) | (with_reducible refine le_alloc ?_ _) | (with_reducible refine le_setCell ?_ _ _) | (with_reducible refine le_drew ?_) | (with_reducible refine le_drewN ?_ _) | go_size))))).mono ?_
      rintro r w' ⟨rfl, rfl⟩
      go_wp2_with fail
      go_region_held3 (fun W => W.cell? ⟨w.heap.size, 0, none⟩ = some (.slice a xs.length cap) ∧ W.cell? ⟨w.heap.size, 1, none⟩ = some (.int .i64 e) ∧ W.cell? ⟨w.heap.size + 1, 0, none⟩ = some (.slice b ys.length cap2) ∧ W.cell? ⟨w.heap.size + 1, 1, none⟩ = some (.int .i64 f)) (go_simp) ((first | (go_at_call 16; with_reducible refine (VX.out _ (H.out.below (by (repeat' (first | (with_reducible exact Below.refl _ _) | (with_reducible assumption) | (with_reducible refine below_drewN ?_ _) | (with_reducible refine Below.drew ?_) | (with_reducible refine Below.alloc ?_ ?_ _) | (with_reducible refine Below.setCell ?_ ?_ _) | (with_reducible refine below_gw ?_ ?_ _) | (with_reducible refine below_via ?_ ‹Below _ _ _› ?_) | (with_reducible exact Nat.le_refl _) | (with_reducible refine le_gw ?_ _) | (with_reducible refine le_alloc ?_ _) | (with_reducible refine le_setCell ?_ _ _) | (with_reducible refine le_drew ?_) | (with_reducible refine le_drewN ?_ _) | go_size))))).mono ?_; rintro r w' ⟨rfl, rfl⟩) | (go_at_call 16; with_reducible refine (VY.out _ (H2.out.below (by (repeat' (first | (with_reducible exact Below.refl _ _) | (with_reducible assumption) | (with_reducible refine below_drewN ?_ _) | (with_reducible refine Below.drew ?_) | (with_reducible refine Below.alloc ?_ ?_ _) | (with_reducible refine Below.setCell ?_ ?_ _) | (with_reducible refine below_gw ?_ ?_ _) | (with_reducible refine below_via ?_ ‹Below _ _ _› ?_) | (with_reducible exact Nat.le_refl _) | (with_reducible refine le_gw ?_ _) | (with_reducible refine le_alloc ?_ _) | (with_reducible refine le_setCell ?_ _ _) | (with_reducible refine le_drew ?_) | (with_reducible refine le_drewN ?_ _) | go_size))))).mono ?_; rintro r w' ⟨rfl, rfl⟩) | (go_at_call 32; with_reducible refine (PW.out _).mono ?_; rintro r w' ⟨rfl, rfl⟩) | (go_at_call 31; with_reducible refine (DV.out _).mono ?_; rintro r w' ⟨rfl, rfl⟩)))
      go_wp2_with fail
      refine (OF.out _).mono ?_
      rintro r w1 ⟨a1, c1, rfl, hown, hb, ln⟩
      obtain ⟨q, rfl⟩ := gw_of_below hb
      have HO := Lib.hid hown
      clear hown hb
      go_wp2
      go_returns
      have ho := HO.out
      simp only [gw_gw] at ho
      exact ret_own_fb (own_weak (own_gw ho (by simp only [gw_size, World.size_alloc]; omega)) (by simp only [gw_size, World.size_alloc]; omega)) (by (repeat' (first | (with_reducible exact Below.refl _ _) | (with_reducible assumption) | (with_reducible refine below_drewN ?_ _) | (with_reducible refine Below.drew ?_) | (with_reducible refine Below.alloc ?_ ?_ _) | (with_reducible refine Below.setCell ?_ ?_ _) | (with_reducible refine below_gw ?_ ?_ _) | (with_reducible refine below_via ?_ ‹Below _ _ _› ?_) | (with_reducible exact Nat.le_refl _) | (with_reducible refine le_gw ?_ _) | (with_reducible refine le_alloc ?_ _) | (with_reducible refine le_setCell ?_ _ _) | (with_reducible refine le_drew ?_) | (with_reducible refine le_drewN ?_ _) | go_size))) ln
namespace Tm
theorem scl_frm {n e k : Int} (hn : -364 ≤ n ∧ n ≤ 364) : frmOk n (e + k) = ofOk n (e + k) ∧ frmD n (e + k) = fD n (e + k) ∧ frmE n (e + k) = fE n (e + k) ∨ (n = 0 ∧ ¬ (-100 ≤ e + k ∧ e + k ≤ 100)) := by
  by_cases c : -100 ≤ e + k ∧ e + k ≤ 100
  · exact .inl (frm_of ⟨by omega, by omega⟩ c rfl rfl)
  · by_cases n0 : n = 0
    · exact .inr ⟨n0, c⟩
    · left
      have f : fits n := ⟨by omega, by omega⟩
      obtain ⟨-, s1, s2, -⟩ := lenN_spec f
      have o1 : okF n (e + k) = false := by rw [okF, (inB_no _ _ _).2 (by omega)]; simp
      have o2 : ofOk n (e + k) = false := by rw [ofOk, ofE, if_neg n0, (inB_no _ _ _).2 (by omega)]
      rw [frmOk, frmD, frmE, o1, fD, fE, o2]
      exact ⟨rfl, rfl, rfl⟩
/-- A float whose digits are worth 0 has exponent 0. -/
theorem isF_exp0 {xs : List Int} {e : Int} (h : isF xs e = true) (h0 : val xs = 0) : e = 0 := by
  rcases isF_big h with ⟨-, -, h⟩ | ⟨h, -⟩
  · exact h
  · exact absurd h0 h
end Tm
set_option maxRecDepth 20000 in
set_option maxHeartbeats 1000000 in
theorem iScaleFloat (a : Option Addr) (n cap : Nat) (xs : List Int) (e : Int) (k : Int) (w : World) (h : Ints w a n cap xs) : Calls Try.prog 12 #[.agg #[.slice a n cap, .int .i64 e], .int .i64 k] w (RetFB 3 w (Tm.sclD xs e k) (Tm.sclE xs e k) (Tm.sclOk xs e k)) := by
  have H := Lib.hid h
  obtain rfl : n = xs.length := h.1.symm
  clear h
  have IX := Lib.hid (fun (w : World) (h : Ints w a xs.length cap xs) => iIsFloat a _ cap xs e w h)
  cases hx : Tm.isF xs e with
  | false =>
    rw [hx] at IX
    have CE : Tm.sclOk xs e k = false := by rw [Tm.sclOk, hx]; simp
    rw [Tm.sclD, Tm.sclE, CE]
    clear hx CE
    go_enter Try.func12, Try.ntmps12
    go_wp2_with fail
    refine (IX.out _ (H.out.below (by (repeat' (first | (with_reducible exact Below.refl _ _) | (with_reducible assumption) | (with_reducible refine below_drewN ?_ _) | (with_reducible refine Below.drew ?_) | (with_reducible refine Below.alloc ?_ ?_ _) | (with_reducible refine Below.setCell ?_ ?_ _) | (with_reducible refine below_gw ?_ ?_ _) | (with_reducible refine below_via ?_ ‹Below _ _ _› ?_) | (with_reducible exact Nat.le_refl _) | (with_reducible refine le_gw ?_ _) | (with_reducible refine le_alloc ?_ _) | (with_reducible refine le_setCell ?_ _ _) | (with_reducible refine le_drew ?_) | (with_reducible refine le_drewN ?_ _) | go_size))))).mono ?_
    rintro r w1 ⟨rfl, hb⟩
    obtain ⟨p, rfl⟩ := gw_of_below hb
    clear hb
    go_wp2
    go_returns
    exact ret_nil_fb (by (repeat' (first | (with_reducible exact Below.refl _ _) | (with_reducible assumption) | (with_reducible refine below_drewN ?_ _) | (with_reducible refine Below.drew ?_) | (with_reducible refine Below.alloc ?_ ?_ _) | (with_reducible refine Below.setCell ?_ ?_ _) | (with_reducible refine below_gw ?_ ?_ _) | (with_reducible refine below_via ?_ ‹Below _ _ _› ?_) | (with_reducible exact Nat.le_refl _) | (with_reducible refine le_gw ?_ _) | (with_reducible refine le_alloc ?_ _) | (with_reducible refine le_setCell ?_ _ _) | (with_reducible refine le_drew ?_) | (with_reducible refine le_drewN ?_ _) | go_size)))
  | true =>
    rw [hx] at IX
    have IP := Lib.hid (fun w => iIsPower k w)
    cases hk : Tm.inB k (-100) 100 with
    | false =>
      rw [hk] at IP
      have CE : Tm.sclOk xs e k = false := by rw [Tm.sclOk, hk]; simp
      rw [Tm.sclD, Tm.sclE, CE]
      clear CE hx hk
      go_enter Try.func12, Try.ntmps12
      go_wp2_with fail
      refine (IX.out _ (H.out.below (by (repeat' (first | (with_reducible exact Below.refl _ _) | (with_reducible assumption) | (with_reducible refine below_drewN ?_ _) | (with_reducible refine Below.drew ?_) | (with_reducible refine Below.alloc ?_ ?_ _) | (with_reducible refine Below.setCell ?_ ?_ _) | (with_reducible refine below_gw ?_ ?_ _) | (with_reducible refine below_via ?_ ‹Below _ _ _› ?_) | (with_reducible exact Nat.le_refl _) | (with_reducible refine le_gw ?_ _) | (with_reducible refine le_alloc ?_ _) | (with_reducible refine le_setCell ?_ _ _) | (with_reducible refine le_drew ?_) | (with_reducible refine le_drewN ?_ _) | go_size))))).mono ?_
      rintro r w1 ⟨rfl, hb⟩
      obtain ⟨p, rfl⟩ := gw_of_below hb
      clear hb
      go_wp2_with fail
      refine (IP.out _).mono ?_
      rintro r w' ⟨rfl, rfl⟩
      go_wp2
      go_returns
      exact ret_nil_fb (by (repeat' (first | (with_reducible exact Below.refl _ _) | (with_reducible assumption) | (with_reducible refine below_drewN ?_ _) | (with_reducible refine Below.drew ?_) | (with_reducible refine Below.alloc ?_ ?_ _) | (with_reducible refine Below.setCell ?_ ?_ _) | (with_reducible refine below_gw ?_ ?_ _) | (with_reducible refine below_via ?_ ‹Below _ _ _› ?_) | (with_reducible exact Nat.le_refl _) | (with_reducible refine le_gw ?_ _) | (with_reducible refine le_alloc ?_ _) | (with_reducible refine le_setCell ?_ _ _) | (with_reducible refine le_drew ?_) | (with_reducible refine le_drewN ?_ _) | go_size)))
    | true =>
      rw [hk] at IP
      have SE := Tm.scl_eq hx hk
      rw [SE.1, SE.2.1, SE.2.2]
      clear SE
      have VX := Lib.hid (fun (w : World) (h : Ints w a xs.length cap xs) => iValueOf a _ cap xs w h)
      rw [Tm.value_eq ((Tm.isF_iff _ _).1 hx).1] at VX
      have b1 := Tm.isF_val hx
      have b3 := ((Tm.isF_iff _ _).1 hx).2.2.1
      have b5 := (Tm.inB_iff _ _ _).1 hk
      have Z := Tm.isF_exp0 hx
      obtain ⟨u, hu⟩ : ∃ u, u = Tm.val xs := ⟨_, rfl⟩
      rw [← hu] at b1 VX Z ⊢
      have FR := (Tm.scl_frm (e := e) (k := k) b1).resolve_right (fun hh => by have := Z hh.1; omega)
      obtain ⟨b31, b32⟩ := b3
      obtain ⟨b51, b52⟩ := b5
      have OF := Lib.hid (fun w => iFloatOf u (e + k) w)
      rw [FR.1, FR.2.1, FR.2.2] at OF
      have s1 : IntKind.i64.wrap (e + k) = e + k := IntWalk.i64_in _ (by omega)
      clear hx hu hk FR Z
      go_enter Try.func12, Try.ntmps12
      go_wp2_with fail
      refine (IX.out _ (H.out.below (by (repeat' (first | (with_reducible exact Below.refl _ _) | (with_reducible assumption) | (with_reducible refine below_drewN ?_ _) | (with_reducible refine Below.drew ?_) | (with_reducible refine Below.alloc ?_ ?_ _) | (with_reducible refine Below.setCell ?_ ?_ _) | (with_reducible refine below_gw ?_ ?_ _) | (with_reducible refine below_via ?_ ‹Below _ _ _› ?_) | (with_reducible exact Nat.le_refl _) | (with_reducible refine le_gw ?_ _) | (with_reducible refine le_alloc ?_ _) | (with_reducible refine le_setCell ?_ _ _) | (with_reducible refine le_drew ?_) | (with_reducible refine le_drewN ?_ _) | go_size))))).mono ?_
      rintro r w1 ⟨rfl, hb⟩
      obtain ⟨p, rfl⟩ := gw_of_below hb
      clear hb
      go_wp2_with fail
      refine (IP.out _).mono ?_
      rintro r w' ⟨rfl, rfl⟩
      go_wp2_with fail
      go_region_held3 (fun W => W.cell? ⟨w.heap.size, 0, none⟩ = some (.slice a xs.length cap) ∧ W.cell? ⟨w.heap.size, 1, none⟩ = some (.int .i64 e)) (go_simp) ((first | (go_at_call 16; with_reducible refine (VX.out _ (H.out.below (by (repeat' (first | (with_reducible exact Below.refl _ _) | (with_reducible assumption) | (with_reducible refine below_drewN ?_ _) | (with_reducible refine Below.drew ?_) | (with_reducible refine Below.alloc ?_ ?_ _) | (with_reducible refine Below.setCell ?_ ?_ _) | (with_reducible refine below_gw ?_ ?_ _) | (with_reducible refine below_via ?_ ‹Below _ _ _› ?_) | (with_reducible exact Nat.le_refl _) | (with_reducible refine le_gw ?_ _) | (with_reducible refine le_alloc ?_ _) | (with_reducible refine le_setCell ?_ _ _) | (with_reducible refine le_drew ?_) | (with_reducible refine le_drewN ?_ _) | go_size))))).mono ?_; rintro r w' ⟨rfl, rfl⟩) | (go_at_call 6; refine (OF.out _).mono ?_; rintro r w1 ⟨a1, c1, rfl, hown, hb, ln⟩; obtain ⟨q, rfl⟩ := gw_of_below hb; have HO := Lib.hid hown; clear hown hb)))
      go_wp2
      go_returns
      have ho := HO.out
      simp only [gw_gw] at ho
      exact ret_own_fb (own_weak (own_gw ho (by simp only [gw_size, World.size_alloc]; omega)) (by simp only [gw_size, World.size_alloc]; omega)) (by (repeat' (first | (with_reducible exact Below.refl _ _) | (with_reducible assumption) | (with_reducible refine below_drewN ?_ _) | (with_reducible refine Below.drew ?_) | (with_reducible refine Below.alloc ?_ ?_ _) | (with_reducible refine Below.setCell ?_ ?_ _) | (with_reducible refine below_gw ?_ ?_ _) | (with_reducible refine below_via ?_ ‹Below _ _ _› ?_) | (with_reducible exact Nat.le_refl _) | (with_reducible refine le_gw ?_ _) | (with_reducible refine le_alloc ?_ _) | (with_reducible refine le_setCell ?_ _ _) | (with_reducible refine le_drew ?_) | (with_reducible refine le_drewN ?_ _) | go_size))) ln
end Go.Proofs.Ytgkljlmfflbejaa

/- The program's floating numbers: the nearest whole number, numbers of single precision. -/
import Derived.Test.YtgkljlmfflbejaaFI1
import Derived.Test.YtgkljlmfflbejaaFS4
namespace Go.Proofs.Ytgkljlmfflbejaa
set_option maxRecDepth 20000
open Go.RowKit
namespace Tm
theorem shf_float {xs : List Int} {e : Int} (h : isF xs e = true) : shfOk xs e = true ∧ isW (shf xs e) = true ∧ value (shf xs e) = flrV xs e := by
  have f := (isF_iff _ _).1 h
  obtain ⟨f1, f2, f3, -⟩ := f
  have SO : shfOk xs e = true := by simp [shfOk, f1, f2]; omega
  have W : isW (shf xs e) = true ∧ val (shf xs e) = flrV xs e := by
    rw [shf, if_pos SO, flrV, h, if_pos rfl]
    by_cases e0 : 0 ≤ e
    · rw [if_pos e0, if_pos e0]
      refine ⟨isW_mk (fun z hz => ?_) (by simp; omega) (by simp; omega), by rw [val_shift, Int.mul_comm]⟩
      rcases List.mem_append.1 hz with h | h
      · obtain ⟨-, rfl⟩ := List.mem_replicate.1 h; omega
      · exact isW_trits f1 z h
    · rw [if_neg e0, if_neg e0]
      split
      · rename_i c
        rw [List.drop_of_length_le (by omega)]
        exact ⟨by decide, rfl⟩
      · rename_i c
        exact ⟨isW_mk (trits_drop (isW_trits f1) _) (by rw [List.length_drop]; omega) (by rw [List.length_drop, f2]; omega), rfl⟩
  exact ⟨SO, W.1, by rw [value_eq W.1, W.2]⟩
end Tm
theorem iFloorFloat (a : Option Addr) (n cap : Nat) (xs : List Int) (e : Int) (w : World) (h : Ints w a n cap xs) : Calls Try.prog 13 #[.agg #[.slice a n cap, .int .i64 e]] w fun r w' => r = .returned (.tuple #[.int .i64 (Tm.flrV xs e), .bool (Tm.isF xs e)]) ∧ Below w.heap.size w w' := by
  have H := Lib.hid h
  obtain rfl : n = xs.length := h.1.symm
  clear h
  have IX := Lib.hid (fun (w : World) (h : Ints w a xs.length cap xs) => iIsFloat a _ cap xs e w h)
  cases hx : Tm.isF xs e with
  | false =>
    rw [hx] at IX
    have Z : Tm.flrV xs e = 0 := by rw [Tm.flrV, hx]; rfl
    rw [Z]
    clear hx Z
    go_enter Try.func13, Try.ntmps13
    go_wp2_with fail
    refine (IX.out _ (H.out.below (by (repeat' (first | (with_reducible exact Below.refl _ _) | (with_reducible assumption) | (with_reducible refine below_drewN ?_ _) | (with_reducible refine Below.drew ?_) | (with_reducible refine Below.alloc ?_ ?_ _) | (with_reducible refine Below.setCell ?_ ?_ _) | (with_reducible refine below_gw ?_ ?_ _) | (with_reducible refine below_via ?_ ‹Below _ _ _› ?_) | (with_reducible exact Nat.le_refl _) | (with_reducible refine le_gw ?_ _) | (with_reducible refine le_alloc ?_ _) | (with_reducible refine le_setCell ?_ _ _) | (with_reducible refine le_drew ?_) | (with_reducible refine le_drewN ?_ _) | go_size))))).mono ?_
    rintro r w1 ⟨rfl, hb⟩
    obtain ⟨p, rfl⟩ := gw_of_below hb
    clear hb
    go_wp2
    go_returns
    exact ⟨rfl, by (repeat' (first | (with_reducible exact Below.refl _ _) | (with_reducible assumption) | (with_reducible refine below_drewN ?_ _) | (with_reducible refine Below.drew ?_) | (with_reducible refine Below.alloc ?_ ?_ _) | (with_reducible refine Below.setCell ?_ ?_ _) | (with_reducible refine below_gw ?_ ?_ _) | (with_reducible refine below_via ?_ ‹Below _ _ _› ?_) | (with_reducible exact Nat.le_refl _) | (with_reducible refine le_gw ?_ _) | (with_reducible refine le_alloc ?_ _) | (with_reducible refine le_setCell ?_ _ _) | (with_reducible refine le_drew ?_) | (with_reducible refine le_drewN ?_ _) | go_size))⟩
  | true =>
    rw [hx] at IX
    obtain ⟨s1, s2, s3⟩ := Tm.shf_float hx
    have SH := Lib.hid (fun (w : World) (h : Ints w a xs.length cap xs) => iShiftWord a _ cap xs e w h)
    rw [s1] at SH
    rw [← s3]
    obtain ⟨zs, hz⟩ : ∃ zs, zs = Tm.shf xs e := ⟨_, rfl⟩
    rw [← hz] at SH ⊢
    clear hx hz s1 s2 s3
    go_enter Try.func13, Try.ntmps13
    go_wp2_with fail
    refine (IX.out _ (H.out.below (by (repeat' (first | (with_reducible exact Below.refl _ _) | (with_reducible assumption) | (with_reducible refine below_drewN ?_ _) | (with_reducible refine Below.drew ?_) | (with_reducible refine Below.alloc ?_ ?_ _) | (with_reducible refine Below.setCell ?_ ?_ _) | (with_reducible refine below_gw ?_ ?_ _) | (with_reducible refine below_via ?_ ‹Below _ _ _› ?_) | (with_reducible exact Nat.le_refl _) | (with_reducible refine le_gw ?_ _) | (with_reducible refine le_alloc ?_ _) | (with_reducible refine le_setCell ?_ _ _) | (with_reducible refine le_drew ?_) | (with_reducible refine le_drewN ?_ _) | go_size))))).mono ?_
    rintro r w1 ⟨rfl, hb⟩
    obtain ⟨p, rfl⟩ := gw_of_below hb
    clear hb
    go_wp2_with fail
    refine (SH.out _ (H.out.below (by (repeat' (first | (with_reducible exact Below.refl _ _) | (with_reducible assumption) | (with_reducible refine below_drewN ?_ _) | (with_reducible refine Below.drew ?_) | (with_reducible refine Below.alloc ?_ ?_ _) | (with_reducible refine Below.setCell ?_ ?_ _) | (with_reducible refine below_gw ?_ ?_ _) | (with_reducible refine below_via ?_ ‹Below _ _ _› ?_) | (with_reducible exact Nat.le_refl _) | (with_reducible refine le_gw ?_ _) | (with_reducible refine le_alloc ?_ _) | (with_reducible refine le_setCell ?_ _ _) | (with_reducible refine le_drew ?_) | (with_reducible refine le_drewN ?_ _) | go_size))))).mono ?_
    rintro r w1 ⟨a1, c1, rfl, hown, hb, ln⟩
    obtain ⟨q, rfl⟩ := gw_of_below hb
    have IZ := Lib.hid (Ints.of_own hown)
    clear hown hb
    go_wp2_with fail
    refine (iValueOf a1 _ c1 zs _ (by have hh := IZ.out; simp only [gw_gw] at hh ⊢; exact hh)).mono ?_
    rintro r w' ⟨rfl, rfl⟩
    go_wp2
    go_returns
    exact ⟨rfl, by (repeat' (first | (with_reducible exact Below.refl _ _) | (with_reducible assumption) | (with_reducible refine below_drewN ?_ _) | (with_reducible refine Below.drew ?_) | (with_reducible refine Below.alloc ?_ ?_ _) | (with_reducible refine Below.setCell ?_ ?_ _) | (with_reducible refine below_gw ?_ ?_ _) | (with_reducible refine below_via ?_ ‹Below _ _ _› ?_) | (with_reducible exact Nat.le_refl _) | (with_reducible refine le_gw ?_ _) | (with_reducible refine le_alloc ?_ _) | (with_reducible refine le_setCell ?_ _ _) | (with_reducible refine le_drew ?_) | (with_reducible refine le_drewN ?_ _) | go_size))⟩
end Go.Proofs.Ytgkljlmfflbejaa

/- Contracts of the functions of tables, on: what a table has for two trits. -/
import Derived.Test.YtpmdkifnejkofaaTabI
namespace Go.Proofs.Ytpmdkifnejkofaa
set_option maxRecDepth 20000
open Go.RowKit
namespace Tm
def ix (a b : Int) : Nat := (3 * (a + 1) + b + 1).toNat
def look (f : Nat → Int) (a b : Int) : Int := if isTab f && isT a && isT b then f (ix a b) else 0
theorem look_no {f : Nat → Int} {a b : Int} (h : isTab f = false ∨ isT a = false ∨ isT b = false) : look f a b = 0 := by
  rcases h with h | h | h <;> simp [look, h]
theorem isTab_at {f : Nat → Int} (h : isTab f = true) (i : Nat) (hi : i < 9) : isT (f i) = true := by
  simp only [isTab, Bool.and_eq_true] at h
  match i, hi with
  | 0, _ | 1, _ | 2, _ | 3, _ | 4, _ | 5, _ | 6, _ | 7, _ | 8, _ => simp_all
theorem look_tt (f : Nat → Int) (a b : Int) : -1 ≤ look f a b ∧ look f a b ≤ 1 := by
  unfold look
  split
  · rename_i h
    simp only [Bool.and_eq_true] at h
    obtain ⟨⟨h1, h2⟩, h3⟩ := h
    have := isTab_at h1 (ix a b) (by have := (isT_iff a).1 h2; have := (isT_iff b).1 h3; unfold ix; omega)
    exact (isT_iff _).1 this
  · omega
theorem neg_look (f : Nat → Int) (a b : Int) : neg (look f a b) = - look f a b := by
  rw [neg, if_pos ((isT_iff _).2 (look_tt f a b))]
end Tm
theorem iLookUp (f : Nat → Int) (a b : Int) (w : World) : Calls Try.prog 39 #[tabV f, .int .i64 a, .int .i64 b] w fun e w' => e = .returned (.int .i64 (Tm.look f a b)) ∧ Below w.heap.size w w' := by
  by_cases hT : Tm.isTab f = true
  · by_cases ha : Tm.isT a = true
    · by_cases hb : Tm.isT b = true
      · rcases Tm.isT_cases ha with rfl | rfl | rfl <;> rcases Tm.isT_cases hb with rfl | rfl | rfl
        all_goals
          clear ha hb
          go_enter Try.func39, Try.ntmps39
          go_wp2_with (first | (go_at_call 31; refine (iIsTable f _).mono ?_; rintro e w1 ⟨rfl, hb⟩; obtain ⟨p, rfl⟩ := gw_of_below hb; clear hb) | (go_at_call 51; go_in) | (go_at_call 50; go_in) | (go_at_call 52; go_in))
          go_ret
          exact ⟨ret_int (by simp [Tm.look, hT, Tm.isT, Tm.ix]), by (repeat' (first | (with_reducible exact Below.refl _ _) | (with_reducible assumption) | (with_reducible refine below_drewN ?_ _) | (with_reducible refine Below.drew ?_) | (with_reducible refine Below.alloc ?_ ?_ _) | (with_reducible refine Below.setCell ?_ ?_ _) | (with_reducible refine below_gw ?_ ?_ _) | (with_reducible refine below_via ?_ ‹Below _ _ _› ?_) | (with_reducible exact Nat.le_refl _) | (with_reducible refine le_gw ?_ _) | (with_reducible refine le_alloc ?_ _) | (with_reducible refine le_setCell ?_ _ _) | (with_reducible refine le_drew ?_) | (with_reducible refine le_drewN ?_ _) | go_size))⟩
      · simp only [Bool.not_eq_true] at hb
        go_enter Try.func39, Try.ntmps39
        go_wp2_with (first | (go_at_call 31; refine (iIsTable f _).mono ?_; rintro e w1 ⟨rfl, hb⟩; obtain ⟨p, rfl⟩ := gw_of_below hb; clear hb) | (go_at_call 51; refine (iAreTrits _ _ _).mono ?_; rintro e w1 ⟨rfl, rfl⟩))
        go_ret
        exact ⟨ret_int (by rw [Tm.look_no]; simp_all), by (repeat' (first | (with_reducible exact Below.refl _ _) | (with_reducible assumption) | (with_reducible refine below_drewN ?_ _) | (with_reducible refine Below.drew ?_) | (with_reducible refine Below.alloc ?_ ?_ _) | (with_reducible refine Below.setCell ?_ ?_ _) | (with_reducible refine below_gw ?_ ?_ _) | (with_reducible refine below_via ?_ ‹Below _ _ _› ?_) | (with_reducible exact Nat.le_refl _) | (with_reducible refine le_gw ?_ _) | (with_reducible refine le_alloc ?_ _) | (with_reducible refine le_setCell ?_ _ _) | (with_reducible refine le_drew ?_) | (with_reducible refine le_drewN ?_ _) | go_size))⟩
    · simp only [Bool.not_eq_true] at ha
      go_enter Try.func39, Try.ntmps39
      go_wp2_with (first | (go_at_call 31; refine (iIsTable f _).mono ?_; rintro e w1 ⟨rfl, hb⟩; obtain ⟨p, rfl⟩ := gw_of_below hb; clear hb) | (go_at_call 51; refine (iAreTrits _ _ _).mono ?_; rintro e w1 ⟨rfl, rfl⟩))
      go_ret
      exact ⟨ret_int (by rw [Tm.look_no]; simp_all), by (repeat' (first | (with_reducible exact Below.refl _ _) | (with_reducible assumption) | (with_reducible refine below_drewN ?_ _) | (with_reducible refine Below.drew ?_) | (with_reducible refine Below.alloc ?_ ?_ _) | (with_reducible refine Below.setCell ?_ ?_ _) | (with_reducible refine below_gw ?_ ?_ _) | (with_reducible refine below_via ?_ ‹Below _ _ _› ?_) | (with_reducible exact Nat.le_refl _) | (with_reducible refine le_gw ?_ _) | (with_reducible refine le_alloc ?_ _) | (with_reducible refine le_setCell ?_ _ _) | (with_reducible refine le_drew ?_) | (with_reducible refine le_drewN ?_ _) | go_size))⟩
  · simp only [Bool.not_eq_true] at hT
    go_enter Try.func39, Try.ntmps39
    go_wp2_with (first | (go_at_call 31; refine (iIsTable f _).mono ?_; rintro e w1 ⟨rfl, hb⟩; obtain ⟨p, rfl⟩ := gw_of_below hb; clear hb) | (go_at_call 51; refine (iAreTrits _ _ _).mono ?_; rintro e w1 ⟨rfl, rfl⟩))
    go_ret
    exact ⟨ret_int (by rw [Tm.look_no]; simp_all), by (repeat' (first | (with_reducible exact Below.refl _ _) | (with_reducible assumption) | (with_reducible refine below_drewN ?_ _) | (with_reducible refine Below.drew ?_) | (with_reducible refine Below.alloc ?_ ?_ _) | (with_reducible refine Below.setCell ?_ ?_ _) | (with_reducible refine below_gw ?_ ?_ _) | (with_reducible refine below_via ?_ ‹Below _ _ _› ?_) | (with_reducible exact Nat.le_refl _) | (with_reducible refine le_gw ?_ _) | (with_reducible refine le_alloc ?_ _) | (with_reducible refine le_setCell ?_ _ _) | (with_reducible refine le_drew ?_) | (with_reducible refine le_drewN ?_ _) | go_size))⟩
end Go.Proofs.Ytpmdkifnejkofaa

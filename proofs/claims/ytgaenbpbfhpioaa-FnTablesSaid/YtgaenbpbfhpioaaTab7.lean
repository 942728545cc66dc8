/- Contracts of the functions of tables, on: monotone tables. -/
import Derived.Test.YtgaenbpbfhpioaaTab2
namespace Go.Proofs.Ytgaenbpbfhpioaa
open Go.RowKit
namespace Tm
def rises (f : Nat → Int) : Prop :=
  look f (-1) (-1) ≤ look f 0 (-1) ∧ look f (-1) 0 ≤ look f 0 0 ∧ look f (-1) 1 ≤ look f 0 1 ∧ look f 0 (-1) ≤ look f 1 (-1) ∧ look f 0 0 ≤ look f 1 0 ∧ look f 0 1 ≤ look f 1 1 ∧
  look f (-1) (-1) ≤ look f (-1) 0 ∧ look f 0 (-1) ≤ look f 0 0 ∧ look f 1 (-1) ≤ look f 1 0 ∧ look f (-1) 0 ≤ look f (-1) 1 ∧ look f 0 0 ≤ look f 0 1 ∧ look f 1 0 ≤ look f 1 1
instance (f : Nat → Int) : Decidable (rises f) := by unfold rises; infer_instance
def mono (f : Nat → Int) : Bool := isTab f && decide (rises f)
theorem mono_no {f : Nat → Int} (h : ¬ rises f) : mono f = false := by simp [mono, h]
theorem mono_is {f : Nat → Int} (h : rises f) : mono f = isTab f := by simp [mono, h]
theorem mono_yes {f : Nat → Int} (h : rises f) (ht : isTab f = true) : mono f = true := by simp [mono, h, ht]
theorem mono_out {f : Nat → Int} (ht : isTab f = false) : mono f = false := by simp [mono, ht]
end Tm
set_option maxHeartbeats 4000000 in
theorem iIsMonotone (f : Nat → Int) (w : World) : Calls Try.prog 33 #[tabV f] w fun e w' => e = .returned (.bool (Tm.mono f)) ∧ Below w.heap.size w w' := by
  by_cases hT : Tm.isTab f = true
  · go_enter Try.func33, Try.ntmps33
    go_wp2_with ((go_at_call 77; refine (iIsTable f _).mono ?_; rintro e w1 ⟨rfl, hb⟩; obtain ⟨p, rfl⟩ := gw_of_below hb; clear hb))
    repeat any_goals (first | (rw [rounds_succ]; go_wp2) | (refine wp_loop_rounds 4 ?_; rw [rounds_succ]; go_wp2) | ((refine wp_region_quiet_below (by kernel_rfl) (by kernel_rfl) ?_; (repeat (go_big_quiet_step ((go_at_call 34; exact met_below (fun _ => iLookUp f _ _ _))))); refine wpQuiet_nil ?_; intro wq hwq; obtain ⟨pq, hpq⟩ := hwq; have hpq' : wq = gw _ pq := hpq; clear hpq; subst hpq'); go_wp2))
    all_goals go_ret
    all_goals first | exact ⟨ret_bool (Tm.mono_no (by unfold Tm.rises; omega)).symm, by (repeat' (first | (with_reducible exact Below.refl _ _) | (with_reducible assumption) | (with_reducible refine below_drewN ?_ _) | (with_reducible refine Below.drew ?_) | (with_reducible refine Below.alloc ?_ ?_ _) | (with_reducible refine Below.setCell ?_ ?_ _) | (with_reducible refine below_gw ?_ ?_ _) | (with_reducible refine below_via ?_ ‹Below _ _ _› ?_) | (with_reducible exact Nat.le_refl _) | (with_reducible refine le_gw ?_ _) | (with_reducible refine le_alloc ?_ _) | (with_reducible refine le_setCell ?_ _ _) | (with_reducible refine le_drew ?_) | (with_reducible refine le_drewN ?_ _) | go_size))⟩ | exact ⟨ret_bool (Tm.mono_yes (by unfold Tm.rises; omega) hT).symm, by (repeat' (first | (with_reducible exact Below.refl _ _) | (with_reducible assumption) | (with_reducible refine below_drewN ?_ _) | (with_reducible refine Below.drew ?_) | (with_reducible refine Below.alloc ?_ ?_ _) | (with_reducible refine Below.setCell ?_ ?_ _) | (with_reducible refine below_gw ?_ ?_ _) | (with_reducible refine below_via ?_ ‹Below _ _ _› ?_) | (with_reducible exact Nat.le_refl _) | (with_reducible refine le_gw ?_ _) | (with_reducible refine le_alloc ?_ _) | (with_reducible refine le_setCell ?_ _ _) | (with_reducible refine le_drew ?_) | (with_reducible refine le_drewN ?_ _) | go_size))⟩
  · simp only [Bool.not_eq_true] at hT
    go_enter Try.func33, Try.ntmps33
    go_wp2_with ((go_at_call 77; refine (iIsTable f _).mono ?_; rintro e w1 ⟨rfl, hb⟩; obtain ⟨p, rfl⟩ := gw_of_below hb; clear hb))
    go_ret
    exact ⟨ret_bool (Tm.mono_out hT).symm, by (repeat' (first | (with_reducible exact Below.refl _ _) | (with_reducible assumption) | (with_reducible refine below_drewN ?_ _) | (with_reducible refine Below.drew ?_) | (with_reducible refine Below.alloc ?_ ?_ _) | (with_reducible refine Below.setCell ?_ ?_ _) | (with_reducible refine below_gw ?_ ?_ _) | (with_reducible refine below_via ?_ ‹Below _ _ _› ?_) | (with_reducible exact Nat.le_refl _) | (with_reducible refine le_gw ?_ _) | (with_reducible refine le_alloc ?_ _) | (with_reducible refine le_setCell ?_ _ _) | (with_reducible refine le_drew ?_) | (with_reducible refine le_drewN ?_ _) | go_size))⟩
end Go.Proofs.Ytgaenbpbfhpioaa

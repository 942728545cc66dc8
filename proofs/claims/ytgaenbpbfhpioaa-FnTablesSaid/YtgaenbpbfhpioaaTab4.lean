/- Contracts of the functions of tables, on: dual tables. -/
import Derived.Test.YtgaenbpbfhpioaaTab3
namespace Go.Proofs.Ytgaenbpbfhpioaa
open Go.RowKit
set_option maxHeartbeats 4000000 in
theorem iDualTable (f : Nat → Int) (w : World) : Calls Try.prog 31 #[tabV f] w fun e w' => e = .returned (tabV (Tm.dual f)) ∧ Below w.heap.size w w' := by
  have hmf : ∀ (fn : Fn) (first cap : Array Value) (w : World), (Instr.makeFunc fn first cap).run Try.prog w = .ok (.func fn first cap) w := fun _ _ _ _ => rfl
  go_enter Try.func31, Try.ntmps31
  go_wp2_with (first | (go_at_call 78; go_in))
  repeat any_goals (first | (refine wp_loop_rounds 4 ?_; rw [rounds_succ]; go_wp2_with (first | (go_at_call 83; go_in) | (go_at_call 80; go_in) | (go_at_call 34; refine (iLookUp f _ _ _).mono ?_; rintro e w1 ⟨rfl, hb⟩; obtain ⟨p, rfl⟩ := gw_of_below hb; clear hb) | (go_at_call 16; refine (iNotTrit _ _).mono ?_; rintro e w1 ⟨rfl, rfl⟩))) | (rw [rounds_succ]; go_wp2_with (first | (go_at_call 83; go_in) | (go_at_call 80; go_in) | (go_at_call 34; refine (iLookUp f _ _ _).mono ?_; rintro e w1 ⟨rfl, hb⟩; obtain ⟨p, rfl⟩ := gw_of_below hb; clear hb) | (go_at_call 16; refine (iNotTrit _ _).mono ?_; rintro e w1 ⟨rfl, rfl⟩))))
  go_returns
  exact ⟨ret_tab (Tm.dual f) rfl rfl rfl rfl rfl rfl rfl rfl rfl, by (repeat' (first | (with_reducible exact Below.refl _ _) | (with_reducible assumption) | (with_reducible refine below_drewN ?_ _) | (with_reducible refine Below.drew ?_) | (with_reducible refine Below.alloc ?_ ?_ _) | (with_reducible refine Below.setCell ?_ ?_ _) | (with_reducible refine below_gw ?_ ?_ _) | (with_reducible refine below_via ?_ ‹Below _ _ _› ?_) | (with_reducible exact Nat.le_refl _) | (with_reducible refine le_gw ?_ _) | (with_reducible refine le_alloc ?_ _) | (with_reducible refine le_setCell ?_ _ _) | (with_reducible refine le_drew ?_) | (with_reducible refine le_drewN ?_ _) | go_size))⟩
end Go.Proofs.Ytgaenbpbfhpioaa

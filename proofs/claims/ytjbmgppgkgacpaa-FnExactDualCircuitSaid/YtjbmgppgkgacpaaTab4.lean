/- Contracts of the functions of tables, on: dual tables. -/
import Derived.Test.YtjbmgppgkgacpaaTab2
namespace Go.Proofs.Ytjbmgppgkgacpaa
set_option maxRecDepth 20000
open Go.RowKit
set_option maxHeartbeats 4000000 in
theorem iDualTable (f : Nat → Int) (w : World) : Calls Try.prog 74 #[tabV f] w fun e w' => e = .returned (tabV (Tm.dual f)) ∧ Below w.heap.size w w' := by
  have hmf : ∀ (fn : Fn) (first cap : Array Value) (w : World), (Instr.makeFunc fn first cap).run Try.prog w = .ok (.func fn first cap) w := fun _ _ _ _ => rfl
  go_enter Try.func74, Try.ntmps74
  go_wp2_with (first | (go_at_call 62; go_in))
  repeat any_goals (first | (refine wp_loop_rounds 4 ?_; rw [rounds_succ]; go_wp2_with (first | (go_at_call 61; go_in) | (go_at_call 84; go_in) | (go_at_call 37; refine (iLookUp f _ _ _).mono ?_; rintro e w1 ⟨rfl, hb⟩; obtain ⟨p, rfl⟩ := gw_of_below hb; clear hb) | (go_at_call 85; refine (iNotTrit _ _).mono ?_; rintro e w1 ⟨rfl, rfl⟩))) | (rw [rounds_succ]; go_wp2_with (first | (go_at_call 61; go_in) | (go_at_call 84; go_in) | (go_at_call 37; refine (iLookUp f _ _ _).mono ?_; rintro e w1 ⟨rfl, hb⟩; obtain ⟨p, rfl⟩ := gw_of_below hb; clear hb) | (go_at_call 85; refine (iNotTrit _ _).mono ?_; rintro e w1 ⟨rfl, rfl⟩))))
  go_returns
  exact ⟨ret_tab (Tm.dual f) rfl rfl rfl rfl rfl rfl rfl rfl rfl, by (repeat' (first | (with_reducible exact Below.refl _ _) | (with_reducible assumption) | (with_reducible refine below_drewN ?_ _) | (with_reducible refine Below.drew ?_) | (with_reducible refine Below.alloc ?_ ?_ _) | (with_reducible refine Below.setCell ?_ ?_ _) | (with_reducible refine below_gw ?_ ?_ _) | (with_reducible refine below_via ?_ ‹Below _ _ _› ?_) | (with_reducible exact Nat.le_refl _) | (with_reducible refine le_gw ?_ _) | (with_reducible refine le_alloc ?_ _) | (with_reducible refine le_setCell ?_ _ _) | (with_reducible refine le_drew ?_) | (with_reducible refine le_drewN ?_ _) | go_size))⟩
set_option maxHeartbeats 4000000 in
theorem sDualTable (f : Nat → Int) (w : World) : Calls Try.prog 44 #[tabV f] w fun e w' => e = .returned (tabV (Tm.dual f)) ∧ Below w.heap.size w w' := by
  go_enter Try.func44, Try.ntmps44
  go_wp2_with fail
  repeat any_goals (first | (refine wp_loop_rounds 4 ?_; rw [rounds_succ]; go_wp2_with (go_at_call 71; refine (sLookUpB f _ _ _).mono ?_; rintro e w1 ⟨rfl, hb, h1, h2⟩; obtain ⟨p, rfl⟩ := gw_of_below hb; clear hb)) | (rw [rounds_succ]; go_wp2_with (go_at_call 71; refine (sLookUpB f _ _ _).mono ?_; rintro e w1 ⟨rfl, hb, h1, h2⟩; obtain ⟨p, rfl⟩ := gw_of_below hb; clear hb)))
  go_returns
  exact ⟨ret_tab (Tm.dual f) (Tm.neg_look f _ _).symm (Tm.neg_look f _ _).symm (Tm.neg_look f _ _).symm (Tm.neg_look f _ _).symm (Tm.neg_look f _ _).symm (Tm.neg_look f _ _).symm (Tm.neg_look f _ _).symm (Tm.neg_look f _ _).symm (Tm.neg_look f _ _).symm, by (repeat' (first | (with_reducible exact Below.refl _ _) | (with_reducible assumption) | (with_reducible refine below_drewN ?_ _) | (with_reducible refine Below.drew ?_) | (with_reducible refine Below.alloc ?_ ?_ _) | (with_reducible refine Below.setCell ?_ ?_ _) | (with_reducible refine below_gw ?_ ?_ _) | (with_reducible refine below_via ?_ ‹Below _ _ _› ?_) | (with_reducible exact Nat.le_refl _) | (with_reducible refine le_gw ?_ _) | (with_reducible refine le_alloc ?_ _) | (with_reducible refine le_setCell ?_ _ _) | (with_reducible refine le_drew ?_) | (with_reducible refine le_drewN ?_ _) | go_size))⟩
end Go.Proofs.Ytjbmgppgkgacpaa

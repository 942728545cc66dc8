/- Names of operations: the exact law. -/
import Derived.Test.YtmpcmbagegfobaaDoorMS1
import Derived.Test.YtmpcmbagegfobaaDoorMI1
namespace Go.Proofs.YtmpcmbagegfobaaDoor
set_option maxRecDepth 20000
open Go.RowKit
theorem wFnExactOpName (a0 : Int) (w : World) (_w0 : (Lit.int .i64 a0).wf = true) (hT : OpsTab w) : Calls Tryd.prog 7 #[.int .i64 a0] w fun e w' => e = .returned (.bool true) ∧ Below w.heap.size w w' := by
  have HT := Lib.hid hT
  clear hT
  go_enter Tryd.func7, Tryd.ntmps7
  go_wp2_with (first | (go_at_call 29; refine (sOpName _ _).mono ?_; rintro e w1 ⟨rfl, hb⟩; obtain ⟨p, rfl⟩ := gw_of_below hb; clear hb) | (go_at_call 30; refine (iOpName _ _ (HT.out.below (by (repeat' (first | (with_reducible exact Below.refl _ _) | (with_reducible assumption) | (with_reducible refine below_drewN ?_ _) | (with_reducible refine Below.drew ?_) | (with_reducible refine Below.alloc ?_ ?_ _) | (with_reducible refine Below.setCell ?_ ?_ _) | (with_reducible refine below_gw ?_ ?_ _) | (with_reducible refine below_via ?_ ‹Below _ _ _› ?_) | (with_reducible exact Nat.le_refl _) | (with_reducible refine le_gw ?_ _) | (with_reducible refine le_alloc ?_ _) | (with_reducible refine le_setCell ?_ _ _) | (with_reducible refine le_drew ?_) | (with_reducible refine le_drewN ?_ _) | go_size))))).mono ?_; rintro e w1 ⟨rfl, rfl⟩))
  go_ret
  exact ⟨rfl, by (repeat' (first | (with_reducible exact Below.refl _ _) | (with_reducible assumption) | (with_reducible refine below_drewN ?_ _) | (with_reducible refine Below.drew ?_) | (with_reducible refine Below.alloc ?_ ?_ _) | (with_reducible refine Below.setCell ?_ ?_ _) | (with_reducible refine below_gw ?_ ?_ _) | (with_reducible refine below_via ?_ ‹Below _ _ _› ?_) | (with_reducible exact Nat.le_refl _) | (with_reducible refine le_gw ?_ _) | (with_reducible refine le_alloc ?_ _) | (with_reducible refine le_setCell ?_ _ _) | (with_reducible refine le_drew ?_) | (with_reducible refine le_drewN ?_ _) | go_size))⟩
end Go.Proofs.YtmpcmbagegfobaaDoor

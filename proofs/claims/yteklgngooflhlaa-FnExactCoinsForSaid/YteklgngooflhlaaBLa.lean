/- The walks of exact laws over integers, texts and slices of integers. -/
import Derived.Test.YteklgngooflhlaaBI1
import Derived.Test.YteklgngooflhlaaBS1
import Derived.Test.YteklgngooflhlaaRow
namespace Go.Proofs.Yteklgngooflhlaa
set_option maxRecDepth 20000
open Go.RowKit

set_option maxRecDepth 20000 in
set_option maxHeartbeats 4000000 in
theorem wFnExactCoinsFor (a0 : Int) (w : World) (_w0 : (Lit.int .i64 a0).wf = true) : Calls Try.prog 8 #[.int .i64 a0] w fun e w' => e = .returned (.bool true) ∧ Below w.heap.size w w' := by
  go_enter Try.func8, Try.ntmps8
  go_wp2_with (go_at_call 24; refine (sCoinsFor a0 _ ).mono ?_; rintro e w1 ⟨rfl, rfl⟩; refine Hid.out ?_)
  refine Lib.hid ?_
  -- spec.CoinsFor ['aK'] w0
  go_wp2_with (go_at_call 36; refine (iCoinsFor a0 _ ).mono ?_; rintro e w2 ⟨rfl, rfl⟩; refine Hid.out ?_)
  refine Lib.hid ?_
  -- impl.CoinsFor ['aK'] g0
  go_wp2
  go_ret
  exact ⟨rfl, Below.refl _ _⟩
end Go.Proofs.Yteklgngooflhlaa

/- Walks of exact laws. -/
import Derived.Test.YtfmpnkckaceigaaQL
import Derived.Test.YtfmpnkckaceigaaRowL
import Derived.Test.YtfmpnkckaceigaaOwn2
import Derived.Test.YtfmpnkckaceigaaLaw3
namespace Go.Proofs.Ytfmpnkckaceigaa
set_option maxRecDepth 20000
open Go.RowKit

set_option maxRecDepth 20000 in
set_option maxHeartbeats 4000000 in
theorem wFnExactLyndonWords (a0 : Int) (w : World) (_w0 : (Lit.int .i64 a0).wf = true) : Calls Try.prog 8 #[.int .i64 a0] w fun e w' => e = .returned (.bool true) ∧ Below w.heap.size w w' := by
  go_enter Try.func8, Try.ntmps8
  go_wp2_with (go_at_call 30; refine (sLyndonWords a0 _ ).mono ?_; rintro e w1 ⟨v0, rfl, o, hb⟩; obtain ⟨b0, c0, rfl, -⟩ := o.rows; refine Hid.out ?_)
  refine Lib.hid ?_
  -- spec.LyndonWords ['aK'] ['w0', 'w1']
  have HS0 := hb.size
  have HB := Lib.hid (((Below.refl w.heap.size w)).trans (hb.mono (by first | omega | exact Nat.le_refl _)))
  clear hb
  have O0 := Lib.hid (o)
  clear o
  go_wp2_with (go_at_call 31; refine (iLyndonWords a0 _ ).mono ?_; rintro e w2 ⟨v1, rfl, o, hb⟩; obtain ⟨b1, c1, rfl, -⟩ := o.rows; refine Hid.out ?_)
  refine Lib.hid ?_
  -- impl.LyndonWords ['aK'] ['g0', 'g1']
  have HS1 := hb.size
  have O0 := Lib.hid (O0.out.stay (SameIn.of_below hb (by omega)))
  have HB := Lib.hid ((HB.out).trans (hb.mono (by first | omega | exact Nat.le_refl _)))
  clear hb
  have O1 := Lib.hid (o)
  clear o
  go_wp2_with (go_at_call 32; refine (eqIntSS_same b1 b0 _ c1 c0 _ _ (O1.out.rowsAt rfl) (O0.out.rowsAt rfl)).mono ?_; rintro e w3 ⟨rfl, hb⟩; refine Hid.out ?_)
  refine Lib.hid ?_
  -- eqIntSS g0 w0
  have HS2 := hb.size
  have O0 := Lib.hid (O0.out.stay (SameIn.of_below hb (by omega)))
  have O1 := Lib.hid (O1.out.stay (SameIn.of_below hb (by omega)))
  have HB := Lib.hid ((HB.out).trans (hb.mono (by first | omega | exact Nat.le_refl _)))
  clear hb
  go_wp2_with (go_at_call 33; refine (markIntSS_any _ _ b1 _ c1 _ _ _ rfl O1.out (ly_small a0) (by omega) (by omega)).mono ?_; rintro e w4 ⟨rfl, o2, ho⟩; refine Hid.out ?_)
  refine Lib.hid ?_
  -- markIntSS g0
  have HS3 := ho.size
  have HB := Lib.hid (Only.below HB.out ho (by omega) (by omega))
  have O0 := Lib.hid (O0.out.stay (SameIn.of_only ho (by omega) (by omega)))
  have O1 := Lib.hid o2
  clear o2 ho
  go_wp2_with (go_at_call 34; refine (heldIntSS_marks b1 _ c1 _ _ _ (O1.out.rowsAt (by rw [mkL_length])) (ly_small a0) (by omega) (by omega)).mono ?_; rintro e w5 ⟨rfl, rfl⟩; refine Hid.out ?_)
  refine Lib.hid ?_
  -- heldIntSS g0
  go_wp2_with (go_at_call 31; refine (iLyndonWords a0 _ ).mono ?_; rintro e w5 ⟨v4, rfl, o, hb⟩; obtain ⟨b4, c4, rfl, -⟩ := o.rows; refine Hid.out ?_)
  refine Lib.hid ?_
  -- impl.LyndonWords ['aK'] ['h0', 'h1']
  have HS4 := hb.size
  have O0 := Lib.hid (O0.out.stay (SameIn.of_below hb (by omega)))
  have O1 := Lib.hid (O1.out.stay (SameIn.of_below hb (by omega)))
  have HB := Lib.hid ((HB.out).trans (hb.mono (by first | omega | exact Nat.le_refl _)))
  clear hb
  have O2 := Lib.hid (o)
  clear o
  go_wp2_with (go_at_call 32; refine (eqIntSS_same b4 b0 _ c4 c0 _ _ (O2.out.rowsAt rfl) (O0.out.rowsAt rfl)).mono ?_; rintro e w6 ⟨rfl, hb⟩; refine Hid.out ?_)
  refine Lib.hid ?_
  -- eqIntSS h0 w0
  have HS5 := hb.size
  have O0 := Lib.hid (O0.out.stay (SameIn.of_below hb (by omega)))
  have O1 := Lib.hid (O1.out.stay (SameIn.of_below hb (by omega)))
  have O2 := Lib.hid (O2.out.stay (SameIn.of_below hb (by omega)))
  have HB := Lib.hid ((HB.out).trans (hb.mono (by first | omega | exact Nat.le_refl _)))
  clear hb
  go_wp2_with (go_at_call 34; refine (heldIntSS_marks b1 _ c1 _ _ _ (O1.out.rowsAt (by rw [mkL_length])) (ly_small a0) (by omega) (by omega)).mono ?_; rintro e w7 ⟨rfl, rfl⟩; refine Hid.out ?_)
  refine Lib.hid ?_
  -- heldIntSS g0
  go_wp2
  go_ret
  exact ⟨rfl, HB.out⟩
end Go.Proofs.Ytfmpnkckaceigaa

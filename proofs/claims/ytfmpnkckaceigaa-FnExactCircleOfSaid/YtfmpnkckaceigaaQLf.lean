/- Walks of exact laws. -/
import Derived.Test.YtfmpnkckaceigaaQC
import Derived.Test.YtfmpnkckaceigaaRowL
import Derived.Test.YtfmpnkckaceigaaOwn2
import Derived.Test.YtfmpnkckaceigaaLaw3
namespace Go.Proofs.Ytfmpnkckaceigaa
set_option maxRecDepth 20000
open Go.RowKit

set_option maxRecDepth 20000 in
set_option maxHeartbeats 4000000 in
theorem wFnExactCircleOf (a0 : Int) (w : World) (_w0 : (Lit.int .i64 a0).wf = true) : Calls Try.prog 9 #[.int .i64 a0] w fun e w' => e = .returned (.bool true) ∧ Below w.heap.size w w' := by
  go_enter Try.func9, Try.ntmps9
  go_wp2_with (go_at_call 35; refine (sCircleOf a0 _ ).mono ?_; rintro e w1 ⟨b0, c0, rfl, o, hb, ln0⟩; refine Hid.out ?_)
  refine Lib.hid ?_
  -- spec.CircleOf ['aK'] ['w0', 'w1']
  have HS0 := hb.size
  have HB := Lib.hid (((Below.refl w.heap.size w)).trans (hb.mono (by first | omega | exact Nat.le_refl _)))
  clear hb
  have O0 := Lib.hid (OwnI.of o)
  clear o
  go_wp2_with (go_at_call 36; refine (iCircleOf a0 _ ).mono ?_; rintro e w2 ⟨b1, c1, rfl, o, hb, ln1⟩; refine Hid.out ?_)
  refine Lib.hid ?_
  -- impl.CircleOf ['aK'] ['g0', 'g1']
  have HS1 := hb.size
  have O0 := Lib.hid (O0.out.stay (SameIn.of_below hb (by omega)))
  have HB := Lib.hid ((HB.out).trans (hb.mono (by first | omega | exact Nat.le_refl _)))
  clear hb
  have O1 := Lib.hid (OwnI.of o)
  clear o
  go_wp2_with (go_at_call 18; refine (eqIntS_same b1 b0 _ c1 c0 _ _ (Ints.of_own O1.out.1) (Ints.of_own O0.out.1)).mono ?_; rintro e w3 ⟨rfl, hb⟩; refine Hid.out ?_)
  refine Lib.hid ?_
  -- eqIntS g0 w0
  have HS2 := hb.size
  have O0 := Lib.hid (O0.out.stay (SameIn.of_below hb (by omega)))
  have O1 := Lib.hid (O1.out.stay (SameIn.of_below hb (by omega)))
  have HB := Lib.hid ((HB.out).trans (hb.mono (by first | omega | exact Nat.le_refl _)))
  clear hb
  go_wp2_with (go_at_call 19; refine (markIntS_any _ b1 _ c1 _ _ _ rfl O1.out.1 (by omega) (by omega) (by omega)).mono ?_; rintro e w4 ⟨rfl, o, hg, hz⟩; refine Hid.out ?_)
  refine Lib.hid ?_
  -- markIntS g0
  have ho := Only.of_row hg hz O1.out.lt
  have o2 : OwnI _ _ _ _ _ _ := ⟨(by rw [marks_length]; exact o), O1.out.2⟩
  clear o hg hz
  have HS3 := ho.size
  have HB := Lib.hid (Only.below HB.out ho (by omega) (by omega))
  have O0 := Lib.hid (O0.out.stay (SameIn.of_only ho (by omega) (by omega)))
  have O1 := Lib.hid o2
  clear o2 ho
  go_wp2_with (go_at_call 20; refine (heldIntS_marks b1 _ c1 _ _ (O1.out.intsAt (marks_length _ _)) (by omega) (by omega) (by omega)).mono ?_; rintro e w5 ⟨rfl, rfl⟩; refine Hid.out ?_)
  refine Lib.hid ?_
  -- heldIntS g0
  go_wp2_with (go_at_call 36; refine (iCircleOf a0 _ ).mono ?_; rintro e w5 ⟨b4, c4, rfl, o, hb, ln4⟩; refine Hid.out ?_)
  refine Lib.hid ?_
  -- impl.CircleOf ['aK'] ['h0', 'h1']
  have HS4 := hb.size
  have O0 := Lib.hid (O0.out.stay (SameIn.of_below hb (by omega)))
  have O1 := Lib.hid (O1.out.stay (SameIn.of_below hb (by omega)))
  have HB := Lib.hid ((HB.out).trans (hb.mono (by first | omega | exact Nat.le_refl _)))
  clear hb
  have O2 := Lib.hid (OwnI.of o)
  clear o
  go_wp2_with (go_at_call 18; refine (eqIntS_same b4 b0 _ c4 c0 _ _ (Ints.of_own O2.out.1) (Ints.of_own O0.out.1)).mono ?_; rintro e w6 ⟨rfl, hb⟩; refine Hid.out ?_)
  refine Lib.hid ?_
  -- eqIntS h0 w0
  have HS5 := hb.size
  have O0 := Lib.hid (O0.out.stay (SameIn.of_below hb (by omega)))
  have O1 := Lib.hid (O1.out.stay (SameIn.of_below hb (by omega)))
  have O2 := Lib.hid (O2.out.stay (SameIn.of_below hb (by omega)))
  have HB := Lib.hid ((HB.out).trans (hb.mono (by first | omega | exact Nat.le_refl _)))
  clear hb
  go_wp2_with (go_at_call 20; refine (heldIntS_marks b1 _ c1 _ _ (O1.out.intsAt (marks_length _ _)) (by omega) (by omega) (by omega)).mono ?_; rintro e w7 ⟨rfl, rfl⟩; refine Hid.out ?_)
  refine Lib.hid ?_
  -- heldIntS g0
  go_wp2
  go_ret
  exact ⟨rfl, HB.out⟩
end Go.Proofs.Ytfmpnkckaceigaa

/- Walks of exact laws. -/
import Derived.Test.YtfmpnkckaceigaaQI1
import Derived.Test.YtfmpnkckaceigaaQS1
import Derived.Test.YtfmpnkckaceigaaRowL
import Derived.Test.YtfmpnkckaceigaaOwn2
import Derived.Test.YtfmpnkckaceigaaLaw3
namespace Go.Proofs.Ytfmpnkckaceigaa
set_option maxRecDepth 20000
open Go.RowKit

set_option maxRecDepth 20000 in
set_option maxHeartbeats 4000000 in
theorem wFnExactGrayWord (a0 : Int) (a1 : Int) (w : World) (_w0 : (Lit.int .i64 a0).wf = true) (_w1 : (Lit.int .i64 a1).wf = true) : Calls Try.prog 3 #[.int .i64 a0, .int .i64 a1] w fun e w' => e = .returned (.bool true) ∧ Below w.heap.size w w' := by
  go_enter Try.func3, Try.ntmps3
  go_wp2_with (go_at_call 16; refine (sGrayWord a0 a1 _ ).mono ?_; rintro e w1 ⟨b0, c0, rfl, o, hb, ln0⟩; refine Hid.out ?_)
  refine Lib.hid ?_
  -- spec.GrayWord ['aI', 'aK'] ['w0', 'w1']
  have HS0 := hb.size
  have HB := Lib.hid (((Below.refl w.heap.size w)).trans (hb.mono (by first | omega | exact Nat.le_refl _)))
  clear hb
  have O0 := Lib.hid (OwnI.of o)
  clear o
  go_wp2_with (go_at_call 17; refine (iGrayWord a0 a1 _ ).mono ?_; rintro e w2 ⟨b1, c1, rfl, o, hb, ln1⟩; refine Hid.out ?_)
  refine Lib.hid ?_
  -- impl.GrayWord ['aI', 'aK'] ['g0', 'g1']
  have HS1 := hb.size
  have O0 := Lib.hid (O0.out.stay (SameIn.of_below hb (by omega)))
  have HB := Lib.hid ((HB.out).trans (hb.mono (by first | omega | exact Nat.le_refl _)))
  clear hb
  have O1 := Lib.hid (OwnI.of o)
  clear o
  go_wp2_with (go_at_call 18; refine (eqIntS_same b1 b0 _ c1 c0 _ _ (Ints.of_own O1.out.1) (Ints.of_own O0.out.1)).mono ?_; rintro e w3 ⟨rfl, hb⟩; refine Hid.out ?_)
  refine Lib.hid ?_
  -- eqIntS g0 w0
  have HS2 := hb.size
  have O0 := Lib.hid (O0.out.stay (SameIn.of_below hb (by omega)))
  have O1 := Lib.hid (O1.out.stay (SameIn.of_below hb (by omega)))
  have HB := Lib.hid ((HB.out).trans (hb.mono (by first | omega | exact Nat.le_refl _)))
  clear hb
  go_wp2_with (go_at_call 19; refine (markIntS_any _ b1 _ c1 _ _ _ rfl O1.out.1 (by omega) (by omega) (by omega)).mono ?_; rintro e w4 ⟨rfl, o, hg, hz⟩; refine Hid.out ?_)
  refine Lib.hid ?_
  -- markIntS g0
  have ho := Only.of_row hg hz O1.out.lt
  have o2 : OwnI _ _ _ _ _ _ := ⟨(by rw [marks_length]; exact o), O1.out.2⟩
  clear o hg hz
  have HS3 := ho.size
  have HB := Lib.hid (Only.below HB.out ho (by omega) (by omega))
  have O0 := Lib.hid (O0.out.stay (SameIn.of_only ho (by omega) (by omega)))
  have O1 := Lib.hid o2
  clear o2 ho
  go_wp2_with (go_at_call 20; refine (heldIntS_marks b1 _ c1 _ _ (O1.out.intsAt (marks_length _ _)) (by omega) (by omega) (by omega)).mono ?_; rintro e w5 ⟨rfl, rfl⟩; refine Hid.out ?_)
  refine Lib.hid ?_
  -- heldIntS g0
  go_wp2_with (go_at_call 17; refine (iGrayWord a0 a1 _ ).mono ?_; rintro e w5 ⟨b4, c4, rfl, o, hb, ln4⟩; refine Hid.out ?_)
  refine Lib.hid ?_
  -- impl.GrayWord ['aI', 'aK'] ['h0', 'h1']
  have HS4 := hb.size
  have O0 := Lib.hid (O0.out.stay (SameIn.of_below hb (by omega)))
  have O1 := Lib.hid (O1.out.stay (SameIn.of_below hb (by omega)))
  have HB := Lib.hid ((HB.out).trans (hb.mono (by first | omega | exact Nat.le_refl _)))
  clear hb
  have O2 := Lib.hid (OwnI.of o)
  clear o
  go_wp2_with (go_at_call 18; refine (eqIntS_same b4 b0 _ c4 c0 _ _ (Ints.of_own O2.out.1) (Ints.of_own O0.out.1)).mono ?_; rintro e w6 ⟨rfl, hb⟩; refine Hid.out ?_)
  refine Lib.hid ?_
  -- eqIntS h0 w0
  have HS5 := hb.size
  have O0 := Lib.hid (O0.out.stay (SameIn.of_below hb (by omega)))
  have O1 := Lib.hid (O1.out.stay (SameIn.of_below hb (by omega)))
  have O2 := Lib.hid (O2.out.stay (SameIn.of_below hb (by omega)))
  have HB := Lib.hid ((HB.out).trans (hb.mono (by first | omega | exact Nat.le_refl _)))
  clear hb
  go_wp2_with (go_at_call 20; refine (heldIntS_marks b1 _ c1 _ _ (O1.out.intsAt (marks_length _ _)) (by omega) (by omega) (by omega)).mono ?_; rintro e w7 ⟨rfl, rfl⟩; refine Hid.out ?_)
  refine Lib.hid ?_
  -- heldIntS g0
  go_wp2
  go_ret
  exact ⟨rfl, HB.out⟩
set_option maxRecDepth 20000 in
set_option maxHeartbeats 4000000 in
theorem wFnExactGrayRank (a0 : Option Addr) (len0 cap0 : Nat) (z0 : List Int) (w : World) (w0 : IsRow .i64 w a0 len0 cap0 z0) : Calls Try.prog 4 #[.slice a0 len0 cap0] w fun e w' => e = .returned (.bool true) ∧ Below w.heap.size w w' := by
  have q0 := Ints.of_row w0
  have m0 : len0 ≤ 9223372036854775807 := by obtain ⟨_, h2, h3, _⟩ := q0; unfold maxLen at h3; omega
  obtain ⟨y0, ey0⟩ : ∃ y, y = z0.take len0 := ⟨_, rfl⟩
  rw [← ey0] at q0
  clear ey0 w0
  obtain rfl : len0 = y0.length := q0.1.symm
  have Q0 := Lib.hid q0
  clear q0
  by_cases g0 : y0.length ≤ 1048576
  · skip
    go_enter Try.func4, Try.ntmps4
    go_wp2_with (go_at_call 22; refine (toIntS_any a0 y0.length cap0 y0 _ Q0.out (by omega)).mono ?_; rintro e w1 ⟨b0, c0, rfl, o, hb, ln0⟩; refine Hid.out ?_)
    refine Lib.hid ?_
    -- toIntS aW _t0
    have HS0 := hb.size
    have HB := Lib.hid (((Below.refl w.heap.size w)).trans (hb.mono (by first | omega | exact Nat.le_refl _)))
    clear hb
    have O0 := Lib.hid (OwnI.of o)
    clear o
    go_wp2_with (go_at_call 21; refine (sGrayRank b0 y0.length c0 y0 _ (Ints.of_own O0.out.1)).mono ?_; rintro e w2 ⟨rfl, rfl⟩; refine Hid.out ?_)
    refine Lib.hid ?_
    -- spec.GrayRank ['_t0']
    go_wp2_with (go_at_call 22; refine (toIntS_any a0 y0.length cap0 y0 _ (Q0.out.below HB.out) (by omega)).mono ?_; rintro e w2 ⟨b1, c1, rfl, o, hb, ln1⟩; refine Hid.out ?_)
    refine Lib.hid ?_
    -- toIntS aW x0
    have HS1 := hb.size
    have O0 := Lib.hid (O0.out.stay (SameIn.of_below hb (by omega)))
    have HB := Lib.hid ((HB.out).trans (hb.mono (by first | omega | exact Nat.le_refl _)))
    clear hb
    have O1 := Lib.hid (OwnI.of o)
    clear o
    go_wp2_with (go_at_call 23; refine (iGrayRank b1 y0.length c1 y0 _ (Ints.of_own O1.out.1)).mono ?_; rintro e w3 ⟨rfl, rfl⟩; refine Hid.out ?_)
    refine Lib.hid ?_
    -- impl.GrayRank ['x0']
    go_wp2_with (go_at_call 22; refine (toIntS_any a0 y0.length cap0 y0 _ (Q0.out.below HB.out) (by omega)).mono ?_; rintro e w3 ⟨b2, c2, rfl, o, hb, ln2⟩; refine Hid.out ?_)
    refine Lib.hid ?_
    -- toIntS aW _t2
    have HS2 := hb.size
    have O0 := Lib.hid (O0.out.stay (SameIn.of_below hb (by omega)))
    have O1 := Lib.hid (O1.out.stay (SameIn.of_below hb (by omega)))
    have HB := Lib.hid ((HB.out).trans (hb.mono (by first | omega | exact Nat.le_refl _)))
    clear hb
    have O2 := Lib.hid (OwnI.of o)
    clear o
    go_wp2_with (go_at_call 18; refine (eqIntS_same b1 b2 _ c1 c2 _ _ (Ints.of_own O1.out.1) (Ints.of_own O2.out.1)).mono ?_; rintro e w4 ⟨rfl, hb⟩; refine Hid.out ?_)
    refine Lib.hid ?_
    -- eqIntS x0 _t2
    have HS3 := hb.size
    have O0 := Lib.hid (O0.out.stay (SameIn.of_below hb (by omega)))
    have O1 := Lib.hid (O1.out.stay (SameIn.of_below hb (by omega)))
    have O2 := Lib.hid (O2.out.stay (SameIn.of_below hb (by omega)))
    have HB := Lib.hid ((HB.out).trans (hb.mono (by first | omega | exact Nat.le_refl _)))
    clear hb
    go_wp2
    go_ret
    exact ⟨rfl, HB.out⟩
  · go_enter Try.func4, Try.ntmps4
    go_wp2
    go_ret
    exact ⟨rfl, Below.refl _ _⟩
end Go.Proofs.Ytfmpnkckaceigaa

/- Walks of exact laws. -/
import Derived.Test.YtfmpnkckaceigaaQI2
import Derived.Test.YtfmpnkckaceigaaQS2
import Derived.Test.YtfmpnkckaceigaaRowL
import Derived.Test.YtfmpnkckaceigaaOwn2
import Derived.Test.YtfmpnkckaceigaaLaw3
namespace Go.Proofs.Ytfmpnkckaceigaa
set_option maxRecDepth 20000
open Go.RowKit

set_option maxRecDepth 20000 in
set_option maxHeartbeats 4000000 in
theorem wFnExactRotateWord (a0 : Option Addr) (len0 cap0 : Nat) (z0 : List Int) (a1 : Int) (w : World) (w0 : IsRow .i64 w a0 len0 cap0 z0) (_w1 : (Lit.int .i64 a1).wf = true) : Calls Try.prog 5 #[.slice a0 len0 cap0, .int .i64 a1] w fun e w' => e = .returned (.bool true) ∧ Below w.heap.size w w' := by
  have q0 := Ints.of_row w0
  have m0 : len0 ≤ 9223372036854775807 := by obtain ⟨_, h2, h3, _⟩ := q0; unfold maxLen at h3; omega
  obtain ⟨y0, ey0⟩ : ∃ y, y = z0.take len0 := ⟨_, rfl⟩
  rw [← ey0] at q0
  clear ey0 w0
  obtain rfl : len0 = y0.length := q0.1.symm
  have Q0 := Lib.hid q0
  clear q0
  by_cases g0 : y0.length ≤ 1048576
  · skip
    go_enter Try.func5, Try.ntmps5
    go_wp2_with (go_at_call 22; refine (toIntS_any a0 y0.length cap0 y0 _ Q0.out (by omega)).mono ?_; rintro e w1 ⟨b0, c0, rfl, o, hb, ln0⟩; refine Hid.out ?_)
    refine Lib.hid ?_
    -- toIntS aW _t0
    have HS0 := hb.size
    have HB := Lib.hid (((Below.refl w.heap.size w)).trans (hb.mono (by first | omega | exact Nat.le_refl _)))
    clear hb
    have O0 := Lib.hid (OwnI.of o)
    clear o
    go_wp2_with (go_at_call 24; refine (sRotateWord b0 y0.length c0 y0 a1 _ (Ints.of_own O0.out.1)).mono ?_; rintro e w2 ⟨b1, c1, rfl, o, hb, ln1⟩; refine Hid.out ?_)
    refine Lib.hid ?_
    -- spec.RotateWord ['_t0', 'aBy'] ['w0']
    have HS1 := hb.size
    have O0 := Lib.hid (O0.out.stay (SameIn.of_below hb (by omega)))
    have HB := Lib.hid ((HB.out).trans (hb.mono (by first | omega | exact Nat.le_refl _)))
    clear hb
    have O1 := Lib.hid (OwnI.of o)
    clear o
    go_wp2_with (go_at_call 22; refine (toIntS_any a0 y0.length cap0 y0 _ (Q0.out.below HB.out) (by omega)).mono ?_; rintro e w3 ⟨b2, c2, rfl, o, hb, ln2⟩; refine Hid.out ?_)
    refine Lib.hid ?_
    -- toIntS aW x0
    have HS2 := hb.size
    have O0 := Lib.hid (O0.out.stay (SameIn.of_below hb (by omega)))
    have O1 := Lib.hid (O1.out.stay (SameIn.of_below hb (by omega)))
    have HB := Lib.hid ((HB.out).trans (hb.mono (by first | omega | exact Nat.le_refl _)))
    clear hb
    have O2 := Lib.hid (OwnI.of o)
    clear o
    go_wp2_with (go_at_call 25; refine (iRotateWord b2 y0.length c2 y0 a1 _ (Ints.of_own O2.out.1)).mono ?_; rintro e w4 ⟨b3, c3, rfl, o, hb, ln3⟩; refine Hid.out ?_)
    refine Lib.hid ?_
    -- impl.RotateWord ['x0', 'aBy'] ['g0']
    have HS3 := hb.size
    have O0 := Lib.hid (O0.out.stay (SameIn.of_below hb (by omega)))
    have O1 := Lib.hid (O1.out.stay (SameIn.of_below hb (by omega)))
    have O2 := Lib.hid (O2.out.stay (SameIn.of_below hb (by omega)))
    have HB := Lib.hid ((HB.out).trans (hb.mono (by first | omega | exact Nat.le_refl _)))
    clear hb
    have O3 := Lib.hid (OwnI.of o)
    clear o
    go_wp2_with (go_at_call 18; refine (eqIntS_same b3 b1 _ c3 c1 _ _ (Ints.of_own O3.out.1) (Ints.of_own O1.out.1)).mono ?_; rintro e w5 ⟨rfl, hb⟩; refine Hid.out ?_)
    refine Lib.hid ?_
    -- eqIntS g0 w0
    have HS4 := hb.size
    have O0 := Lib.hid (O0.out.stay (SameIn.of_below hb (by omega)))
    have O1 := Lib.hid (O1.out.stay (SameIn.of_below hb (by omega)))
    have O2 := Lib.hid (O2.out.stay (SameIn.of_below hb (by omega)))
    have O3 := Lib.hid (O3.out.stay (SameIn.of_below hb (by omega)))
    have HB := Lib.hid ((HB.out).trans (hb.mono (by first | omega | exact Nat.le_refl _)))
    clear hb
    go_wp2_with (go_at_call 22; refine (toIntS_any a0 y0.length cap0 y0 _ (Q0.out.below HB.out) (by omega)).mono ?_; rintro e w6 ⟨b5, c5, rfl, o, hb, ln5⟩; refine Hid.out ?_)
    refine Lib.hid ?_
    -- toIntS aW _t4
    have HS5 := hb.size
    have O0 := Lib.hid (O0.out.stay (SameIn.of_below hb (by omega)))
    have O1 := Lib.hid (O1.out.stay (SameIn.of_below hb (by omega)))
    have O2 := Lib.hid (O2.out.stay (SameIn.of_below hb (by omega)))
    have O3 := Lib.hid (O3.out.stay (SameIn.of_below hb (by omega)))
    have HB := Lib.hid ((HB.out).trans (hb.mono (by first | omega | exact Nat.le_refl _)))
    clear hb
    have O4 := Lib.hid (OwnI.of o)
    clear o
    go_wp2_with (go_at_call 18; refine (eqIntS_same b2 b5 _ c2 c5 _ _ (Ints.of_own O2.out.1) (Ints.of_own O4.out.1)).mono ?_; rintro e w7 ⟨rfl, hb⟩; refine Hid.out ?_)
    refine Lib.hid ?_
    -- eqIntS x0 _t4
    have HS6 := hb.size
    have O0 := Lib.hid (O0.out.stay (SameIn.of_below hb (by omega)))
    have O1 := Lib.hid (O1.out.stay (SameIn.of_below hb (by omega)))
    have O2 := Lib.hid (O2.out.stay (SameIn.of_below hb (by omega)))
    have O3 := Lib.hid (O3.out.stay (SameIn.of_below hb (by omega)))
    have O4 := Lib.hid (O4.out.stay (SameIn.of_below hb (by omega)))
    have HB := Lib.hid ((HB.out).trans (hb.mono (by first | omega | exact Nat.le_refl _)))
    clear hb
    go_wp2_with (go_at_call 19; refine (markIntS_any _ b2 _ c2 _ _ _ rfl O2.out.1 (by omega) (by omega) (by omega)).mono ?_; rintro e w8 ⟨rfl, o, hg, hz⟩; refine Hid.out ?_)
    refine Lib.hid ?_
    -- markIntS x0
    have ho := Only.of_row hg hz O2.out.lt
    have o2 : OwnI _ _ _ _ _ _ := ⟨(by rw [marks_length]; exact o), O2.out.2⟩
    clear o hg hz
    have HS7 := ho.size
    have HB := Lib.hid (Only.below HB.out ho (by omega) (by omega))
    have O0 := Lib.hid (O0.out.stay (SameIn.of_only ho (by omega) (by omega)))
    have O1 := Lib.hid (O1.out.stay (SameIn.of_only ho (by omega) (by omega)))
    have O3 := Lib.hid (O3.out.stay (SameIn.of_only ho (by omega) (by omega)))
    have O4 := Lib.hid (O4.out.stay (SameIn.of_only ho (by omega) (by omega)))
    have O2 := Lib.hid o2
    clear o2 ho
    go_wp2_with (go_at_call 18; refine (eqIntS_same b3 b1 _ c3 c1 _ _ (Ints.of_own O3.out.1) (Ints.of_own O1.out.1)).mono ?_; rintro e w9 ⟨rfl, hb⟩; refine Hid.out ?_)
    refine Lib.hid ?_
    -- eqIntS g0 w0
    have HS8 := hb.size
    have O0 := Lib.hid (O0.out.stay (SameIn.of_below hb (by omega)))
    have O1 := Lib.hid (O1.out.stay (SameIn.of_below hb (by omega)))
    have O2 := Lib.hid (O2.out.stay (SameIn.of_below hb (by omega)))
    have O3 := Lib.hid (O3.out.stay (SameIn.of_below hb (by omega)))
    have O4 := Lib.hid (O4.out.stay (SameIn.of_below hb (by omega)))
    have HB := Lib.hid ((HB.out).trans (hb.mono (by first | omega | exact Nat.le_refl _)))
    clear hb
    go_wp2_with (go_at_call 19; refine (markIntS_any _ b3 _ c3 _ _ _ rfl O3.out.1 (by omega) (by omega) (by omega)).mono ?_; rintro e w10 ⟨rfl, o, hg, hz⟩; refine Hid.out ?_)
    refine Lib.hid ?_
    -- markIntS g0
    have ho := Only.of_row hg hz O3.out.lt
    have o2 : OwnI _ _ _ _ _ _ := ⟨(by rw [marks_length]; exact o), O3.out.2⟩
    clear o hg hz
    have HS9 := ho.size
    have HB := Lib.hid (Only.below HB.out ho (by omega) (by omega))
    have O0 := Lib.hid (O0.out.stay (SameIn.of_only ho (by omega) (by omega)))
    have O1 := Lib.hid (O1.out.stay (SameIn.of_only ho (by omega) (by omega)))
    have O2 := Lib.hid (O2.out.stay (SameIn.of_only ho (by omega) (by omega)))
    have O4 := Lib.hid (O4.out.stay (SameIn.of_only ho (by omega) (by omega)))
    have O3 := Lib.hid o2
    clear o2 ho
    go_wp2_with (go_at_call 20; refine (heldIntS_marks b3 _ c3 _ _ (O3.out.intsAt (marks_length _ _)) (by omega) (by omega) (by omega)).mono ?_; rintro e w11 ⟨rfl, rfl⟩; refine Hid.out ?_)
    refine Lib.hid ?_
    -- heldIntS g0
    go_wp2_with (go_at_call 22; refine (toIntS_any a0 y0.length cap0 y0 _ (Q0.out.below HB.out) (by omega)).mono ?_; rintro e w11 ⟨b10, c10, rfl, o, hb, ln10⟩; refine Hid.out ?_)
    refine Lib.hid ?_
    -- toIntS aW _t5
    have HS10 := hb.size
    have O0 := Lib.hid (O0.out.stay (SameIn.of_below hb (by omega)))
    have O1 := Lib.hid (O1.out.stay (SameIn.of_below hb (by omega)))
    have O2 := Lib.hid (O2.out.stay (SameIn.of_below hb (by omega)))
    have O3 := Lib.hid (O3.out.stay (SameIn.of_below hb (by omega)))
    have O4 := Lib.hid (O4.out.stay (SameIn.of_below hb (by omega)))
    have HB := Lib.hid ((HB.out).trans (hb.mono (by first | omega | exact Nat.le_refl _)))
    clear hb
    have O5 := Lib.hid (OwnI.of o)
    clear o
    go_wp2_with (go_at_call 25; refine (iRotateWord b10 y0.length c10 y0 a1 _ (Ints.of_own O5.out.1)).mono ?_; rintro e w12 ⟨b11, c11, rfl, o, hb, ln11⟩; refine Hid.out ?_)
    refine Lib.hid ?_
    -- impl.RotateWord ['_t5', 'aBy'] ['h0']
    have HS11 := hb.size
    have O0 := Lib.hid (O0.out.stay (SameIn.of_below hb (by omega)))
    have O1 := Lib.hid (O1.out.stay (SameIn.of_below hb (by omega)))
    have O2 := Lib.hid (O2.out.stay (SameIn.of_below hb (by omega)))
    have O3 := Lib.hid (O3.out.stay (SameIn.of_below hb (by omega)))
    have O4 := Lib.hid (O4.out.stay (SameIn.of_below hb (by omega)))
    have O5 := Lib.hid (O5.out.stay (SameIn.of_below hb (by omega)))
    have HB := Lib.hid ((HB.out).trans (hb.mono (by first | omega | exact Nat.le_refl _)))
    clear hb
    have O6 := Lib.hid (OwnI.of o)
    clear o
    go_wp2_with (go_at_call 18; refine (eqIntS_same b11 b1 _ c11 c1 _ _ (Ints.of_own O6.out.1) (Ints.of_own O1.out.1)).mono ?_; rintro e w13 ⟨rfl, hb⟩; refine Hid.out ?_)
    refine Lib.hid ?_
    -- eqIntS h0 w0
    have HS12 := hb.size
    have O0 := Lib.hid (O0.out.stay (SameIn.of_below hb (by omega)))
    have O1 := Lib.hid (O1.out.stay (SameIn.of_below hb (by omega)))
    have O2 := Lib.hid (O2.out.stay (SameIn.of_below hb (by omega)))
    have O3 := Lib.hid (O3.out.stay (SameIn.of_below hb (by omega)))
    have O4 := Lib.hid (O4.out.stay (SameIn.of_below hb (by omega)))
    have O5 := Lib.hid (O5.out.stay (SameIn.of_below hb (by omega)))
    have O6 := Lib.hid (O6.out.stay (SameIn.of_below hb (by omega)))
    have HB := Lib.hid ((HB.out).trans (hb.mono (by first | omega | exact Nat.le_refl _)))
    clear hb
    go_wp2_with (go_at_call 20; refine (heldIntS_marks b3 _ c3 _ _ (O3.out.intsAt (marks_length _ _)) (by omega) (by omega) (by omega)).mono ?_; rintro e w14 ⟨rfl, rfl⟩; refine Hid.out ?_)
    refine Lib.hid ?_
    -- heldIntS g0
    go_wp2
    go_ret
    exact ⟨rfl, HB.out⟩
  · go_enter Try.func5, Try.ntmps5
    go_wp2
    go_ret
    exact ⟨rfl, Below.refl _ _⟩
set_option maxRecDepth 20000 in
set_option maxHeartbeats 4000000 in
theorem wFnExactNecklaceOf (a0 : Option Addr) (len0 cap0 : Nat) (z0 : List Int) (w : World) (w0 : IsRow .i64 w a0 len0 cap0 z0) : Calls Try.prog 6 #[.slice a0 len0 cap0] w fun e w' => e = .returned (.bool true) ∧ Below w.heap.size w w' := by
  have q0 := Ints.of_row w0
  have m0 : len0 ≤ 9223372036854775807 := by obtain ⟨_, h2, h3, _⟩ := q0; unfold maxLen at h3; omega
  obtain ⟨y0, ey0⟩ : ∃ y, y = z0.take len0 := ⟨_, rfl⟩
  rw [← ey0] at q0
  clear ey0 w0
  obtain rfl : len0 = y0.length := q0.1.symm
  have Q0 := Lib.hid q0
  clear q0
  by_cases g0 : y0.length ≤ 1048576
  · skip
    go_enter Try.func6, Try.ntmps6
    go_wp2_with (go_at_call 22; refine (toIntS_any a0 y0.length cap0 y0 _ Q0.out (by omega)).mono ?_; rintro e w1 ⟨b0, c0, rfl, o, hb, ln0⟩; refine Hid.out ?_)
    refine Lib.hid ?_
    -- toIntS aW _t0
    have HS0 := hb.size
    have HB := Lib.hid (((Below.refl w.heap.size w)).trans (hb.mono (by first | omega | exact Nat.le_refl _)))
    clear hb
    have O0 := Lib.hid (OwnI.of o)
    clear o
    go_wp2_with (go_at_call 26; refine (sNecklaceOf b0 y0.length c0 y0 _ (Ints.of_own O0.out.1)).mono ?_; rintro e w2 ⟨b1, c1, rfl, o, hb, ln1⟩; refine Hid.out ?_)
    refine Lib.hid ?_
    -- spec.NecklaceOf ['_t0'] ['w0']
    have HS1 := hb.size
    have O0 := Lib.hid (O0.out.stay (SameIn.of_below hb (by omega)))
    have HB := Lib.hid ((HB.out).trans (hb.mono (by first | omega | exact Nat.le_refl _)))
    clear hb
    have O1 := Lib.hid (OwnI.of o)
    clear o
    go_wp2_with (go_at_call 22; refine (toIntS_any a0 y0.length cap0 y0 _ (Q0.out.below HB.out) (by omega)).mono ?_; rintro e w3 ⟨b2, c2, rfl, o, hb, ln2⟩; refine Hid.out ?_)
    refine Lib.hid ?_
    -- toIntS aW x0
    have HS2 := hb.size
    have O0 := Lib.hid (O0.out.stay (SameIn.of_below hb (by omega)))
    have O1 := Lib.hid (O1.out.stay (SameIn.of_below hb (by omega)))
    have HB := Lib.hid ((HB.out).trans (hb.mono (by first | omega | exact Nat.le_refl _)))
    clear hb
    have O2 := Lib.hid (OwnI.of o)
    clear o
    go_wp2_with (go_at_call 27; refine (iNecklaceOf b2 y0.length c2 y0 _ (Ints.of_own O2.out.1)).mono ?_; rintro e w4 ⟨b3, c3, rfl, o, hb, ln3⟩; refine Hid.out ?_)
    refine Lib.hid ?_
    -- impl.NecklaceOf ['x0'] ['g0']
    have HS3 := hb.size
    have O0 := Lib.hid (O0.out.stay (SameIn.of_below hb (by omega)))
    have O1 := Lib.hid (O1.out.stay (SameIn.of_below hb (by omega)))
    have O2 := Lib.hid (O2.out.stay (SameIn.of_below hb (by omega)))
    have HB := Lib.hid ((HB.out).trans (hb.mono (by first | omega | exact Nat.le_refl _)))
    clear hb
    have O3 := Lib.hid (OwnI.of o)
    clear o
    go_wp2_with (go_at_call 18; refine (eqIntS_same b3 b1 _ c3 c1 _ _ (Ints.of_own O3.out.1) (Ints.of_own O1.out.1)).mono ?_; rintro e w5 ⟨rfl, hb⟩; refine Hid.out ?_)
    refine Lib.hid ?_
    -- eqIntS g0 w0
    have HS4 := hb.size
    have O0 := Lib.hid (O0.out.stay (SameIn.of_below hb (by omega)))
    have O1 := Lib.hid (O1.out.stay (SameIn.of_below hb (by omega)))
    have O2 := Lib.hid (O2.out.stay (SameIn.of_below hb (by omega)))
    have O3 := Lib.hid (O3.out.stay (SameIn.of_below hb (by omega)))
    have HB := Lib.hid ((HB.out).trans (hb.mono (by first | omega | exact Nat.le_refl _)))
    clear hb
    go_wp2_with (go_at_call 22; refine (toIntS_any a0 y0.length cap0 y0 _ (Q0.out.below HB.out) (by omega)).mono ?_; rintro e w6 ⟨b5, c5, rfl, o, hb, ln5⟩; refine Hid.out ?_)
    refine Lib.hid ?_
    -- toIntS aW _t4
    have HS5 := hb.size
    have O0 := Lib.hid (O0.out.stay (SameIn.of_below hb (by omega)))
    have O1 := Lib.hid (O1.out.stay (SameIn.of_below hb (by omega)))
    have O2 := Lib.hid (O2.out.stay (SameIn.of_below hb (by omega)))
    have O3 := Lib.hid (O3.out.stay (SameIn.of_below hb (by omega)))
    have HB := Lib.hid ((HB.out).trans (hb.mono (by first | omega | exact Nat.le_refl _)))
    clear hb
    have O4 := Lib.hid (OwnI.of o)
    clear o
    go_wp2_with (go_at_call 18; refine (eqIntS_same b2 b5 _ c2 c5 _ _ (Ints.of_own O2.out.1) (Ints.of_own O4.out.1)).mono ?_; rintro e w7 ⟨rfl, hb⟩; refine Hid.out ?_)
    refine Lib.hid ?_
    -- eqIntS x0 _t4
    have HS6 := hb.size
    have O0 := Lib.hid (O0.out.stay (SameIn.of_below hb (by omega)))
    have O1 := Lib.hid (O1.out.stay (SameIn.of_below hb (by omega)))
    have O2 := Lib.hid (O2.out.stay (SameIn.of_below hb (by omega)))
    have O3 := Lib.hid (O3.out.stay (SameIn.of_below hb (by omega)))
    have O4 := Lib.hid (O4.out.stay (SameIn.of_below hb (by omega)))
    have HB := Lib.hid ((HB.out).trans (hb.mono (by first | omega | exact Nat.le_refl _)))
    clear hb
    go_wp2_with (go_at_call 19; refine (markIntS_any _ b2 _ c2 _ _ _ rfl O2.out.1 (by omega) (by omega) (by omega)).mono ?_; rintro e w8 ⟨rfl, o, hg, hz⟩; refine Hid.out ?_)
    refine Lib.hid ?_
    -- markIntS x0
    have ho := Only.of_row hg hz O2.out.lt
    have o2 : OwnI _ _ _ _ _ _ := ⟨(by rw [marks_length]; exact o), O2.out.2⟩
    clear o hg hz
    have HS7 := ho.size
    have HB := Lib.hid (Only.below HB.out ho (by omega) (by omega))
    have O0 := Lib.hid (O0.out.stay (SameIn.of_only ho (by omega) (by omega)))
    have O1 := Lib.hid (O1.out.stay (SameIn.of_only ho (by omega) (by omega)))
    have O3 := Lib.hid (O3.out.stay (SameIn.of_only ho (by omega) (by omega)))
    have O4 := Lib.hid (O4.out.stay (SameIn.of_only ho (by omega) (by omega)))
    have O2 := Lib.hid o2
    clear o2 ho
    go_wp2_with (go_at_call 18; refine (eqIntS_same b3 b1 _ c3 c1 _ _ (Ints.of_own O3.out.1) (Ints.of_own O1.out.1)).mono ?_; rintro e w9 ⟨rfl, hb⟩; refine Hid.out ?_)
    refine Lib.hid ?_
    -- eqIntS g0 w0
    have HS8 := hb.size
    have O0 := Lib.hid (O0.out.stay (SameIn.of_below hb (by omega)))
    have O1 := Lib.hid (O1.out.stay (SameIn.of_below hb (by omega)))
    have O2 := Lib.hid (O2.out.stay (SameIn.of_below hb (by omega)))
    have O3 := Lib.hid (O3.out.stay (SameIn.of_below hb (by omega)))
    have O4 := Lib.hid (O4.out.stay (SameIn.of_below hb (by omega)))
    have HB := Lib.hid ((HB.out).trans (hb.mono (by first | omega | exact Nat.le_refl _)))
    clear hb
    go_wp2_with (go_at_call 19; refine (markIntS_any _ b3 _ c3 _ _ _ rfl O3.out.1 (by omega) (by omega) (by omega)).mono ?_; rintro e w10 ⟨rfl, o, hg, hz⟩; refine Hid.out ?_)
    refine Lib.hid ?_
    -- markIntS g0
    have ho := Only.of_row hg hz O3.out.lt
    have o2 : OwnI _ _ _ _ _ _ := ⟨(by rw [marks_length]; exact o), O3.out.2⟩
    clear o hg hz
    have HS9 := ho.size
    have HB := Lib.hid (Only.below HB.out ho (by omega) (by omega))
    have O0 := Lib.hid (O0.out.stay (SameIn.of_only ho (by omega) (by omega)))
    have O1 := Lib.hid (O1.out.stay (SameIn.of_only ho (by omega) (by omega)))
    have O2 := Lib.hid (O2.out.stay (SameIn.of_only ho (by omega) (by omega)))
    have O4 := Lib.hid (O4.out.stay (SameIn.of_only ho (by omega) (by omega)))
    have O3 := Lib.hid o2
    clear o2 ho
    go_wp2_with (go_at_call 20; refine (heldIntS_marks b3 _ c3 _ _ (O3.out.intsAt (marks_length _ _)) (by omega) (by omega) (by omega)).mono ?_; rintro e w11 ⟨rfl, rfl⟩; refine Hid.out ?_)
    refine Lib.hid ?_
    -- heldIntS g0
    go_wp2_with (go_at_call 22; refine (toIntS_any a0 y0.length cap0 y0 _ (Q0.out.below HB.out) (by omega)).mono ?_; rintro e w11 ⟨b10, c10, rfl, o, hb, ln10⟩; refine Hid.out ?_)
    refine Lib.hid ?_
    -- toIntS aW _t5
    have HS10 := hb.size
    have O0 := Lib.hid (O0.out.stay (SameIn.of_below hb (by omega)))
    have O1 := Lib.hid (O1.out.stay (SameIn.of_below hb (by omega)))
    have O2 := Lib.hid (O2.out.stay (SameIn.of_below hb (by omega)))
    have O3 := Lib.hid (O3.out.stay (SameIn.of_below hb (by omega)))
    have O4 := Lib.hid (O4.out.stay (SameIn.of_below hb (by omega)))
    have HB := Lib.hid ((HB.out).trans (hb.mono (by first | omega | exact Nat.le_refl _)))
    clear hb
    have O5 := Lib.hid (OwnI.of o)
    clear o
    go_wp2_with (go_at_call 27; refine (iNecklaceOf b10 y0.length c10 y0 _ (Ints.of_own O5.out.1)).mono ?_; rintro e w12 ⟨b11, c11, rfl, o, hb, ln11⟩; refine Hid.out ?_)
    refine Lib.hid ?_
    -- impl.NecklaceOf ['_t5'] ['h0']
    have HS11 := hb.size
    have O0 := Lib.hid (O0.out.stay (SameIn.of_below hb (by omega)))
    have O1 := Lib.hid (O1.out.stay (SameIn.of_below hb (by omega)))
    have O2 := Lib.hid (O2.out.stay (SameIn.of_below hb (by omega)))
    have O3 := Lib.hid (O3.out.stay (SameIn.of_below hb (by omega)))
    have O4 := Lib.hid (O4.out.stay (SameIn.of_below hb (by omega)))
    have O5 := Lib.hid (O5.out.stay (SameIn.of_below hb (by omega)))
    have HB := Lib.hid ((HB.out).trans (hb.mono (by first | omega | exact Nat.le_refl _)))
    clear hb
    have O6 := Lib.hid (OwnI.of o)
    clear o
    go_wp2_with (go_at_call 18; refine (eqIntS_same b11 b1 _ c11 c1 _ _ (Ints.of_own O6.out.1) (Ints.of_own O1.out.1)).mono ?_; rintro e w13 ⟨rfl, hb⟩; refine Hid.out ?_)
    refine Lib.hid ?_
    -- eqIntS h0 w0
    have HS12 := hb.size
    have O0 := Lib.hid (O0.out.stay (SameIn.of_below hb (by omega)))
    have O1 := Lib.hid (O1.out.stay (SameIn.of_below hb (by omega)))
    have O2 := Lib.hid (O2.out.stay (SameIn.of_below hb (by omega)))
    have O3 := Lib.hid (O3.out.stay (SameIn.of_below hb (by omega)))
    have O4 := Lib.hid (O4.out.stay (SameIn.of_below hb (by omega)))
    have O5 := Lib.hid (O5.out.stay (SameIn.of_below hb (by omega)))
    have O6 := Lib.hid (O6.out.stay (SameIn.of_below hb (by omega)))
    have HB := Lib.hid ((HB.out).trans (hb.mono (by first | omega | exact Nat.le_refl _)))
    clear hb
    go_wp2_with (go_at_call 20; refine (heldIntS_marks b3 _ c3 _ _ (O3.out.intsAt (marks_length _ _)) (by omega) (by omega) (by omega)).mono ?_; rintro e w14 ⟨rfl, rfl⟩; refine Hid.out ?_)
    refine Lib.hid ?_
    -- heldIntS g0
    go_wp2
    go_ret
    exact ⟨rfl, HB.out⟩
  · go_enter Try.func6, Try.ntmps6
    go_wp2
    go_ret
    exact ⟨rfl, Below.refl _ _⟩
set_option maxRecDepth 20000 in
set_option maxHeartbeats 4000000 in
theorem wFnExactIsLyndon (a0 : Option Addr) (len0 cap0 : Nat) (z0 : List Int) (w : World) (w0 : IsRow .i64 w a0 len0 cap0 z0) : Calls Try.prog 7 #[.slice a0 len0 cap0] w fun e w' => e = .returned (.bool true) ∧ Below w.heap.size w w' := by
  have q0 := Ints.of_row w0
  have m0 : len0 ≤ 9223372036854775807 := by obtain ⟨_, h2, h3, _⟩ := q0; unfold maxLen at h3; omega
  obtain ⟨y0, ey0⟩ : ∃ y, y = z0.take len0 := ⟨_, rfl⟩
  rw [← ey0] at q0
  clear ey0 w0
  obtain rfl : len0 = y0.length := q0.1.symm
  have Q0 := Lib.hid q0
  clear q0
  by_cases g0 : y0.length ≤ 1048576
  · skip
    go_enter Try.func7, Try.ntmps7
    go_wp2_with (go_at_call 22; refine (toIntS_any a0 y0.length cap0 y0 _ Q0.out (by omega)).mono ?_; rintro e w1 ⟨b0, c0, rfl, o, hb, ln0⟩; refine Hid.out ?_)
    refine Lib.hid ?_
    -- toIntS aW _t0
    have HS0 := hb.size
    have HB := Lib.hid (((Below.refl w.heap.size w)).trans (hb.mono (by first | omega | exact Nat.le_refl _)))
    clear hb
    have O0 := Lib.hid (OwnI.of o)
    clear o
    go_wp2_with (go_at_call 28; refine (sIsLyndon b0 y0.length c0 y0 _ (Ints.of_own O0.out.1)).mono ?_; rintro e w2 ⟨rfl, hb⟩; refine Hid.out ?_)
    refine Lib.hid ?_
    -- spec.IsLyndon ['_t0']
    have HS1 := hb.size
    have O0 := Lib.hid (O0.out.stay (SameIn.of_below hb (by omega)))
    have HB := Lib.hid ((HB.out).trans (hb.mono (by first | omega | exact Nat.le_refl _)))
    clear hb
    go_wp2_with (go_at_call 22; refine (toIntS_any a0 y0.length cap0 y0 _ (Q0.out.below HB.out) (by omega)).mono ?_; rintro e w3 ⟨b2, c2, rfl, o, hb, ln2⟩; refine Hid.out ?_)
    refine Lib.hid ?_
    -- toIntS aW x0
    have HS2 := hb.size
    have O0 := Lib.hid (O0.out.stay (SameIn.of_below hb (by omega)))
    have HB := Lib.hid ((HB.out).trans (hb.mono (by first | omega | exact Nat.le_refl _)))
    clear hb
    have O1 := Lib.hid (OwnI.of o)
    clear o
    go_wp2_with (go_at_call 29; refine (iIsLyndon b2 y0.length c2 y0 _ (Ints.of_own O1.out.1)).mono ?_; rintro e w4 ⟨rfl, hb⟩; refine Hid.out ?_)
    refine Lib.hid ?_
    -- impl.IsLyndon ['x0']
    have HS3 := hb.size
    have O0 := Lib.hid (O0.out.stay (SameIn.of_below hb (by omega)))
    have O1 := Lib.hid (O1.out.stay (SameIn.of_below hb (by omega)))
    have HB := Lib.hid ((HB.out).trans (hb.mono (by first | omega | exact Nat.le_refl _)))
    clear hb
    go_wp2_with (go_at_call 22; refine (toIntS_any a0 y0.length cap0 y0 _ (Q0.out.below HB.out) (by omega)).mono ?_; rintro e w5 ⟨b4, c4, rfl, o, hb, ln4⟩; refine Hid.out ?_)
    refine Lib.hid ?_
    -- toIntS aW _t2
    have HS4 := hb.size
    have O0 := Lib.hid (O0.out.stay (SameIn.of_below hb (by omega)))
    have O1 := Lib.hid (O1.out.stay (SameIn.of_below hb (by omega)))
    have HB := Lib.hid ((HB.out).trans (hb.mono (by first | omega | exact Nat.le_refl _)))
    clear hb
    have O2 := Lib.hid (OwnI.of o)
    clear o
    go_wp2_with (go_at_call 18; refine (eqIntS_same b2 b4 _ c2 c4 _ _ (Ints.of_own O1.out.1) (Ints.of_own O2.out.1)).mono ?_; rintro e w6 ⟨rfl, hb⟩; refine Hid.out ?_)
    refine Lib.hid ?_
    -- eqIntS x0 _t2
    have HS5 := hb.size
    have O0 := Lib.hid (O0.out.stay (SameIn.of_below hb (by omega)))
    have O1 := Lib.hid (O1.out.stay (SameIn.of_below hb (by omega)))
    have O2 := Lib.hid (O2.out.stay (SameIn.of_below hb (by omega)))
    have HB := Lib.hid ((HB.out).trans (hb.mono (by first | omega | exact Nat.le_refl _)))
    clear hb
    go_wp2
    go_ret
    exact ⟨rfl, HB.out⟩
  · go_enter Try.func7, Try.ntmps7
    go_wp2
    go_ret
    exact ⟨rfl, Below.refl _ _⟩
end Go.Proofs.Ytfmpnkckaceigaa

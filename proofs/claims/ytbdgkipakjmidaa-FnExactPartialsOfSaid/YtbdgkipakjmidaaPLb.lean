/- Walks of exact laws. -/
import Derived.Test.YtbdgkipakjmidaaPI
import Derived.Test.YtbdgkipakjmidaaPS3
import Derived.Test.YtbdgkipakjmidaaRowL
namespace Go.Proofs.Ytbdgkipakjmidaa
open Go.RowKit

set_option maxRecDepth 20000 in
set_option maxHeartbeats 4000000 in
theorem wFnExactPartialsOf (a0 : Option Addr) (len0 cap0 : Nat) (z0 : List Int) (a1 : Option Addr) (len1 cap1 : Nat) (z1 : List Int) (w : World) (w0 : IsRow .i64 w a0 len0 cap0 z0) (w1 : IsRow .i64 w a1 len1 cap1 z1) : Calls Try.prog 8 #[.slice a0 len0 cap0, .slice a1 len1 cap1] w fun e w' => e = .returned (.bool true) ∧ Below w.heap.size w w' := by
  have q0 := Ints.of_row w0
  have m0 : len0 ≤ 9223372036854775807 := by obtain ⟨_, h2, h3, _⟩ := q0; unfold maxLen at h3; omega
  obtain ⟨y0, ey0⟩ : ∃ y, y = z0.take len0 := ⟨_, rfl⟩
  rw [← ey0] at q0
  clear ey0 w0
  obtain rfl : len0 = y0.length := q0.1.symm
  have Q0 := Lib.hid q0
  clear q0
  have q1 := Ints.of_row w1
  have m1 : len1 ≤ 9223372036854775807 := by obtain ⟨_, h2, h3, _⟩ := q1; unfold maxLen at h3; omega
  obtain ⟨y1, ey1⟩ : ∃ y, y = z1.take len1 := ⟨_, rfl⟩
  rw [← ey1] at q1
  clear ey1 w1
  obtain rfl : len1 = y1.length := q1.1.symm
  have Q1 := Lib.hid q1
  clear q1
  by_cases g0 : y0.length ≤ 1048576
  · skip
    by_cases g1 : y1.length ≤ 1048576
    · skip
      go_enter Try.func8, Try.ntmps8
      go_wp2_with (go_at_call 36; refine (toIntS_any a0 y0.length cap0 y0 _ Q0.out (by omega)).mono ?_; rintro e w1 ⟨b0, c0, rfl, o, hb, ln0⟩; refine Hid.out ?_)
      refine Lib.hid ?_
      -- toIntS aA _t0
      have HS0 := hb.size
      have HB := Lib.hid (((Below.refl w.heap.size w)).trans (hb.mono (by first | omega | exact Nat.le_refl _)))
      clear hb
      have O0 := Lib.hid (OwnI.of o)
      clear o
      go_wp2_with (go_at_call 36; refine (toIntS_any a1 y1.length cap1 y1 _ (Q1.out.below HB.out) (by omega)).mono ?_; rintro e w2 ⟨b1, c1, rfl, o, hb, ln1⟩; refine Hid.out ?_)
      refine Lib.hid ?_
      -- toIntS aB _t1
      have HS1 := hb.size
      have O0 := Lib.hid (O0.out.stay (SameIn.of_below hb (by omega)))
      have HB := Lib.hid ((HB.out).trans (hb.mono (by first | omega | exact Nat.le_refl _)))
      clear hb
      have O1 := Lib.hid (OwnI.of o)
      clear o
      go_wp2_with (go_at_call 35; refine (sPartialsOf b0 y0.length c0 y0 b1 y1.length c1 y1 _ (Ints.of_own O0.out.1) (Ints.of_own O1.out.1)).mono ?_; rintro e w3 ⟨v2, rfl, o, hb⟩; obtain ⟨b2, c2, rfl, -⟩ := o.rows; refine Hid.out ?_)
      refine Lib.hid ?_
      -- spec.PartialsOf ['_t0', '_t1'] ['w0', 'w1']
      have HS2 := hb.size
      have O0 := Lib.hid (O0.out.stay (SameIn.of_below hb (by omega)))
      have O1 := Lib.hid (O1.out.stay (SameIn.of_below hb (by omega)))
      have HB := Lib.hid ((HB.out).trans (hb.mono (by first | omega | exact Nat.le_refl _)))
      clear hb
      have O2 := Lib.hid (o)
      clear o
      go_wp2_with (go_at_call 36; refine (toIntS_any a0 y0.length cap0 y0 _ (Q0.out.below HB.out) (by omega)).mono ?_; rintro e w4 ⟨b3, c3, rfl, o, hb, ln3⟩; refine Hid.out ?_)
      refine Lib.hid ?_
      -- toIntS aA x0
      have HS3 := hb.size
      have O0 := Lib.hid (O0.out.stay (SameIn.of_below hb (by omega)))
      have O1 := Lib.hid (O1.out.stay (SameIn.of_below hb (by omega)))
      have O2 := Lib.hid (O2.out.stay (SameIn.of_below hb (by omega)))
      have HB := Lib.hid ((HB.out).trans (hb.mono (by first | omega | exact Nat.le_refl _)))
      clear hb
      have O3 := Lib.hid (OwnI.of o)
      clear o
      go_wp2_with (go_at_call 36; refine (toIntS_any a1 y1.length cap1 y1 _ (Q1.out.below HB.out) (by omega)).mono ?_; rintro e w5 ⟨b4, c4, rfl, o, hb, ln4⟩; refine Hid.out ?_)
      refine Lib.hid ?_
      -- toIntS aB x1
      have HS4 := hb.size
      have O0 := Lib.hid (O0.out.stay (SameIn.of_below hb (by omega)))
      have O1 := Lib.hid (O1.out.stay (SameIn.of_below hb (by omega)))
      have O2 := Lib.hid (O2.out.stay (SameIn.of_below hb (by omega)))
      have O3 := Lib.hid (O3.out.stay (SameIn.of_below hb (by omega)))
      have HB := Lib.hid ((HB.out).trans (hb.mono (by first | omega | exact Nat.le_refl _)))
      clear hb
      have O4 := Lib.hid (OwnI.of o)
      clear o
      go_wp2_with (go_at_call 19; refine (iPartialsOf b3 y0.length c3 y0 b4 y1.length c4 y1 _ (Ints.of_own O3.out.1) (Ints.of_own O4.out.1)).mono ?_; rintro e w6 ⟨v5, rfl, o, hb⟩; obtain ⟨b5, c5, rfl, -⟩ := o.rows; refine Hid.out ?_)
      refine Lib.hid ?_
      -- impl.PartialsOf ['x0', 'x1'] ['g0', 'g1']
      have HS5 := hb.size
      have O0 := Lib.hid (O0.out.stay (SameIn.of_below hb (by omega)))
      have O1 := Lib.hid (O1.out.stay (SameIn.of_below hb (by omega)))
      have O2 := Lib.hid (O2.out.stay (SameIn.of_below hb (by omega)))
      have O3 := Lib.hid (O3.out.stay (SameIn.of_below hb (by omega)))
      have O4 := Lib.hid (O4.out.stay (SameIn.of_below hb (by omega)))
      have HB := Lib.hid ((HB.out).trans (hb.mono (by first | omega | exact Nat.le_refl _)))
      clear hb
      have O5 := Lib.hid (o)
      clear o
      go_wp2_with (go_at_call 37; refine (eqIntSS_same b5 b2 _ c5 c2 _ _ (O5.out.rowsAt rfl) (O2.out.rowsAt rfl)).mono ?_; rintro e w7 ⟨rfl, hb⟩; refine Hid.out ?_)
      refine Lib.hid ?_
      -- eqIntSS g0 w0
      have HS6 := hb.size
      have O0 := Lib.hid (O0.out.stay (SameIn.of_below hb (by omega)))
      have O1 := Lib.hid (O1.out.stay (SameIn.of_below hb (by omega)))
      have O2 := Lib.hid (O2.out.stay (SameIn.of_below hb (by omega)))
      have O3 := Lib.hid (O3.out.stay (SameIn.of_below hb (by omega)))
      have O4 := Lib.hid (O4.out.stay (SameIn.of_below hb (by omega)))
      have O5 := Lib.hid (O5.out.stay (SameIn.of_below hb (by omega)))
      have HB := Lib.hid ((HB.out).trans (hb.mono (by first | omega | exact Nat.le_refl _)))
      clear hb
      go_wp2_with (go_at_call 36; refine (toIntS_any a0 y0.length cap0 y0 _ (Q0.out.below HB.out) (by omega)).mono ?_; rintro e w8 ⟨b7, c7, rfl, o, hb, ln7⟩; refine Hid.out ?_)
      refine Lib.hid ?_
      -- toIntS aA _t6
      have HS7 := hb.size
      have O0 := Lib.hid (O0.out.stay (SameIn.of_below hb (by omega)))
      have O1 := Lib.hid (O1.out.stay (SameIn.of_below hb (by omega)))
      have O2 := Lib.hid (O2.out.stay (SameIn.of_below hb (by omega)))
      have O3 := Lib.hid (O3.out.stay (SameIn.of_below hb (by omega)))
      have O4 := Lib.hid (O4.out.stay (SameIn.of_below hb (by omega)))
      have O5 := Lib.hid (O5.out.stay (SameIn.of_below hb (by omega)))
      have HB := Lib.hid ((HB.out).trans (hb.mono (by first | omega | exact Nat.le_refl _)))
      clear hb
      have O6 := Lib.hid (OwnI.of o)
      clear o
      go_wp2_with (go_at_call 38; refine (eqIntS_same b3 b7 _ c3 c7 _ _ (Ints.of_own O3.out.1) (Ints.of_own O6.out.1)).mono ?_; rintro e w9 ⟨rfl, hb⟩; refine Hid.out ?_)
      refine Lib.hid ?_
      -- eqIntS x0 _t6
      have HS8 := hb.size
      have O0 := Lib.hid (O0.out.stay (SameIn.of_below hb (by omega)))
      have O1 := Lib.hid (O1.out.stay (SameIn.of_below hb (by omega)))
      have O2 := Lib.hid (O2.out.stay (SameIn.of_below hb (by omega)))
      have O3 := Lib.hid (O3.out.stay (SameIn.of_below hb (by omega)))
      have O4 := Lib.hid (O4.out.stay (SameIn.of_below hb (by omega)))
      have O5 := Lib.hid (O5.out.stay (SameIn.of_below hb (by omega)))
      have O6 := Lib.hid (O6.out.stay (SameIn.of_below hb (by omega)))
      have HB := Lib.hid ((HB.out).trans (hb.mono (by first | omega | exact Nat.le_refl _)))
      clear hb
      go_wp2_with (go_at_call 36; refine (toIntS_any a1 y1.length cap1 y1 _ (Q1.out.below HB.out) (by omega)).mono ?_; rintro e w10 ⟨b9, c9, rfl, o, hb, ln9⟩; refine Hid.out ?_)
      refine Lib.hid ?_
      -- toIntS aB _t7
      have HS9 := hb.size
      have O0 := Lib.hid (O0.out.stay (SameIn.of_below hb (by omega)))
      have O1 := Lib.hid (O1.out.stay (SameIn.of_below hb (by omega)))
      have O2 := Lib.hid (O2.out.stay (SameIn.of_below hb (by omega)))
      have O3 := Lib.hid (O3.out.stay (SameIn.of_below hb (by omega)))
      have O4 := Lib.hid (O4.out.stay (SameIn.of_below hb (by omega)))
      have O5 := Lib.hid (O5.out.stay (SameIn.of_below hb (by omega)))
      have O6 := Lib.hid (O6.out.stay (SameIn.of_below hb (by omega)))
      have HB := Lib.hid ((HB.out).trans (hb.mono (by first | omega | exact Nat.le_refl _)))
      clear hb
      have O7 := Lib.hid (OwnI.of o)
      clear o
      go_wp2_with (go_at_call 38; refine (eqIntS_same b4 b9 _ c4 c9 _ _ (Ints.of_own O4.out.1) (Ints.of_own O7.out.1)).mono ?_; rintro e w11 ⟨rfl, hb⟩; refine Hid.out ?_)
      refine Lib.hid ?_
      -- eqIntS x1 _t7
      have HS10 := hb.size
      have O0 := Lib.hid (O0.out.stay (SameIn.of_below hb (by omega)))
      have O1 := Lib.hid (O1.out.stay (SameIn.of_below hb (by omega)))
      have O2 := Lib.hid (O2.out.stay (SameIn.of_below hb (by omega)))
      have O3 := Lib.hid (O3.out.stay (SameIn.of_below hb (by omega)))
      have O4 := Lib.hid (O4.out.stay (SameIn.of_below hb (by omega)))
      have O5 := Lib.hid (O5.out.stay (SameIn.of_below hb (by omega)))
      have O6 := Lib.hid (O6.out.stay (SameIn.of_below hb (by omega)))
      have O7 := Lib.hid (O7.out.stay (SameIn.of_below hb (by omega)))
      have HB := Lib.hid ((HB.out).trans (hb.mono (by first | omega | exact Nat.le_refl _)))
      clear hb
      go_wp2_with (go_at_call 39; refine (markIntS_any _ b3 _ c3 _ _ _ rfl O3.out.1 (by omega) (by omega) (by omega)).mono ?_; rintro e w12 ⟨rfl, o, hg, hz⟩; refine Hid.out ?_)
      refine Lib.hid ?_
      -- markIntS x0
      have ho := Only.of_row hg hz O3.out.lt
      have o2 : OwnI _ _ _ _ _ _ := ⟨(by rw [marks_length]; exact o), O3.out.2⟩
      clear o hg hz
      have HS11 := ho.size
      have HB := Lib.hid (Only.below HB.out ho (by omega) (by omega))
      have O0 := Lib.hid (O0.out.stay (SameIn.of_only ho (by omega) (by omega)))
      have O1 := Lib.hid (O1.out.stay (SameIn.of_only ho (by omega) (by omega)))
      have O2 := Lib.hid (O2.out.stay (SameIn.of_only ho (by omega) (by omega)))
      have O4 := Lib.hid (O4.out.stay (SameIn.of_only ho (by omega) (by omega)))
      have O5 := Lib.hid (O5.out.stay (SameIn.of_only ho (by omega) (by omega)))
      have O6 := Lib.hid (O6.out.stay (SameIn.of_only ho (by omega) (by omega)))
      have O7 := Lib.hid (O7.out.stay (SameIn.of_only ho (by omega) (by omega)))
      have O3 := Lib.hid o2
      clear o2 ho
      go_wp2_with (go_at_call 39; refine (markIntS_any _ b4 _ c4 _ _ _ rfl O4.out.1 (by omega) (by omega) (by omega)).mono ?_; rintro e w13 ⟨rfl, o, hg, hz⟩; refine Hid.out ?_)
      refine Lib.hid ?_
      -- markIntS x1
      have ho := Only.of_row hg hz O4.out.lt
      have o2 : OwnI _ _ _ _ _ _ := ⟨(by rw [marks_length]; exact o), O4.out.2⟩
      clear o hg hz
      have HS12 := ho.size
      have HB := Lib.hid (Only.below HB.out ho (by omega) (by omega))
      have O0 := Lib.hid (O0.out.stay (SameIn.of_only ho (by omega) (by omega)))
      have O1 := Lib.hid (O1.out.stay (SameIn.of_only ho (by omega) (by omega)))
      have O2 := Lib.hid (O2.out.stay (SameIn.of_only ho (by omega) (by omega)))
      have O3 := Lib.hid (O3.out.stay (SameIn.of_only ho (by omega) (by omega)))
      have O5 := Lib.hid (O5.out.stay (SameIn.of_only ho (by omega) (by omega)))
      have O6 := Lib.hid (O6.out.stay (SameIn.of_only ho (by omega) (by omega)))
      have O7 := Lib.hid (O7.out.stay (SameIn.of_only ho (by omega) (by omega)))
      have O4 := Lib.hid o2
      clear o2 ho
      go_wp2_with (go_at_call 37; refine (eqIntSS_same b5 b2 _ c5 c2 _ _ (O5.out.rowsAt rfl) (O2.out.rowsAt rfl)).mono ?_; rintro e w14 ⟨rfl, hb⟩; refine Hid.out ?_)
      refine Lib.hid ?_
      -- eqIntSS g0 w0
      have HS13 := hb.size
      have O0 := Lib.hid (O0.out.stay (SameIn.of_below hb (by omega)))
      have O1 := Lib.hid (O1.out.stay (SameIn.of_below hb (by omega)))
      have O2 := Lib.hid (O2.out.stay (SameIn.of_below hb (by omega)))
      have O3 := Lib.hid (O3.out.stay (SameIn.of_below hb (by omega)))
      have O4 := Lib.hid (O4.out.stay (SameIn.of_below hb (by omega)))
      have O5 := Lib.hid (O5.out.stay (SameIn.of_below hb (by omega)))
      have O6 := Lib.hid (O6.out.stay (SameIn.of_below hb (by omega)))
      have O7 := Lib.hid (O7.out.stay (SameIn.of_below hb (by omega)))
      have HB := Lib.hid ((HB.out).trans (hb.mono (by first | omega | exact Nat.le_refl _)))
      clear hb
      go_wp2_with (go_at_call 40; refine (markIntSS_any _ _ b5 _ c5 _ _ _ rfl O5.out (parts_small y0 y1) (by omega) (by omega)).mono ?_; rintro e w15 ⟨rfl, o2, ho⟩; refine Hid.out ?_)
      refine Lib.hid ?_
      -- markIntSS g0
      have HS14 := ho.size
      have HB := Lib.hid (Only.below HB.out ho (by omega) (by omega))
      have O0 := Lib.hid (O0.out.stay (SameIn.of_only ho (by omega) (by omega)))
      have O1 := Lib.hid (O1.out.stay (SameIn.of_only ho (by omega) (by omega)))
      have O2 := Lib.hid (O2.out.stay (SameIn.of_only ho (by omega) (by omega)))
      have O3 := Lib.hid (O3.out.stay (SameIn.of_only ho (by omega) (by omega)))
      have O4 := Lib.hid (O4.out.stay (SameIn.of_only ho (by omega) (by omega)))
      have O6 := Lib.hid (O6.out.stay (SameIn.of_only ho (by omega) (by omega)))
      have O7 := Lib.hid (O7.out.stay (SameIn.of_only ho (by omega) (by omega)))
      have O5 := Lib.hid o2
      clear o2 ho
      go_wp2_with (go_at_call 41; refine (heldIntSS_marks b5 _ c5 _ _ _ (O5.out.rowsAt (by rw [mkL_length])) (parts_small y0 y1) (by omega) (by omega)).mono ?_; rintro e w16 ⟨rfl, rfl⟩; refine Hid.out ?_)
      refine Lib.hid ?_
      -- heldIntSS g0
      go_wp2_with (go_at_call 36; refine (toIntS_any a0 y0.length cap0 y0 _ (Q0.out.below HB.out) (by omega)).mono ?_; rintro e w16 ⟨b15, c15, rfl, o, hb, ln15⟩; refine Hid.out ?_)
      refine Lib.hid ?_
      -- toIntS aA _t8
      have HS15 := hb.size
      have O0 := Lib.hid (O0.out.stay (SameIn.of_below hb (by omega)))
      have O1 := Lib.hid (O1.out.stay (SameIn.of_below hb (by omega)))
      have O2 := Lib.hid (O2.out.stay (SameIn.of_below hb (by omega)))
      have O3 := Lib.hid (O3.out.stay (SameIn.of_below hb (by omega)))
      have O4 := Lib.hid (O4.out.stay (SameIn.of_below hb (by omega)))
      have O5 := Lib.hid (O5.out.stay (SameIn.of_below hb (by omega)))
      have O6 := Lib.hid (O6.out.stay (SameIn.of_below hb (by omega)))
      have O7 := Lib.hid (O7.out.stay (SameIn.of_below hb (by omega)))
      have HB := Lib.hid ((HB.out).trans (hb.mono (by first | omega | exact Nat.le_refl _)))
      clear hb
      have O8 := Lib.hid (OwnI.of o)
      clear o
      go_wp2_with (go_at_call 36; refine (toIntS_any a1 y1.length cap1 y1 _ (Q1.out.below HB.out) (by omega)).mono ?_; rintro e w17 ⟨b16, c16, rfl, o, hb, ln16⟩; refine Hid.out ?_)
      refine Lib.hid ?_
      -- toIntS aB _t9
      have HS16 := hb.size
      have O0 := Lib.hid (O0.out.stay (SameIn.of_below hb (by omega)))
      have O1 := Lib.hid (O1.out.stay (SameIn.of_below hb (by omega)))
      have O2 := Lib.hid (O2.out.stay (SameIn.of_below hb (by omega)))
      have O3 := Lib.hid (O3.out.stay (SameIn.of_below hb (by omega)))
      have O4 := Lib.hid (O4.out.stay (SameIn.of_below hb (by omega)))
      have O5 := Lib.hid (O5.out.stay (SameIn.of_below hb (by omega)))
      have O6 := Lib.hid (O6.out.stay (SameIn.of_below hb (by omega)))
      have O7 := Lib.hid (O7.out.stay (SameIn.of_below hb (by omega)))
      have O8 := Lib.hid (O8.out.stay (SameIn.of_below hb (by omega)))
      have HB := Lib.hid ((HB.out).trans (hb.mono (by first | omega | exact Nat.le_refl _)))
      clear hb
      have O9 := Lib.hid (OwnI.of o)
      clear o
      go_wp2_with (go_at_call 19; refine (iPartialsOf b15 y0.length c15 y0 b16 y1.length c16 y1 _ (Ints.of_own O8.out.1) (Ints.of_own O9.out.1)).mono ?_; rintro e w18 ⟨v17, rfl, o, hb⟩; obtain ⟨b17, c17, rfl, -⟩ := o.rows; refine Hid.out ?_)
      refine Lib.hid ?_
      -- impl.PartialsOf ['_t8', '_t9'] ['h0', 'h1']
      have HS17 := hb.size
      have O0 := Lib.hid (O0.out.stay (SameIn.of_below hb (by omega)))
      have O1 := Lib.hid (O1.out.stay (SameIn.of_below hb (by omega)))
      have O2 := Lib.hid (O2.out.stay (SameIn.of_below hb (by omega)))
      have O3 := Lib.hid (O3.out.stay (SameIn.of_below hb (by omega)))
      have O4 := Lib.hid (O4.out.stay (SameIn.of_below hb (by omega)))
      have O5 := Lib.hid (O5.out.stay (SameIn.of_below hb (by omega)))
      have O6 := Lib.hid (O6.out.stay (SameIn.of_below hb (by omega)))
      have O7 := Lib.hid (O7.out.stay (SameIn.of_below hb (by omega)))
      have O8 := Lib.hid (O8.out.stay (SameIn.of_below hb (by omega)))
      have O9 := Lib.hid (O9.out.stay (SameIn.of_below hb (by omega)))
      have HB := Lib.hid ((HB.out).trans (hb.mono (by first | omega | exact Nat.le_refl _)))
      clear hb
      have O10 := Lib.hid (o)
      clear o
      go_wp2_with (go_at_call 37; refine (eqIntSS_same b17 b2 _ c17 c2 _ _ (O10.out.rowsAt rfl) (O2.out.rowsAt rfl)).mono ?_; rintro e w19 ⟨rfl, hb⟩; refine Hid.out ?_)
      refine Lib.hid ?_
      -- eqIntSS h0 w0
      have HS18 := hb.size
      have O0 := Lib.hid (O0.out.stay (SameIn.of_below hb (by omega)))
      have O1 := Lib.hid (O1.out.stay (SameIn.of_below hb (by omega)))
      have O2 := Lib.hid (O2.out.stay (SameIn.of_below hb (by omega)))
      have O3 := Lib.hid (O3.out.stay (SameIn.of_below hb (by omega)))
      have O4 := Lib.hid (O4.out.stay (SameIn.of_below hb (by omega)))
      have O5 := Lib.hid (O5.out.stay (SameIn.of_below hb (by omega)))
      have O6 := Lib.hid (O6.out.stay (SameIn.of_below hb (by omega)))
      have O7 := Lib.hid (O7.out.stay (SameIn.of_below hb (by omega)))
      have O8 := Lib.hid (O8.out.stay (SameIn.of_below hb (by omega)))
      have O9 := Lib.hid (O9.out.stay (SameIn.of_below hb (by omega)))
      have O10 := Lib.hid (O10.out.stay (SameIn.of_below hb (by omega)))
      have HB := Lib.hid ((HB.out).trans (hb.mono (by first | omega | exact Nat.le_refl _)))
      clear hb
      go_wp2_with (go_at_call 41; refine (heldIntSS_marks b5 _ c5 _ _ _ (O5.out.rowsAt (by rw [mkL_length])) (parts_small y0 y1) (by omega) (by omega)).mono ?_; rintro e w20 ⟨rfl, rfl⟩; refine Hid.out ?_)
      refine Lib.hid ?_
      -- heldIntSS g0
      go_wp2
      go_ret
      exact ⟨rfl, HB.out⟩
    · go_enter Try.func8, Try.ntmps8
      go_wp2
      go_ret
      exact ⟨rfl, Below.refl _ _⟩
  · go_enter Try.func8, Try.ntmps8
    go_wp2
    go_ret
    exact ⟨rfl, Below.refl _ _⟩
end Go.Proofs.Ytbdgkipakjmidaa

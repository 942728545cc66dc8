/- The walks of exact laws over integers, texts and slices of integers. -/
import Derived.Test.YtbdgkipakjmidaaPI
import Derived.Test.YtbdgkipakjmidaaPS
import Derived.Test.YtbdgkipakjmidaaRow
namespace Go.Proofs.Ytbdgkipakjmidaa
open Go.RowKit

set_option maxRecDepth 20000 in
set_option maxHeartbeats 4000000 in
theorem wFnExactDivideWords (a0 : Option Addr) (len0 cap0 : Nat) (z0 : List Int) (a1 : Option Addr) (len1 cap1 : Nat) (z1 : List Int) (w : World) (w0 : IsRow .i64 w a0 len0 cap0 z0) (w1 : IsRow .i64 w a1 len1 cap1 z1) : Calls Try.prog 10 #[.slice a0 len0 cap0, .slice a1 len1 cap1] w fun e w' => e = .returned (.bool true) ∧ Below w.heap.size w w' := by
  have q0 := Ints.of_row w0
  have m0 : len0 ≤ 9223372036854775807 := by obtain ⟨_, h2, h3, _⟩ := q0; unfold maxLen at h3; omega
  have q1 := Ints.of_row w1
  have m1 : len1 ≤ 9223372036854775807 := by obtain ⟨_, h2, h3, _⟩ := q1; unfold maxLen at h3; omega
  by_cases g0 : len0 ≤ 1048576
  · skip
    by_cases g1 : len1 ≤ 1048576
    · skip
      obtain ⟨y0, ey0⟩ : ∃ y, y = z0.take len0 := ⟨_, rfl⟩
      rw [← ey0] at q0
      clear ey0 w0
      obtain rfl : len0 = y0.length := q0.1.symm
      have Q0 := Lib.hid q0
      clear q0
      obtain ⟨y1, ey1⟩ : ∃ y, y = z1.take len1 := ⟨_, rfl⟩
      rw [← ey1] at q1
      clear ey1 w1
      obtain rfl : len1 = y1.length := q1.1.symm
      have Q1 := Lib.hid q1
      clear q1
      go_enter Try.func10, Try.ntmps10
      go_wp2_with (go_at_call 36; refine (toIntS_any a0 y0.length cap0 y0 _ Q0.out (by omega)).mono ?_; rintro e w1 ⟨b0, c0, rfl, o, hb, ln0⟩; refine Hid.out ?_)
      refine Lib.hid ?_
      -- toIntS ['aA'] _t0_0
      have HS0 := hb.size
      have HB := Lib.hid (((Below.refl w.heap.size w)).trans (hb.mono (by first | omega | exact Nat.le_refl _)))
      have O0 := Lib.hid o
      have LX0 := Lib.hid o.lt
      clear o
      clear hb
      go_wp2_with (go_at_call 36; refine (toIntS_any a1 y1.length cap1 y1 _ (Q1.out.below HB.out) (by omega)).mono ?_; rintro e w2 ⟨b1, c1, rfl, o, hb, ln1⟩; refine Hid.out ?_)
      refine Lib.hid ?_
      -- toIntS ['aD'] _t1_0
      have HS1 := hb.size
      have O0 := Lib.hid (own_below O0.out hb)
      have HB := Lib.hid ((HB.out).trans (hb.mono (by first | omega | exact Nat.le_refl _)))
      have O1 := Lib.hid o
      have LX1 := Lib.hid o.lt
      clear o
      clear hb
      go_wp2_with (go_at_call 44; refine (sDivideWords b0 y0.length c0 y0 b1 y1.length c1 y1 _ (Ints.of_own O0.out) (Ints.of_own O1.out)).mono ?_; rintro e w3 ⟨b2, c2, bb2, cc2, rfl, o, o2, ap, hb, ln2, lm2⟩; refine Hid.out ?_)
      refine Lib.hid ?_
      -- spec.DivideWords ['_t0_0', '_t1_0'] w0
      have HS2 := hb.size
      have O0 := Lib.hid (own_below O0.out hb)
      have O1 := Lib.hid (own_below O1.out hb)
      have HB := Lib.hid ((HB.out).trans (hb.mono (by first | omega | exact Nat.le_refl _)))
      have O2 := Lib.hid o
      have LX2 := Lib.hid o.lt
      clear o
      have P2 := Lib.hid o2
      have LY2 := Lib.hid o2.lt
      have AP2 := Lib.hid ap
      clear o2 ap
      clear hb
      go_wp2_with (go_at_call 36; refine (toIntS_any a0 y0.length cap0 y0 _ (Q0.out.below HB.out) (by omega)).mono ?_; rintro e w4 ⟨b3, c3, rfl, o, hb, ln3⟩; refine Hid.out ?_)
      refine Lib.hid ?_
      -- toIntS ['aA'] x0
      have HS3 := hb.size
      have O0 := Lib.hid (own_below O0.out hb)
      have O1 := Lib.hid (own_below O1.out hb)
      have O2 := Lib.hid (own_below O2.out hb)
      have P2 := Lib.hid (own_below P2.out hb)
      have HB := Lib.hid ((HB.out).trans (hb.mono (by first | omega | exact Nat.le_refl _)))
      have O3 := Lib.hid o
      have LX3 := Lib.hid o.lt
      clear o
      clear hb
      go_wp2_with (go_at_call 36; refine (toIntS_any a1 y1.length cap1 y1 _ (Q1.out.below HB.out) (by omega)).mono ?_; rintro e w5 ⟨b4, c4, rfl, o, hb, ln4⟩; refine Hid.out ?_)
      refine Lib.hid ?_
      -- toIntS ['aD'] x1
      have HS4 := hb.size
      have O0 := Lib.hid (own_below O0.out hb)
      have O1 := Lib.hid (own_below O1.out hb)
      have O2 := Lib.hid (own_below O2.out hb)
      have P2 := Lib.hid (own_below P2.out hb)
      have O3 := Lib.hid (own_below O3.out hb)
      have HB := Lib.hid ((HB.out).trans (hb.mono (by first | omega | exact Nat.le_refl _)))
      have O4 := Lib.hid o
      have LX4 := Lib.hid o.lt
      clear o
      clear hb
      go_wp2_with (go_at_call 30; refine (iDivideWords b3 y0.length c3 y0 b4 y1.length c4 y1 _ (Ints.of_own O3.out) (Ints.of_own O4.out)).mono ?_; rintro e w6 ⟨b5, c5, bb5, cc5, rfl, o, o2, ap, hb, ln5, lm5⟩; refine Hid.out ?_)
      refine Lib.hid ?_
      -- impl.DivideWords ['x0', 'x1'] g0
      have HS5 := hb.size
      have O0 := Lib.hid (own_below O0.out hb)
      have O1 := Lib.hid (own_below O1.out hb)
      have O2 := Lib.hid (own_below O2.out hb)
      have P2 := Lib.hid (own_below P2.out hb)
      have O3 := Lib.hid (own_below O3.out hb)
      have O4 := Lib.hid (own_below O4.out hb)
      have HB := Lib.hid ((HB.out).trans (hb.mono (by first | omega | exact Nat.le_refl _)))
      have O5 := Lib.hid o
      have LX5 := Lib.hid o.lt
      clear o
      have P5 := Lib.hid o2
      have LY5 := Lib.hid o2.lt
      have AP5 := Lib.hid ap
      clear o2 ap
      clear hb
      go_wp2_with (go_at_call 38; refine (eqIntS_same b5 b2 _ c5 c2 _ _ (Ints.of_own O5.out) (Ints.of_own O2.out)).mono ?_; rintro e w7 ⟨rfl, hb⟩; refine Hid.out ?_)
      refine Lib.hid ?_
      -- eqIntS ['g0', 'w0'] None
      have HS6 := hb.size
      have O0 := Lib.hid (own_below O0.out hb)
      have O1 := Lib.hid (own_below O1.out hb)
      have O2 := Lib.hid (own_below O2.out hb)
      have P2 := Lib.hid (own_below P2.out hb)
      have O3 := Lib.hid (own_below O3.out hb)
      have O4 := Lib.hid (own_below O4.out hb)
      have O5 := Lib.hid (own_below O5.out hb)
      have P5 := Lib.hid (own_below P5.out hb)
      have HB := Lib.hid ((HB.out).trans (hb.mono (by first | omega | exact Nat.le_refl _)))
      clear hb
      go_wp2_with (go_at_call 38; refine (eqIntS_same bb5 bb2 _ cc5 cc2 _ _ (Ints.of_own P5.out) (Ints.of_own P2.out)).mono ?_; rintro e w8 ⟨rfl, hb⟩; refine Hid.out ?_)
      refine Lib.hid ?_
      -- eqIntS ['g1', 'w1'] None
      have HS7 := hb.size
      have O0 := Lib.hid (own_below O0.out hb)
      have O1 := Lib.hid (own_below O1.out hb)
      have O2 := Lib.hid (own_below O2.out hb)
      have P2 := Lib.hid (own_below P2.out hb)
      have O3 := Lib.hid (own_below O3.out hb)
      have O4 := Lib.hid (own_below O4.out hb)
      have O5 := Lib.hid (own_below O5.out hb)
      have P5 := Lib.hid (own_below P5.out hb)
      have HB := Lib.hid ((HB.out).trans (hb.mono (by first | omega | exact Nat.le_refl _)))
      clear hb
      go_wp2_with (go_at_call 36; refine (toIntS_any a0 y0.length cap0 y0 _ (Q0.out.below HB.out) (by omega)).mono ?_; rintro e w9 ⟨b8, c8, rfl, o, hb, ln8⟩; refine Hid.out ?_)
      refine Lib.hid ?_
      -- toIntS ['aA'] _t0_8
      have HS8 := hb.size
      have O0 := Lib.hid (own_below O0.out hb)
      have O1 := Lib.hid (own_below O1.out hb)
      have O2 := Lib.hid (own_below O2.out hb)
      have P2 := Lib.hid (own_below P2.out hb)
      have O3 := Lib.hid (own_below O3.out hb)
      have O4 := Lib.hid (own_below O4.out hb)
      have O5 := Lib.hid (own_below O5.out hb)
      have P5 := Lib.hid (own_below P5.out hb)
      have HB := Lib.hid ((HB.out).trans (hb.mono (by first | omega | exact Nat.le_refl _)))
      have O8 := Lib.hid o
      have LX8 := Lib.hid o.lt
      clear o
      clear hb
      go_wp2_with (go_at_call 38; refine (eqIntS_same b3 b8 _ c3 c8 _ _ (Ints.of_own O3.out) (Ints.of_own O8.out)).mono ?_; rintro e w10 ⟨rfl, hb⟩; refine Hid.out ?_)
      refine Lib.hid ?_
      -- eqIntS ['x0', '_t0_8'] None
      have HS9 := hb.size
      have O0 := Lib.hid (own_below O0.out hb)
      have O1 := Lib.hid (own_below O1.out hb)
      have O2 := Lib.hid (own_below O2.out hb)
      have P2 := Lib.hid (own_below P2.out hb)
      have O3 := Lib.hid (own_below O3.out hb)
      have O4 := Lib.hid (own_below O4.out hb)
      have O5 := Lib.hid (own_below O5.out hb)
      have P5 := Lib.hid (own_below P5.out hb)
      have O8 := Lib.hid (own_below O8.out hb)
      have HB := Lib.hid ((HB.out).trans (hb.mono (by first | omega | exact Nat.le_refl _)))
      clear hb
      go_wp2_with (go_at_call 36; refine (toIntS_any a1 y1.length cap1 y1 _ (Q1.out.below HB.out) (by omega)).mono ?_; rintro e w11 ⟨b10, c10, rfl, o, hb, ln10⟩; refine Hid.out ?_)
      refine Lib.hid ?_
      -- toIntS ['aD'] _t0_10
      have HS10 := hb.size
      have O0 := Lib.hid (own_below O0.out hb)
      have O1 := Lib.hid (own_below O1.out hb)
      have O2 := Lib.hid (own_below O2.out hb)
      have P2 := Lib.hid (own_below P2.out hb)
      have O3 := Lib.hid (own_below O3.out hb)
      have O4 := Lib.hid (own_below O4.out hb)
      have O5 := Lib.hid (own_below O5.out hb)
      have P5 := Lib.hid (own_below P5.out hb)
      have O8 := Lib.hid (own_below O8.out hb)
      have HB := Lib.hid ((HB.out).trans (hb.mono (by first | omega | exact Nat.le_refl _)))
      have O10 := Lib.hid o
      have LX10 := Lib.hid o.lt
      clear o
      clear hb
      go_wp2_with (go_at_call 38; refine (eqIntS_same b4 b10 _ c4 c10 _ _ (Ints.of_own O4.out) (Ints.of_own O10.out)).mono ?_; rintro e w12 ⟨rfl, hb⟩; refine Hid.out ?_)
      refine Lib.hid ?_
      -- eqIntS ['x1', '_t0_10'] None
      have HS11 := hb.size
      have O0 := Lib.hid (own_below O0.out hb)
      have O1 := Lib.hid (own_below O1.out hb)
      have O2 := Lib.hid (own_below O2.out hb)
      have P2 := Lib.hid (own_below P2.out hb)
      have O3 := Lib.hid (own_below O3.out hb)
      have O4 := Lib.hid (own_below O4.out hb)
      have O5 := Lib.hid (own_below O5.out hb)
      have P5 := Lib.hid (own_below P5.out hb)
      have O8 := Lib.hid (own_below O8.out hb)
      have O10 := Lib.hid (own_below O10.out hb)
      have HB := Lib.hid ((HB.out).trans (hb.mono (by first | omega | exact Nat.le_refl _)))
      clear hb
      go_wp2_with (go_at_call 39; refine (markIntS_any _ b3 _ c3 _ _ _ rfl O3.out (by omega) (by omega) (by omega)).mono ?_; rintro e w13 ⟨rfl, o, hg, hz⟩; refine Hid.out ?_)
      refine Lib.hid ?_
      -- markIntS ['x0', 'k'] k
      have HS12 : w13.heap.size ≤ w12.heap.size ∧ w12.heap.size ≤ w13.heap.size := by omega
      have HB := Lib.hid ((HB.out).grown hg (by omega) (fun j hj => by have := (LX3.out j hj).1; omega))
      have O0 := Lib.hid (O0.out.kept hg (own_apart LX0.out LX3.out (by omega)))
      have O1 := Lib.hid (O1.out.kept hg (own_apart LX1.out LX3.out (by omega)))
      have O2 := Lib.hid (O2.out.kept hg (own_apart LX2.out LX3.out (by omega)))
      have P2 := Lib.hid (P2.out.kept hg (own_apart LY2.out LX3.out (by omega)))
      have O4 := Lib.hid (O4.out.kept hg (own_apart LX4.out LX3.out (by omega)))
      have O5 := Lib.hid (O5.out.kept hg (own_apart LX5.out LX3.out (by omega)))
      have P5 := Lib.hid (P5.out.kept hg (own_apart LY5.out LX3.out (by omega)))
      have O8 := Lib.hid (O8.out.kept hg (own_apart LX8.out LX3.out (by omega)))
      have O10 := Lib.hid (O10.out.kept hg (own_apart LX10.out LX3.out (by omega)))
      have O3 := Lib.hid o
      clear o hg hz
      go_wp2_with (go_at_call 39; refine (markIntS_any _ b4 _ c4 _ _ _ rfl O4.out (by omega) (by omega) (by omega)).mono ?_; rintro e w14 ⟨rfl, o, hg, hz⟩; refine Hid.out ?_)
      refine Lib.hid ?_
      -- markIntS ['x1', 'k'] k
      have HS13 : w14.heap.size ≤ w13.heap.size ∧ w13.heap.size ≤ w14.heap.size := by omega
      have HB := Lib.hid ((HB.out).grown hg (by omega) (fun j hj => by have := (LX4.out j hj).1; omega))
      have O0 := Lib.hid (O0.out.kept hg (own_apart LX0.out LX4.out (by omega)))
      have O1 := Lib.hid (O1.out.kept hg (own_apart LX1.out LX4.out (by omega)))
      have O2 := Lib.hid (O2.out.kept hg (own_apart LX2.out LX4.out (by omega)))
      have P2 := Lib.hid (P2.out.kept hg (own_apart LY2.out LX4.out (by omega)))
      have O3 := Lib.hid (O3.out.kept hg (own_apart LX3.out LX4.out (by omega)))
      have O5 := Lib.hid (O5.out.kept hg (own_apart LX5.out LX4.out (by omega)))
      have P5 := Lib.hid (P5.out.kept hg (own_apart LY5.out LX4.out (by omega)))
      have O8 := Lib.hid (O8.out.kept hg (own_apart LX8.out LX4.out (by omega)))
      have O10 := Lib.hid (O10.out.kept hg (own_apart LX10.out LX4.out (by omega)))
      have O4 := Lib.hid o
      clear o hg hz
      go_wp2_with (go_at_call 38; refine (eqIntS_same b5 b2 _ c5 c2 _ _ (Ints.of_own O5.out) (Ints.of_own O2.out)).mono ?_; rintro e w15 ⟨rfl, hb⟩; refine Hid.out ?_)
      refine Lib.hid ?_
      -- eqIntS ['g0', 'w0'] None
      have HS14 := hb.size
      have O0 := Lib.hid (own_below O0.out hb)
      have O1 := Lib.hid (own_below O1.out hb)
      have O2 := Lib.hid (own_below O2.out hb)
      have P2 := Lib.hid (own_below P2.out hb)
      have O3 := Lib.hid (own_below O3.out hb)
      have O4 := Lib.hid (own_below O4.out hb)
      have O5 := Lib.hid (own_below O5.out hb)
      have P5 := Lib.hid (own_below P5.out hb)
      have O8 := Lib.hid (own_below O8.out hb)
      have O10 := Lib.hid (own_below O10.out hb)
      have HB := Lib.hid ((HB.out).trans (hb.mono (by first | omega | exact Nat.le_refl _)))
      clear hb
      go_wp2_with (go_at_call 38; refine (eqIntS_same bb5 bb2 _ cc5 cc2 _ _ (Ints.of_own P5.out) (Ints.of_own P2.out)).mono ?_; rintro e w16 ⟨rfl, hb⟩; refine Hid.out ?_)
      refine Lib.hid ?_
      -- eqIntS ['g1', 'w1'] None
      have HS15 := hb.size
      have O0 := Lib.hid (own_below O0.out hb)
      have O1 := Lib.hid (own_below O1.out hb)
      have O2 := Lib.hid (own_below O2.out hb)
      have P2 := Lib.hid (own_below P2.out hb)
      have O3 := Lib.hid (own_below O3.out hb)
      have O4 := Lib.hid (own_below O4.out hb)
      have O5 := Lib.hid (own_below O5.out hb)
      have P5 := Lib.hid (own_below P5.out hb)
      have O8 := Lib.hid (own_below O8.out hb)
      have O10 := Lib.hid (own_below O10.out hb)
      have HB := Lib.hid ((HB.out).trans (hb.mono (by first | omega | exact Nat.le_refl _)))
      clear hb
      go_wp2_with (go_at_call 39; refine (markIntS_any _ b5 _ c5 _ _ _ rfl O5.out (by omega) (by omega) (by omega)).mono ?_; rintro e w17 ⟨rfl, o, hg, hz⟩; refine Hid.out ?_)
      refine Lib.hid ?_
      -- markIntS ['g0', 'm'] m
      have HS16 : w17.heap.size ≤ w16.heap.size ∧ w16.heap.size ≤ w17.heap.size := by omega
      have HB := Lib.hid ((HB.out).grown hg (by omega) (fun j hj => by have := (LX5.out j hj).1; omega))
      have O0 := Lib.hid (O0.out.kept hg (own_apart LX0.out LX5.out (by omega)))
      have O1 := Lib.hid (O1.out.kept hg (own_apart LX1.out LX5.out (by omega)))
      have O2 := Lib.hid (O2.out.kept hg (own_apart LX2.out LX5.out (by omega)))
      have P2 := Lib.hid (P2.out.kept hg (own_apart LY2.out LX5.out (by omega)))
      have O3 := Lib.hid (O3.out.kept hg (own_apart LX3.out LX5.out (by omega)))
      have O4 := Lib.hid (O4.out.kept hg (own_apart LX4.out LX5.out (by omega)))
      have P5 := Lib.hid (P5.out.kept hg (AP5.out.symm.or))
      have O8 := Lib.hid (O8.out.kept hg (own_apart LX8.out LX5.out (by omega)))
      have O10 := Lib.hid (O10.out.kept hg (own_apart LX10.out LX5.out (by omega)))
      have O5 := Lib.hid o
      clear o hg hz
      go_wp2_with (go_at_call 39; refine (markIntS_any _ bb5 _ cc5 _ _ _ rfl P5.out (by omega) (by omega) (by omega)).mono ?_; rintro e w18 ⟨rfl, o, hg, hz⟩; refine Hid.out ?_)
      refine Lib.hid ?_
      -- markIntS ['g1', 'm'] m
      have HS17 : w18.heap.size ≤ w17.heap.size ∧ w17.heap.size ≤ w18.heap.size := by omega
      have HB := Lib.hid ((HB.out).grown hg (by omega) (fun j hj => by have := (LY5.out j hj).1; omega))
      have O0 := Lib.hid (O0.out.kept hg (own_apart LX0.out LY5.out (by omega)))
      have O1 := Lib.hid (O1.out.kept hg (own_apart LX1.out LY5.out (by omega)))
      have O2 := Lib.hid (O2.out.kept hg (own_apart LX2.out LY5.out (by omega)))
      have P2 := Lib.hid (P2.out.kept hg (own_apart LY2.out LY5.out (by omega)))
      have O3 := Lib.hid (O3.out.kept hg (own_apart LX3.out LY5.out (by omega)))
      have O4 := Lib.hid (O4.out.kept hg (own_apart LX4.out LY5.out (by omega)))
      have O5 := Lib.hid (O5.out.kept hg (AP5.out.or))
      have O8 := Lib.hid (O8.out.kept hg (own_apart LX8.out LY5.out (by omega)))
      have O10 := Lib.hid (O10.out.kept hg (own_apart LX10.out LY5.out (by omega)))
      have P5 := Lib.hid o
      clear o hg hz
      go_wp2_with (go_at_call 43; refine (heldIntS_marks b5 _ c5 _ _ (Ints.of_own O5.out) (by omega) (by omega) (by omega)).mono ?_; rintro e w19 ⟨rfl, rfl⟩; refine Hid.out ?_)
      refine Lib.hid ?_
      -- heldIntS ['g0', 'q'] q
      go_wp2_with (go_at_call 43; refine (heldIntS_marks bb5 _ cc5 _ _ (Ints.of_own P5.out) (by omega) (by omega) (by omega)).mono ?_; rintro e w20 ⟨rfl, rfl⟩; refine Hid.out ?_)
      refine Lib.hid ?_
      -- heldIntS ['g1', 'q'] q
      go_wp2_with (go_at_call 36; refine (toIntS_any a0 y0.length cap0 y0 _ (Q0.out.below HB.out) (by omega)).mono ?_; rintro e w21 ⟨b20, c20, rfl, o, hb, ln20⟩; refine Hid.out ?_)
      refine Lib.hid ?_
      -- toIntS ['aA'] _t0_20
      have HS20 := hb.size
      have O0 := Lib.hid (own_below O0.out hb)
      have O1 := Lib.hid (own_below O1.out hb)
      have O2 := Lib.hid (own_below O2.out hb)
      have P2 := Lib.hid (own_below P2.out hb)
      have O3 := Lib.hid (own_below O3.out hb)
      have O4 := Lib.hid (own_below O4.out hb)
      have O5 := Lib.hid (own_below O5.out hb)
      have P5 := Lib.hid (own_below P5.out hb)
      have O8 := Lib.hid (own_below O8.out hb)
      have O10 := Lib.hid (own_below O10.out hb)
      have HB := Lib.hid ((HB.out).trans (hb.mono (by first | omega | exact Nat.le_refl _)))
      have O20 := Lib.hid o
      have LX20 := Lib.hid o.lt
      clear o
      clear hb
      go_wp2_with (go_at_call 36; refine (toIntS_any a1 y1.length cap1 y1 _ (Q1.out.below HB.out) (by omega)).mono ?_; rintro e w22 ⟨b21, c21, rfl, o, hb, ln21⟩; refine Hid.out ?_)
      refine Lib.hid ?_
      -- toIntS ['aD'] _t1_20
      have HS21 := hb.size
      have O0 := Lib.hid (own_below O0.out hb)
      have O1 := Lib.hid (own_below O1.out hb)
      have O2 := Lib.hid (own_below O2.out hb)
      have P2 := Lib.hid (own_below P2.out hb)
      have O3 := Lib.hid (own_below O3.out hb)
      have O4 := Lib.hid (own_below O4.out hb)
      have O5 := Lib.hid (own_below O5.out hb)
      have P5 := Lib.hid (own_below P5.out hb)
      have O8 := Lib.hid (own_below O8.out hb)
      have O10 := Lib.hid (own_below O10.out hb)
      have O20 := Lib.hid (own_below O20.out hb)
      have HB := Lib.hid ((HB.out).trans (hb.mono (by first | omega | exact Nat.le_refl _)))
      have O21 := Lib.hid o
      have LX21 := Lib.hid o.lt
      clear o
      clear hb
      go_wp2_with (go_at_call 30; refine (iDivideWords b20 y0.length c20 y0 b21 y1.length c21 y1 _ (Ints.of_own O20.out) (Ints.of_own O21.out)).mono ?_; rintro e w23 ⟨b22, c22, bb22, cc22, rfl, o, o2, ap, hb, ln22, lm22⟩; refine Hid.out ?_)
      refine Lib.hid ?_
      -- impl.DivideWords ['_t0_20', '_t1_20'] h0
      have HS22 := hb.size
      have O0 := Lib.hid (own_below O0.out hb)
      have O1 := Lib.hid (own_below O1.out hb)
      have O2 := Lib.hid (own_below O2.out hb)
      have P2 := Lib.hid (own_below P2.out hb)
      have O3 := Lib.hid (own_below O3.out hb)
      have O4 := Lib.hid (own_below O4.out hb)
      have O5 := Lib.hid (own_below O5.out hb)
      have P5 := Lib.hid (own_below P5.out hb)
      have O8 := Lib.hid (own_below O8.out hb)
      have O10 := Lib.hid (own_below O10.out hb)
      have O20 := Lib.hid (own_below O20.out hb)
      have O21 := Lib.hid (own_below O21.out hb)
      have HB := Lib.hid ((HB.out).trans (hb.mono (by first | omega | exact Nat.le_refl _)))
      have O22 := Lib.hid o
      have LX22 := Lib.hid o.lt
      clear o
      have P22 := Lib.hid o2
      have LY22 := Lib.hid o2.lt
      have AP22 := Lib.hid ap
      clear o2 ap
      clear hb
      go_wp2_with (go_at_call 38; refine (eqIntS_same b22 b2 _ c22 c2 _ _ (Ints.of_own O22.out) (Ints.of_own O2.out)).mono ?_; rintro e w24 ⟨rfl, hb⟩; refine Hid.out ?_)
      refine Lib.hid ?_
      -- eqIntS ['h0', 'w0'] None
      have HS23 := hb.size
      have O0 := Lib.hid (own_below O0.out hb)
      have O1 := Lib.hid (own_below O1.out hb)
      have O2 := Lib.hid (own_below O2.out hb)
      have P2 := Lib.hid (own_below P2.out hb)
      have O3 := Lib.hid (own_below O3.out hb)
      have O4 := Lib.hid (own_below O4.out hb)
      have O5 := Lib.hid (own_below O5.out hb)
      have P5 := Lib.hid (own_below P5.out hb)
      have O8 := Lib.hid (own_below O8.out hb)
      have O10 := Lib.hid (own_below O10.out hb)
      have O20 := Lib.hid (own_below O20.out hb)
      have O21 := Lib.hid (own_below O21.out hb)
      have O22 := Lib.hid (own_below O22.out hb)
      have P22 := Lib.hid (own_below P22.out hb)
      have HB := Lib.hid ((HB.out).trans (hb.mono (by first | omega | exact Nat.le_refl _)))
      clear hb
      go_wp2_with (go_at_call 38; refine (eqIntS_same bb22 bb2 _ cc22 cc2 _ _ (Ints.of_own P22.out) (Ints.of_own P2.out)).mono ?_; rintro e w25 ⟨rfl, hb⟩; refine Hid.out ?_)
      refine Lib.hid ?_
      -- eqIntS ['h1', 'w1'] None
      have HS24 := hb.size
      have O0 := Lib.hid (own_below O0.out hb)
      have O1 := Lib.hid (own_below O1.out hb)
      have O2 := Lib.hid (own_below O2.out hb)
      have P2 := Lib.hid (own_below P2.out hb)
      have O3 := Lib.hid (own_below O3.out hb)
      have O4 := Lib.hid (own_below O4.out hb)
      have O5 := Lib.hid (own_below O5.out hb)
      have P5 := Lib.hid (own_below P5.out hb)
      have O8 := Lib.hid (own_below O8.out hb)
      have O10 := Lib.hid (own_below O10.out hb)
      have O20 := Lib.hid (own_below O20.out hb)
      have O21 := Lib.hid (own_below O21.out hb)
      have O22 := Lib.hid (own_below O22.out hb)
      have P22 := Lib.hid (own_below P22.out hb)
      have HB := Lib.hid ((HB.out).trans (hb.mono (by first | omega | exact Nat.le_refl _)))
      clear hb
      go_wp2_with (go_at_call 43; refine (heldIntS_marks b5 _ c5 _ _ (Ints.of_own O5.out) (by omega) (by omega) (by omega)).mono ?_; rintro e w26 ⟨rfl, rfl⟩; refine Hid.out ?_)
      refine Lib.hid ?_
      -- heldIntS ['g0', 'q'] q
      go_wp2_with (go_at_call 43; refine (heldIntS_marks bb5 _ cc5 _ _ (Ints.of_own P5.out) (by omega) (by omega) (by omega)).mono ?_; rintro e w27 ⟨rfl, rfl⟩; refine Hid.out ?_)
      refine Lib.hid ?_
      -- heldIntS ['g1', 'q'] q
      go_wp2
      go_ret
      exact ⟨rfl, HB.out⟩
    · go_enter Try.func10, Try.ntmps10
      go_wp2
      go_ret
      exact ⟨rfl, Below.refl _ _⟩
  · go_enter Try.func10, Try.ntmps10
    go_wp2
    go_ret
    exact ⟨rfl, Below.refl _ _⟩
set_option maxRecDepth 20000 in
set_option maxHeartbeats 4000000 in
theorem wFnExactRootWord (a0 : Option Addr) (len0 cap0 : Nat) (z0 : List Int) (w : World) (w0 : IsRow .i64 w a0 len0 cap0 z0) : Calls Try.prog 11 #[.slice a0 len0 cap0] w fun e w' => e = .returned (.bool true) ∧ Below w.heap.size w w' := by
  have q0 := Ints.of_row w0
  have m0 : len0 ≤ 9223372036854775807 := by obtain ⟨_, h2, h3, _⟩ := q0; unfold maxLen at h3; omega
  by_cases g0 : len0 ≤ 1048576
  · skip
    obtain ⟨y0, ey0⟩ : ∃ y, y = z0.take len0 := ⟨_, rfl⟩
    rw [← ey0] at q0
    clear ey0 w0
    obtain rfl : len0 = y0.length := q0.1.symm
    have Q0 := Lib.hid q0
    clear q0
    go_enter Try.func11, Try.ntmps11
    go_wp2_with (go_at_call 36; refine (toIntS_any a0 y0.length cap0 y0 _ Q0.out (by omega)).mono ?_; rintro e w1 ⟨b0, c0, rfl, o, hb, ln0⟩; refine Hid.out ?_)
    refine Lib.hid ?_
    -- toIntS ['aW'] _t0_0
    have HS0 := hb.size
    have HB := Lib.hid (((Below.refl w.heap.size w)).trans (hb.mono (by first | omega | exact Nat.le_refl _)))
    have O0 := Lib.hid o
    have LX0 := Lib.hid o.lt
    clear o
    clear hb
    go_wp2_with (go_at_call 45; refine (sRootWord b0 y0.length c0 y0 _ (Ints.of_own O0.out)).mono ?_; rintro e w2 ⟨b1, c1, bb1, cc1, rfl, o, o2, ap, hb, ln1, lm1⟩; refine Hid.out ?_)
    refine Lib.hid ?_
    -- spec.RootWord ['_t0_0'] w0
    have HS1 := hb.size
    have O0 := Lib.hid (own_below O0.out hb)
    have HB := Lib.hid ((HB.out).trans (hb.mono (by first | omega | exact Nat.le_refl _)))
    have O1 := Lib.hid o
    have LX1 := Lib.hid o.lt
    clear o
    have P1 := Lib.hid o2
    have LY1 := Lib.hid o2.lt
    have AP1 := Lib.hid ap
    clear o2 ap
    clear hb
    go_wp2_with (go_at_call 36; refine (toIntS_any a0 y0.length cap0 y0 _ (Q0.out.below HB.out) (by omega)).mono ?_; rintro e w3 ⟨b2, c2, rfl, o, hb, ln2⟩; refine Hid.out ?_)
    refine Lib.hid ?_
    -- toIntS ['aW'] x0
    have HS2 := hb.size
    have O0 := Lib.hid (own_below O0.out hb)
    have O1 := Lib.hid (own_below O1.out hb)
    have P1 := Lib.hid (own_below P1.out hb)
    have HB := Lib.hid ((HB.out).trans (hb.mono (by first | omega | exact Nat.le_refl _)))
    have O2 := Lib.hid o
    have LX2 := Lib.hid o.lt
    clear o
    clear hb
    go_wp2_with (go_at_call 31; refine (iRootWord b2 y0.length c2 y0 _ (Ints.of_own O2.out)).mono ?_; rintro e w4 ⟨b3, c3, bb3, cc3, rfl, o, o2, ap, hb, ln3, lm3⟩; refine Hid.out ?_)
    refine Lib.hid ?_
    -- impl.RootWord ['x0'] g0
    have HS3 := hb.size
    have O0 := Lib.hid (own_below O0.out hb)
    have O1 := Lib.hid (own_below O1.out hb)
    have P1 := Lib.hid (own_below P1.out hb)
    have O2 := Lib.hid (own_below O2.out hb)
    have HB := Lib.hid ((HB.out).trans (hb.mono (by first | omega | exact Nat.le_refl _)))
    have O3 := Lib.hid o
    have LX3 := Lib.hid o.lt
    clear o
    have P3 := Lib.hid o2
    have LY3 := Lib.hid o2.lt
    have AP3 := Lib.hid ap
    clear o2 ap
    clear hb
    go_wp2_with (go_at_call 38; refine (eqIntS_same b3 b1 _ c3 c1 _ _ (Ints.of_own O3.out) (Ints.of_own O1.out)).mono ?_; rintro e w5 ⟨rfl, hb⟩; refine Hid.out ?_)
    refine Lib.hid ?_
    -- eqIntS ['g0', 'w0'] None
    have HS4 := hb.size
    have O0 := Lib.hid (own_below O0.out hb)
    have O1 := Lib.hid (own_below O1.out hb)
    have P1 := Lib.hid (own_below P1.out hb)
    have O2 := Lib.hid (own_below O2.out hb)
    have O3 := Lib.hid (own_below O3.out hb)
    have P3 := Lib.hid (own_below P3.out hb)
    have HB := Lib.hid ((HB.out).trans (hb.mono (by first | omega | exact Nat.le_refl _)))
    clear hb
    go_wp2_with (go_at_call 38; refine (eqIntS_same bb3 bb1 _ cc3 cc1 _ _ (Ints.of_own P3.out) (Ints.of_own P1.out)).mono ?_; rintro e w6 ⟨rfl, hb⟩; refine Hid.out ?_)
    refine Lib.hid ?_
    -- eqIntS ['g1', 'w1'] None
    have HS5 := hb.size
    have O0 := Lib.hid (own_below O0.out hb)
    have O1 := Lib.hid (own_below O1.out hb)
    have P1 := Lib.hid (own_below P1.out hb)
    have O2 := Lib.hid (own_below O2.out hb)
    have O3 := Lib.hid (own_below O3.out hb)
    have P3 := Lib.hid (own_below P3.out hb)
    have HB := Lib.hid ((HB.out).trans (hb.mono (by first | omega | exact Nat.le_refl _)))
    clear hb
    go_wp2_with (go_at_call 36; refine (toIntS_any a0 y0.length cap0 y0 _ (Q0.out.below HB.out) (by omega)).mono ?_; rintro e w7 ⟨b6, c6, rfl, o, hb, ln6⟩; refine Hid.out ?_)
    refine Lib.hid ?_
    -- toIntS ['aW'] _t0_6
    have HS6 := hb.size
    have O0 := Lib.hid (own_below O0.out hb)
    have O1 := Lib.hid (own_below O1.out hb)
    have P1 := Lib.hid (own_below P1.out hb)
    have O2 := Lib.hid (own_below O2.out hb)
    have O3 := Lib.hid (own_below O3.out hb)
    have P3 := Lib.hid (own_below P3.out hb)
    have HB := Lib.hid ((HB.out).trans (hb.mono (by first | omega | exact Nat.le_refl _)))
    have O6 := Lib.hid o
    have LX6 := Lib.hid o.lt
    clear o
    clear hb
    go_wp2_with (go_at_call 38; refine (eqIntS_same b2 b6 _ c2 c6 _ _ (Ints.of_own O2.out) (Ints.of_own O6.out)).mono ?_; rintro e w8 ⟨rfl, hb⟩; refine Hid.out ?_)
    refine Lib.hid ?_
    -- eqIntS ['x0', '_t0_6'] None
    have HS7 := hb.size
    have O0 := Lib.hid (own_below O0.out hb)
    have O1 := Lib.hid (own_below O1.out hb)
    have P1 := Lib.hid (own_below P1.out hb)
    have O2 := Lib.hid (own_below O2.out hb)
    have O3 := Lib.hid (own_below O3.out hb)
    have P3 := Lib.hid (own_below P3.out hb)
    have O6 := Lib.hid (own_below O6.out hb)
    have HB := Lib.hid ((HB.out).trans (hb.mono (by first | omega | exact Nat.le_refl _)))
    clear hb
    go_wp2_with (go_at_call 39; refine (markIntS_any _ b2 _ c2 _ _ _ rfl O2.out (by omega) (by omega) (by omega)).mono ?_; rintro e w9 ⟨rfl, o, hg, hz⟩; refine Hid.out ?_)
    refine Lib.hid ?_
    -- markIntS ['x0', 'k'] k
    have HS8 : w9.heap.size ≤ w8.heap.size ∧ w8.heap.size ≤ w9.heap.size := by omega
    have HB := Lib.hid ((HB.out).grown hg (by omega) (fun j hj => by have := (LX2.out j hj).1; omega))
    have O0 := Lib.hid (O0.out.kept hg (own_apart LX0.out LX2.out (by omega)))
    have O1 := Lib.hid (O1.out.kept hg (own_apart LX1.out LX2.out (by omega)))
    have P1 := Lib.hid (P1.out.kept hg (own_apart LY1.out LX2.out (by omega)))
    have O3 := Lib.hid (O3.out.kept hg (own_apart LX3.out LX2.out (by omega)))
    have P3 := Lib.hid (P3.out.kept hg (own_apart LY3.out LX2.out (by omega)))
    have O6 := Lib.hid (O6.out.kept hg (own_apart LX6.out LX2.out (by omega)))
    have O2 := Lib.hid o
    clear o hg hz
    go_wp2_with (go_at_call 38; refine (eqIntS_same b3 b1 _ c3 c1 _ _ (Ints.of_own O3.out) (Ints.of_own O1.out)).mono ?_; rintro e w10 ⟨rfl, hb⟩; refine Hid.out ?_)
    refine Lib.hid ?_
    -- eqIntS ['g0', 'w0'] None
    have HS9 := hb.size
    have O0 := Lib.hid (own_below O0.out hb)
    have O1 := Lib.hid (own_below O1.out hb)
    have P1 := Lib.hid (own_below P1.out hb)
    have O2 := Lib.hid (own_below O2.out hb)
    have O3 := Lib.hid (own_below O3.out hb)
    have P3 := Lib.hid (own_below P3.out hb)
    have O6 := Lib.hid (own_below O6.out hb)
    have HB := Lib.hid ((HB.out).trans (hb.mono (by first | omega | exact Nat.le_refl _)))
    clear hb
    go_wp2_with (go_at_call 38; refine (eqIntS_same bb3 bb1 _ cc3 cc1 _ _ (Ints.of_own P3.out) (Ints.of_own P1.out)).mono ?_; rintro e w11 ⟨rfl, hb⟩; refine Hid.out ?_)
    refine Lib.hid ?_
    -- eqIntS ['g1', 'w1'] None
    have HS10 := hb.size
    have O0 := Lib.hid (own_below O0.out hb)
    have O1 := Lib.hid (own_below O1.out hb)
    have P1 := Lib.hid (own_below P1.out hb)
    have O2 := Lib.hid (own_below O2.out hb)
    have O3 := Lib.hid (own_below O3.out hb)
    have P3 := Lib.hid (own_below P3.out hb)
    have O6 := Lib.hid (own_below O6.out hb)
    have HB := Lib.hid ((HB.out).trans (hb.mono (by first | omega | exact Nat.le_refl _)))
    clear hb
    go_wp2_with (go_at_call 39; refine (markIntS_any _ b3 _ c3 _ _ _ rfl O3.out (by omega) (by omega) (by omega)).mono ?_; rintro e w12 ⟨rfl, o, hg, hz⟩; refine Hid.out ?_)
    refine Lib.hid ?_
    -- markIntS ['g0', 'm'] m
    have HS11 : w12.heap.size ≤ w11.heap.size ∧ w11.heap.size ≤ w12.heap.size := by omega
    have HB := Lib.hid ((HB.out).grown hg (by omega) (fun j hj => by have := (LX3.out j hj).1; omega))
    have O0 := Lib.hid (O0.out.kept hg (own_apart LX0.out LX3.out (by omega)))
    have O1 := Lib.hid (O1.out.kept hg (own_apart LX1.out LX3.out (by omega)))
    have P1 := Lib.hid (P1.out.kept hg (own_apart LY1.out LX3.out (by omega)))
    have O2 := Lib.hid (O2.out.kept hg (own_apart LX2.out LX3.out (by omega)))
    have P3 := Lib.hid (P3.out.kept hg (AP3.out.symm.or))
    have O6 := Lib.hid (O6.out.kept hg (own_apart LX6.out LX3.out (by omega)))
    have O3 := Lib.hid o
    clear o hg hz
    go_wp2_with (go_at_call 39; refine (markIntS_any _ bb3 _ cc3 _ _ _ rfl P3.out (by omega) (by omega) (by omega)).mono ?_; rintro e w13 ⟨rfl, o, hg, hz⟩; refine Hid.out ?_)
    refine Lib.hid ?_
    -- markIntS ['g1', 'm'] m
    have HS12 : w13.heap.size ≤ w12.heap.size ∧ w12.heap.size ≤ w13.heap.size := by omega
    have HB := Lib.hid ((HB.out).grown hg (by omega) (fun j hj => by have := (LY3.out j hj).1; omega))
    have O0 := Lib.hid (O0.out.kept hg (own_apart LX0.out LY3.out (by omega)))
    have O1 := Lib.hid (O1.out.kept hg (own_apart LX1.out LY3.out (by omega)))
    have P1 := Lib.hid (P1.out.kept hg (own_apart LY1.out LY3.out (by omega)))
    have O2 := Lib.hid (O2.out.kept hg (own_apart LX2.out LY3.out (by omega)))
    have O3 := Lib.hid (O3.out.kept hg (AP3.out.or))
    have O6 := Lib.hid (O6.out.kept hg (own_apart LX6.out LY3.out (by omega)))
    have P3 := Lib.hid o
    clear o hg hz
    go_wp2_with (go_at_call 43; refine (heldIntS_marks b3 _ c3 _ _ (Ints.of_own O3.out) (by omega) (by omega) (by omega)).mono ?_; rintro e w14 ⟨rfl, rfl⟩; refine Hid.out ?_)
    refine Lib.hid ?_
    -- heldIntS ['g0', 'q'] q
    go_wp2_with (go_at_call 43; refine (heldIntS_marks bb3 _ cc3 _ _ (Ints.of_own P3.out) (by omega) (by omega) (by omega)).mono ?_; rintro e w15 ⟨rfl, rfl⟩; refine Hid.out ?_)
    refine Lib.hid ?_
    -- heldIntS ['g1', 'q'] q
    go_wp2_with (go_at_call 36; refine (toIntS_any a0 y0.length cap0 y0 _ (Q0.out.below HB.out) (by omega)).mono ?_; rintro e w16 ⟨b15, c15, rfl, o, hb, ln15⟩; refine Hid.out ?_)
    refine Lib.hid ?_
    -- toIntS ['aW'] _t0_15
    have HS15 := hb.size
    have O0 := Lib.hid (own_below O0.out hb)
    have O1 := Lib.hid (own_below O1.out hb)
    have P1 := Lib.hid (own_below P1.out hb)
    have O2 := Lib.hid (own_below O2.out hb)
    have O3 := Lib.hid (own_below O3.out hb)
    have P3 := Lib.hid (own_below P3.out hb)
    have O6 := Lib.hid (own_below O6.out hb)
    have HB := Lib.hid ((HB.out).trans (hb.mono (by first | omega | exact Nat.le_refl _)))
    have O15 := Lib.hid o
    have LX15 := Lib.hid o.lt
    clear o
    clear hb
    go_wp2_with (go_at_call 31; refine (iRootWord b15 y0.length c15 y0 _ (Ints.of_own O15.out)).mono ?_; rintro e w17 ⟨b16, c16, bb16, cc16, rfl, o, o2, ap, hb, ln16, lm16⟩; refine Hid.out ?_)
    refine Lib.hid ?_
    -- impl.RootWord ['_t0_15'] h0
    have HS16 := hb.size
    have O0 := Lib.hid (own_below O0.out hb)
    have O1 := Lib.hid (own_below O1.out hb)
    have P1 := Lib.hid (own_below P1.out hb)
    have O2 := Lib.hid (own_below O2.out hb)
    have O3 := Lib.hid (own_below O3.out hb)
    have P3 := Lib.hid (own_below P3.out hb)
    have O6 := Lib.hid (own_below O6.out hb)
    have O15 := Lib.hid (own_below O15.out hb)
    have HB := Lib.hid ((HB.out).trans (hb.mono (by first | omega | exact Nat.le_refl _)))
    have O16 := Lib.hid o
    have LX16 := Lib.hid o.lt
    clear o
    have P16 := Lib.hid o2
    have LY16 := Lib.hid o2.lt
    have AP16 := Lib.hid ap
    clear o2 ap
    clear hb
    go_wp2_with (go_at_call 38; refine (eqIntS_same b16 b1 _ c16 c1 _ _ (Ints.of_own O16.out) (Ints.of_own O1.out)).mono ?_; rintro e w18 ⟨rfl, hb⟩; refine Hid.out ?_)
    refine Lib.hid ?_
    -- eqIntS ['h0', 'w0'] None
    have HS17 := hb.size
    have O0 := Lib.hid (own_below O0.out hb)
    have O1 := Lib.hid (own_below O1.out hb)
    have P1 := Lib.hid (own_below P1.out hb)
    have O2 := Lib.hid (own_below O2.out hb)
    have O3 := Lib.hid (own_below O3.out hb)
    have P3 := Lib.hid (own_below P3.out hb)
    have O6 := Lib.hid (own_below O6.out hb)
    have O15 := Lib.hid (own_below O15.out hb)
    have O16 := Lib.hid (own_below O16.out hb)
    have P16 := Lib.hid (own_below P16.out hb)
    have HB := Lib.hid ((HB.out).trans (hb.mono (by first | omega | exact Nat.le_refl _)))
    clear hb
    go_wp2_with (go_at_call 38; refine (eqIntS_same bb16 bb1 _ cc16 cc1 _ _ (Ints.of_own P16.out) (Ints.of_own P1.out)).mono ?_; rintro e w19 ⟨rfl, hb⟩; refine Hid.out ?_)
    refine Lib.hid ?_
    -- eqIntS ['h1', 'w1'] None
    have HS18 := hb.size
    have O0 := Lib.hid (own_below O0.out hb)
    have O1 := Lib.hid (own_below O1.out hb)
    have P1 := Lib.hid (own_below P1.out hb)
    have O2 := Lib.hid (own_below O2.out hb)
    have O3 := Lib.hid (own_below O3.out hb)
    have P3 := Lib.hid (own_below P3.out hb)
    have O6 := Lib.hid (own_below O6.out hb)
    have O15 := Lib.hid (own_below O15.out hb)
    have O16 := Lib.hid (own_below O16.out hb)
    have P16 := Lib.hid (own_below P16.out hb)
    have HB := Lib.hid ((HB.out).trans (hb.mono (by first | omega | exact Nat.le_refl _)))
    clear hb
    go_wp2_with (go_at_call 43; refine (heldIntS_marks b3 _ c3 _ _ (Ints.of_own O3.out) (by omega) (by omega) (by omega)).mono ?_; rintro e w20 ⟨rfl, rfl⟩; refine Hid.out ?_)
    refine Lib.hid ?_
    -- heldIntS ['g0', 'q'] q
    go_wp2_with (go_at_call 43; refine (heldIntS_marks bb3 _ cc3 _ _ (Ints.of_own P3.out) (by omega) (by omega) (by omega)).mono ?_; rintro e w21 ⟨rfl, rfl⟩; refine Hid.out ?_)
    refine Lib.hid ?_
    -- heldIntS ['g1', 'q'] q
    go_wp2
    go_ret
    exact ⟨rfl, HB.out⟩
  · go_enter Try.func11, Try.ntmps11
    go_wp2
    go_ret
    exact ⟨rfl, Below.refl _ _⟩
end Go.Proofs.Ytbdgkipakjmidaa

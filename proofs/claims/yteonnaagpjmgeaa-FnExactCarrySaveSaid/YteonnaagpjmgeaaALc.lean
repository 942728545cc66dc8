/- The walks of exact laws over integers, texts and slices of integers. -/
import Derived.Test.YteonnaagpjmgeaaAI
import Derived.Test.YteonnaagpjmgeaaAS3
import Derived.Test.YteonnaagpjmgeaaRow
namespace Go.Proofs.Yteonnaagpjmgeaa
open Go.RowKit

set_option maxRecDepth 20000 in
set_option maxHeartbeats 4000000 in
theorem wFnExactCarrySave (a0 : Option Addr) (len0 cap0 : Nat) (z0 : List Int) (a1 : Option Addr) (len1 cap1 : Nat) (z1 : List Int) (a2 : Option Addr) (len2 cap2 : Nat) (z2 : List Int) (w : World) (w0 : IsRow .i64 w a0 len0 cap0 z0) (w1 : IsRow .i64 w a1 len1 cap1 z1) (w2 : IsRow .i64 w a2 len2 cap2 z2) : Calls Try.prog 11 #[.slice a0 len0 cap0, .slice a1 len1 cap1, .slice a2 len2 cap2] w fun e w' => e = .returned (.bool true) ∧ Below w.heap.size w w' := by
  have q0 := Ints.of_row w0
  have m0 : len0 ≤ 9223372036854775807 := by obtain ⟨_, h2, h3, _⟩ := q0; unfold maxLen at h3; omega
  have q1 := Ints.of_row w1
  have m1 : len1 ≤ 9223372036854775807 := by obtain ⟨_, h2, h3, _⟩ := q1; unfold maxLen at h3; omega
  have q2 := Ints.of_row w2
  have m2 : len2 ≤ 9223372036854775807 := by obtain ⟨_, h2, h3, _⟩ := q2; unfold maxLen at h3; omega
  by_cases g0 : len0 ≤ 1048576
  · skip
    by_cases g1 : len1 ≤ 1048576
    · skip
      by_cases g2 : len2 ≤ 1048576
      · skip
        obtain ⟨y0, ey0⟩ : ∃ y, y = z0.take len0 := ⟨_, rfl⟩
        rw [← ey0] at q0
        clear ey0 w0
        obtain rfl : len0 = y0.length := q0.1.symm
        have Q0 := Lib.hid q0
        clear q0
        obtain ⟨y1, ey1⟩ : ∃ y, y = z1.take len1 := ⟨_, rfl⟩
        rw [← ey1] at q1
        clear ey1 w1
        obtain rfl : len1 = y1.length := q1.1.symm
        have Q1 := Lib.hid q1
        clear q1
        obtain ⟨y2, ey2⟩ : ∃ y, y = z2.take len2 := ⟨_, rfl⟩
        rw [← ey2] at q2
        clear ey2 w2
        obtain rfl : len2 = y2.length := q2.1.symm
        have Q2 := Lib.hid q2
        clear q2
        go_enter Try.func11, Try.ntmps11
        go_wp2_with (go_at_call 30; refine (toIntS_any a0 y0.length cap0 y0 _ Q0.out (by omega)).mono ?_; rintro e w1 ⟨b0, c0, rfl, o, hb, ln0⟩; refine Hid.out ?_)
        refine Lib.hid ?_
        -- toIntS ['aA'] _t0_0
        have HS0 := hb.size
        have HB := Lib.hid (((Below.refl w.heap.size w)).trans (hb.mono (by first | omega | exact Nat.le_refl _)))
        have O0 := Lib.hid o
        have LX0 := Lib.hid o.lt
        clear o
        clear hb
        go_wp2_with (go_at_call 30; refine (toIntS_any a1 y1.length cap1 y1 _ (Q1.out.below HB.out) (by omega)).mono ?_; rintro e w2 ⟨b1, c1, rfl, o, hb, ln1⟩; refine Hid.out ?_)
        refine Lib.hid ?_
        -- toIntS ['aB'] _t1_0
        have HS1 := hb.size
        have O0 := Lib.hid (own_below O0.out hb)
        have HB := Lib.hid ((HB.out).trans (hb.mono (by first | omega | exact Nat.le_refl _)))
        have O1 := Lib.hid o
        have LX1 := Lib.hid o.lt
        clear o
        clear hb
        go_wp2_with (go_at_call 30; refine (toIntS_any a2 y2.length cap2 y2 _ (Q2.out.below HB.out) (by omega)).mono ?_; rintro e w3 ⟨b2, c2, rfl, o, hb, ln2⟩; refine Hid.out ?_)
        refine Lib.hid ?_
        -- toIntS ['aC'] _t2_0
        have HS2 := hb.size
        have O0 := Lib.hid (own_below O0.out hb)
        have O1 := Lib.hid (own_below O1.out hb)
        have HB := Lib.hid ((HB.out).trans (hb.mono (by first | omega | exact Nat.le_refl _)))
        have O2 := Lib.hid o
        have LX2 := Lib.hid o.lt
        clear o
        clear hb
        go_wp2_with (go_at_call 46; refine (sCarrySave b0 y0.length c0 y0 b1 y1.length c1 y1 b2 y2.length c2 y2 _ (Ints.of_own O0.out) (Ints.of_own O1.out) (Ints.of_own O2.out)).mono ?_; rintro e w4 ⟨b3, c3, bb3, cc3, rfl, o, o2, ap, hb, ln3, lm3⟩; refine Hid.out ?_)
        refine Lib.hid ?_
        -- spec.CarrySave ['_t0_0', '_t1_0', '_t2_0'] w0
        have HS3 := hb.size
        have O0 := Lib.hid (own_below O0.out hb)
        have O1 := Lib.hid (own_below O1.out hb)
        have O2 := Lib.hid (own_below O2.out hb)
        have HB := Lib.hid ((HB.out).trans (hb.mono (by first | omega | exact Nat.le_refl _)))
        have O3 := Lib.hid o
        have LX3 := Lib.hid o.lt
        clear o
        have P3 := Lib.hid o2
        have LY3 := Lib.hid o2.lt
        have AP3 := Lib.hid ap
        clear o2 ap
        clear hb
        go_wp2_with (go_at_call 30; refine (toIntS_any a0 y0.length cap0 y0 _ (Q0.out.below HB.out) (by omega)).mono ?_; rintro e w5 ⟨b4, c4, rfl, o, hb, ln4⟩; refine Hid.out ?_)
        refine Lib.hid ?_
        -- toIntS ['aA'] x0
        have HS4 := hb.size
        have O0 := Lib.hid (own_below O0.out hb)
        have O1 := Lib.hid (own_below O1.out hb)
        have O2 := Lib.hid (own_below O2.out hb)
        have O3 := Lib.hid (own_below O3.out hb)
        have P3 := Lib.hid (own_below P3.out hb)
        have HB := Lib.hid ((HB.out).trans (hb.mono (by first | omega | exact Nat.le_refl _)))
        have O4 := Lib.hid o
        have LX4 := Lib.hid o.lt
        clear o
        clear hb
        go_wp2_with (go_at_call 30; refine (toIntS_any a1 y1.length cap1 y1 _ (Q1.out.below HB.out) (by omega)).mono ?_; rintro e w6 ⟨b5, c5, rfl, o, hb, ln5⟩; refine Hid.out ?_)
        refine Lib.hid ?_
        -- toIntS ['aB'] x1
        have HS5 := hb.size
        have O0 := Lib.hid (own_below O0.out hb)
        have O1 := Lib.hid (own_below O1.out hb)
        have O2 := Lib.hid (own_below O2.out hb)
        have O3 := Lib.hid (own_below O3.out hb)
        have P3 := Lib.hid (own_below P3.out hb)
        have O4 := Lib.hid (own_below O4.out hb)
        have HB := Lib.hid ((HB.out).trans (hb.mono (by first | omega | exact Nat.le_refl _)))
        have O5 := Lib.hid o
        have LX5 := Lib.hid o.lt
        clear o
        clear hb
        go_wp2_with (go_at_call 30; refine (toIntS_any a2 y2.length cap2 y2 _ (Q2.out.below HB.out) (by omega)).mono ?_; rintro e w7 ⟨b6, c6, rfl, o, hb, ln6⟩; refine Hid.out ?_)
        refine Lib.hid ?_
        -- toIntS ['aC'] x2
        have HS6 := hb.size
        have O0 := Lib.hid (own_below O0.out hb)
        have O1 := Lib.hid (own_below O1.out hb)
        have O2 := Lib.hid (own_below O2.out hb)
        have O3 := Lib.hid (own_below O3.out hb)
        have P3 := Lib.hid (own_below P3.out hb)
        have O4 := Lib.hid (own_below O4.out hb)
        have O5 := Lib.hid (own_below O5.out hb)
        have HB := Lib.hid ((HB.out).trans (hb.mono (by first | omega | exact Nat.le_refl _)))
        have O6 := Lib.hid o
        have LX6 := Lib.hid o.lt
        clear o
        clear hb
        go_wp2_with (go_at_call 47; refine (iCarrySave b4 y0.length c4 y0 b5 y1.length c5 y1 b6 y2.length c6 y2 _ (Ints.of_own O4.out) (Ints.of_own O5.out) (Ints.of_own O6.out)).mono ?_; rintro e w8 ⟨b7, c7, bb7, cc7, rfl, o, o2, ap, hb, ln7, lm7⟩; refine Hid.out ?_)
        refine Lib.hid ?_
        -- impl.CarrySave ['x0', 'x1', 'x2'] g0
        have HS7 := hb.size
        have O0 := Lib.hid (own_below O0.out hb)
        have O1 := Lib.hid (own_below O1.out hb)
        have O2 := Lib.hid (own_below O2.out hb)
        have O3 := Lib.hid (own_below O3.out hb)
        have P3 := Lib.hid (own_below P3.out hb)
        have O4 := Lib.hid (own_below O4.out hb)
        have O5 := Lib.hid (own_below O5.out hb)
        have O6 := Lib.hid (own_below O6.out hb)
        have HB := Lib.hid ((HB.out).trans (hb.mono (by first | omega | exact Nat.le_refl _)))
        have O7 := Lib.hid o
        have LX7 := Lib.hid o.lt
        clear o
        have P7 := Lib.hid o2
        have LY7 := Lib.hid o2.lt
        have AP7 := Lib.hid ap
        clear o2 ap
        clear hb
        go_wp2_with (go_at_call 32; refine (eqIntS_same b7 b3 _ c7 c3 _ _ (Ints.of_own O7.out) (Ints.of_own O3.out)).mono ?_; rintro e w9 ⟨rfl, hb⟩; refine Hid.out ?_)
        refine Lib.hid ?_
        -- eqIntS ['g0', 'w0'] None
        have HS8 := hb.size
        have O0 := Lib.hid (own_below O0.out hb)
        have O1 := Lib.hid (own_below O1.out hb)
        have O2 := Lib.hid (own_below O2.out hb)
        have O3 := Lib.hid (own_below O3.out hb)
        have P3 := Lib.hid (own_below P3.out hb)
        have O4 := Lib.hid (own_below O4.out hb)
        have O5 := Lib.hid (own_below O5.out hb)
        have O6 := Lib.hid (own_below O6.out hb)
        have O7 := Lib.hid (own_below O7.out hb)
        have P7 := Lib.hid (own_below P7.out hb)
        have HB := Lib.hid ((HB.out).trans (hb.mono (by first | omega | exact Nat.le_refl _)))
        clear hb
        go_wp2_with (go_at_call 32; refine (eqIntS_same bb7 bb3 _ cc7 cc3 _ _ (Ints.of_own P7.out) (Ints.of_own P3.out)).mono ?_; rintro e w10 ⟨rfl, hb⟩; refine Hid.out ?_)
        refine Lib.hid ?_
        -- eqIntS ['g1', 'w1'] None
        have HS9 := hb.size
        have O0 := Lib.hid (own_below O0.out hb)
        have O1 := Lib.hid (own_below O1.out hb)
        have O2 := Lib.hid (own_below O2.out hb)
        have O3 := Lib.hid (own_below O3.out hb)
        have P3 := Lib.hid (own_below P3.out hb)
        have O4 := Lib.hid (own_below O4.out hb)
        have O5 := Lib.hid (own_below O5.out hb)
        have O6 := Lib.hid (own_below O6.out hb)
        have O7 := Lib.hid (own_below O7.out hb)
        have P7 := Lib.hid (own_below P7.out hb)
        have HB := Lib.hid ((HB.out).trans (hb.mono (by first | omega | exact Nat.le_refl _)))
        clear hb
        go_wp2_with (go_at_call 30; refine (toIntS_any a0 y0.length cap0 y0 _ (Q0.out.below HB.out) (by omega)).mono ?_; rintro e w11 ⟨b10, c10, rfl, o, hb, ln10⟩; refine Hid.out ?_)
        refine Lib.hid ?_
        -- toIntS ['aA'] _t0_10
        have HS10 := hb.size
        have O0 := Lib.hid (own_below O0.out hb)
        have O1 := Lib.hid (own_below O1.out hb)
        have O2 := Lib.hid (own_below O2.out hb)
        have O3 := Lib.hid (own_below O3.out hb)
        have P3 := Lib.hid (own_below P3.out hb)
        have O4 := Lib.hid (own_below O4.out hb)
        have O5 := Lib.hid (own_below O5.out hb)
        have O6 := Lib.hid (own_below O6.out hb)
        have O7 := Lib.hid (own_below O7.out hb)
        have P7 := Lib.hid (own_below P7.out hb)
        have HB := Lib.hid ((HB.out).trans (hb.mono (by first | omega | exact Nat.le_refl _)))
        have O10 := Lib.hid o
        have LX10 := Lib.hid o.lt
        clear o
        clear hb
        go_wp2_with (go_at_call 32; refine (eqIntS_same b4 b10 _ c4 c10 _ _ (Ints.of_own O4.out) (Ints.of_own O10.out)).mono ?_; rintro e w12 ⟨rfl, hb⟩; refine Hid.out ?_)
        refine Lib.hid ?_
        -- eqIntS ['x0', '_t0_10'] None
        have HS11 := hb.size
        have O0 := Lib.hid (own_below O0.out hb)
        have O1 := Lib.hid (own_below O1.out hb)
        have O2 := Lib.hid (own_below O2.out hb)
        have O3 := Lib.hid (own_below O3.out hb)
        have P3 := Lib.hid (own_below P3.out hb)
        have O4 := Lib.hid (own_below O4.out hb)
        have O5 := Lib.hid (own_below O5.out hb)
        have O6 := Lib.hid (own_below O6.out hb)
        have O7 := Lib.hid (own_below O7.out hb)
        have P7 := Lib.hid (own_below P7.out hb)
        have O10 := Lib.hid (own_below O10.out hb)
        have HB := Lib.hid ((HB.out).trans (hb.mono (by first | omega | exact Nat.le_refl _)))
        clear hb
        go_wp2_with (go_at_call 30; refine (toIntS_any a1 y1.length cap1 y1 _ (Q1.out.below HB.out) (by omega)).mono ?_; rintro e w13 ⟨b12, c12, rfl, o, hb, ln12⟩; refine Hid.out ?_)
        refine Lib.hid ?_
        -- toIntS ['aB'] _t0_12
        have HS12 := hb.size
        have O0 := Lib.hid (own_below O0.out hb)
        have O1 := Lib.hid (own_below O1.out hb)
        have O2 := Lib.hid (own_below O2.out hb)
        have O3 := Lib.hid (own_below O3.out hb)
        have P3 := Lib.hid (own_below P3.out hb)
        have O4 := Lib.hid (own_below O4.out hb)
        have O5 := Lib.hid (own_below O5.out hb)
        have O6 := Lib.hid (own_below O6.out hb)
        have O7 := Lib.hid (own_below O7.out hb)
        have P7 := Lib.hid (own_below P7.out hb)
        have O10 := Lib.hid (own_below O10.out hb)
        have HB := Lib.hid ((HB.out).trans (hb.mono (by first | omega | exact Nat.le_refl _)))
        have O12 := Lib.hid o
        have LX12 := Lib.hid o.lt
        clear o
        clear hb
        go_wp2_with (go_at_call 32; refine (eqIntS_same b5 b12 _ c5 c12 _ _ (Ints.of_own O5.out) (Ints.of_own O12.out)).mono ?_; rintro e w14 ⟨rfl, hb⟩; refine Hid.out ?_)
        refine Lib.hid ?_
        -- eqIntS ['x1', '_t0_12'] None
        have HS13 := hb.size
        have O0 := Lib.hid (own_below O0.out hb)
        have O1 := Lib.hid (own_below O1.out hb)
        have O2 := Lib.hid (own_below O2.out hb)
        have O3 := Lib.hid (own_below O3.out hb)
        have P3 := Lib.hid (own_below P3.out hb)
        have O4 := Lib.hid (own_below O4.out hb)
        have O5 := Lib.hid (own_below O5.out hb)
        have O6 := Lib.hid (own_below O6.out hb)
        have O7 := Lib.hid (own_below O7.out hb)
        have P7 := Lib.hid (own_below P7.out hb)
        have O10 := Lib.hid (own_below O10.out hb)
        have O12 := Lib.hid (own_below O12.out hb)
        have HB := Lib.hid ((HB.out).trans (hb.mono (by first | omega | exact Nat.le_refl _)))
        clear hb
        go_wp2_with (go_at_call 30; refine (toIntS_any a2 y2.length cap2 y2 _ (Q2.out.below HB.out) (by omega)).mono ?_; rintro e w15 ⟨b14, c14, rfl, o, hb, ln14⟩; refine Hid.out ?_)
        refine Lib.hid ?_
        -- toIntS ['aC'] _t0_14
        have HS14 := hb.size
        have O0 := Lib.hid (own_below O0.out hb)
        have O1 := Lib.hid (own_below O1.out hb)
        have O2 := Lib.hid (own_below O2.out hb)
        have O3 := Lib.hid (own_below O3.out hb)
        have P3 := Lib.hid (own_below P3.out hb)
        have O4 := Lib.hid (own_below O4.out hb)
        have O5 := Lib.hid (own_below O5.out hb)
        have O6 := Lib.hid (own_below O6.out hb)
        have O7 := Lib.hid (own_below O7.out hb)
        have P7 := Lib.hid (own_below P7.out hb)
        have O10 := Lib.hid (own_below O10.out hb)
        have O12 := Lib.hid (own_below O12.out hb)
        have HB := Lib.hid ((HB.out).trans (hb.mono (by first | omega | exact Nat.le_refl _)))
        have O14 := Lib.hid o
        have LX14 := Lib.hid o.lt
        clear o
        clear hb
        go_wp2_with (go_at_call 32; refine (eqIntS_same b6 b14 _ c6 c14 _ _ (Ints.of_own O6.out) (Ints.of_own O14.out)).mono ?_; rintro e w16 ⟨rfl, hb⟩; refine Hid.out ?_)
        refine Lib.hid ?_
        -- eqIntS ['x2', '_t0_14'] None
        have HS15 := hb.size
        have O0 := Lib.hid (own_below O0.out hb)
        have O1 := Lib.hid (own_below O1.out hb)
        have O2 := Lib.hid (own_below O2.out hb)
        have O3 := Lib.hid (own_below O3.out hb)
        have P3 := Lib.hid (own_below P3.out hb)
        have O4 := Lib.hid (own_below O4.out hb)
        have O5 := Lib.hid (own_below O5.out hb)
        have O6 := Lib.hid (own_below O6.out hb)
        have O7 := Lib.hid (own_below O7.out hb)
        have P7 := Lib.hid (own_below P7.out hb)
        have O10 := Lib.hid (own_below O10.out hb)
        have O12 := Lib.hid (own_below O12.out hb)
        have O14 := Lib.hid (own_below O14.out hb)
        have HB := Lib.hid ((HB.out).trans (hb.mono (by first | omega | exact Nat.le_refl _)))
        clear hb
        go_wp2_with (go_at_call 33; refine (markIntS_any _ b4 _ c4 _ _ _ rfl O4.out (by omega) (by omega) (by omega)).mono ?_; rintro e w17 ⟨rfl, o, hg, hz⟩; refine Hid.out ?_)
        refine Lib.hid ?_
        -- markIntS ['x0', 'k'] k
        have HS16 : w17.heap.size ≤ w16.heap.size ∧ w16.heap.size ≤ w17.heap.size := by omega
        have HB := Lib.hid ((HB.out).grown hg (by omega) (fun j hj => by have := (LX4.out j hj).1; omega))
        have O0 := Lib.hid (O0.out.kept hg (own_apart LX0.out LX4.out (by omega)))
        have O1 := Lib.hid (O1.out.kept hg (own_apart LX1.out LX4.out (by omega)))
        have O2 := Lib.hid (O2.out.kept hg (own_apart LX2.out LX4.out (by omega)))
        have O3 := Lib.hid (O3.out.kept hg (own_apart LX3.out LX4.out (by omega)))
        have P3 := Lib.hid (P3.out.kept hg (own_apart LY3.out LX4.out (by omega)))
        have O5 := Lib.hid (O5.out.kept hg (own_apart LX5.out LX4.out (by omega)))
        have O6 := Lib.hid (O6.out.kept hg (own_apart LX6.out LX4.out (by omega)))
        have O7 := Lib.hid (O7.out.kept hg (own_apart LX7.out LX4.out (by omega)))
        have P7 := Lib.hid (P7.out.kept hg (own_apart LY7.out LX4.out (by omega)))
        have O10 := Lib.hid (O10.out.kept hg (own_apart LX10.out LX4.out (by omega)))
        have O12 := Lib.hid (O12.out.kept hg (own_apart LX12.out LX4.out (by omega)))
        have O14 := Lib.hid (O14.out.kept hg (own_apart LX14.out LX4.out (by omega)))
        have O4 := Lib.hid o
        clear o hg hz
        go_wp2_with (go_at_call 33; refine (markIntS_any _ b5 _ c5 _ _ _ rfl O5.out (by omega) (by omega) (by omega)).mono ?_; rintro e w18 ⟨rfl, o, hg, hz⟩; refine Hid.out ?_)
        refine Lib.hid ?_
        -- markIntS ['x1', 'k'] k
        have HS17 : w18.heap.size ≤ w17.heap.size ∧ w17.heap.size ≤ w18.heap.size := by omega
        have HB := Lib.hid ((HB.out).grown hg (by omega) (fun j hj => by have := (LX5.out j hj).1; omega))
        have O0 := Lib.hid (O0.out.kept hg (own_apart LX0.out LX5.out (by omega)))
        have O1 := Lib.hid (O1.out.kept hg (own_apart LX1.out LX5.out (by omega)))
        have O2 := Lib.hid (O2.out.kept hg (own_apart LX2.out LX5.out (by omega)))
        have O3 := Lib.hid (O3.out.kept hg (own_apart LX3.out LX5.out (by omega)))
        have P3 := Lib.hid (P3.out.kept hg (own_apart LY3.out LX5.out (by omega)))
        have O4 := Lib.hid (O4.out.kept hg (own_apart LX4.out LX5.out (by omega)))
        have O6 := Lib.hid (O6.out.kept hg (own_apart LX6.out LX5.out (by omega)))
        have O7 := Lib.hid (O7.out.kept hg (own_apart LX7.out LX5.out (by omega)))
        have P7 := Lib.hid (P7.out.kept hg (own_apart LY7.out LX5.out (by omega)))
        have O10 := Lib.hid (O10.out.kept hg (own_apart LX10.out LX5.out (by omega)))
        have O12 := Lib.hid (O12.out.kept hg (own_apart LX12.out LX5.out (by omega)))
        have O14 := Lib.hid (O14.out.kept hg (own_apart LX14.out LX5.out (by omega)))
        have O5 := Lib.hid o
        clear o hg hz
        go_wp2_with (go_at_call 33; refine (markIntS_any _ b6 _ c6 _ _ _ rfl O6.out (by omega) (by omega) (by omega)).mono ?_; rintro e w19 ⟨rfl, o, hg, hz⟩; refine Hid.out ?_)
        refine Lib.hid ?_
        -- markIntS ['x2', 'k'] k
        have HS18 : w19.heap.size ≤ w18.heap.size ∧ w18.heap.size ≤ w19.heap.size := by omega
        have HB := Lib.hid ((HB.out).grown hg (by omega) (fun j hj => by have := (LX6.out j hj).1; omega))
        have O0 := Lib.hid (O0.out.kept hg (own_apart LX0.out LX6.out (by omega)))
        have O1 := Lib.hid (O1.out.kept hg (own_apart LX1.out LX6.out (by omega)))
        have O2 := Lib.hid (O2.out.kept hg (own_apart LX2.out LX6.out (by omega)))
        have O3 := Lib.hid (O3.out.kept hg (own_apart LX3.out LX6.out (by omega)))
        have P3 := Lib.hid (P3.out.kept hg (own_apart LY3.out LX6.out (by omega)))
        have O4 := Lib.hid (O4.out.kept hg (own_apart LX4.out LX6.out (by omega)))
        have O5 := Lib.hid (O5.out.kept hg (own_apart LX5.out LX6.out (by omega)))
        have O7 := Lib.hid (O7.out.kept hg (own_apart LX7.out LX6.out (by omega)))
        have P7 := Lib.hid (P7.out.kept hg (own_apart LY7.out LX6.out (by omega)))
        have O10 := Lib.hid (O10.out.kept hg (own_apart LX10.out LX6.out (by omega)))
        have O12 := Lib.hid (O12.out.kept hg (own_apart LX12.out LX6.out (by omega)))
        have O14 := Lib.hid (O14.out.kept hg (own_apart LX14.out LX6.out (by omega)))
        have O6 := Lib.hid o
        clear o hg hz
        go_wp2_with (go_at_call 32; refine (eqIntS_same b7 b3 _ c7 c3 _ _ (Ints.of_own O7.out) (Ints.of_own O3.out)).mono ?_; rintro e w20 ⟨rfl, hb⟩; refine Hid.out ?_)
        refine Lib.hid ?_
        -- eqIntS ['g0', 'w0'] None
        have HS19 := hb.size
        have O0 := Lib.hid (own_below O0.out hb)
        have O1 := Lib.hid (own_below O1.out hb)
        have O2 := Lib.hid (own_below O2.out hb)
        have O3 := Lib.hid (own_below O3.out hb)
        have P3 := Lib.hid (own_below P3.out hb)
        have O4 := Lib.hid (own_below O4.out hb)
        have O5 := Lib.hid (own_below O5.out hb)
        have O6 := Lib.hid (own_below O6.out hb)
        have O7 := Lib.hid (own_below O7.out hb)
        have P7 := Lib.hid (own_below P7.out hb)
        have O10 := Lib.hid (own_below O10.out hb)
        have O12 := Lib.hid (own_below O12.out hb)
        have O14 := Lib.hid (own_below O14.out hb)
        have HB := Lib.hid ((HB.out).trans (hb.mono (by first | omega | exact Nat.le_refl _)))
        clear hb
        go_wp2_with (go_at_call 32; refine (eqIntS_same bb7 bb3 _ cc7 cc3 _ _ (Ints.of_own P7.out) (Ints.of_own P3.out)).mono ?_; rintro e w21 ⟨rfl, hb⟩; refine Hid.out ?_)
        refine Lib.hid ?_
        -- eqIntS ['g1', 'w1'] None
        have HS20 := hb.size
        have O0 := Lib.hid (own_below O0.out hb)
        have O1 := Lib.hid (own_below O1.out hb)
        have O2 := Lib.hid (own_below O2.out hb)
        have O3 := Lib.hid (own_below O3.out hb)
        have P3 := Lib.hid (own_below P3.out hb)
        have O4 := Lib.hid (own_below O4.out hb)
        have O5 := Lib.hid (own_below O5.out hb)
        have O6 := Lib.hid (own_below O6.out hb)
        have O7 := Lib.hid (own_below O7.out hb)
        have P7 := Lib.hid (own_below P7.out hb)
        have O10 := Lib.hid (own_below O10.out hb)
        have O12 := Lib.hid (own_below O12.out hb)
        have O14 := Lib.hid (own_below O14.out hb)
        have HB := Lib.hid ((HB.out).trans (hb.mono (by first | omega | exact Nat.le_refl _)))
        clear hb
        go_wp2_with (go_at_call 33; refine (markIntS_any _ b7 _ c7 _ _ _ rfl O7.out (by omega) (by omega) (by omega)).mono ?_; rintro e w22 ⟨rfl, o, hg, hz⟩; refine Hid.out ?_)
        refine Lib.hid ?_
        -- markIntS ['g0', 'm'] m
        have HS21 : w22.heap.size ≤ w21.heap.size ∧ w21.heap.size ≤ w22.heap.size := by omega
        have HB := Lib.hid ((HB.out).grown hg (by omega) (fun j hj => by have := (LX7.out j hj).1; omega))
        have O0 := Lib.hid (O0.out.kept hg (own_apart LX0.out LX7.out (by omega)))
        have O1 := Lib.hid (O1.out.kept hg (own_apart LX1.out LX7.out (by omega)))
        have O2 := Lib.hid (O2.out.kept hg (own_apart LX2.out LX7.out (by omega)))
        have O3 := Lib.hid (O3.out.kept hg (own_apart LX3.out LX7.out (by omega)))
        have P3 := Lib.hid (P3.out.kept hg (own_apart LY3.out LX7.out (by omega)))
        have O4 := Lib.hid (O4.out.kept hg (own_apart LX4.out LX7.out (by omega)))
        have O5 := Lib.hid (O5.out.kept hg (own_apart LX5.out LX7.out (by omega)))
        have O6 := Lib.hid (O6.out.kept hg (own_apart LX6.out LX7.out (by omega)))
        have P7 := Lib.hid (P7.out.kept hg (AP7.out.symm.or))
        have O10 := Lib.hid (O10.out.kept hg (own_apart LX10.out LX7.out (by omega)))
        have O12 := Lib.hid (O12.out.kept hg (own_apart LX12.out LX7.out (by omega)))
        have O14 := Lib.hid (O14.out.kept hg (own_apart LX14.out LX7.out (by omega)))
        have O7 := Lib.hid o
        clear o hg hz
        go_wp2_with (go_at_call 33; refine (markIntS_any _ bb7 _ cc7 _ _ _ rfl P7.out (by omega) (by omega) (by omega)).mono ?_; rintro e w23 ⟨rfl, o, hg, hz⟩; refine Hid.out ?_)
        refine Lib.hid ?_
        -- markIntS ['g1', 'm'] m
        have HS22 : w23.heap.size ≤ w22.heap.size ∧ w22.heap.size ≤ w23.heap.size := by omega
        have HB := Lib.hid ((HB.out).grown hg (by omega) (fun j hj => by have := (LY7.out j hj).1; omega))
        have O0 := Lib.hid (O0.out.kept hg (own_apart LX0.out LY7.out (by omega)))
        have O1 := Lib.hid (O1.out.kept hg (own_apart LX1.out LY7.out (by omega)))
        have O2 := Lib.hid (O2.out.kept hg (own_apart LX2.out LY7.out (by omega)))
        have O3 := Lib.hid (O3.out.kept hg (own_apart LX3.out LY7.out (by omega)))
        have P3 := Lib.hid (P3.out.kept hg (own_apart LY3.out LY7.out (by omega)))
        have O4 := Lib.hid (O4.out.kept hg (own_apart LX4.out LY7.out (by omega)))
        have O5 := Lib.hid (O5.out.kept hg (own_apart LX5.out LY7.out (by omega)))
        have O6 := Lib.hid (O6.out.kept hg (own_apart LX6.out LY7.out (by omega)))
        have O7 := Lib.hid (O7.out.kept hg (AP7.out.or))
        have O10 := Lib.hid (O10.out.kept hg (own_apart LX10.out LY7.out (by omega)))
        have O12 := Lib.hid (O12.out.kept hg (own_apart LX12.out LY7.out (by omega)))
        have O14 := Lib.hid (O14.out.kept hg (own_apart LX14.out LY7.out (by omega)))
        have P7 := Lib.hid o
        clear o hg hz
        go_wp2_with (go_at_call 34; refine (heldIntS_marks b7 _ c7 _ _ (Ints.of_own O7.out) (by omega) (by omega) (by omega)).mono ?_; rintro e w24 ⟨rfl, rfl⟩; refine Hid.out ?_)
        refine Lib.hid ?_
        -- heldIntS ['g0', 'q'] q
        go_wp2_with (go_at_call 34; refine (heldIntS_marks bb7 _ cc7 _ _ (Ints.of_own P7.out) (by omega) (by omega) (by omega)).mono ?_; rintro e w25 ⟨rfl, rfl⟩; refine Hid.out ?_)
        refine Lib.hid ?_
        -- heldIntS ['g1', 'q'] q
        go_wp2_with (go_at_call 30; refine (toIntS_any a0 y0.length cap0 y0 _ (Q0.out.below HB.out) (by omega)).mono ?_; rintro e w26 ⟨b25, c25, rfl, o, hb, ln25⟩; refine Hid.out ?_)
        refine Lib.hid ?_
        -- toIntS ['aA'] _t0_25
        have HS25 := hb.size
        have O0 := Lib.hid (own_below O0.out hb)
        have O1 := Lib.hid (own_below O1.out hb)
        have O2 := Lib.hid (own_below O2.out hb)
        have O3 := Lib.hid (own_below O3.out hb)
        have P3 := Lib.hid (own_below P3.out hb)
        have O4 := Lib.hid (own_below O4.out hb)
        have O5 := Lib.hid (own_below O5.out hb)
        have O6 := Lib.hid (own_below O6.out hb)
        have O7 := Lib.hid (own_below O7.out hb)
        have P7 := Lib.hid (own_below P7.out hb)
        have O10 := Lib.hid (own_below O10.out hb)
        have O12 := Lib.hid (own_below O12.out hb)
        have O14 := Lib.hid (own_below O14.out hb)
        have HB := Lib.hid ((HB.out).trans (hb.mono (by first | omega | exact Nat.le_refl _)))
        have O25 := Lib.hid o
        have LX25 := Lib.hid o.lt
        clear o
        clear hb
        go_wp2_with (go_at_call 30; refine (toIntS_any a1 y1.length cap1 y1 _ (Q1.out.below HB.out) (by omega)).mono ?_; rintro e w27 ⟨b26, c26, rfl, o, hb, ln26⟩; refine Hid.out ?_)
        refine Lib.hid ?_
        -- toIntS ['aB'] _t1_25
        have HS26 := hb.size
        have O0 := Lib.hid (own_below O0.out hb)
        have O1 := Lib.hid (own_below O1.out hb)
        have O2 := Lib.hid (own_below O2.out hb)
        have O3 := Lib.hid (own_below O3.out hb)
        have P3 := Lib.hid (own_below P3.out hb)
        have O4 := Lib.hid (own_below O4.out hb)
        have O5 := Lib.hid (own_below O5.out hb)
        have O6 := Lib.hid (own_below O6.out hb)
        have O7 := Lib.hid (own_below O7.out hb)
        have P7 := Lib.hid (own_below P7.out hb)
        have O10 := Lib.hid (own_below O10.out hb)
        have O12 := Lib.hid (own_below O12.out hb)
        have O14 := Lib.hid (own_below O14.out hb)
        have O25 := Lib.hid (own_below O25.out hb)
        have HB := Lib.hid ((HB.out).trans (hb.mono (by first | omega | exact Nat.le_refl _)))
        have O26 := Lib.hid o
        have LX26 := Lib.hid o.lt
        clear o
        clear hb
        go_wp2_with (go_at_call 30; refine (toIntS_any a2 y2.length cap2 y2 _ (Q2.out.below HB.out) (by omega)).mono ?_; rintro e w28 ⟨b27, c27, rfl, o, hb, ln27⟩; refine Hid.out ?_)
        refine Lib.hid ?_
        -- toIntS ['aC'] _t2_25
        have HS27 := hb.size
        have O0 := Lib.hid (own_below O0.out hb)
        have O1 := Lib.hid (own_below O1.out hb)
        have O2 := Lib.hid (own_below O2.out hb)
        have O3 := Lib.hid (own_below O3.out hb)
        have P3 := Lib.hid (own_below P3.out hb)
        have O4 := Lib.hid (own_below O4.out hb)
        have O5 := Lib.hid (own_below O5.out hb)
        have O6 := Lib.hid (own_below O6.out hb)
        have O7 := Lib.hid (own_below O7.out hb)
        have P7 := Lib.hid (own_below P7.out hb)
        have O10 := Lib.hid (own_below O10.out hb)
        have O12 := Lib.hid (own_below O12.out hb)
        have O14 := Lib.hid (own_below O14.out hb)
        have O25 := Lib.hid (own_below O25.out hb)
        have O26 := Lib.hid (own_below O26.out hb)
        have HB := Lib.hid ((HB.out).trans (hb.mono (by first | omega | exact Nat.le_refl _)))
        have O27 := Lib.hid o
        have LX27 := Lib.hid o.lt
        clear o
        clear hb
        go_wp2_with (go_at_call 47; refine (iCarrySave b25 y0.length c25 y0 b26 y1.length c26 y1 b27 y2.length c27 y2 _ (Ints.of_own O25.out) (Ints.of_own O26.out) (Ints.of_own O27.out)).mono ?_; rintro e w29 ⟨b28, c28, bb28, cc28, rfl, o, o2, ap, hb, ln28, lm28⟩; refine Hid.out ?_)
        refine Lib.hid ?_
        -- impl.CarrySave ['_t0_25', '_t1_25', '_t2_25'] h0
        have HS28 := hb.size
        have O0 := Lib.hid (own_below O0.out hb)
        have O1 := Lib.hid (own_below O1.out hb)
        have O2 := Lib.hid (own_below O2.out hb)
        have O3 := Lib.hid (own_below O3.out hb)
        have P3 := Lib.hid (own_below P3.out hb)
        have O4 := Lib.hid (own_below O4.out hb)
        have O5 := Lib.hid (own_below O5.out hb)
        have O6 := Lib.hid (own_below O6.out hb)
        have O7 := Lib.hid (own_below O7.out hb)
        have P7 := Lib.hid (own_below P7.out hb)
        have O10 := Lib.hid (own_below O10.out hb)
        have O12 := Lib.hid (own_below O12.out hb)
        have O14 := Lib.hid (own_below O14.out hb)
        have O25 := Lib.hid (own_below O25.out hb)
        have O26 := Lib.hid (own_below O26.out hb)
        have O27 := Lib.hid (own_below O27.out hb)
        have HB := Lib.hid ((HB.out).trans (hb.mono (by first | omega | exact Nat.le_refl _)))
        have O28 := Lib.hid o
        have LX28 := Lib.hid o.lt
        clear o
        have P28 := Lib.hid o2
        have LY28 := Lib.hid o2.lt
        have AP28 := Lib.hid ap
        clear o2 ap
        clear hb
        go_wp2_with (go_at_call 32; refine (eqIntS_same b28 b3 _ c28 c3 _ _ (Ints.of_own O28.out) (Ints.of_own O3.out)).mono ?_; rintro e w30 ⟨rfl, hb⟩; refine Hid.out ?_)
        refine Lib.hid ?_
        -- eqIntS ['h0', 'w0'] None
        have HS29 := hb.size
        have O0 := Lib.hid (own_below O0.out hb)
        have O1 := Lib.hid (own_below O1.out hb)
        have O2 := Lib.hid (own_below O2.out hb)
        have O3 := Lib.hid (own_below O3.out hb)
        have P3 := Lib.hid (own_below P3.out hb)
        have O4 := Lib.hid (own_below O4.out hb)
        have O5 := Lib.hid (own_below O5.out hb)
        have O6 := Lib.hid (own_below O6.out hb)
        have O7 := Lib.hid (own_below O7.out hb)
        have P7 := Lib.hid (own_below P7.out hb)
        have O10 := Lib.hid (own_below O10.out hb)
        have O12 := Lib.hid (own_below O12.out hb)
        have O14 := Lib.hid (own_below O14.out hb)
        have O25 := Lib.hid (own_below O25.out hb)
        have O26 := Lib.hid (own_below O26.out hb)
        have O27 := Lib.hid (own_below O27.out hb)
        have O28 := Lib.hid (own_below O28.out hb)
        have P28 := Lib.hid (own_below P28.out hb)
        have HB := Lib.hid ((HB.out).trans (hb.mono (by first | omega | exact Nat.le_refl _)))
        clear hb
        go_wp2_with (go_at_call 32; refine (eqIntS_same bb28 bb3 _ cc28 cc3 _ _ (Ints.of_own P28.out) (Ints.of_own P3.out)).mono ?_; rintro e w31 ⟨rfl, hb⟩; refine Hid.out ?_)
        refine Lib.hid ?_
        -- eqIntS ['h1', 'w1'] None
        have HS30 := hb.size
        have O0 := Lib.hid (own_below O0.out hb)
        have O1 := Lib.hid (own_below O1.out hb)
        have O2 := Lib.hid (own_below O2.out hb)
        have O3 := Lib.hid (own_below O3.out hb)
        have P3 := Lib.hid (own_below P3.out hb)
        have O4 := Lib.hid (own_below O4.out hb)
        have O5 := Lib.hid (own_below O5.out hb)
        have O6 := Lib.hid (own_below O6.out hb)
        have O7 := Lib.hid (own_below O7.out hb)
        have P7 := Lib.hid (own_below P7.out hb)
        have O10 := Lib.hid (own_below O10.out hb)
        have O12 := Lib.hid (own_below O12.out hb)
        have O14 := Lib.hid (own_below O14.out hb)
        have O25 := Lib.hid (own_below O25.out hb)
        have O26 := Lib.hid (own_below O26.out hb)
        have O27 := Lib.hid (own_below O27.out hb)
        have O28 := Lib.hid (own_below O28.out hb)
        have P28 := Lib.hid (own_below P28.out hb)
        have HB := Lib.hid ((HB.out).trans (hb.mono (by first | omega | exact Nat.le_refl _)))
        clear hb
        go_wp2_with (go_at_call 34; refine (heldIntS_marks b7 _ c7 _ _ (Ints.of_own O7.out) (by omega) (by omega) (by omega)).mono ?_; rintro e w32 ⟨rfl, rfl⟩; refine Hid.out ?_)
        refine Lib.hid ?_
        -- heldIntS ['g0', 'q'] q
        go_wp2_with (go_at_call 34; refine (heldIntS_marks bb7 _ cc7 _ _ (Ints.of_own P7.out) (by omega) (by omega) (by omega)).mono ?_; rintro e w33 ⟨rfl, rfl⟩; refine Hid.out ?_)
        refine Lib.hid ?_
        -- heldIntS ['g1', 'q'] q
        go_wp2
        go_ret
        exact ⟨rfl, HB.out⟩
      · go_enter Try.func11, Try.ntmps11
        go_wp2
        go_ret
        exact ⟨rfl, Below.refl _ _⟩
    · go_enter Try.func11, Try.ntmps11
      go_wp2
      go_ret
      exact ⟨rfl, Below.refl _ _⟩
  · go_enter Try.func11, Try.ntmps11
    go_wp2
    go_ret
    exact ⟨rfl, Below.refl _ _⟩
end Go.Proofs.Yteonnaagpjmgeaa

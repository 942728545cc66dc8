/- The walks of exact laws over integers, texts and slices of integers. -/
import Derived.Test.YthcljjkgbdlclaaWS4
import Derived.Test.YthcljjkgbdlclaaRow
import Derived.Test.YthcljjkgbdlclaaWI4
import Derived.Test.YthcljjkgbdlclaaWI3
namespace Go.Proofs.Ythcljjkgbdlclaa
open Go.RowKit

set_option maxHeartbeats 2000000 in
theorem wFnExactJoinWords (a0 : Option Addr) (len0 cap0 : Nat) (z0 : List Int) (a1 : Option Addr) (len1 cap1 : Nat) (z1 : List Int) (w : World) (w0 : IsRow .i64 w a0 len0 cap0 z0) (w1 : IsRow .i64 w a1 len1 cap1 z1) : Calls Try.prog 4 #[.slice a0 len0 cap0, .slice a1 len1 cap1] w fun e w' => e = .returned (.bool true) ∧ Below w.heap.size w w' := by
  have q0 := Ints.of_row w0
  have m0 : len0 ≤ 9223372036854775807 := by obtain ⟨_, h2, h3, _⟩ := q0; unfold maxLen at h3; omega
  have q1 := Ints.of_row w1
  have m1 : len1 ≤ 9223372036854775807 := by obtain ⟨_, h2, h3, _⟩ := q1; unfold maxLen at h3; omega
  by_cases g0 : len0 ≤ 1048576
  · skip
    by_cases g1 : len1 ≤ 1048576
    · skip
      obtain ⟨y0, ey0⟩ : ∃ y, y = z0.take len0 := ⟨_, rfl⟩
      rw [← ey0] at q0
      clear ey0 w0
      obtain rfl : len0 = y0.length := q0.1.symm
      have Q0 := Lib.hid q0
      clear q0
      obtain ⟨y1, ey1⟩ : ∃ y, y = z1.take len1 := ⟨_, rfl⟩
      rw [← ey1] at q1
      clear ey1 w1
      obtain rfl : len1 = y1.length := q1.1.symm
      have Q1 := Lib.hid q1
      clear q1
      go_enter Try.func4, Try.ntmps4
      go_wp2_with (go_at_call 14; refine (toIntS_any a0 y0.length cap0 y0 _ Q0.out (by omega)).mono ?_; rintro e w1 ⟨b0, c0, rfl, o, hb, ln0⟩; refine Hid.out ?_)
      refine Lib.hid ?_
      -- toIntS ['aLow'] _t0_0
      have HS0 := hb.size
      have HB := Lib.hid (((Below.refl w.heap.size w)).trans (hb.mono (by first | omega | exact Nat.le_refl _)))
      have O0 := Lib.hid o
      have LX0 := Lib.hid o.lt
      clear o
      clear hb
      go_wp2_with (go_at_call 14; refine (toIntS_any a1 y1.length cap1 y1 _ (Q1.out.below HB.out) (by omega)).mono ?_; rintro e w2 ⟨b1, c1, rfl, o, hb, ln1⟩; refine Hid.out ?_)
      refine Lib.hid ?_
      -- toIntS ['aHigh'] _t1_0
      have HS1 := hb.size
      have O0 := Lib.hid (own_below O0.out hb)
      have HB := Lib.hid ((HB.out).trans (hb.mono (by first | omega | exact Nat.le_refl _)))
      have O1 := Lib.hid o
      have LX1 := Lib.hid o.lt
      clear o
      clear hb
      go_wp2_with (go_at_call 13; refine (sJoinWords b0 y0.length c0 y0 b1 y1.length c1 y1 _ (Ints.of_own O0.out) (Ints.of_own O1.out)).mono ?_; rintro e w3 ⟨b2, c2, rfl, o, hb, ln2⟩; refine Hid.out ?_)
      refine Lib.hid ?_
      -- spec.JoinWords ['_t0_0', '_t1_0'] w0
      have HS2 := hb.size
      have O0 := Lib.hid (own_below O0.out hb)
      have O1 := Lib.hid (own_below O1.out hb)
      have HB := Lib.hid ((HB.out).trans (hb.mono (by first | omega | exact Nat.le_refl _)))
      have O2 := Lib.hid o
      have LX2 := Lib.hid o.lt
      clear o
      clear hb
      go_wp2_with (go_at_call 14; refine (toIntS_any a0 y0.length cap0 y0 _ (Q0.out.below HB.out) (by omega)).mono ?_; rintro e w4 ⟨b3, c3, rfl, o, hb, ln3⟩; refine Hid.out ?_)
      refine Lib.hid ?_
      -- toIntS ['aLow'] x0
      have HS3 := hb.size
      have O0 := Lib.hid (own_below O0.out hb)
      have O1 := Lib.hid (own_below O1.out hb)
      have O2 := Lib.hid (own_below O2.out hb)
      have HB := Lib.hid ((HB.out).trans (hb.mono (by first | omega | exact Nat.le_refl _)))
      have O3 := Lib.hid o
      have LX3 := Lib.hid o.lt
      clear o
      clear hb
      go_wp2_with (go_at_call 14; refine (toIntS_any a1 y1.length cap1 y1 _ (Q1.out.below HB.out) (by omega)).mono ?_; rintro e w5 ⟨b4, c4, rfl, o, hb, ln4⟩; refine Hid.out ?_)
      refine Lib.hid ?_
      -- toIntS ['aHigh'] x1
      have HS4 := hb.size
      have O0 := Lib.hid (own_below O0.out hb)
      have O1 := Lib.hid (own_below O1.out hb)
      have O2 := Lib.hid (own_below O2.out hb)
      have O3 := Lib.hid (own_below O3.out hb)
      have HB := Lib.hid ((HB.out).trans (hb.mono (by first | omega | exact Nat.le_refl _)))
      have O4 := Lib.hid o
      have LX4 := Lib.hid o.lt
      clear o
      clear hb
      go_wp2_with (go_at_call 8; refine (iJoinWords b3 y0.length c3 y0 b4 y1.length c4 y1 _ (Ints.of_own O3.out) (Ints.of_own O4.out)).mono ?_; rintro e w6 ⟨b5, c5, rfl, o, hb, ln5⟩; refine Hid.out ?_)
      refine Lib.hid ?_
      -- impl.JoinWords ['x0', 'x1'] g0
      have HS5 := hb.size
      have O0 := Lib.hid (own_below O0.out hb)
      have O1 := Lib.hid (own_below O1.out hb)
      have O2 := Lib.hid (own_below O2.out hb)
      have O3 := Lib.hid (own_below O3.out hb)
      have O4 := Lib.hid (own_below O4.out hb)
      have HB := Lib.hid ((HB.out).trans (hb.mono (by first | omega | exact Nat.le_refl _)))
      have O5 := Lib.hid o
      have LX5 := Lib.hid o.lt
      clear o
      clear hb
      go_wp2_with (go_at_call 15; refine (eqIntS_same b5 b2 _ c5 c2 _ _ (Ints.of_own O5.out) (Ints.of_own O2.out)).mono ?_; rintro e w7 ⟨rfl, hb⟩; refine Hid.out ?_)
      refine Lib.hid ?_
      -- eqIntS ['g0', 'w0'] None
      have HS6 := hb.size
      have O0 := Lib.hid (own_below O0.out hb)
      have O1 := Lib.hid (own_below O1.out hb)
      have O2 := Lib.hid (own_below O2.out hb)
      have O3 := Lib.hid (own_below O3.out hb)
      have O4 := Lib.hid (own_below O4.out hb)
      have O5 := Lib.hid (own_below O5.out hb)
      have HB := Lib.hid ((HB.out).trans (hb.mono (by first | omega | exact Nat.le_refl _)))
      clear hb
      go_wp2_with (go_at_call 14; refine (toIntS_any a0 y0.length cap0 y0 _ (Q0.out.below HB.out) (by omega)).mono ?_; rintro e w8 ⟨b7, c7, rfl, o, hb, ln7⟩; refine Hid.out ?_)
      refine Lib.hid ?_
      -- toIntS ['aLow'] _t0_7
      have HS7 := hb.size
      have O0 := Lib.hid (own_below O0.out hb)
      have O1 := Lib.hid (own_below O1.out hb)
      have O2 := Lib.hid (own_below O2.out hb)
      have O3 := Lib.hid (own_below O3.out hb)
      have O4 := Lib.hid (own_below O4.out hb)
      have O5 := Lib.hid (own_below O5.out hb)
      have HB := Lib.hid ((HB.out).trans (hb.mono (by first | omega | exact Nat.le_refl _)))
      have O7 := Lib.hid o
      have LX7 := Lib.hid o.lt
      clear o
      clear hb
      go_wp2_with (go_at_call 15; refine (eqIntS_same b3 b7 _ c3 c7 _ _ (Ints.of_own O3.out) (Ints.of_own O7.out)).mono ?_; rintro e w9 ⟨rfl, hb⟩; refine Hid.out ?_)
      refine Lib.hid ?_
      -- eqIntS ['x0', '_t0_7'] None
      have HS8 := hb.size
      have O0 := Lib.hid (own_below O0.out hb)
      have O1 := Lib.hid (own_below O1.out hb)
      have O2 := Lib.hid (own_below O2.out hb)
      have O3 := Lib.hid (own_below O3.out hb)
      have O4 := Lib.hid (own_below O4.out hb)
      have O5 := Lib.hid (own_below O5.out hb)
      have O7 := Lib.hid (own_below O7.out hb)
      have HB := Lib.hid ((HB.out).trans (hb.mono (by first | omega | exact Nat.le_refl _)))
      clear hb
      go_wp2_with (go_at_call 14; refine (toIntS_any a1 y1.length cap1 y1 _ (Q1.out.below HB.out) (by omega)).mono ?_; rintro e w10 ⟨b9, c9, rfl, o, hb, ln9⟩; refine Hid.out ?_)
      refine Lib.hid ?_
      -- toIntS ['aHigh'] _t0_9
      have HS9 := hb.size
      have O0 := Lib.hid (own_below O0.out hb)
      have O1 := Lib.hid (own_below O1.out hb)
      have O2 := Lib.hid (own_below O2.out hb)
      have O3 := Lib.hid (own_below O3.out hb)
      have O4 := Lib.hid (own_below O4.out hb)
      have O5 := Lib.hid (own_below O5.out hb)
      have O7 := Lib.hid (own_below O7.out hb)
      have HB := Lib.hid ((HB.out).trans (hb.mono (by first | omega | exact Nat.le_refl _)))
      have O9 := Lib.hid o
      have LX9 := Lib.hid o.lt
      clear o
      clear hb
      go_wp2_with (go_at_call 15; refine (eqIntS_same b4 b9 _ c4 c9 _ _ (Ints.of_own O4.out) (Ints.of_own O9.out)).mono ?_; rintro e w11 ⟨rfl, hb⟩; refine Hid.out ?_)
      refine Lib.hid ?_
      -- eqIntS ['x1', '_t0_9'] None
      have HS10 := hb.size
      have O0 := Lib.hid (own_below O0.out hb)
      have O1 := Lib.hid (own_below O1.out hb)
      have O2 := Lib.hid (own_below O2.out hb)
      have O3 := Lib.hid (own_below O3.out hb)
      have O4 := Lib.hid (own_below O4.out hb)
      have O5 := Lib.hid (own_below O5.out hb)
      have O7 := Lib.hid (own_below O7.out hb)
      have O9 := Lib.hid (own_below O9.out hb)
      have HB := Lib.hid ((HB.out).trans (hb.mono (by first | omega | exact Nat.le_refl _)))
      clear hb
      go_wp2_with (go_at_call 16; refine (markIntS_any _ b3 _ c3 _ _ _ rfl O3.out (by omega) (by omega) (by omega)).mono ?_; rintro e w12 ⟨rfl, o, hg, hz⟩; refine Hid.out ?_)
      refine Lib.hid ?_
      -- markIntS ['x0', 'k'] k
      have HS11 : w12.heap.size ≤ w11.heap.size ∧ w11.heap.size ≤ w12.heap.size := by omega
      have HB := Lib.hid ((HB.out).grown hg (by omega) (fun j hj => by have := (LX3.out j hj).1; omega))
      have O0 := Lib.hid (O0.out.kept hg (own_apart LX0.out LX3.out (by omega)))
      have O1 := Lib.hid (O1.out.kept hg (own_apart LX1.out LX3.out (by omega)))
      have O2 := Lib.hid (O2.out.kept hg (own_apart LX2.out LX3.out (by omega)))
      have O4 := Lib.hid (O4.out.kept hg (own_apart LX4.out LX3.out (by omega)))
      have O5 := Lib.hid (O5.out.kept hg (own_apart LX5.out LX3.out (by omega)))
      have O7 := Lib.hid (O7.out.kept hg (own_apart LX7.out LX3.out (by omega)))
      have O9 := Lib.hid (O9.out.kept hg (own_apart LX9.out LX3.out (by omega)))
      have O3 := Lib.hid o
      clear o hg hz
      go_wp2_with (go_at_call 16; refine (markIntS_any _ b4 _ c4 _ _ _ rfl O4.out (by omega) (by omega) (by omega)).mono ?_; rintro e w13 ⟨rfl, o, hg, hz⟩; refine Hid.out ?_)
      refine Lib.hid ?_
      -- markIntS ['x1', 'k'] k
      have HS12 : w13.heap.size ≤ w12.heap.size ∧ w12.heap.size ≤ w13.heap.size := by omega
      have HB := Lib.hid ((HB.out).grown hg (by omega) (fun j hj => by have := (LX4.out j hj).1; omega))
      have O0 := Lib.hid (O0.out.kept hg (own_apart LX0.out LX4.out (by omega)))
      have O1 := Lib.hid (O1.out.kept hg (own_apart LX1.out LX4.out (by omega)))
      have O2 := Lib.hid (O2.out.kept hg (own_apart LX2.out LX4.out (by omega)))
      have O3 := Lib.hid (O3.out.kept hg (own_apart LX3.out LX4.out (by omega)))
      have O5 := Lib.hid (O5.out.kept hg (own_apart LX5.out LX4.out (by omega)))
      have O7 := Lib.hid (O7.out.kept hg (own_apart LX7.out LX4.out (by omega)))
      have O9 := Lib.hid (O9.out.kept hg (own_apart LX9.out LX4.out (by omega)))
      have O4 := Lib.hid o
      clear o hg hz
      go_wp2_with (go_at_call 15; refine (eqIntS_same b5 b2 _ c5 c2 _ _ (Ints.of_own O5.out) (Ints.of_own O2.out)).mono ?_; rintro e w14 ⟨rfl, hb⟩; refine Hid.out ?_)
      refine Lib.hid ?_
      -- eqIntS ['g0', 'w0'] None
      have HS13 := hb.size
      have O0 := Lib.hid (own_below O0.out hb)
      have O1 := Lib.hid (own_below O1.out hb)
      have O2 := Lib.hid (own_below O2.out hb)
      have O3 := Lib.hid (own_below O3.out hb)
      have O4 := Lib.hid (own_below O4.out hb)
      have O5 := Lib.hid (own_below O5.out hb)
      have O7 := Lib.hid (own_below O7.out hb)
      have O9 := Lib.hid (own_below O9.out hb)
      have HB := Lib.hid ((HB.out).trans (hb.mono (by first | omega | exact Nat.le_refl _)))
      clear hb
      go_wp2_with (go_at_call 16; refine (markIntS_any _ b5 _ c5 _ _ _ rfl O5.out (by omega) (by omega) (by omega)).mono ?_; rintro e w15 ⟨rfl, o, hg, hz⟩; refine Hid.out ?_)
      refine Lib.hid ?_
      -- markIntS ['g0', 'm'] m
      have HS14 : w15.heap.size ≤ w14.heap.size ∧ w14.heap.size ≤ w15.heap.size := by omega
      have HB := Lib.hid ((HB.out).grown hg (by omega) (fun j hj => by have := (LX5.out j hj).1; omega))
      have O0 := Lib.hid (O0.out.kept hg (own_apart LX0.out LX5.out (by omega)))
      have O1 := Lib.hid (O1.out.kept hg (own_apart LX1.out LX5.out (by omega)))
      have O2 := Lib.hid (O2.out.kept hg (own_apart LX2.out LX5.out (by omega)))
      have O3 := Lib.hid (O3.out.kept hg (own_apart LX3.out LX5.out (by omega)))
      have O4 := Lib.hid (O4.out.kept hg (own_apart LX4.out LX5.out (by omega)))
      have O7 := Lib.hid (O7.out.kept hg (own_apart LX7.out LX5.out (by omega)))
      have O9 := Lib.hid (O9.out.kept hg (own_apart LX9.out LX5.out (by omega)))
      have O5 := Lib.hid o
      clear o hg hz
      go_wp2_with (go_at_call 17; refine (heldIntS_marks b5 _ c5 _ _ (Ints.of_own O5.out) (by omega) (by omega) (by omega)).mono ?_; rintro e w16 ⟨rfl, rfl⟩; refine Hid.out ?_)
      refine Lib.hid ?_
      -- heldIntS ['g0', 'q'] q
      go_wp2_with (go_at_call 14; refine (toIntS_any a0 y0.length cap0 y0 _ (Q0.out.below HB.out) (by omega)).mono ?_; rintro e w17 ⟨b16, c16, rfl, o, hb, ln16⟩; refine Hid.out ?_)
      refine Lib.hid ?_
      -- toIntS ['aLow'] _t0_16
      have HS16 := hb.size
      have O0 := Lib.hid (own_below O0.out hb)
      have O1 := Lib.hid (own_below O1.out hb)
      have O2 := Lib.hid (own_below O2.out hb)
      have O3 := Lib.hid (own_below O3.out hb)
      have O4 := Lib.hid (own_below O4.out hb)
      have O5 := Lib.hid (own_below O5.out hb)
      have O7 := Lib.hid (own_below O7.out hb)
      have O9 := Lib.hid (own_below O9.out hb)
      have HB := Lib.hid ((HB.out).trans (hb.mono (by first | omega | exact Nat.le_refl _)))
      have O16 := Lib.hid o
      have LX16 := Lib.hid o.lt
      clear o
      clear hb
      go_wp2_with (go_at_call 14; refine (toIntS_any a1 y1.length cap1 y1 _ (Q1.out.below HB.out) (by omega)).mono ?_; rintro e w18 ⟨b17, c17, rfl, o, hb, ln17⟩; refine Hid.out ?_)
      refine Lib.hid ?_
      -- toIntS ['aHigh'] _t1_16
      have HS17 := hb.size
      have O0 := Lib.hid (own_below O0.out hb)
      have O1 := Lib.hid (own_below O1.out hb)
      have O2 := Lib.hid (own_below O2.out hb)
      have O3 := Lib.hid (own_below O3.out hb)
      have O4 := Lib.hid (own_below O4.out hb)
      have O5 := Lib.hid (own_below O5.out hb)
      have O7 := Lib.hid (own_below O7.out hb)
      have O9 := Lib.hid (own_below O9.out hb)
      have O16 := Lib.hid (own_below O16.out hb)
      have HB := Lib.hid ((HB.out).trans (hb.mono (by first | omega | exact Nat.le_refl _)))
      have O17 := Lib.hid o
      have LX17 := Lib.hid o.lt
      clear o
      clear hb
      go_wp2_with (go_at_call 8; refine (iJoinWords b16 y0.length c16 y0 b17 y1.length c17 y1 _ (Ints.of_own O16.out) (Ints.of_own O17.out)).mono ?_; rintro e w19 ⟨b18, c18, rfl, o, hb, ln18⟩; refine Hid.out ?_)
      refine Lib.hid ?_
      -- impl.JoinWords ['_t0_16', '_t1_16'] h0
      have HS18 := hb.size
      have O0 := Lib.hid (own_below O0.out hb)
      have O1 := Lib.hid (own_below O1.out hb)
      have O2 := Lib.hid (own_below O2.out hb)
      have O3 := Lib.hid (own_below O3.out hb)
      have O4 := Lib.hid (own_below O4.out hb)
      have O5 := Lib.hid (own_below O5.out hb)
      have O7 := Lib.hid (own_below O7.out hb)
      have O9 := Lib.hid (own_below O9.out hb)
      have O16 := Lib.hid (own_below O16.out hb)
      have O17 := Lib.hid (own_below O17.out hb)
      have HB := Lib.hid ((HB.out).trans (hb.mono (by first | omega | exact Nat.le_refl _)))
      have O18 := Lib.hid o
      have LX18 := Lib.hid o.lt
      clear o
      clear hb
      go_wp2_with (go_at_call 15; refine (eqIntS_same b18 b2 _ c18 c2 _ _ (Ints.of_own O18.out) (Ints.of_own O2.out)).mono ?_; rintro e w20 ⟨rfl, hb⟩; refine Hid.out ?_)
      refine Lib.hid ?_
      -- eqIntS ['h0', 'w0'] None
      have HS19 := hb.size
      have O0 := Lib.hid (own_below O0.out hb)
      have O1 := Lib.hid (own_below O1.out hb)
      have O2 := Lib.hid (own_below O2.out hb)
      have O3 := Lib.hid (own_below O3.out hb)
      have O4 := Lib.hid (own_below O4.out hb)
      have O5 := Lib.hid (own_below O5.out hb)
      have O7 := Lib.hid (own_below O7.out hb)
      have O9 := Lib.hid (own_below O9.out hb)
      have O16 := Lib.hid (own_below O16.out hb)
      have O17 := Lib.hid (own_below O17.out hb)
      have O18 := Lib.hid (own_below O18.out hb)
      have HB := Lib.hid ((HB.out).trans (hb.mono (by first | omega | exact Nat.le_refl _)))
      clear hb
      go_wp2_with (go_at_call 17; refine (heldIntS_marks b5 _ c5 _ _ (Ints.of_own O5.out) (by omega) (by omega) (by omega)).mono ?_; rintro e w21 ⟨rfl, rfl⟩; refine Hid.out ?_)
      refine Lib.hid ?_
      -- heldIntS ['g0', 'q'] q
      go_wp2
      go_ret
      exact ⟨rfl, HB.out⟩
    · go_enter Try.func4, Try.ntmps4
      go_wp2
      go_ret
      exact ⟨rfl, Below.refl _ _⟩
  · go_enter Try.func4, Try.ntmps4
    go_wp2
    go_ret
    exact ⟨rfl, Below.refl _ _⟩
end Go.Proofs.Ythcljjkgbdlclaa

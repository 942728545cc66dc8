/- The walks of exact laws over integers, texts and slices of integers. -/
import Derived.Test.YtjfgijnidlmmgabWS4
import Derived.Test.YtjfgijnidlmmgabRow
import Derived.Test.YtjfgijnidlmmgabWI4
import Derived.Test.YtjfgijnidlmmgabWI3
namespace Go.Proofs.Ytjfgijnidlmmgab
open Go.RowKit

set_option maxHeartbeats 2000000 in
theorem wFnExactWeightOf (a0 : Option Addr) (len0 cap0 : Nat) (z0 : List Int) (w : World) (w0 : IsRow .i64 w a0 len0 cap0 z0) : Calls Try.prog 6 #[.slice a0 len0 cap0] w fun e w' => e = .returned (.bool true) ∧ Below w.heap.size w w' := by
  have q0 := Ints.of_row w0
  have m0 : len0 ≤ 9223372036854775807 := by obtain ⟨_, h2, h3, _⟩ := q0; unfold maxLen at h3; omega
  by_cases g0 : len0 ≤ 1048576
  · skip
    obtain ⟨y0, ey0⟩ : ∃ y, y = z0.take len0 := ⟨_, rfl⟩
    rw [← ey0] at q0
    clear ey0 w0
    obtain rfl : len0 = y0.length := q0.1.symm
    have Q0 := Lib.hid q0
    clear q0
    go_enter Try.func6, Try.ntmps6
    go_wp2_with (go_at_call 16; refine (toIntS_any a0 y0.length cap0 y0 _ Q0.out (by omega)).mono ?_; rintro e w1 ⟨b0, c0, rfl, o, hb, ln0⟩; refine Hid.out ?_)
    refine Lib.hid ?_
    -- toIntS ['aW'] _t0_0
    have HS0 := hb.size
    have HB := Lib.hid (((Below.refl w.heap.size w)).trans (hb.mono (by first | omega | exact Nat.le_refl _)))
    have O0 := Lib.hid o
    have LX0 := Lib.hid o.lt
    clear o
    clear hb
    go_wp2_with (go_at_call 25; refine (sWeightOf b0 y0.length c0 y0 _ (Ints.of_own O0.out)).mono ?_; rintro e w2 ⟨rfl, rfl⟩; refine Hid.out ?_)
    refine Lib.hid ?_
    -- spec.WeightOf ['_t0_0'] w0
    go_wp2_with (go_at_call 16; refine (toIntS_any a0 y0.length cap0 y0 _ (Q0.out.below HB.out) (by omega)).mono ?_; rintro e w3 ⟨b2, c2, rfl, o, hb, ln2⟩; refine Hid.out ?_)
    refine Lib.hid ?_
    -- toIntS ['aW'] x0
    have HS2 := hb.size
    have O0 := Lib.hid (own_below O0.out hb)
    have HB := Lib.hid ((HB.out).trans (hb.mono (by first | omega | exact Nat.le_refl _)))
    have O2 := Lib.hid o
    have LX2 := Lib.hid o.lt
    clear o
    clear hb
    go_wp2_with (go_at_call 26; refine (iWeightOf b2 y0.length c2 y0 _ (Ints.of_own O2.out)).mono ?_; rintro e w4 ⟨rfl, rfl⟩; refine Hid.out ?_)
    refine Lib.hid ?_
    -- impl.WeightOf ['x0'] g0
    go_wp2_with (go_at_call 16; refine (toIntS_any a0 y0.length cap0 y0 _ (Q0.out.below HB.out) (by omega)).mono ?_; rintro e w5 ⟨b4, c4, rfl, o, hb, ln4⟩; refine Hid.out ?_)
    refine Lib.hid ?_
    -- toIntS ['aW'] _t0_4
    have HS4 := hb.size
    have O0 := Lib.hid (own_below O0.out hb)
    have O2 := Lib.hid (own_below O2.out hb)
    have HB := Lib.hid ((HB.out).trans (hb.mono (by first | omega | exact Nat.le_refl _)))
    have O4 := Lib.hid o
    have LX4 := Lib.hid o.lt
    clear o
    clear hb
    go_wp2_with (go_at_call 18; refine (eqIntS_same b2 b4 _ c2 c4 _ _ (Ints.of_own O2.out) (Ints.of_own O4.out)).mono ?_; rintro e w6 ⟨rfl, hb⟩; refine Hid.out ?_)
    refine Lib.hid ?_
    -- eqIntS ['x0', '_t0_4'] None
    have HS5 := hb.size
    have O0 := Lib.hid (own_below O0.out hb)
    have O2 := Lib.hid (own_below O2.out hb)
    have O4 := Lib.hid (own_below O4.out hb)
    have HB := Lib.hid ((HB.out).trans (hb.mono (by first | omega | exact Nat.le_refl _)))
    clear hb
    go_wp2
    go_ret
    exact ⟨rfl, HB.out⟩
  · go_enter Try.func6, Try.ntmps6
    go_wp2
    go_ret
    exact ⟨rfl, Below.refl _ _⟩
set_option maxHeartbeats 2000000 in
theorem wFnExactSumOf (a0 : Option Addr) (len0 cap0 : Nat) (z0 : List Int) (w : World) (w0 : IsRow .i64 w a0 len0 cap0 z0) : Calls Try.prog 7 #[.slice a0 len0 cap0] w fun e w' => e = .returned (.bool true) ∧ Below w.heap.size w w' := by
  have q0 := Ints.of_row w0
  have m0 : len0 ≤ 9223372036854775807 := by obtain ⟨_, h2, h3, _⟩ := q0; unfold maxLen at h3; omega
  by_cases g0 : len0 ≤ 1048576
  · skip
    obtain ⟨y0, ey0⟩ : ∃ y, y = z0.take len0 := ⟨_, rfl⟩
    rw [← ey0] at q0
    clear ey0 w0
    obtain rfl : len0 = y0.length := q0.1.symm
    have Q0 := Lib.hid q0
    clear q0
    go_enter Try.func7, Try.ntmps7
    go_wp2_with (go_at_call 16; refine (toIntS_any a0 y0.length cap0 y0 _ Q0.out (by omega)).mono ?_; rintro e w1 ⟨b0, c0, rfl, o, hb, ln0⟩; refine Hid.out ?_)
    refine Lib.hid ?_
    -- toIntS ['aW'] _t0_0
    have HS0 := hb.size
    have HB := Lib.hid (((Below.refl w.heap.size w)).trans (hb.mono (by first | omega | exact Nat.le_refl _)))
    have O0 := Lib.hid o
    have LX0 := Lib.hid o.lt
    clear o
    clear hb
    go_wp2_with (go_at_call 27; refine (sSumOf b0 y0.length c0 y0 _ (Ints.of_own O0.out)).mono ?_; rintro e w2 ⟨rfl, rfl⟩; refine Hid.out ?_)
    refine Lib.hid ?_
    -- spec.SumOf ['_t0_0'] w0
    go_wp2_with (go_at_call 16; refine (toIntS_any a0 y0.length cap0 y0 _ (Q0.out.below HB.out) (by omega)).mono ?_; rintro e w3 ⟨b2, c2, rfl, o, hb, ln2⟩; refine Hid.out ?_)
    refine Lib.hid ?_
    -- toIntS ['aW'] x0
    have HS2 := hb.size
    have O0 := Lib.hid (own_below O0.out hb)
    have HB := Lib.hid ((HB.out).trans (hb.mono (by first | omega | exact Nat.le_refl _)))
    have O2 := Lib.hid o
    have LX2 := Lib.hid o.lt
    clear o
    clear hb
    go_wp2_with (go_at_call 28; refine (iSumOf b2 y0.length c2 y0 _ (Ints.of_own O2.out)).mono ?_; rintro e w4 ⟨rfl, rfl⟩; refine Hid.out ?_)
    refine Lib.hid ?_
    -- impl.SumOf ['x0'] g0
    go_wp2_with (go_at_call 16; refine (toIntS_any a0 y0.length cap0 y0 _ (Q0.out.below HB.out) (by omega)).mono ?_; rintro e w5 ⟨b4, c4, rfl, o, hb, ln4⟩; refine Hid.out ?_)
    refine Lib.hid ?_
    -- toIntS ['aW'] _t0_4
    have HS4 := hb.size
    have O0 := Lib.hid (own_below O0.out hb)
    have O2 := Lib.hid (own_below O2.out hb)
    have HB := Lib.hid ((HB.out).trans (hb.mono (by first | omega | exact Nat.le_refl _)))
    have O4 := Lib.hid o
    have LX4 := Lib.hid o.lt
    clear o
    clear hb
    go_wp2_with (go_at_call 18; refine (eqIntS_same b2 b4 _ c2 c4 _ _ (Ints.of_own O2.out) (Ints.of_own O4.out)).mono ?_; rintro e w6 ⟨rfl, hb⟩; refine Hid.out ?_)
    refine Lib.hid ?_
    -- eqIntS ['x0', '_t0_4'] None
    have HS5 := hb.size
    have O0 := Lib.hid (own_below O0.out hb)
    have O2 := Lib.hid (own_below O2.out hb)
    have O4 := Lib.hid (own_below O4.out hb)
    have HB := Lib.hid ((HB.out).trans (hb.mono (by first | omega | exact Nat.le_refl _)))
    clear hb
    go_wp2
    go_ret
    exact ⟨rfl, HB.out⟩
  · go_enter Try.func7, Try.ntmps7
    go_wp2
    go_ret
    exact ⟨rfl, Below.refl _ _⟩
set_option maxHeartbeats 2000000 in
theorem wFnExactReverseWord (a0 : Option Addr) (len0 cap0 : Nat) (z0 : List Int) (w : World) (w0 : IsRow .i64 w a0 len0 cap0 z0) : Calls Try.prog 8 #[.slice a0 len0 cap0] w fun e w' => e = .returned (.bool true) ∧ Below w.heap.size w w' := by
  have q0 := Ints.of_row w0
  have m0 : len0 ≤ 9223372036854775807 := by obtain ⟨_, h2, h3, _⟩ := q0; unfold maxLen at h3; omega
  by_cases g0 : len0 ≤ 1048576
  · skip
    obtain ⟨y0, ey0⟩ : ∃ y, y = z0.take len0 := ⟨_, rfl⟩
    rw [← ey0] at q0
    clear ey0 w0
    obtain rfl : len0 = y0.length := q0.1.symm
    have Q0 := Lib.hid q0
    clear q0
    go_enter Try.func8, Try.ntmps8
    go_wp2_with (go_at_call 16; refine (toIntS_any a0 y0.length cap0 y0 _ Q0.out (by omega)).mono ?_; rintro e w1 ⟨b0, c0, rfl, o, hb, ln0⟩; refine Hid.out ?_)
    refine Lib.hid ?_
    -- toIntS ['aW'] _t0_0
    have HS0 := hb.size
    have HB := Lib.hid (((Below.refl w.heap.size w)).trans (hb.mono (by first | omega | exact Nat.le_refl _)))
    have O0 := Lib.hid o
    have LX0 := Lib.hid o.lt
    clear o
    clear hb
    go_wp2_with (go_at_call 29; refine (sReverseWord b0 y0.length c0 y0 _ (Ints.of_own O0.out)).mono ?_; rintro e w2 ⟨b1, c1, rfl, o, hb, ln1⟩; refine Hid.out ?_)
    refine Lib.hid ?_
    -- spec.ReverseWord ['_t0_0'] w0
    have HS1 := hb.size
    have O0 := Lib.hid (own_below O0.out hb)
    have HB := Lib.hid ((HB.out).trans (hb.mono (by first | omega | exact Nat.le_refl _)))
    have O1 := Lib.hid o
    have LX1 := Lib.hid o.lt
    clear o
    clear hb
    go_wp2_with (go_at_call 16; refine (toIntS_any a0 y0.length cap0 y0 _ (Q0.out.below HB.out) (by omega)).mono ?_; rintro e w3 ⟨b2, c2, rfl, o, hb, ln2⟩; refine Hid.out ?_)
    refine Lib.hid ?_
    -- toIntS ['aW'] x0
    have HS2 := hb.size
    have O0 := Lib.hid (own_below O0.out hb)
    have O1 := Lib.hid (own_below O1.out hb)
    have HB := Lib.hid ((HB.out).trans (hb.mono (by first | omega | exact Nat.le_refl _)))
    have O2 := Lib.hid o
    have LX2 := Lib.hid o.lt
    clear o
    clear hb
    go_wp2_with (go_at_call 30; refine (iReverseWord b2 y0.length c2 y0 _ (Ints.of_own O2.out)).mono ?_; rintro e w4 ⟨b3, c3, rfl, o, hb, ln3⟩; refine Hid.out ?_)
    refine Lib.hid ?_
    -- impl.ReverseWord ['x0'] g0
    have HS3 := hb.size
    have O0 := Lib.hid (own_below O0.out hb)
    have O1 := Lib.hid (own_below O1.out hb)
    have O2 := Lib.hid (own_below O2.out hb)
    have HB := Lib.hid ((HB.out).trans (hb.mono (by first | omega | exact Nat.le_refl _)))
    have O3 := Lib.hid o
    have LX3 := Lib.hid o.lt
    clear o
    clear hb
    go_wp2_with (go_at_call 18; refine (eqIntS_same b3 b1 _ c3 c1 _ _ (Ints.of_own O3.out) (Ints.of_own O1.out)).mono ?_; rintro e w5 ⟨rfl, hb⟩; refine Hid.out ?_)
    refine Lib.hid ?_
    -- eqIntS ['g0', 'w0'] None
    have HS4 := hb.size
    have O0 := Lib.hid (own_below O0.out hb)
    have O1 := Lib.hid (own_below O1.out hb)
    have O2 := Lib.hid (own_below O2.out hb)
    have O3 := Lib.hid (own_below O3.out hb)
    have HB := Lib.hid ((HB.out).trans (hb.mono (by first | omega | exact Nat.le_refl _)))
    clear hb
    go_wp2_with (go_at_call 16; refine (toIntS_any a0 y0.length cap0 y0 _ (Q0.out.below HB.out) (by omega)).mono ?_; rintro e w6 ⟨b5, c5, rfl, o, hb, ln5⟩; refine Hid.out ?_)
    refine Lib.hid ?_
    -- toIntS ['aW'] _t0_5
    have HS5 := hb.size
    have O0 := Lib.hid (own_below O0.out hb)
    have O1 := Lib.hid (own_below O1.out hb)
    have O2 := Lib.hid (own_below O2.out hb)
    have O3 := Lib.hid (own_below O3.out hb)
    have HB := Lib.hid ((HB.out).trans (hb.mono (by first | omega | exact Nat.le_refl _)))
    have O5 := Lib.hid o
    have LX5 := Lib.hid o.lt
    clear o
    clear hb
    go_wp2_with (go_at_call 18; refine (eqIntS_same b2 b5 _ c2 c5 _ _ (Ints.of_own O2.out) (Ints.of_own O5.out)).mono ?_; rintro e w7 ⟨rfl, hb⟩; refine Hid.out ?_)
    refine Lib.hid ?_
    -- eqIntS ['x0', '_t0_5'] None
    have HS6 := hb.size
    have O0 := Lib.hid (own_below O0.out hb)
    have O1 := Lib.hid (own_below O1.out hb)
    have O2 := Lib.hid (own_below O2.out hb)
    have O3 := Lib.hid (own_below O3.out hb)
    have O5 := Lib.hid (own_below O5.out hb)
    have HB := Lib.hid ((HB.out).trans (hb.mono (by first | omega | exact Nat.le_refl _)))
    clear hb
    go_wp2_with (go_at_call 19; refine (markIntS_any _ b2 _ c2 _ _ _ rfl O2.out (by omega) (by omega) (by omega)).mono ?_; rintro e w8 ⟨rfl, o, hg, hz⟩; refine Hid.out ?_)
    refine Lib.hid ?_
    -- markIntS ['x0', 'k'] k
    have HS7 : w8.heap.size ≤ w7.heap.size ∧ w7.heap.size ≤ w8.heap.size := by omega
    have HB := Lib.hid ((HB.out).grown hg (by omega) (fun j hj => by have := (LX2.out j hj).1; omega))
    have O0 := Lib.hid (O0.out.kept hg (own_apart LX0.out LX2.out (by omega)))
    have O1 := Lib.hid (O1.out.kept hg (own_apart LX1.out LX2.out (by omega)))
    have O3 := Lib.hid (O3.out.kept hg (own_apart LX3.out LX2.out (by omega)))
    have O5 := Lib.hid (O5.out.kept hg (own_apart LX5.out LX2.out (by omega)))
    have O2 := Lib.hid o
    clear o hg hz
    go_wp2_with (go_at_call 18; refine (eqIntS_same b3 b1 _ c3 c1 _ _ (Ints.of_own O3.out) (Ints.of_own O1.out)).mono ?_; rintro e w9 ⟨rfl, hb⟩; refine Hid.out ?_)
    refine Lib.hid ?_
    -- eqIntS ['g0', 'w0'] None
    have HS8 := hb.size
    have O0 := Lib.hid (own_below O0.out hb)
    have O1 := Lib.hid (own_below O1.out hb)
    have O2 := Lib.hid (own_below O2.out hb)
    have O3 := Lib.hid (own_below O3.out hb)
    have O5 := Lib.hid (own_below O5.out hb)
    have HB := Lib.hid ((HB.out).trans (hb.mono (by first | omega | exact Nat.le_refl _)))
    clear hb
    go_wp2_with (go_at_call 19; refine (markIntS_any _ b3 _ c3 _ _ _ rfl O3.out (by omega) (by omega) (by omega)).mono ?_; rintro e w10 ⟨rfl, o, hg, hz⟩; refine Hid.out ?_)
    refine Lib.hid ?_
    -- markIntS ['g0', 'm'] m
    have HS9 : w10.heap.size ≤ w9.heap.size ∧ w9.heap.size ≤ w10.heap.size := by omega
    have HB := Lib.hid ((HB.out).grown hg (by omega) (fun j hj => by have := (LX3.out j hj).1; omega))
    have O0 := Lib.hid (O0.out.kept hg (own_apart LX0.out LX3.out (by omega)))
    have O1 := Lib.hid (O1.out.kept hg (own_apart LX1.out LX3.out (by omega)))
    have O2 := Lib.hid (O2.out.kept hg (own_apart LX2.out LX3.out (by omega)))
    have O5 := Lib.hid (O5.out.kept hg (own_apart LX5.out LX3.out (by omega)))
    have O3 := Lib.hid o
    clear o hg hz
    go_wp2_with (go_at_call 20; refine (heldIntS_marks b3 _ c3 _ _ (Ints.of_own O3.out) (by omega) (by omega) (by omega)).mono ?_; rintro e w11 ⟨rfl, rfl⟩; refine Hid.out ?_)
    refine Lib.hid ?_
    -- heldIntS ['g0', 'q'] q
    go_wp2_with (go_at_call 16; refine (toIntS_any a0 y0.length cap0 y0 _ (Q0.out.below HB.out) (by omega)).mono ?_; rintro e w12 ⟨b11, c11, rfl, o, hb, ln11⟩; refine Hid.out ?_)
    refine Lib.hid ?_
    -- toIntS ['aW'] _t0_11
    have HS11 := hb.size
    have O0 := Lib.hid (own_below O0.out hb)
    have O1 := Lib.hid (own_below O1.out hb)
    have O2 := Lib.hid (own_below O2.out hb)
    have O3 := Lib.hid (own_below O3.out hb)
    have O5 := Lib.hid (own_below O5.out hb)
    have HB := Lib.hid ((HB.out).trans (hb.mono (by first | omega | exact Nat.le_refl _)))
    have O11 := Lib.hid o
    have LX11 := Lib.hid o.lt
    clear o
    clear hb
    go_wp2_with (go_at_call 30; refine (iReverseWord b11 y0.length c11 y0 _ (Ints.of_own O11.out)).mono ?_; rintro e w13 ⟨b12, c12, rfl, o, hb, ln12⟩; refine Hid.out ?_)
    refine Lib.hid ?_
    -- impl.ReverseWord ['_t0_11'] h0
    have HS12 := hb.size
    have O0 := Lib.hid (own_below O0.out hb)
    have O1 := Lib.hid (own_below O1.out hb)
    have O2 := Lib.hid (own_below O2.out hb)
    have O3 := Lib.hid (own_below O3.out hb)
    have O5 := Lib.hid (own_below O5.out hb)
    have O11 := Lib.hid (own_below O11.out hb)
    have HB := Lib.hid ((HB.out).trans (hb.mono (by first | omega | exact Nat.le_refl _)))
    have O12 := Lib.hid o
    have LX12 := Lib.hid o.lt
    clear o
    clear hb
    go_wp2_with (go_at_call 18; refine (eqIntS_same b12 b1 _ c12 c1 _ _ (Ints.of_own O12.out) (Ints.of_own O1.out)).mono ?_; rintro e w14 ⟨rfl, hb⟩; refine Hid.out ?_)
    refine Lib.hid ?_
    -- eqIntS ['h0', 'w0'] None
    have HS13 := hb.size
    have O0 := Lib.hid (own_below O0.out hb)
    have O1 := Lib.hid (own_below O1.out hb)
    have O2 := Lib.hid (own_below O2.out hb)
    have O3 := Lib.hid (own_below O3.out hb)
    have O5 := Lib.hid (own_below O5.out hb)
    have O11 := Lib.hid (own_below O11.out hb)
    have O12 := Lib.hid (own_below O12.out hb)
    have HB := Lib.hid ((HB.out).trans (hb.mono (by first | omega | exact Nat.le_refl _)))
    clear hb
    go_wp2_with (go_at_call 20; refine (heldIntS_marks b3 _ c3 _ _ (Ints.of_own O3.out) (by omega) (by omega) (by omega)).mono ?_; rintro e w15 ⟨rfl, rfl⟩; refine Hid.out ?_)
    refine Lib.hid ?_
    -- heldIntS ['g0', 'q'] q
    go_wp2
    go_ret
    exact ⟨rfl, HB.out⟩
  · go_enter Try.func8, Try.ntmps8
    go_wp2
    go_ret
    exact ⟨rfl, Below.refl _ _⟩
end Go.Proofs.Ytjfgijnidlmmgab

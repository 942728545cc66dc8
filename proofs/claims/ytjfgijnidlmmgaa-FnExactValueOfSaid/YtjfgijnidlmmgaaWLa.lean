/- The walks of exact laws over integers, texts and slices of integers. -/
import Derived.Test.YtjfgijnidlmmgaaWS4
import Derived.Test.YtjfgijnidlmmgaaRow
import Derived.Test.YtjfgijnidlmmgaaWI3
namespace Go.Proofs.Ytjfgijnidlmmgaa
open Go.RowKit

set_option maxHeartbeats 2000000 in
theorem wFnExactIsWord (a0 : Option Addr) (len0 cap0 : Nat) (z0 : List Int) (w : World) (w0 : IsRow .i64 w a0 len0 cap0 z0) : Calls Try.prog 3 #[.slice a0 len0 cap0] w fun e w' => e = .returned (.bool true) ∧ Below w.heap.size w w' := by
  have q0 := Ints.of_row w0
  have m0 : len0 ≤ 9223372036854775807 := by obtain ⟨_, h2, h3, _⟩ := q0; unfold maxLen at h3; omega
  by_cases g0 : len0 ≤ 1048576
  · skip
    obtain ⟨y0, ey0⟩ : ∃ y, y = z0.take len0 := ⟨_, rfl⟩
    rw [← ey0] at q0
    clear ey0 w0
    obtain rfl : len0 = y0.length := q0.1.symm
    have Q0 := Lib.hid q0
    clear q0
    go_enter Try.func3, Try.ntmps3
    go_wp2_with (go_at_call 16; refine (toIntS_any a0 y0.length cap0 y0 _ Q0.out (by omega)).mono ?_; rintro e w1 ⟨b0, c0, rfl, o, hb, ln0⟩; refine Hid.out ?_)
    refine Lib.hid ?_
    -- toIntS ['aW'] _t0_0
    have HS0 := hb.size
    have HB := Lib.hid (((Below.refl w.heap.size w)).trans (hb.mono (by first | omega | exact Nat.le_refl _)))
    have O0 := Lib.hid o
    have LX0 := Lib.hid o.lt
    clear o
    clear hb
    go_wp2_with (go_at_call 15; refine (sIsWord b0 y0.length c0 y0 _ (Ints.of_own O0.out)).mono ?_; rintro e w2 ⟨rfl, rfl⟩; refine Hid.out ?_)
    refine Lib.hid ?_
    -- spec.IsWord ['_t0_0'] w0
    go_wp2_with (go_at_call 16; refine (toIntS_any a0 y0.length cap0 y0 _ (Q0.out.below HB.out) (by omega)).mono ?_; rintro e w3 ⟨b2, c2, rfl, o, hb, ln2⟩; refine Hid.out ?_)
    refine Lib.hid ?_
    -- toIntS ['aW'] x0
    have HS2 := hb.size
    have O0 := Lib.hid (own_below O0.out hb)
    have HB := Lib.hid ((HB.out).trans (hb.mono (by first | omega | exact Nat.le_refl _)))
    have O2 := Lib.hid o
    have LX2 := Lib.hid o.lt
    clear o
    clear hb
    go_wp2_with (go_at_call 17; refine (iIsWord b2 y0.length c2 y0 _ (Ints.of_own O2.out)).mono ?_; rintro e w4 ⟨rfl, rfl⟩; refine Hid.out ?_)
    refine Lib.hid ?_
    -- impl.IsWord ['x0'] g0
    go_wp2_with (go_at_call 16; refine (toIntS_any a0 y0.length cap0 y0 _ (Q0.out.below HB.out) (by omega)).mono ?_; rintro e w5 ⟨b4, c4, rfl, o, hb, ln4⟩; refine Hid.out ?_)
    refine Lib.hid ?_
    -- toIntS ['aW'] _t0_4
    have HS4 := hb.size
    have O0 := Lib.hid (own_below O0.out hb)
    have O2 := Lib.hid (own_below O2.out hb)
    have HB := Lib.hid ((HB.out).trans (hb.mono (by first | omega | exact Nat.le_refl _)))
    have O4 := Lib.hid o
    have LX4 := Lib.hid o.lt
    clear o
    clear hb
    go_wp2_with (go_at_call 18; refine (eqIntS_same b2 b4 _ c2 c4 _ _ (Ints.of_own O2.out) (Ints.of_own O4.out)).mono ?_; rintro e w6 ⟨rfl, hb⟩; refine Hid.out ?_)
    refine Lib.hid ?_
    -- eqIntS ['x0', '_t0_4'] None
    have HS5 := hb.size
    have O0 := Lib.hid (own_below O0.out hb)
    have O2 := Lib.hid (own_below O2.out hb)
    have O4 := Lib.hid (own_below O4.out hb)
    have HB := Lib.hid ((HB.out).trans (hb.mono (by first | omega | exact Nat.le_refl _)))
    clear hb
    go_wp2
    go_ret
    exact ⟨rfl, HB.out⟩
  · go_enter Try.func3, Try.ntmps3
    go_wp2
    go_ret
    exact ⟨rfl, Below.refl _ _⟩
set_option maxHeartbeats 2000000 in
theorem wFnExactValueOf (a0 : Option Addr) (len0 cap0 : Nat) (z0 : List Int) (w : World) (w0 : IsRow .i64 w a0 len0 cap0 z0) : Calls Try.prog 4 #[.slice a0 len0 cap0] w fun e w' => e = .returned (.bool true) ∧ Below w.heap.size w w' := by
  have q0 := Ints.of_row w0
  have m0 : len0 ≤ 9223372036854775807 := by obtain ⟨_, h2, h3, _⟩ := q0; unfold maxLen at h3; omega
  by_cases g0 : len0 ≤ 1048576
  · skip
    obtain ⟨y0, ey0⟩ : ∃ y, y = z0.take len0 := ⟨_, rfl⟩
    rw [← ey0] at q0
    clear ey0 w0
    obtain rfl : len0 = y0.length := q0.1.symm
    have Q0 := Lib.hid q0
    clear q0
    go_enter Try.func4, Try.ntmps4
    go_wp2_with (go_at_call 16; refine (toIntS_any a0 y0.length cap0 y0 _ Q0.out (by omega)).mono ?_; rintro e w1 ⟨b0, c0, rfl, o, hb, ln0⟩; refine Hid.out ?_)
    refine Lib.hid ?_
    -- toIntS ['aW'] _t0_0
    have HS0 := hb.size
    have HB := Lib.hid (((Below.refl w.heap.size w)).trans (hb.mono (by first | omega | exact Nat.le_refl _)))
    have O0 := Lib.hid o
    have LX0 := Lib.hid o.lt
    clear o
    clear hb
    go_wp2_with (go_at_call 19; refine (sValueOf b0 y0.length c0 y0 _ (Ints.of_own O0.out)).mono ?_; rintro e w2 ⟨rfl, rfl⟩; refine Hid.out ?_)
    refine Lib.hid ?_
    -- spec.ValueOf ['_t0_0'] w0
    go_wp2_with (go_at_call 16; refine (toIntS_any a0 y0.length cap0 y0 _ (Q0.out.below HB.out) (by omega)).mono ?_; rintro e w3 ⟨b2, c2, rfl, o, hb, ln2⟩; refine Hid.out ?_)
    refine Lib.hid ?_
    -- toIntS ['aW'] x0
    have HS2 := hb.size
    have O0 := Lib.hid (own_below O0.out hb)
    have HB := Lib.hid ((HB.out).trans (hb.mono (by first | omega | exact Nat.le_refl _)))
    have O2 := Lib.hid o
    have LX2 := Lib.hid o.lt
    clear o
    clear hb
    go_wp2_with (go_at_call 20; refine (iValueOf b2 y0.length c2 y0 _ (Ints.of_own O2.out)).mono ?_; rintro e w4 ⟨rfl, rfl⟩; refine Hid.out ?_)
    refine Lib.hid ?_
    -- impl.ValueOf ['x0'] g0
    go_wp2_with (go_at_call 16; refine (toIntS_any a0 y0.length cap0 y0 _ (Q0.out.below HB.out) (by omega)).mono ?_; rintro e w5 ⟨b4, c4, rfl, o, hb, ln4⟩; refine Hid.out ?_)
    refine Lib.hid ?_
    -- toIntS ['aW'] _t0_4
    have HS4 := hb.size
    have O0 := Lib.hid (own_below O0.out hb)
    have O2 := Lib.hid (own_below O2.out hb)
    have HB := Lib.hid ((HB.out).trans (hb.mono (by first | omega | exact Nat.le_refl _)))
    have O4 := Lib.hid o
    have LX4 := Lib.hid o.lt
    clear o
    clear hb
    go_wp2_with (go_at_call 18; refine (eqIntS_same b2 b4 _ c2 c4 _ _ (Ints.of_own O2.out) (Ints.of_own O4.out)).mono ?_; rintro e w6 ⟨rfl, hb⟩; refine Hid.out ?_)
    refine Lib.hid ?_
    -- eqIntS ['x0', '_t0_4'] None
    have HS5 := hb.size
    have O0 := Lib.hid (own_below O0.out hb)
    have O2 := Lib.hid (own_below O2.out hb)
    have O4 := Lib.hid (own_below O4.out hb)
    have HB := Lib.hid ((HB.out).trans (hb.mono (by first | omega | exact Nat.le_refl _)))
    clear hb
    go_wp2
    go_ret
    exact ⟨rfl, HB.out⟩
  · go_enter Try.func4, Try.ntmps4
    go_wp2
    go_ret
    exact ⟨rfl, Below.refl _ _⟩
set_option maxHeartbeats 2000000 in
theorem wFnExactLimitOf (a0 : Int) (w : World) (_w0 : (Lit.int .i64 a0).wf = true) : Calls Try.prog 5 #[.int .i64 a0] w fun e w' => e = .returned (.bool true) ∧ Below w.heap.size w w' := by
  go_enter Try.func5, Try.ntmps5
  go_wp2_with (go_at_call 21; refine (sLimitOf a0 _ ).mono ?_; rintro e w1 ⟨rfl, rfl⟩; refine Hid.out ?_)
  refine Lib.hid ?_
  -- spec.LimitOf ['aK'] w0
  go_wp2_with (go_at_call 22; refine (iLimitOf a0 _ ).mono ?_; rintro e w2 ⟨rfl, rfl⟩; refine Hid.out ?_)
  refine Lib.hid ?_
  -- impl.LimitOf ['aK'] g0
  go_wp2
  go_ret
  exact ⟨rfl, Below.refl _ _⟩
set_option maxHeartbeats 2000000 in
theorem wFnExactLengthOf (a0 : Int) (w : World) (_w0 : (Lit.int .i64 a0).wf = true) : Calls Try.prog 7 #[.int .i64 a0] w fun e w' => e = .returned (.bool true) ∧ Below w.heap.size w w' := by
  go_enter Try.func7, Try.ntmps7
  go_wp2_with (go_at_call 27; refine (sLengthOf a0 _ ).mono ?_; rintro e w1 ⟨rfl, rfl⟩; refine Hid.out ?_)
  refine Lib.hid ?_
  -- spec.LengthOf ['aN'] w0
  go_wp2_with (go_at_call 28; refine (iLengthOf a0 _ ).mono ?_; rintro e w2 ⟨rfl, rfl⟩; refine Hid.out ?_)
  refine Lib.hid ?_
  -- impl.LengthOf ['aN'] g0
  go_wp2
  go_ret
  exact ⟨rfl, Below.refl _ _⟩
set_option maxHeartbeats 2000000 in
theorem wFnExactWordOf (a0 : Int) (a1 : Int) (w : World) (_w0 : (Lit.int .i64 a0).wf = true) (_w1 : (Lit.int .i64 a1).wf = true) : Calls Try.prog 6 #[.int .i64 a0, .int .i64 a1] w fun e w' => e = .returned (.bool true) ∧ Below w.heap.size w w' := by
  go_enter Try.func6, Try.ntmps6
  go_wp2_with (go_at_call 23; refine (sWordOf a0 a1 _ ).mono ?_; rintro e w1 ⟨b0, c0, rfl, o, hb, ln0⟩; refine Hid.out ?_)
  refine Lib.hid ?_
  -- spec.WordOf ['aN', 'aK'] w0
  have HS0 := hb.size
  have HB := Lib.hid (((Below.refl w.heap.size w)).trans (hb.mono (by first | omega | exact Nat.le_refl _)))
  have O0 := Lib.hid o
  have LX0 := Lib.hid o.lt
  clear o
  clear hb
  go_wp2_with (go_at_call 24; refine (iWordOf a0 a1 _ ).mono ?_; rintro e w2 ⟨b1, c1, rfl, o, hb, ln1⟩; refine Hid.out ?_)
  refine Lib.hid ?_
  -- impl.WordOf ['aN', 'aK'] g0
  have HS1 := hb.size
  have O0 := Lib.hid (own_below O0.out hb)
  have HB := Lib.hid ((HB.out).trans (hb.mono (by first | omega | exact Nat.le_refl _)))
  have O1 := Lib.hid o
  have LX1 := Lib.hid o.lt
  clear o
  clear hb
  go_wp2_with (go_at_call 18; refine (eqIntS_same b1 b0 _ c1 c0 _ _ (Ints.of_own O1.out) (Ints.of_own O0.out)).mono ?_; rintro e w3 ⟨rfl, hb⟩; refine Hid.out ?_)
  refine Lib.hid ?_
  -- eqIntS ['g0', 'w0'] None
  have HS2 := hb.size
  have O0 := Lib.hid (own_below O0.out hb)
  have O1 := Lib.hid (own_below O1.out hb)
  have HB := Lib.hid ((HB.out).trans (hb.mono (by first | omega | exact Nat.le_refl _)))
  clear hb
  go_wp2_with (go_at_call 25; refine (markIntS_any _ b1 _ c1 _ _ _ rfl O1.out (by omega) (by omega) (by omega)).mono ?_; rintro e w4 ⟨rfl, o, hg, hz⟩; refine Hid.out ?_)
  refine Lib.hid ?_
  -- markIntS ['g0', 'm'] m
  have HS3 : w4.heap.size ≤ w3.heap.size ∧ w3.heap.size ≤ w4.heap.size := by omega
  have HB := Lib.hid ((HB.out).grown hg (by omega) (fun j hj => by have := (LX1.out j hj).1; omega))
  have O0 := Lib.hid (O0.out.kept hg (own_apart LX0.out LX1.out (by omega)))
  have O1 := Lib.hid o
  clear o hg hz
  go_wp2_with (go_at_call 26; refine (heldIntS_marks b1 _ c1 _ _ (Ints.of_own O1.out) (by omega) (by omega) (by omega)).mono ?_; rintro e w5 ⟨rfl, rfl⟩; refine Hid.out ?_)
  refine Lib.hid ?_
  -- heldIntS ['g0', 'q'] q
  go_wp2_with (go_at_call 24; refine (iWordOf a0 a1 _ ).mono ?_; rintro e w6 ⟨b5, c5, rfl, o, hb, ln5⟩; refine Hid.out ?_)
  refine Lib.hid ?_
  -- impl.WordOf ['aN', 'aK'] h0
  have HS5 := hb.size
  have O0 := Lib.hid (own_below O0.out hb)
  have O1 := Lib.hid (own_below O1.out hb)
  have HB := Lib.hid ((HB.out).trans (hb.mono (by first | omega | exact Nat.le_refl _)))
  have O5 := Lib.hid o
  have LX5 := Lib.hid o.lt
  clear o
  clear hb
  go_wp2_with (go_at_call 18; refine (eqIntS_same b5 b0 _ c5 c0 _ _ (Ints.of_own O5.out) (Ints.of_own O0.out)).mono ?_; rintro e w7 ⟨rfl, hb⟩; refine Hid.out ?_)
  refine Lib.hid ?_
  -- eqIntS ['h0', 'w0'] None
  have HS6 := hb.size
  have O0 := Lib.hid (own_below O0.out hb)
  have O1 := Lib.hid (own_below O1.out hb)
  have O5 := Lib.hid (own_below O5.out hb)
  have HB := Lib.hid ((HB.out).trans (hb.mono (by first | omega | exact Nat.le_refl _)))
  clear hb
  go_wp2_with (go_at_call 26; refine (heldIntS_marks b1 _ c1 _ _ (Ints.of_own O1.out) (by omega) (by omega) (by omega)).mono ?_; rintro e w8 ⟨rfl, rfl⟩; refine Hid.out ?_)
  refine Lib.hid ?_
  -- heldIntS ['g0', 'q'] q
  go_wp2
  go_ret
  exact ⟨rfl, HB.out⟩
set_option maxHeartbeats 2000000 in
theorem wFnExactFormatWord (a0 : Option Addr) (len0 cap0 : Nat) (z0 : List Int) (w : World) (w0 : IsRow .i64 w a0 len0 cap0 z0) : Calls Try.prog 8 #[.slice a0 len0 cap0] w fun e w' => e = .returned (.bool true) ∧ Below w.heap.size w w' := by
  have q0 := Ints.of_row w0
  have m0 : len0 ≤ 9223372036854775807 := by obtain ⟨_, h2, h3, _⟩ := q0; unfold maxLen at h3; omega
  by_cases g0 : len0 ≤ 1048576
  · skip
    obtain ⟨y0, ey0⟩ : ∃ y, y = z0.take len0 := ⟨_, rfl⟩
    rw [← ey0] at q0
    clear ey0 w0
    obtain rfl : len0 = y0.length := q0.1.symm
    have Q0 := Lib.hid q0
    clear q0
    go_enter Try.func8, Try.ntmps8
    go_wp2_with (go_at_call 16; refine (toIntS_any a0 y0.length cap0 y0 _ Q0.out (by omega)).mono ?_; rintro e w1 ⟨b0, c0, rfl, o, hb, ln0⟩; refine Hid.out ?_)
    refine Lib.hid ?_
    -- toIntS ['aW'] _t0_0
    have HS0 := hb.size
    have HB := Lib.hid (((Below.refl w.heap.size w)).trans (hb.mono (by first | omega | exact Nat.le_refl _)))
    have O0 := Lib.hid o
    have LX0 := Lib.hid o.lt
    clear o
    clear hb
    go_wp2_with (go_at_call 29; refine (sFormatWord b0 y0.length c0 y0 _ (Ints.of_own O0.out)).mono ?_; rintro e w2 ⟨rfl, hb⟩; refine Hid.out ?_)
    refine Lib.hid ?_
    -- spec.FormatWord ['_t0_0'] w0
    have HS1 := hb.size
    have O0 := Lib.hid (own_below O0.out hb)
    have HB := Lib.hid ((HB.out).trans (hb.mono (by first | omega | exact Nat.le_refl _)))
    clear hb
    go_wp2_with (go_at_call 16; refine (toIntS_any a0 y0.length cap0 y0 _ (Q0.out.below HB.out) (by omega)).mono ?_; rintro e w3 ⟨b2, c2, rfl, o, hb, ln2⟩; refine Hid.out ?_)
    refine Lib.hid ?_
    -- toIntS ['aW'] x0
    have HS2 := hb.size
    have O0 := Lib.hid (own_below O0.out hb)
    have HB := Lib.hid ((HB.out).trans (hb.mono (by first | omega | exact Nat.le_refl _)))
    have O2 := Lib.hid o
    have LX2 := Lib.hid o.lt
    clear o
    clear hb
    go_wp2_with (go_at_call 30; refine (iFormatWord b2 y0.length c2 y0 _ (Ints.of_own O2.out)).mono ?_; rintro e w4 ⟨rfl, hb⟩; refine Hid.out ?_)
    refine Lib.hid ?_
    -- impl.FormatWord ['x0'] g0
    have HS3 := hb.size
    have O0 := Lib.hid (own_below O0.out hb)
    have O2 := Lib.hid (own_below O2.out hb)
    have HB := Lib.hid ((HB.out).trans (hb.mono (by first | omega | exact Nat.le_refl _)))
    clear hb
    go_wp2_with (go_at_call 16; refine (toIntS_any a0 y0.length cap0 y0 _ (Q0.out.below HB.out) (by omega)).mono ?_; rintro e w5 ⟨b4, c4, rfl, o, hb, ln4⟩; refine Hid.out ?_)
    refine Lib.hid ?_
    -- toIntS ['aW'] _t0_4
    have HS4 := hb.size
    have O0 := Lib.hid (own_below O0.out hb)
    have O2 := Lib.hid (own_below O2.out hb)
    have HB := Lib.hid ((HB.out).trans (hb.mono (by first | omega | exact Nat.le_refl _)))
    have O4 := Lib.hid o
    have LX4 := Lib.hid o.lt
    clear o
    clear hb
    go_wp2_with (go_at_call 18; refine (eqIntS_same b2 b4 _ c2 c4 _ _ (Ints.of_own O2.out) (Ints.of_own O4.out)).mono ?_; rintro e w6 ⟨rfl, hb⟩; refine Hid.out ?_)
    refine Lib.hid ?_
    -- eqIntS ['x0', '_t0_4'] None
    have HS5 := hb.size
    have O0 := Lib.hid (own_below O0.out hb)
    have O2 := Lib.hid (own_below O2.out hb)
    have O4 := Lib.hid (own_below O4.out hb)
    have HB := Lib.hid ((HB.out).trans (hb.mono (by first | omega | exact Nat.le_refl _)))
    clear hb
    go_wp2
    go_ret
    exact ⟨rfl, HB.out⟩
  · go_enter Try.func8, Try.ntmps8
    go_wp2
    go_ret
    exact ⟨rfl, Below.refl _ _⟩
set_option maxHeartbeats 2000000 in
theorem wFnExactParseWord (a0 : ByteArray) (w : World) (w0 : a0.size ≤ maxLen) : Calls Try.prog 9 #[.string a0] w fun e w' => e = .returned (.bool true) ∧ Below w.heap.size w w' := by
  unfold maxLen at w0
  by_cases g0 : a0.size ≤ 1048576
  · skip
    go_enter Try.func9, Try.ntmps9
    go_wp2_with (go_at_call 31; refine (sParseWord a0 _ ).mono ?_; rintro e w1 ⟨b0, c0, rfl, o, hb, ln0⟩; refine Hid.out ?_)
    refine Lib.hid ?_
    -- spec.ParseWord ['aS'] w0
    have HS0 := hb.size
    have HB := Lib.hid (((Below.refl w.heap.size w)).trans (hb.mono (by first | omega | exact Nat.le_refl _)))
    have O0 := Lib.hid o
    have LX0 := Lib.hid o.lt
    clear o
    clear hb
    go_wp2_with (go_at_call 32; refine (iParseWord a0 _ ).mono ?_; rintro e w2 ⟨b1, c1, rfl, o, hb, ln1⟩; refine Hid.out ?_)
    refine Lib.hid ?_
    -- impl.ParseWord ['aS'] g0
    have HS1 := hb.size
    have O0 := Lib.hid (own_below O0.out hb)
    have HB := Lib.hid ((HB.out).trans (hb.mono (by first | omega | exact Nat.le_refl _)))
    have O1 := Lib.hid o
    have LX1 := Lib.hid o.lt
    clear o
    clear hb
    go_wp2_with (go_at_call 18; refine (eqIntS_same b1 b0 _ c1 c0 _ _ (Ints.of_own O1.out) (Ints.of_own O0.out)).mono ?_; rintro e w3 ⟨rfl, hb⟩; refine Hid.out ?_)
    refine Lib.hid ?_
    -- eqIntS ['g0', 'w0'] None
    have HS2 := hb.size
    have O0 := Lib.hid (own_below O0.out hb)
    have O1 := Lib.hid (own_below O1.out hb)
    have HB := Lib.hid ((HB.out).trans (hb.mono (by first | omega | exact Nat.le_refl _)))
    clear hb
    go_wp2_with (go_at_call 25; refine (markIntS_any _ b1 _ c1 _ _ _ rfl O1.out (by omega) (by omega) (by omega)).mono ?_; rintro e w4 ⟨rfl, o, hg, hz⟩; refine Hid.out ?_)
    refine Lib.hid ?_
    -- markIntS ['g0', 'm'] m
    have HS3 : w4.heap.size ≤ w3.heap.size ∧ w3.heap.size ≤ w4.heap.size := by omega
    have HB := Lib.hid ((HB.out).grown hg (by omega) (fun j hj => by have := (LX1.out j hj).1; omega))
    have O0 := Lib.hid (O0.out.kept hg (own_apart LX0.out LX1.out (by omega)))
    have O1 := Lib.hid o
    clear o hg hz
    go_wp2_with (go_at_call 26; refine (heldIntS_marks b1 _ c1 _ _ (Ints.of_own O1.out) (by omega) (by omega) (by omega)).mono ?_; rintro e w5 ⟨rfl, rfl⟩; refine Hid.out ?_)
    refine Lib.hid ?_
    -- heldIntS ['g0', 'q'] q
    go_wp2_with (go_at_call 32; refine (iParseWord a0 _ ).mono ?_; rintro e w6 ⟨b5, c5, rfl, o, hb, ln5⟩; refine Hid.out ?_)
    refine Lib.hid ?_
    -- impl.ParseWord ['aS'] h0
    have HS5 := hb.size
    have O0 := Lib.hid (own_below O0.out hb)
    have O1 := Lib.hid (own_below O1.out hb)
    have HB := Lib.hid ((HB.out).trans (hb.mono (by first | omega | exact Nat.le_refl _)))
    have O5 := Lib.hid o
    have LX5 := Lib.hid o.lt
    clear o
    clear hb
    go_wp2_with (go_at_call 18; refine (eqIntS_same b5 b0 _ c5 c0 _ _ (Ints.of_own O5.out) (Ints.of_own O0.out)).mono ?_; rintro e w7 ⟨rfl, hb⟩; refine Hid.out ?_)
    refine Lib.hid ?_
    -- eqIntS ['h0', 'w0'] None
    have HS6 := hb.size
    have O0 := Lib.hid (own_below O0.out hb)
    have O1 := Lib.hid (own_below O1.out hb)
    have O5 := Lib.hid (own_below O5.out hb)
    have HB := Lib.hid ((HB.out).trans (hb.mono (by first | omega | exact Nat.le_refl _)))
    clear hb
    go_wp2_with (go_at_call 26; refine (heldIntS_marks b1 _ c1 _ _ (Ints.of_own O1.out) (by omega) (by omega) (by omega)).mono ?_; rintro e w8 ⟨rfl, rfl⟩; refine Hid.out ?_)
    refine Lib.hid ?_
    -- heldIntS ['g0', 'q'] q
    go_wp2
    go_ret
    exact ⟨rfl, HB.out⟩
  · go_enter Try.func9, Try.ntmps9
    go_wp2
    go_ret
    exact ⟨rfl, Below.refl _ _⟩
end Go.Proofs.Ytjfgijnidlmmgaa

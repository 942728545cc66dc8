/- The walks of exact laws over integers, texts and slices of integers. -/
import Derived.Test.YtomlblhpkakdeaaWS4
import Derived.Test.YtomlblhpkakdeaaRow
import Derived.Test.YtomlblhpkakdeaaWI3
namespace Go.Proofs.Ytomlblhpkakdeaa
open Go.RowKit

set_option maxHeartbeats 2000000 in
theorem wFnExactValueOf (a0 : Option Addr) (len0 cap0 : Nat) (z0 : List Int) (w : World) (w0 : IsRow .i64 w a0 len0 cap0 z0) : Calls Try.prog 3 #[.slice a0 len0 cap0] w fun e w' => e = .returned (.bool true) ∧ Below w.heap.size w w' := by
  have q0 := Ints.of_row w0
  have m0 : len0 ≤ 9223372036854775807 := by obtain ⟨_, h2, h3, _⟩ := q0; unfold maxLen at h3; omega
  by_cases g0 : len0 ≤ 1048576
  · skip
    obtain ⟨y0, ey0⟩ : ∃ y, y = z0.take len0 := ⟨_, rfl⟩
    rw [← ey0] at q0
    clear ey0 w0
    obtain rfl : len0 = y0.length := q0.1.symm
    have Q0 := Lib.hid q0
    clear q0
    go_enter Try.func3, Try.ntmps3
    go_wp2_with (go_at_call 11; refine (toIntS_any a0 y0.length cap0 y0 _ Q0.out (by omega)).mono ?_; rintro e w1 ⟨b0, c0, rfl, o, hb, ln0⟩; refine Hid.out ?_)
    refine Lib.hid ?_
    -- toIntS ['aW'] _t0_0
    have HS0 := hb.size
    have HB := Lib.hid (((Below.refl w.heap.size w)).trans (hb.mono (by first | omega | exact Nat.le_refl _)))
    have O0 := Lib.hid o
    have LX0 := Lib.hid o.lt
    clear o
    clear hb
    go_wp2_with (go_at_call 10; refine (sValueOf b0 y0.length c0 y0 _ (Ints.of_own O0.out)).mono ?_; rintro e w2 ⟨rfl, rfl⟩; refine Hid.out ?_)
    refine Lib.hid ?_
    -- spec.ValueOf ['_t0_0'] w0
    go_wp2_with (go_at_call 11; refine (toIntS_any a0 y0.length cap0 y0 _ (Q0.out.below HB.out) (by omega)).mono ?_; rintro e w3 ⟨b2, c2, rfl, o, hb, ln2⟩; refine Hid.out ?_)
    refine Lib.hid ?_
    -- toIntS ['aW'] x0
    have HS2 := hb.size
    have O0 := Lib.hid (own_below O0.out hb)
    have HB := Lib.hid ((HB.out).trans (hb.mono (by first | omega | exact Nat.le_refl _)))
    have O2 := Lib.hid o
    have LX2 := Lib.hid o.lt
    clear o
    clear hb
    go_wp2_with (go_at_call 12; refine (iValueOf b2 y0.length c2 y0 _ (Ints.of_own O2.out)).mono ?_; rintro e w4 ⟨rfl, rfl⟩; refine Hid.out ?_)
    refine Lib.hid ?_
    -- impl.ValueOf ['x0'] g0
    go_wp2_with (go_at_call 11; refine (toIntS_any a0 y0.length cap0 y0 _ (Q0.out.below HB.out) (by omega)).mono ?_; rintro e w5 ⟨b4, c4, rfl, o, hb, ln4⟩; refine Hid.out ?_)
    refine Lib.hid ?_
    -- toIntS ['aW'] _t0_4
    have HS4 := hb.size
    have O0 := Lib.hid (own_below O0.out hb)
    have O2 := Lib.hid (own_below O2.out hb)
    have HB := Lib.hid ((HB.out).trans (hb.mono (by first | omega | exact Nat.le_refl _)))
    have O4 := Lib.hid o
    have LX4 := Lib.hid o.lt
    clear o
    clear hb
    go_wp2_with (go_at_call 13; refine (eqIntS_same b2 b4 _ c2 c4 _ _ (Ints.of_own O2.out) (Ints.of_own O4.out)).mono ?_; rintro e w6 ⟨rfl, hb⟩; refine Hid.out ?_)
    refine Lib.hid ?_
    -- eqIntS ['x0', '_t0_4'] None
    have HS5 := hb.size
    have O0 := Lib.hid (own_below O0.out hb)
    have O2 := Lib.hid (own_below O2.out hb)
    have O4 := Lib.hid (own_below O4.out hb)
    have HB := Lib.hid ((HB.out).trans (hb.mono (by first | omega | exact Nat.le_refl _)))
    clear hb
    go_wp2
    go_ret
    exact ⟨rfl, HB.out⟩
  · go_enter Try.func3, Try.ntmps3
    go_wp2
    go_ret
    exact ⟨rfl, Below.refl _ _⟩
end Go.Proofs.Ytomlblhpkakdeaa

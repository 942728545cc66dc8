/- Walks of exact laws. -/
import Derived.Test.YtfmpnkckaceigaaQH
import Derived.Test.YtfmpnkckaceigaaRowL
import Derived.Test.YtfmpnkckaceigaaOwn2
import Derived.Test.YtfmpnkckaceigaaLaw3
namespace Go.Proofs.Ytfmpnkckaceigaa
set_option maxRecDepth 20000
open Go.RowKit

set_option maxRecDepth 20000 in
set_option maxHeartbeats 4000000 in
theorem wFnExactHasSquare (a0 : Option Addr) (len0 cap0 : Nat) (z0 : List Int) (w : World) (w0 : IsRow .i64 w a0 len0 cap0 z0) : Calls Try.prog 11 #[.slice a0 len0 cap0] w fun e w' => e = .returned (.bool true) ∧ Below w.heap.size w w' := by
  have q0 := Ints.of_row w0
  have m0 : len0 ≤ 9223372036854775807 := by obtain ⟨_, h2, h3, _⟩ := q0; unfold maxLen at h3; omega
  obtain ⟨y0, ey0⟩ : ∃ y, y = z0.take len0 := ⟨_, rfl⟩
  rw [← ey0] at q0
  clear ey0 w0
  obtain rfl : len0 = y0.length := q0.1.symm
  have Q0 := Lib.hid q0
  clear q0
  by_cases g0 : y0.length ≤ 1048576
  · skip
    go_enter Try.func11, Try.ntmps11
    go_wp2_with (go_at_call 22; refine (toIntS_any a0 y0.length cap0 y0 _ Q0.out (by omega)).mono ?_; rintro e w1 ⟨b0, c0, rfl, o, hb, ln0⟩; refine Hid.out ?_)
    refine Lib.hid ?_
    -- toIntS aList _t0
    have HS0 := hb.size
    have HB := Lib.hid (((Below.refl w.heap.size w)).trans (hb.mono (by first | omega | exact Nat.le_refl _)))
    clear hb
    have O0 := Lib.hid (OwnI.of o)
    clear o
    go_wp2_with (go_at_call 39; refine (sHasSquare b0 y0.length c0 y0 _ (Ints.of_own O0.out.1)).mono ?_; rintro e w2 ⟨rfl, hb⟩; refine Hid.out ?_)
    refine Lib.hid ?_
    -- spec.HasSquare ['_t0']
    have HS1 := hb.size
    have O0 := Lib.hid (O0.out.stay (SameIn.of_below hb (by omega)))
    have HB := Lib.hid ((HB.out).trans (hb.mono (by first | omega | exact Nat.le_refl _)))
    clear hb
    go_wp2_with (go_at_call 22; refine (toIntS_any a0 y0.length cap0 y0 _ (Q0.out.below HB.out) (by omega)).mono ?_; rintro e w3 ⟨b2, c2, rfl, o, hb, ln2⟩; refine Hid.out ?_)
    refine Lib.hid ?_
    -- toIntS aList x0
    have HS2 := hb.size
    have O0 := Lib.hid (O0.out.stay (SameIn.of_below hb (by omega)))
    have HB := Lib.hid ((HB.out).trans (hb.mono (by first | omega | exact Nat.le_refl _)))
    clear hb
    have O1 := Lib.hid (OwnI.of o)
    clear o
    go_wp2_with (go_at_call 40; refine (iHasSquare b2 y0.length c2 y0 _ (Ints.of_own O1.out.1)).mono ?_; rintro e w4 ⟨rfl, hb⟩; refine Hid.out ?_)
    refine Lib.hid ?_
    -- impl.HasSquare ['x0']
    have HS3 := hb.size
    have O0 := Lib.hid (O0.out.stay (SameIn.of_below hb (by omega)))
    have O1 := Lib.hid (O1.out.stay (SameIn.of_below hb (by omega)))
    have HB := Lib.hid ((HB.out).trans (hb.mono (by first | omega | exact Nat.le_refl _)))
    clear hb
    go_wp2_with (go_at_call 22; refine (toIntS_any a0 y0.length cap0 y0 _ (Q0.out.below HB.out) (by omega)).mono ?_; rintro e w5 ⟨b4, c4, rfl, o, hb, ln4⟩; refine Hid.out ?_)
    refine Lib.hid ?_
    -- toIntS aList _t2
    have HS4 := hb.size
    have O0 := Lib.hid (O0.out.stay (SameIn.of_below hb (by omega)))
    have O1 := Lib.hid (O1.out.stay (SameIn.of_below hb (by omega)))
    have HB := Lib.hid ((HB.out).trans (hb.mono (by first | omega | exact Nat.le_refl _)))
    clear hb
    have O2 := Lib.hid (OwnI.of o)
    clear o
    go_wp2_with (go_at_call 18; refine (eqIntS_same b2 b4 _ c2 c4 _ _ (Ints.of_own O1.out.1) (Ints.of_own O2.out.1)).mono ?_; rintro e w6 ⟨rfl, hb⟩; refine Hid.out ?_)
    refine Lib.hid ?_
    -- eqIntS x0 _t2
    have HS5 := hb.size
    have O0 := Lib.hid (O0.out.stay (SameIn.of_below hb (by omega)))
    have O1 := Lib.hid (O1.out.stay (SameIn.of_below hb (by omega)))
    have O2 := Lib.hid (O2.out.stay (SameIn.of_below hb (by omega)))
    have HB := Lib.hid ((HB.out).trans (hb.mono (by first | omega | exact Nat.le_refl _)))
    clear hb
    go_wp2
    go_ret
    exact ⟨rfl, HB.out⟩
  · go_enter Try.func11, Try.ntmps11
    go_wp2
    go_ret
    exact ⟨rfl, Below.refl _ _⟩
end Go.Proofs.Ytfmpnkckaceigaa

/- Walks of exact laws over structs. -/
import Derived.Test.YteklgngooflhlaaBI1
import Derived.Test.YteklgngooflhlaaBS1
import Derived.Test.YteklgngooflhlaaTurn
import Derived.Test.YteklgngooflhlaaLaw3
namespace Go.Proofs.Yteklgngooflhlaa
set_option maxRecDepth 20000
open Go.RowKit

set_option maxRecDepth 20000 in
set_option maxHeartbeats 4000000 in
theorem wFnExactTurnsForward (a0 : Option Addr) (len0 cap0 : Nat) (z0 : List Int) (w : World) (w0 : IsRow .i64 w a0 len0 cap0 z0) : Calls Try.prog 9 #[.slice a0 len0 cap0] w fun e w' => e = .returned (.bool true) ∧ Below w.heap.size w w' := by
  have q0 := Ints.of_row w0
  have m0 : len0 ≤ 9223372036854775807 := by obtain ⟨_, h2, h3, _⟩ := q0; unfold maxLen at h3; omega
  obtain ⟨y0, ey0⟩ : ∃ y, y = z0.take len0 := ⟨_, rfl⟩
  rw [← ey0] at q0
  clear ey0 w0
  obtain rfl : len0 = y0.length := q0.1.symm
  have Q0 := Lib.hid q0
  clear q0
  by_cases gs0 : y0.length ≤ 1048576
  · skip
    go_enter Try.func9, Try.ntmps9
    have HB := Lib.hid (Below.refl w.heap.size w)
    go_wp2_with fail
    refine (toIntS_any a0 y0.length cap0 y0 _ (Q0.out.below HB.out) (by omega)).mono ?_
    rintro r w1 ⟨ra1, rc1, rfl, o, hb, ln1⟩
    have HS_w1 := hb.size
    have HB := Lib.hid (HB.out.trans (hb.mono (by first | omega | exact Nat.le_refl _)))
    clear hb
    have O0 := Lib.hid (OwnI.of o)
    clear o
    go_wp2_with fail
    refine (sTurnsForward ra1 y0.length rc1 y0 _ (Ints.of_own O0.out.1)).mono ?_
    rintro r w2 ⟨rfl, hb⟩
    have HS_w2 := hb.size
    have O0 := Lib.hid (O0.out.stay (SameIn.of_below hb (by omega)))
    have HB := Lib.hid (HB.out.trans (hb.mono (by first | omega | exact Nat.le_refl _)))
    clear hb
    go_wp2_with fail
    refine (toIntS_any a0 y0.length cap0 y0 _ (Q0.out.below HB.out) (by omega)).mono ?_
    rintro r w3 ⟨ra3, rc3, rfl, o, hb, ln3⟩
    have HS_w3 := hb.size
    have HB := Lib.hid (HB.out.trans (hb.mono (by first | omega | exact Nat.le_refl _)))
    clear hb
    have O1 := Lib.hid (OwnI.of o)
    clear o
    go_wp2_with fail
    refine (iTurnsForward ra3 y0.length rc3 y0 _ (Ints.of_own O1.out.1)).mono ?_
    rintro r w4 ⟨rfl, hb⟩
    have HS_w4 := hb.size
    have O1 := Lib.hid (O1.out.stay (SameIn.of_below hb (by omega)))
    have HB := Lib.hid (HB.out.trans (hb.mono (by first | omega | exact Nat.le_refl _)))
    clear hb
    go_wp2_with fail
    refine (toIntS_any a0 y0.length cap0 y0 _ (Q0.out.below HB.out) (by omega)).mono ?_
    rintro r w5 ⟨ra5, rc5, rfl, o, hb, ln5⟩
    have HS_w5 := hb.size
    have O1 := Lib.hid (O1.out.stay (SameIn.of_below hb (by omega)))
    have HB := Lib.hid (HB.out.trans (hb.mono (by first | omega | exact Nat.le_refl _)))
    clear hb
    have O2 := Lib.hid (OwnI.of o)
    clear o
    go_wp2_with fail
    refine (eqIntS_same ra3 ra5 _ rc3 rc5 _ _ (Ints.of_own O1.out.1) (Ints.of_own O2.out.1)).mono ?_
    rintro r w6 ⟨rfl, hb⟩
    have HS_w6 := hb.size
    have O1 := Lib.hid (O1.out.stay (SameIn.of_below hb (by omega)))
    have O2 := Lib.hid (O2.out.stay (SameIn.of_below hb (by omega)))
    have HB := Lib.hid (HB.out.trans (hb.mono (by first | omega | exact Nat.le_refl _)))
    clear hb
    go_wp2
    go_ret
    exact ⟨rfl, HB.out⟩
  · go_enter Try.func9, Try.ntmps9
    go_wp2
    go_ret
    exact ⟨rfl, by (repeat' (first | (with_reducible exact Below.refl _ _) | (with_reducible assumption) | (with_reducible refine below_drewN ?_ _) | (with_reducible refine Below.drew ?_) | (with_reducible refine Below.alloc ?_ ?_ _) | (with_reducible refine Below.setCell ?_ ?_ _) | (with_reducible refine below_gw ?_ ?_ _) | (with_reducible refine below_via ?_ ‹Below _ _ _› ?_) | (with_reducible exact Nat.le_refl _) | (with_reducible refine le_gw ?_ _) | (with_reducible refine le_alloc ?_ _) | (with_reducible refine le_setCell ?_ _ _) | (with_reducible refine le_drew ?_) | (with_reducible refine le_drewN ?_ _) | go_size))⟩
end Go.Proofs.Yteklgngooflhlaa

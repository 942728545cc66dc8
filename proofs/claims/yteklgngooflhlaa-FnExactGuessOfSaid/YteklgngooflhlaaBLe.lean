/- Walks of exact laws. -/
import Derived.Test.YteklgngooflhlaaBI4
import Derived.Test.YteklgngooflhlaaBS4
import Derived.Test.YteklgngooflhlaaRowL
import Derived.Test.YteklgngooflhlaaOwn2
import Derived.Test.YteklgngooflhlaaLaw3
namespace Go.Proofs.Yteklgngooflhlaa
set_option maxRecDepth 20000
open Go.RowKit

set_option maxRecDepth 20000 in
set_option maxHeartbeats 4000000 in
theorem wFnExactGuessOf (a0 : Option Addr) (len0 cap0 : Nat) (z0 : List (List Int)) (a1 : Option Addr) (len1 cap1 : Nat) (z1 : List Int) (w : World) (w0 : Rows w a0 len0 cap0 z0) (w1 : IsRow .i64 w a1 len1 cap1 z1) : Calls Try.prog 13 #[.slice a0 len0 cap0, .slice a1 len1 cap1] w fun e w' => e = .returned (.bool true) ∧ Below w.heap.size w w' := by
  obtain rfl : len0 = z0.length := w0.1.symm
  have m0 : z0.length ≤ 9223372036854775807 := by obtain ⟨_, h2, h3, _⟩ := w0; unfold maxLen at h3; omega
  have Q0 := Lib.hid w0
  clear w0
  have q1 := Ints.of_row w1
  have m1 : len1 ≤ 9223372036854775807 := by obtain ⟨_, h2, h3, _⟩ := q1; unfold maxLen at h3; omega
  obtain ⟨y1, ey1⟩ : ∃ y, y = z1.take len1 := ⟨_, rfl⟩
  rw [← ey1] at q1
  clear ey1 w1
  obtain rfl : len1 = y1.length := q1.1.symm
  have Q1 := Lib.hid q1
  clear q1
  by_cases g0 : y1.length ≤ 1048576
  · skip
    obtain ⟨l0, hl0⟩ : ∃ l, l = szL z0 (1048576 : Int) := ⟨_, rfl⟩
    have HL0 := Lib.hid hl0
    have lb0 : l0 ≤ 1048576 ∧ -1 ≤ l0 := by rw [hl0, ← szTo_all]; exact szTo_bd _ (by omega) _
    obtain ⟨lb0a, lb0b⟩ := lb0
    clear hl0
    by_cases g1 : l0 < 0
    · skip
      go_enter Try.func13, Try.ntmps13
      go_wp2_with (go_at_call 51; refine (szIntSS_any a0 _ cap0 z0 _ _ Q0.out (by omega) (by omega)).mono ?_; rw [← HL0.out]; rintro e w' ⟨rfl, rfl⟩)
      go_ret
      exact ⟨rfl, Below.refl _ _⟩
    · skip
      have l00 : 0 ≤ l0 := by omega
      have SZ0 : Hid (0 ≤ szL z0 1048576) := Lib.hid (szL_more (left := (1048576 : Int)) (by omega) (by rw [← HL0.out]; exact l00))
      have SM0 : z0.length + cnt z0 z0.length ≤ 1048576 := by have := (szL_facts SZ0.out).1; omega
      go_enter Try.func13, Try.ntmps13
      go_wp2_with (go_at_call 51; refine (szIntSS_any a0 _ cap0 z0 _ _ Q0.out (by omega) (by omega)).mono ?_; rw [← HL0.out]; rintro e w' ⟨rfl, rfl⟩; refine Hid.out ?_)
      refine Lib.hid ?_
      go_wp2_with (go_at_call 53; refine (toIntSS_any a0 z0.length cap0 z0 _ Q0.out SZ0.out).mono ?_; rintro e w1 ⟨v0, rfl, o, hb⟩; obtain ⟨b0, c0, rfl, -⟩ := o.rows; refine Hid.out ?_)
      refine Lib.hid ?_
      -- toIntSS aWords _t0
      have HS0 := hb.size
      have HB := Lib.hid (((Below.refl w.heap.size w)).trans (hb.mono (by first | omega | exact Nat.le_refl _)))
      clear hb
      have O0 := Lib.hid (o)
      clear o
      go_wp2_with (go_at_call 45; refine (toIntS_any a1 y1.length cap1 y1 _ (Q1.out.below HB.out) (by omega)).mono ?_; rintro e w2 ⟨b1, c1, rfl, o, hb, ln1⟩; refine Hid.out ?_)
      refine Lib.hid ?_
      -- toIntS aOutcomes _t1
      have HS1 := hb.size
      have O0 := Lib.hid (O0.out.stay (SameIn.of_below hb (by omega)))
      have HB := Lib.hid ((HB.out).trans (hb.mono (by first | omega | exact Nat.le_refl _)))
      clear hb
      have O1 := Lib.hid (OwnI.of o)
      clear o
      go_wp2_with (go_at_call 60; refine (sGuessOf b0 z0.length c0 z0 b1 y1.length c1 y1 _ (O0.out.rowsAt rfl) (Ints.of_own O1.out.1)).mono ?_; rintro e w3 ⟨rfl, hb⟩; refine Hid.out ?_)
      refine Lib.hid ?_
      -- spec.GuessOf ['_t0', '_t1']
      have HS2 := hb.size
      have O0 := Lib.hid (O0.out.stay (SameIn.of_below hb (by omega)))
      have O1 := Lib.hid (O1.out.stay (SameIn.of_below hb (by omega)))
      have HB := Lib.hid ((HB.out).trans (hb.mono (by first | omega | exact Nat.le_refl _)))
      clear hb
      go_wp2_with (go_at_call 53; refine (toIntSS_any a0 z0.length cap0 z0 _ (Q0.out.below HB.out) SZ0.out).mono ?_; rintro e w4 ⟨v3, rfl, o, hb⟩; obtain ⟨b3, c3, rfl, -⟩ := o.rows; refine Hid.out ?_)
      refine Lib.hid ?_
      -- toIntSS aWords x0
      have HS3 := hb.size
      have O0 := Lib.hid (O0.out.stay (SameIn.of_below hb (by omega)))
      have O1 := Lib.hid (O1.out.stay (SameIn.of_below hb (by omega)))
      have HB := Lib.hid ((HB.out).trans (hb.mono (by first | omega | exact Nat.le_refl _)))
      clear hb
      have O2 := Lib.hid (o)
      clear o
      go_wp2_with (go_at_call 45; refine (toIntS_any a1 y1.length cap1 y1 _ (Q1.out.below HB.out) (by omega)).mono ?_; rintro e w5 ⟨b4, c4, rfl, o, hb, ln4⟩; refine Hid.out ?_)
      refine Lib.hid ?_
      -- toIntS aOutcomes x1
      have HS4 := hb.size
      have O0 := Lib.hid (O0.out.stay (SameIn.of_below hb (by omega)))
      have O1 := Lib.hid (O1.out.stay (SameIn.of_below hb (by omega)))
      have O2 := Lib.hid (O2.out.stay (SameIn.of_below hb (by omega)))
      have HB := Lib.hid ((HB.out).trans (hb.mono (by first | omega | exact Nat.le_refl _)))
      clear hb
      have O3 := Lib.hid (OwnI.of o)
      clear o
      go_wp2_with (go_at_call 30; refine (iGuessOf b3 z0.length c3 z0 b4 y1.length c4 y1 _ (O2.out.rowsAt rfl) (Ints.of_own O3.out.1)).mono ?_; rintro e w6 ⟨rfl, hb⟩; refine Hid.out ?_)
      refine Lib.hid ?_
      -- impl.GuessOf ['x0', 'x1']
      have HS5 := hb.size
      have O0 := Lib.hid (O0.out.stay (SameIn.of_below hb (by omega)))
      have O1 := Lib.hid (O1.out.stay (SameIn.of_below hb (by omega)))
      have O2 := Lib.hid (O2.out.stay (SameIn.of_below hb (by omega)))
      have O3 := Lib.hid (O3.out.stay (SameIn.of_below hb (by omega)))
      have HB := Lib.hid ((HB.out).trans (hb.mono (by first | omega | exact Nat.le_refl _)))
      clear hb
      go_wp2_with (go_at_call 53; refine (toIntSS_any a0 z0.length cap0 z0 _ (Q0.out.below HB.out) SZ0.out).mono ?_; rintro e w7 ⟨v6, rfl, o, hb⟩; obtain ⟨b6, c6, rfl, -⟩ := o.rows; refine Hid.out ?_)
      refine Lib.hid ?_
      -- toIntSS aWords _t4
      have HS6 := hb.size
      have O0 := Lib.hid (O0.out.stay (SameIn.of_below hb (by omega)))
      have O1 := Lib.hid (O1.out.stay (SameIn.of_below hb (by omega)))
      have O2 := Lib.hid (O2.out.stay (SameIn.of_below hb (by omega)))
      have O3 := Lib.hid (O3.out.stay (SameIn.of_below hb (by omega)))
      have HB := Lib.hid ((HB.out).trans (hb.mono (by first | omega | exact Nat.le_refl _)))
      clear hb
      have O4 := Lib.hid (o)
      clear o
      go_wp2_with (go_at_call 48; refine (eqIntSS_same b3 b6 _ c3 c6 _ _ (O2.out.rowsAt rfl) (O4.out.rowsAt rfl)).mono ?_; rintro e w8 ⟨rfl, hb⟩; refine Hid.out ?_)
      refine Lib.hid ?_
      -- eqIntSS x0 _t4
      have HS7 := hb.size
      have O0 := Lib.hid (O0.out.stay (SameIn.of_below hb (by omega)))
      have O1 := Lib.hid (O1.out.stay (SameIn.of_below hb (by omega)))
      have O2 := Lib.hid (O2.out.stay (SameIn.of_below hb (by omega)))
      have O3 := Lib.hid (O3.out.stay (SameIn.of_below hb (by omega)))
      have O4 := Lib.hid (O4.out.stay (SameIn.of_below hb (by omega)))
      have HB := Lib.hid ((HB.out).trans (hb.mono (by first | omega | exact Nat.le_refl _)))
      clear hb
      go_wp2_with (go_at_call 45; refine (toIntS_any a1 y1.length cap1 y1 _ (Q1.out.below HB.out) (by omega)).mono ?_; rintro e w9 ⟨b8, c8, rfl, o, hb, ln8⟩; refine Hid.out ?_)
      refine Lib.hid ?_
      -- toIntS aOutcomes _t5
      have HS8 := hb.size
      have O0 := Lib.hid (O0.out.stay (SameIn.of_below hb (by omega)))
      have O1 := Lib.hid (O1.out.stay (SameIn.of_below hb (by omega)))
      have O2 := Lib.hid (O2.out.stay (SameIn.of_below hb (by omega)))
      have O3 := Lib.hid (O3.out.stay (SameIn.of_below hb (by omega)))
      have O4 := Lib.hid (O4.out.stay (SameIn.of_below hb (by omega)))
      have HB := Lib.hid ((HB.out).trans (hb.mono (by first | omega | exact Nat.le_refl _)))
      clear hb
      have O5 := Lib.hid (OwnI.of o)
      clear o
      go_wp2_with (go_at_call 46; refine (eqIntS_same b4 b8 _ c4 c8 _ _ (Ints.of_own O3.out.1) (Ints.of_own O5.out.1)).mono ?_; rintro e w10 ⟨rfl, hb⟩; refine Hid.out ?_)
      refine Lib.hid ?_
      -- eqIntS x1 _t5
      have HS9 := hb.size
      have O0 := Lib.hid (O0.out.stay (SameIn.of_below hb (by omega)))
      have O1 := Lib.hid (O1.out.stay (SameIn.of_below hb (by omega)))
      have O2 := Lib.hid (O2.out.stay (SameIn.of_below hb (by omega)))
      have O3 := Lib.hid (O3.out.stay (SameIn.of_below hb (by omega)))
      have O4 := Lib.hid (O4.out.stay (SameIn.of_below hb (by omega)))
      have O5 := Lib.hid (O5.out.stay (SameIn.of_below hb (by omega)))
      have HB := Lib.hid ((HB.out).trans (hb.mono (by first | omega | exact Nat.le_refl _)))
      clear hb
      go_wp2
      go_ret
      exact ⟨rfl, HB.out⟩
  · go_enter Try.func13, Try.ntmps13
    go_wp2
    go_ret
    exact ⟨rfl, Below.refl _ _⟩
end Go.Proofs.Yteklgngooflhlaa

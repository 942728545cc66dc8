/- Walks of exact laws. -/
import Derived.Test.YteklgngooflhlaaVRowS
import Derived.Test.YteklgngooflhlaaRowL
import Derived.Test.YteklgngooflhlaaOwn2
import Derived.Test.YteklgngooflhlaaLaw3
namespace Go.Proofs.Yteklgngooflhlaa
set_option maxRecDepth 20000
open Go.RowKit

set_option maxRecDepth 20000 in
set_option maxHeartbeats 4000000 in
theorem wFnExactWeighingsOf (a0 : Option Addr) (len0 cap0 : Nat) (z0 : List (List Int)) (w : World) (w0 : Rows w a0 len0 cap0 z0) : Calls Try.prog 11 #[.slice a0 len0 cap0] w fun e w' => e = .returned (.bool true) ∧ Below w.heap.size w w' := by
  obtain rfl : len0 = z0.length := w0.1.symm
  have m0 : z0.length ≤ 9223372036854775807 := by obtain ⟨_, h2, h3, _⟩ := w0; unfold maxLen at h3; omega
  have Q0 := Lib.hid w0
  clear w0
  obtain ⟨l0, hl0⟩ : ∃ l, l = szL z0 (1048576 : Int) := ⟨_, rfl⟩
  have HL0 := Lib.hid hl0
  have lb0 : l0 ≤ 1048576 ∧ -1 ≤ l0 := by rw [hl0, ← szTo_all]; exact szTo_bd _ (by omega) _
  obtain ⟨lb0a, lb0b⟩ := lb0
  clear hl0
  by_cases g0 : l0 < 0
  · skip
    go_enter Try.func11, Try.ntmps11
    go_wp2_with (go_at_call 51; refine (szIntSS_any a0 _ cap0 z0 _ _ Q0.out (by omega) (by omega)).mono ?_; rw [← HL0.out]; rintro e w' ⟨rfl, rfl⟩)
    go_ret
    exact ⟨rfl, Below.refl _ _⟩
  · skip
    have l00 : 0 ≤ l0 := by omega
    have SZ0 : Hid (0 ≤ szL z0 1048576) := Lib.hid (szL_more (left := (1048576 : Int)) (by omega) (by rw [← HL0.out]; exact l00))
    have SM0 : z0.length + cnt z0 z0.length ≤ 1048576 := by have := (szL_facts SZ0.out).1; omega
    go_enter Try.func11, Try.ntmps11
    go_wp2_with (go_at_call 51; refine (szIntSS_any a0 _ cap0 z0 _ _ Q0.out (by omega) (by omega)).mono ?_; rw [← HL0.out]; rintro e w' ⟨rfl, rfl⟩; refine Hid.out ?_)
    refine Lib.hid ?_
    go_wp2_with (go_at_call 53; refine (toIntSS_any a0 z0.length cap0 z0 _ Q0.out SZ0.out).mono ?_; rintro e w1 ⟨v0, rfl, o, hb⟩; obtain ⟨b0, c0, rfl, -⟩ := o.rows; refine Hid.out ?_)
    refine Lib.hid ?_
    -- toIntSS aWords _t0
    have HS0 := hb.size
    have HB := Lib.hid (((Below.refl w.heap.size w)).trans (hb.mono (by first | omega | exact Nat.le_refl _)))
    clear hb
    have O0 := Lib.hid (o)
    clear o
    go_wp2_with (go_at_call 52; refine (sWeighingsOf b0 z0.length c0 z0 _ (O0.out.rowsAt rfl) (by omega)).mono ?_; rintro e w2 ⟨v1, rfl, o, hb⟩; obtain ⟨b1, c1, rfl, -⟩ := o.rows; refine Hid.out ?_)
    refine Lib.hid ?_
    -- spec.WeighingsOf ['_t0'] ['w0', 'w1']
    have HS1 := hb.size
    have O0 := Lib.hid (O0.out.stay (SameIn.of_below hb (by omega)))
    have HB := Lib.hid ((HB.out).trans (hb.mono (by first | omega | exact Nat.le_refl _)))
    clear hb
    have O1 := Lib.hid (o)
    clear o
    go_wp2_with (go_at_call 53; refine (toIntSS_any a0 z0.length cap0 z0 _ (Q0.out.below HB.out) SZ0.out).mono ?_; rintro e w3 ⟨v2, rfl, o, hb⟩; obtain ⟨b2, c2, rfl, -⟩ := o.rows; refine Hid.out ?_)
    refine Lib.hid ?_
    -- toIntSS aWords x0
    have HS2 := hb.size
    have O0 := Lib.hid (O0.out.stay (SameIn.of_below hb (by omega)))
    have O1 := Lib.hid (O1.out.stay (SameIn.of_below hb (by omega)))
    have HB := Lib.hid ((HB.out).trans (hb.mono (by first | omega | exact Nat.le_refl _)))
    clear hb
    have O2 := Lib.hid (o)
    clear o
    go_wp2_with (go_at_call 26; refine (iWeighingsOf b2 z0.length c2 z0 _ (O2.out.rowsAt rfl) (by omega)).mono ?_; rintro e w4 ⟨v3, rfl, o, hb⟩; obtain ⟨b3, c3, rfl, -⟩ := o.rows; refine Hid.out ?_)
    refine Lib.hid ?_
    -- impl.WeighingsOf ['x0'] ['g0', 'g1']
    have HS3 := hb.size
    have O0 := Lib.hid (O0.out.stay (SameIn.of_below hb (by omega)))
    have O1 := Lib.hid (O1.out.stay (SameIn.of_below hb (by omega)))
    have O2 := Lib.hid (O2.out.stay (SameIn.of_below hb (by omega)))
    have HB := Lib.hid ((HB.out).trans (hb.mono (by first | omega | exact Nat.le_refl _)))
    clear hb
    have O3 := Lib.hid (o)
    clear o
    go_wp2_with (go_at_call 54; refine (eqWeigS_same b3 b1 _ c3 c1 _ _ O3.out.rowsAt O1.out.rowsAt).mono ?_; rintro e w5 ⟨rfl, hb⟩; refine Hid.out ?_)
    refine Lib.hid ?_
    -- eqWeighingS g0 w0
    have HS4 := hb.size
    have O0 := Lib.hid (O0.out.stay (SameIn.of_below hb (by omega)))
    have O1 := Lib.hid (O1.out.stay (SameIn.of_below hb (by omega)))
    have O2 := Lib.hid (O2.out.stay (SameIn.of_below hb (by omega)))
    have O3 := Lib.hid (O3.out.stay (SameIn.of_below hb (by omega)))
    have HB := Lib.hid ((HB.out).trans (hb.mono (by first | omega | exact Nat.le_refl _)))
    clear hb
    go_wp2_with (go_at_call 53; refine (toIntSS_any a0 z0.length cap0 z0 _ (Q0.out.below HB.out) SZ0.out).mono ?_; rintro e w6 ⟨v5, rfl, o, hb⟩; obtain ⟨b5, c5, rfl, -⟩ := o.rows; refine Hid.out ?_)
    refine Lib.hid ?_
    -- toIntSS aWords _t4
    have HS5 := hb.size
    have O0 := Lib.hid (O0.out.stay (SameIn.of_below hb (by omega)))
    have O1 := Lib.hid (O1.out.stay (SameIn.of_below hb (by omega)))
    have O2 := Lib.hid (O2.out.stay (SameIn.of_below hb (by omega)))
    have O3 := Lib.hid (O3.out.stay (SameIn.of_below hb (by omega)))
    have HB := Lib.hid ((HB.out).trans (hb.mono (by first | omega | exact Nat.le_refl _)))
    clear hb
    have O4 := Lib.hid (o)
    clear o
    go_wp2_with (go_at_call 48; refine (eqIntSS_same b2 b5 _ c2 c5 _ _ (O2.out.rowsAt rfl) (O4.out.rowsAt rfl)).mono ?_; rintro e w7 ⟨rfl, hb⟩; refine Hid.out ?_)
    refine Lib.hid ?_
    -- eqIntSS x0 _t4
    have HS6 := hb.size
    have O0 := Lib.hid (O0.out.stay (SameIn.of_below hb (by omega)))
    have O1 := Lib.hid (O1.out.stay (SameIn.of_below hb (by omega)))
    have O2 := Lib.hid (O2.out.stay (SameIn.of_below hb (by omega)))
    have O3 := Lib.hid (O3.out.stay (SameIn.of_below hb (by omega)))
    have O4 := Lib.hid (O4.out.stay (SameIn.of_below hb (by omega)))
    have HB := Lib.hid ((HB.out).trans (hb.mono (by first | omega | exact Nat.le_refl _)))
    clear hb
    go_wp2_with (go_at_call 49; refine (markIntSS_any _ _ b2 _ c2 _ _ _ rfl O2.out SM0 (by omega) (by omega)).mono ?_; rintro e w8 ⟨rfl, o2, ho⟩; refine Hid.out ?_)
    refine Lib.hid ?_
    -- markIntSS x0
    have HS7 := ho.size
    have HB := Lib.hid (Only.below HB.out ho (by omega) (by omega))
    have O0 := Lib.hid (O0.out.stay (SameIn.of_only ho (by omega) (by omega)))
    have O1 := Lib.hid (O1.out.stay (SameIn.of_only ho (by omega) (by omega)))
    have O3 := Lib.hid (O3.out.stay (SameIn.of_only ho (by omega) (by omega)))
    have O4 := Lib.hid (O4.out.stay (SameIn.of_only ho (by omega) (by omega)))
    have O2 := Lib.hid o2
    clear o2 ho
    go_wp2_with (go_at_call 54; refine (eqWeigS_same b3 b1 _ c3 c1 _ _ O3.out.rowsAt O1.out.rowsAt).mono ?_; rintro e w9 ⟨rfl, hb⟩; refine Hid.out ?_)
    refine Lib.hid ?_
    -- eqWeighingS g0 w0
    have HS8 := hb.size
    have O0 := Lib.hid (O0.out.stay (SameIn.of_below hb (by omega)))
    have O1 := Lib.hid (O1.out.stay (SameIn.of_below hb (by omega)))
    have O2 := Lib.hid (O2.out.stay (SameIn.of_below hb (by omega)))
    have O3 := Lib.hid (O3.out.stay (SameIn.of_below hb (by omega)))
    have O4 := Lib.hid (O4.out.stay (SameIn.of_below hb (by omega)))
    have HB := Lib.hid ((HB.out).trans (hb.mono (by first | omega | exact Nat.le_refl _)))
    clear hb
    go_wp2_with (go_at_call 55; refine (markWeigS_any _ _ b3 _ c3 _ _ _ O3.out (wei_small z0 SM0) (by omega) (by omega)).mono ?_; rintro e w10 ⟨rfl, o2, ho⟩; refine Hid.out ?_)
    refine Lib.hid ?_
    -- markWeighingS g0
    have HS9 := ho.size
    have HB := Lib.hid (Only.below HB.out ho (by omega) (by omega))
    have O0 := Lib.hid (O0.out.stay (SameIn.of_only ho (by omega) (by omega)))
    have O1 := Lib.hid (O1.out.stay (SameIn.of_only ho (by omega) (by omega)))
    have O2 := Lib.hid (O2.out.stay (SameIn.of_only ho (by omega) (by omega)))
    have O4 := Lib.hid (O4.out.stay (SameIn.of_only ho (by omega) (by omega)))
    have O3 := Lib.hid o2
    clear o2 ho
    go_wp2_with (go_at_call 56; refine (heldWeigS_marks b3 _ c3 _ _ _ (O3.out.rowsAt) (wei_small z0 SM0) (by omega) (by omega)).mono ?_; rintro e w11 ⟨rfl, rfl⟩; refine Hid.out ?_)
    refine Lib.hid ?_
    -- heldWeighingS g0
    go_wp2_with (go_at_call 53; refine (toIntSS_any a0 z0.length cap0 z0 _ (Q0.out.below HB.out) SZ0.out).mono ?_; rintro e w11 ⟨v10, rfl, o, hb⟩; obtain ⟨b10, c10, rfl, -⟩ := o.rows; refine Hid.out ?_)
    refine Lib.hid ?_
    -- toIntSS aWords _t5
    have HS10 := hb.size
    have O0 := Lib.hid (O0.out.stay (SameIn.of_below hb (by omega)))
    have O1 := Lib.hid (O1.out.stay (SameIn.of_below hb (by omega)))
    have O2 := Lib.hid (O2.out.stay (SameIn.of_below hb (by omega)))
    have O3 := Lib.hid (O3.out.stay (SameIn.of_below hb (by omega)))
    have O4 := Lib.hid (O4.out.stay (SameIn.of_below hb (by omega)))
    have HB := Lib.hid ((HB.out).trans (hb.mono (by first | omega | exact Nat.le_refl _)))
    clear hb
    have O5 := Lib.hid (o)
    clear o
    go_wp2_with (go_at_call 26; refine (iWeighingsOf b10 z0.length c10 z0 _ (O5.out.rowsAt rfl) (by omega)).mono ?_; rintro e w12 ⟨v11, rfl, o, hb⟩; obtain ⟨b11, c11, rfl, -⟩ := o.rows; refine Hid.out ?_)
    refine Lib.hid ?_
    -- impl.WeighingsOf ['_t5'] ['h0', 'h1']
    have HS11 := hb.size
    have O0 := Lib.hid (O0.out.stay (SameIn.of_below hb (by omega)))
    have O1 := Lib.hid (O1.out.stay (SameIn.of_below hb (by omega)))
    have O2 := Lib.hid (O2.out.stay (SameIn.of_below hb (by omega)))
    have O3 := Lib.hid (O3.out.stay (SameIn.of_below hb (by omega)))
    have O4 := Lib.hid (O4.out.stay (SameIn.of_below hb (by omega)))
    have O5 := Lib.hid (O5.out.stay (SameIn.of_below hb (by omega)))
    have HB := Lib.hid ((HB.out).trans (hb.mono (by first | omega | exact Nat.le_refl _)))
    clear hb
    have O6 := Lib.hid (o)
    clear o
    go_wp2_with (go_at_call 54; refine (eqWeigS_same b11 b1 _ c11 c1 _ _ O6.out.rowsAt O1.out.rowsAt).mono ?_; rintro e w13 ⟨rfl, hb⟩; refine Hid.out ?_)
    refine Lib.hid ?_
    -- eqWeighingS h0 w0
    have HS12 := hb.size
    have O0 := Lib.hid (O0.out.stay (SameIn.of_below hb (by omega)))
    have O1 := Lib.hid (O1.out.stay (SameIn.of_below hb (by omega)))
    have O2 := Lib.hid (O2.out.stay (SameIn.of_below hb (by omega)))
    have O3 := Lib.hid (O3.out.stay (SameIn.of_below hb (by omega)))
    have O4 := Lib.hid (O4.out.stay (SameIn.of_below hb (by omega)))
    have O5 := Lib.hid (O5.out.stay (SameIn.of_below hb (by omega)))
    have O6 := Lib.hid (O6.out.stay (SameIn.of_below hb (by omega)))
    have HB := Lib.hid ((HB.out).trans (hb.mono (by first | omega | exact Nat.le_refl _)))
    clear hb
    go_wp2_with (go_at_call 56; refine (heldWeigS_marks b3 _ c3 _ _ _ (O3.out.rowsAt) (wei_small z0 SM0) (by omega) (by omega)).mono ?_; rintro e w14 ⟨rfl, rfl⟩; refine Hid.out ?_)
    refine Lib.hid ?_
    -- heldWeighingS g0
    go_wp2
    go_ret
    exact ⟨rfl, HB.out⟩
end Go.Proofs.Yteklgngooflhlaa

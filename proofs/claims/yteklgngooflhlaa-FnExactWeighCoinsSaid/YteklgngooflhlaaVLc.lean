/- Walks of exact laws over structs. -/
import Derived.Test.YteklgngooflhlaaVI1
import Derived.Test.YteklgngooflhlaaVS3
import Derived.Test.YteklgngooflhlaaTurn
import Derived.Test.YteklgngooflhlaaLaw3
namespace Go.Proofs.Yteklgngooflhlaa
set_option maxRecDepth 20000
open Go.RowKit

set_option maxRecDepth 20000 in
set_option maxHeartbeats 4000000 in
theorem wFnExactWeighCoins (a0 : Option Addr) (len0 cap0 : Nat) (z0 : List Int) (a1 : Option Addr) (n1 c1 : Nat) (s1 : List Int) (b1 : Option Addr) (m1 d1 : Nat) (o1 : List Int) (w : World) (w0 : IsRow .i64 w a0 len0 cap0 z0) (w1 : Ms w a1 n1 c1 s1 b1 m1 d1 o1) : Calls Try.prog 14 #[.slice a0 len0 cap0, weigV a1 n1 c1 b1 m1 d1] w fun e w' => e = .returned (.bool true) ∧ Below w.heap.size w w' := by
  have q0 := Ints.of_row w0
  have m0 : len0 ≤ 9223372036854775807 := by obtain ⟨_, h2, h3, _⟩ := q0; unfold maxLen at h3; omega
  obtain ⟨y0, ey0⟩ : ∃ y, y = z0.take len0 := ⟨_, rfl⟩
  rw [← ey0] at q0
  clear ey0 w0
  obtain rfl : len0 = y0.length := q0.1.symm
  have Q0 := Lib.hid q0
  clear q0
  obtain rfl : s1.length = n1 := w1.1.1
  obtain rfl : o1.length = m1 := w1.2.1
  have Q1 := Lib.hid w1
  clear w1
  by_cases gs0 : y0.length ≤ 1048576
  · skip
    by_cases g0 : ((1048576 : Int) - (s1.length : Int) - (o1.length : Int)) < 0
    · skip
      go_enter Try.func14, Try.ntmps14
      have HB := Lib.hid (Below.refl w.heap.size w)
      go_wp2_with fail
      generalize hW : World.alloc w _ = w1
      obtain ⟨bx, hb⟩ := box2_of hW
      have hz_w1 : w1.heap.size = w.heap.size + 1 := by rw [← hW, World.size_alloc]
      have hp_w1 := bx.1
      have BX_aW := Lib.hid bx
      clear hW bx
      have HS_w1 := hb.size
      have HB := Lib.hid (HB.out.trans (hb.mono (by first | omega | exact Nat.le_refl _)))
      clear hb
      refine (szWeig a1 _ c1 s1 b1 _ d1 o1 _ _ (Q1.out.below HB.out) (by omega) (by omega)).mono ?_
      rw [if_pos (by omega)]
      rintro r w2 ⟨rfl, hb⟩
      have HS_w2 := hb.size
      have BX_aW := Lib.hid (BX_aW.out.below hb)
      have HB := Lib.hid (HB.out.trans (hb.mono (by first | omega | exact Nat.le_refl _)))
      clear hb
      have c_ := BX_aW.out
      obtain ⟨l0_, x0_, y0_⟩ := c_
      go_wp2
      go_ret
      exact ⟨rfl, HB.out⟩
    · skip
      go_enter Try.func14, Try.ntmps14
      have HB := Lib.hid (Below.refl w.heap.size w)
      go_wp2_with fail
      generalize hW : World.alloc w _ = w1
      obtain ⟨bx, hb⟩ := box2_of hW
      have hz_w1 : w1.heap.size = w.heap.size + 1 := by rw [← hW, World.size_alloc]
      have hp_w1 := bx.1
      have BX_aW := Lib.hid bx
      clear hW bx
      have HS_w1 := hb.size
      have HB := Lib.hid (HB.out.trans (hb.mono (by first | omega | exact Nat.le_refl _)))
      clear hb
      refine (szWeig a1 _ c1 s1 b1 _ d1 o1 _ _ (Q1.out.below HB.out) (by omega) (by omega)).mono ?_
      rw [if_neg (by omega)]
      rintro r w2 ⟨rfl, hb⟩
      have HS_w2 := hb.size
      have BX_aW := Lib.hid (BX_aW.out.below hb)
      have HB := Lib.hid (HB.out.trans (hb.mono (by first | omega | exact Nat.le_refl _)))
      clear hb
      have c_ := BX_aW.out
      obtain ⟨l0_, x0_, y0_⟩ := c_
      go_wp2_with fail
      clear l0_ x0_ y0_
      have SS : Hid (∀ W, Below w2.heap.size w2 W → W.cell? ⟨w.heap.size, 0, none⟩ = some (.slice a1 s1.length c1) ∧ W.cell? ⟨w.heap.size, 1, none⟩ = some (.slice b1 o1.length d1)) := Lib.hid fun W hW => by
        obtain ⟨-, x0_, y0_⟩ := BX_aW.out.below hW
        exact ⟨x0_, y0_⟩
      have TF0 := Lib.hid (fun (W : World) (hW : Below w2.heap.size w2 W) => toIntS_any a0 y0.length cap0 y0 W ((Q0.out.below HB.out).below hW) (by omega))
      have TF1 := Lib.hid (fun (W : World) (hW : Below w2.heap.size w2 W) => toWeig_any a1 s1.length c1 s1 b1 o1.length d1 o1 W ((Q1.out.below HB.out).below hW) (by omega) (by omega))
      have c_ := BX_aW.out
      obtain ⟨l0_, x0_, y0_⟩ := c_
      go_region_held3 (fun W => W.cell? ⟨w.heap.size, 0, none⟩ = some (.slice a1 s1.length c1) ∧ W.cell? ⟨w.heap.size, 1, none⟩ = some (.slice b1 o1.length d1)) (exact SS.out _ (by (repeat' (first | (with_reducible exact Below.refl _ _) | (with_reducible assumption) | (with_reducible refine below_gc ?_ ?_ _) | (with_reducible refine below_gd ?_ _) | (with_reducible refine below_drewN ?_ _) | (with_reducible refine Below.drew ?_) | (with_reducible refine Below.alloc ?_ ?_ _) | (with_reducible refine Below.setCell ?_ ?_ _) | (with_reducible refine below_gw ?_ ?_ _) | (with_reducible refine below_via ?_ ‹Below _ _ _› ?_) | (with_reducible exact Nat.le_refl _) | (with_reducible refine le_gc ?_ _) | (with_reducible refine le_gd ?_ _) | (with_reducible refine le_gw ?_ _) | (with_reducible refine le_alloc ?_ _) | (with_reducible refine le_setCell ?_ _ _) | (with_reducible refine le_drew ?_) | (with_reducible refine le_drewN ?_ _) | go_size)))) ((first | (go_at_call 45; with_reducible refine (TF0.out _ (by ((repeat' (first | (with_reducible exact Below.refl _ _) | (with_reducible assumption) | (with_reducible refine below_gc ?_ ?_ _) | (with_reducible refine below_gd ?_ _) | (with_reducible refine below_drewN ?_ _) | (with_reducible refine Below.drew ?_) | (with_reducible refine Below.alloc ?_ ?_ _) | (with_reducible refine Below.setCell ?_ ?_ _) | (with_reducible refine below_gw ?_ ?_ _) | (with_reducible refine below_via ?_ ‹Below _ _ _› ?_) | (with_reducible exact Nat.le_refl _) | (with_reducible refine le_gc ?_ _) | (with_reducible refine le_gd ?_ _) | (with_reducible refine le_gw ?_ _) | (with_reducible refine le_alloc ?_ _) | (with_reducible refine le_setCell ?_ _ _) | (with_reducible refine le_drew ?_) | (with_reducible refine le_drewN ?_ _) | go_size))); done)).mono ?_; intro r w_ hh_; unfold RetI at hh_; obtain ⟨qa0_, qc0_, rfl, o, hb, -⟩ := hh_; obtain ⟨p0_, rfl⟩ := gw_of_below hb; have T0 := Lib.hid (Ints.of_own o); clear o hb; (try simp only [gw_of_drew] at T0); (try simp only [gw_gw] at T0)) | (go_at_call 43; with_reducible refine (TF1.out _ (by ((repeat' (first | (with_reducible exact Below.refl _ _) | (with_reducible assumption) | (with_reducible refine below_gc ?_ ?_ _) | (with_reducible refine below_gd ?_ _) | (with_reducible refine below_drewN ?_ _) | (with_reducible refine Below.drew ?_) | (with_reducible refine Below.alloc ?_ ?_ _) | (with_reducible refine Below.setCell ?_ ?_ _) | (with_reducible refine below_gw ?_ ?_ _) | (with_reducible refine below_via ?_ ‹Below _ _ _› ?_) | (with_reducible exact Nat.le_refl _) | (with_reducible refine le_gc ?_ _) | (with_reducible refine le_gd ?_ _) | (with_reducible refine le_gw ?_ _) | (with_reducible refine le_alloc ?_ _) | (with_reducible refine le_setCell ?_ _ _) | (with_reducible refine le_drew ?_) | (with_reducible refine le_drewN ?_ _) | go_size))); done)).mono ?_; intro r w_ hh_; unfold RetW at hh_; obtain ⟨qa1_, qc1_, qb1_, qd1_, rfl, o, hb, -, -⟩ := hh_; obtain ⟨p1_, rfl⟩ := gw_of_below hb; have T1 := Lib.hid o.ms; clear o hb; (try simp only [gw_of_drew] at T1); (try simp only [gw_gw] at T1)) | (go_at_call 61; refine (sWeighCoins qa0_ y0.length qc0_ y0 qa1_ s1.length qc1_ s1 qb1_ o1.length qd1_ o1 _ (by first | (exact T0.out.below (by ((repeat' (first | (with_reducible exact Below.refl _ _) | (with_reducible assumption) | (with_reducible refine below_gc ?_ ?_ _) | (with_reducible refine below_gd ?_ _) | (with_reducible refine below_drewN ?_ _) | (with_reducible refine Below.drew ?_) | (with_reducible refine Below.alloc ?_ ?_ _) | (with_reducible refine Below.setCell ?_ ?_ _) | (with_reducible refine below_gw ?_ ?_ _) | (with_reducible refine below_via ?_ ‹Below _ _ _› ?_) | (with_reducible exact Nat.le_refl _) | (with_reducible refine le_gc ?_ _) | (with_reducible refine le_gd ?_ _) | (with_reducible refine le_gw ?_ _) | (with_reducible refine le_alloc ?_ _) | (with_reducible refine le_setCell ?_ _ _) | (with_reducible refine le_drew ?_) | (with_reducible refine le_drewN ?_ _) | go_size))); done)) | (have hh := T0.out; simp only [gw_gw, gw_of_drew, gw_drew] at hh ⊢; exact hh)) (by first | (exact T1.out.below (by ((repeat' (first | (with_reducible exact Below.refl _ _) | (with_reducible assumption) | (with_reducible refine below_gc ?_ ?_ _) | (with_reducible refine below_gd ?_ _) | (with_reducible refine below_drewN ?_ _) | (with_reducible refine Below.drew ?_) | (with_reducible refine Below.alloc ?_ ?_ _) | (with_reducible refine Below.setCell ?_ ?_ _) | (with_reducible refine below_gw ?_ ?_ _) | (with_reducible refine below_via ?_ ‹Below _ _ _› ?_) | (with_reducible exact Nat.le_refl _) | (with_reducible refine le_gc ?_ _) | (with_reducible refine le_gd ?_ _) | (with_reducible refine le_gw ?_ _) | (with_reducible refine le_alloc ?_ _) | (with_reducible refine le_setCell ?_ _ _) | (with_reducible refine le_drew ?_) | (with_reducible refine le_drewN ?_ _) | go_size))); done)) | (have hh := T1.out; simp only [gw_gw, gw_of_drew, gw_drew] at hh ⊢; exact hh)) (by omega) (by omega)).mono ?_; rintro r w_ ⟨rfl, hb⟩; obtain ⟨p9_, rfl⟩ := gw_of_below hb; clear hb)))
      generalize hW : gw w2 _ = w3
      have hb : Below w2.heap.size w2 w3 := by rw [← hW]; (repeat' (first | (with_reducible exact Below.refl _ _) | (with_reducible assumption) | (with_reducible refine below_gc ?_ ?_ _) | (with_reducible refine below_gd ?_ _) | (with_reducible refine below_drewN ?_ _) | (with_reducible refine Below.drew ?_) | (with_reducible refine Below.alloc ?_ ?_ _) | (with_reducible refine Below.setCell ?_ ?_ _) | (with_reducible refine below_gw ?_ ?_ _) | (with_reducible refine below_via ?_ ‹Below _ _ _› ?_) | (with_reducible exact Nat.le_refl _) | (with_reducible refine le_gc ?_ _) | (with_reducible refine le_gd ?_ _) | (with_reducible refine le_gw ?_ _) | (with_reducible refine le_alloc ?_ _) | (with_reducible refine le_setCell ?_ _ _) | (with_reducible refine le_drew ?_) | (with_reducible refine le_drewN ?_ _) | go_size))
      clear hW SS TF0 TF1 T0 T1
      clear l0_ x0_ y0_
      have HS_w3 := hb.size
      have BX_aW := Lib.hid (BX_aW.out.below hb)
      have HB := Lib.hid (HB.out.trans (hb.mono (by first | omega | exact Nat.le_refl _)))
      clear hb
      have c_ := BX_aW.out
      obtain ⟨l0_, x0_, y0_⟩ := c_
      go_wp2_with fail
      clear l0_ x0_ y0_
      refine (toIntS_any a0 y0.length cap0 y0 _ (Q0.out.below HB.out) (by omega)).mono ?_
      rintro r w4 ⟨ra4, rc4, rfl, o, hb, ln4⟩
      have HS_w4 := hb.size
      have BX_aW := Lib.hid (BX_aW.out.below hb)
      have HB := Lib.hid (HB.out.trans (hb.mono (by first | omega | exact Nat.le_refl _)))
      clear hb
      have O0 := Lib.hid (OwnI.of o)
      clear o
      have c_ := BX_aW.out
      obtain ⟨l0_, x0_, y0_⟩ := c_
      go_wp2_with fail
      clear l0_ x0_ y0_
      refine (toWeig_any a1 s1.length c1 s1 b1 o1.length d1 o1 _ (Q1.out.below HB.out) (by omega) (by omega)).mono ?_
      rintro r w5 ⟨ra5, rc5, rb5, rd5, rfl, o, hb, ln5, lm5⟩
      have HS_w5 := hb.size
      have O0 := Lib.hid (O0.out.stay (SameIn.of_below hb (by omega)))
      have BX_aW := Lib.hid (BX_aW.out.below hb)
      have HB := Lib.hid (HB.out.trans (hb.mono (by first | omega | exact Nat.le_refl _)))
      clear hb
      have O1 := Lib.hid (o)
      clear o
      have c_ := BX_aW.out
      obtain ⟨l0_, x0_, y0_⟩ := c_
      go_wp2_with fail
      generalize hW : World.alloc w5 _ = w6
      obtain ⟨bx, hb⟩ := box2_of hW
      have hp_w6 := bx.1
      have BX_x1 := Lib.hid bx
      clear hW bx
      clear l0_ x0_ y0_
      have HS_w6 := hb.size
      have O0 := Lib.hid (O0.out.stay (SameIn.of_below hb (by omega)))
      have O1 := Lib.hid (O1.out.later hb (by omega))
      have BX_aW := Lib.hid (BX_aW.out.below hb)
      have HB := Lib.hid (HB.out.trans (hb.mono (by first | omega | exact Nat.le_refl _)))
      clear hb
      refine (iWeighCoins ra4 y0.length rc4 y0 ra5 s1.length rc5 s1 rb5 o1.length rd5 o1 _ (Ints.of_own O0.out.1) O1.out.ms (by omega) (by omega)).mono ?_
      rintro r w7 ⟨rfl, hb⟩
      have HS_w7 := hb.size
      have O0 := Lib.hid (O0.out.stay (SameIn.of_below hb (by omega)))
      have O1 := Lib.hid (O1.out.later hb (by omega))
      have BX_aW := Lib.hid (BX_aW.out.below hb)
      have BX_x1 := Lib.hid (BX_x1.out.below hb)
      have HB := Lib.hid (HB.out.trans (hb.mono (by first | omega | exact Nat.le_refl _)))
      clear hb
      have c_ := BX_aW.out
      obtain ⟨l0_, x0_, y0_⟩ := c_
      have c_ := BX_x1.out
      obtain ⟨l1_, x1_, y1_⟩ := c_
      go_wp2_with fail
      clear l0_ x0_ y0_
      clear l1_ x1_ y1_
      refine (toIntS_any a0 y0.length cap0 y0 _ (Q0.out.below HB.out) (by omega)).mono ?_
      rintro r w8 ⟨ra8, rc8, rfl, o, hb, ln8⟩
      have HS_w8 := hb.size
      have O0 := Lib.hid (O0.out.stay (SameIn.of_below hb (by omega)))
      have O1 := Lib.hid (O1.out.later hb (by omega))
      have BX_aW := Lib.hid (BX_aW.out.below hb)
      have BX_x1 := Lib.hid (BX_x1.out.below hb)
      have HB := Lib.hid (HB.out.trans (hb.mono (by first | omega | exact Nat.le_refl _)))
      clear hb
      have O2 := Lib.hid (OwnI.of o)
      clear o
      have c_ := BX_aW.out
      obtain ⟨l0_, x0_, y0_⟩ := c_
      have c_ := BX_x1.out
      obtain ⟨l1_, x1_, y1_⟩ := c_
      go_wp2_with fail
      clear l0_ x0_ y0_
      clear l1_ x1_ y1_
      refine (eqIntS_same ra4 ra8 _ rc4 rc8 _ _ (Ints.of_own O0.out.1) (Ints.of_own O2.out.1)).mono ?_
      rintro r w9 ⟨rfl, hb⟩
      have HS_w9 := hb.size
      have O0 := Lib.hid (O0.out.stay (SameIn.of_below hb (by omega)))
      have O1 := Lib.hid (O1.out.later hb (by omega))
      have O2 := Lib.hid (O2.out.stay (SameIn.of_below hb (by omega)))
      have BX_aW := Lib.hid (BX_aW.out.below hb)
      have BX_x1 := Lib.hid (BX_x1.out.below hb)
      have HB := Lib.hid (HB.out.trans (hb.mono (by first | omega | exact Nat.le_refl _)))
      clear hb
      have c_ := BX_aW.out
      obtain ⟨l0_, x0_, y0_⟩ := c_
      have c_ := BX_x1.out
      obtain ⟨l1_, x1_, y1_⟩ := c_
      go_wp2_with fail
      clear l0_ x0_ y0_
      clear l1_ x1_ y1_
      have SS : Hid (∀ W, Below w9.heap.size w9 W → W.cell? ⟨w5.heap.size, 0, none⟩ = some (.slice ra5 s1.length rc5) ∧ W.cell? ⟨w5.heap.size, 1, none⟩ = some (.slice rb5 o1.length rd5) ∧ W.cell? ⟨w.heap.size, 0, none⟩ = some (.slice a1 s1.length c1) ∧ W.cell? ⟨w.heap.size, 1, none⟩ = some (.slice b1 o1.length d1)) := Lib.hid fun W hW => by
        obtain ⟨-, x0_, y0_⟩ := BX_x1.out.below hW
        obtain ⟨-, x1_, y1_⟩ := BX_aW.out.below hW
        exact ⟨x0_, y0_, x1_, y1_⟩
      have PQ0 : Hid (∀ W, Below w9.heap.size w9 W → Ms W a1 s1.length c1 s1 b1 o1.length d1 o1) := Lib.hid fun W hW => (Q1.out.below HB.out).below hW
      have PX : Hid (∀ W, Below w9.heap.size w9 W → Ms W ra5 s1.length rc5 s1 rb5 o1.length rd5 o1) := Lib.hid fun W hW => O1.out.ms.below hW
      have c_ := BX_aW.out
      obtain ⟨l0_, x0_, y0_⟩ := c_
      have c_ := BX_x1.out
      obtain ⟨l1_, x1_, y1_⟩ := c_
      go_region_held3 (fun W => W.cell? ⟨w5.heap.size, 0, none⟩ = some (.slice ra5 s1.length rc5) ∧ W.cell? ⟨w5.heap.size, 1, none⟩ = some (.slice rb5 o1.length rd5) ∧ W.cell? ⟨w.heap.size, 0, none⟩ = some (.slice a1 s1.length c1) ∧ W.cell? ⟨w.heap.size, 1, none⟩ = some (.slice b1 o1.length d1)) (exact SS.out _ (by (repeat' (first | (with_reducible exact Below.refl _ _) | (with_reducible assumption) | (with_reducible refine below_gc ?_ ?_ _) | (with_reducible refine below_gd ?_ _) | (with_reducible refine below_drewN ?_ _) | (with_reducible refine Below.drew ?_) | (with_reducible refine Below.alloc ?_ ?_ _) | (with_reducible refine Below.setCell ?_ ?_ _) | (with_reducible refine below_gw ?_ ?_ _) | (with_reducible refine below_via ?_ ‹Below _ _ _› ?_) | (with_reducible exact Nat.le_refl _) | (with_reducible refine le_gc ?_ _) | (with_reducible refine le_gd ?_ _) | (with_reducible refine le_gw ?_ _) | (with_reducible refine le_alloc ?_ _) | (with_reducible refine le_setCell ?_ _ _) | (with_reducible refine le_drew ?_) | (with_reducible refine le_drewN ?_ _) | go_size)))) ((first | (go_at_call 43; refine (toWeig_any a1 s1.length c1 s1 b1 o1.length d1 o1 _ (PQ0.out _ (by (repeat' (first | (with_reducible exact Below.refl _ _) | (with_reducible assumption) | (with_reducible refine below_gc ?_ ?_ _) | (with_reducible refine below_gd ?_ _) | (with_reducible refine below_drewN ?_ _) | (with_reducible refine Below.drew ?_) | (with_reducible refine Below.alloc ?_ ?_ _) | (with_reducible refine Below.setCell ?_ ?_ _) | (with_reducible refine below_gw ?_ ?_ _) | (with_reducible refine below_via ?_ ‹Below _ _ _› ?_) | (with_reducible exact Nat.le_refl _) | (with_reducible refine le_gc ?_ _) | (with_reducible refine le_gd ?_ _) | (with_reducible refine le_gw ?_ _) | (with_reducible refine le_alloc ?_ _) | (with_reducible refine le_setCell ?_ _ _) | (with_reducible refine le_drew ?_) | (with_reducible refine le_drewN ?_ _) | go_size)))) (by omega) (by omega)).mono ?_; rintro r w_ ⟨qa_, qc_, qb_, qd_, rfl, o, hb, -, -⟩; obtain ⟨p_, rfl⟩ := gw_of_below hb; have T0 := Lib.hid o.ms; clear o hb; (try simp only [gw_of_drew] at T0); (try simp only [gw_gw] at T0)) | (go_at_call 38; refine (eqWeig_same ra5 qa_ s1.length rc5 qc_ s1 rb5 qb_ o1.length rd5 qd_ o1 _ (PX.out _ (by (repeat' (first | (with_reducible exact Below.refl _ _) | (with_reducible assumption) | (with_reducible refine below_gc ?_ ?_ _) | (with_reducible refine below_gd ?_ _) | (with_reducible refine below_drewN ?_ _) | (with_reducible refine Below.drew ?_) | (with_reducible refine Below.alloc ?_ ?_ _) | (with_reducible refine Below.setCell ?_ ?_ _) | (with_reducible refine below_gw ?_ ?_ _) | (with_reducible refine below_via ?_ ‹Below _ _ _› ?_) | (with_reducible exact Nat.le_refl _) | (with_reducible refine le_gc ?_ _) | (with_reducible refine le_gd ?_ _) | (with_reducible refine le_gw ?_ _) | (with_reducible refine le_alloc ?_ _) | (with_reducible refine le_setCell ?_ _ _) | (with_reducible refine le_drew ?_) | (with_reducible refine le_drewN ?_ _) | go_size)))) (by first | (exact T0.out.below (by ((repeat' (first | (with_reducible exact Below.refl _ _) | (with_reducible assumption) | (with_reducible refine below_gc ?_ ?_ _) | (with_reducible refine below_gd ?_ _) | (with_reducible refine below_drewN ?_ _) | (with_reducible refine Below.drew ?_) | (with_reducible refine Below.alloc ?_ ?_ _) | (with_reducible refine Below.setCell ?_ ?_ _) | (with_reducible refine below_gw ?_ ?_ _) | (with_reducible refine below_via ?_ ‹Below _ _ _› ?_) | (with_reducible exact Nat.le_refl _) | (with_reducible refine le_gc ?_ _) | (with_reducible refine le_gd ?_ _) | (with_reducible refine le_gw ?_ _) | (with_reducible refine le_alloc ?_ _) | (with_reducible refine le_setCell ?_ _ _) | (with_reducible refine le_drew ?_) | (with_reducible refine le_drewN ?_ _) | go_size))); done)) | (have hh := T0.out; simp only [gw_gw, gw_of_drew, gw_drew] at hh ⊢; exact hh))).mono ?_; rintro r w_ ⟨rfl, hb⟩; obtain ⟨p9_, rfl⟩ := gw_of_below hb; clear hb)))
      generalize hW : gw w9 _ = w10
      have hb : Below w9.heap.size w9 w10 := by rw [← hW]; (repeat' (first | (with_reducible exact Below.refl _ _) | (with_reducible assumption) | (with_reducible refine below_gc ?_ ?_ _) | (with_reducible refine below_gd ?_ _) | (with_reducible refine below_drewN ?_ _) | (with_reducible refine Below.drew ?_) | (with_reducible refine Below.alloc ?_ ?_ _) | (with_reducible refine Below.setCell ?_ ?_ _) | (with_reducible refine below_gw ?_ ?_ _) | (with_reducible refine below_via ?_ ‹Below _ _ _› ?_) | (with_reducible exact Nat.le_refl _) | (with_reducible refine le_gc ?_ _) | (with_reducible refine le_gd ?_ _) | (with_reducible refine le_gw ?_ _) | (with_reducible refine le_alloc ?_ _) | (with_reducible refine le_setCell ?_ _ _) | (with_reducible refine le_drew ?_) | (with_reducible refine le_drewN ?_ _) | go_size))
      clear hW SS PQ0 PX T0
      clear l0_ x0_ y0_
      clear l1_ x1_ y1_
      have HS_w10 := hb.size
      have O0 := Lib.hid (O0.out.stay (SameIn.of_below hb (by omega)))
      have O1 := Lib.hid (O1.out.later hb (by omega))
      have BX_aW := Lib.hid (BX_aW.out.below hb)
      have BX_x1 := Lib.hid (BX_x1.out.below hb)
      have HB := Lib.hid (HB.out.trans (hb.mono (by first | omega | exact Nat.le_refl _)))
      clear hb
      have c_ := BX_aW.out
      obtain ⟨l0_, x0_, y0_⟩ := c_
      have c_ := BX_x1.out
      obtain ⟨l1_, x1_, y1_⟩ := c_
      go_wp2
      go_ret
      exact ⟨rfl, HB.out⟩
  · go_enter Try.func14, Try.ntmps14
    go_wp2
    go_ret
    exact ⟨rfl, by (repeat' (first | (with_reducible exact Below.refl _ _) | (with_reducible assumption) | (with_reducible refine below_drewN ?_ _) | (with_reducible refine Below.drew ?_) | (with_reducible refine Below.alloc ?_ ?_ _) | (with_reducible refine Below.setCell ?_ ?_ _) | (with_reducible refine below_gw ?_ ?_ _) | (with_reducible refine below_via ?_ ‹Below _ _ _› ?_) | (with_reducible exact Nat.le_refl _) | (with_reducible refine le_gw ?_ _) | (with_reducible refine le_alloc ?_ _) | (with_reducible refine le_setCell ?_ _ _) | (with_reducible refine le_drew ?_) | (with_reducible refine le_drewN ?_ _) | go_size))⟩
end Go.Proofs.Yteklgngooflhlaa

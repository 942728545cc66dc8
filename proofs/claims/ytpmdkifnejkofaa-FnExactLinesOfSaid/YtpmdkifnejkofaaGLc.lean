/- Walks of exact laws over structs. -/
import Derived.Test.YtpmdkifnejkofaaGI3
import Derived.Test.YtpmdkifnejkofaaGBox
namespace Go.Proofs.Ytpmdkifnejkofaa
set_option maxRecDepth 20000
open Go.RowKit

set_option maxRecDepth 20000 in
set_option maxHeartbeats 4000000 in
theorem wFnExactLinesOf (k0 : Int) (a0 : Option Addr) (n0 c0 : Nat) (L0 : List (Nat → Int)) (b0 : Option Addr) (m0 d0 : Nat) (o0 : List Int) (a1 : Option Addr) (len1 cap1 : Nat) (z1 : List Int) (w : World) (w0 : Cs w a0 n0 c0 L0 b0 m0 d0 o0) (_u0 : (Lit.int .i64 k0).wf = true) (w1 : IsRow .i64 w a1 len1 cap1 z1) : Calls Try.prog 4 #[circV k0 a0 n0 c0 b0 m0 d0, .slice a1 len1 cap1] w fun e w' => e = .returned (.bool true) ∧ Below w.heap.size w w' := by
  have mm0 : n0 ≤ 9223372036854775807 := by have h2 := w0.1.2.1; have h3 := w0.1.2.2.1; unfold maxLen at h3; omega
  obtain rfl : L0.length = n0 := w0.1.1
  obtain rfl : o0.length = m0 := w0.2.1
  have Q0 := Lib.hid w0
  clear w0
  have q1 := Ints.of_row w1
  have m1 : len1 ≤ 9223372036854775807 := by obtain ⟨_, h2, h3, _⟩ := q1; unfold maxLen at h3; omega
  obtain ⟨y1, ey1⟩ : ∃ y, y = z1.take len1 := ⟨_, rfl⟩
  rw [← ey1] at q1
  clear ey1 w1
  obtain rfl : len1 = y1.length := q1.1.symm
  have Q1 := Lib.hid q1
  clear q1
  by_cases gs1 : y1.length ≤ 1048576
  · skip
    by_cases g0 : ((1048576 : Int) - (L0.length : Int) - (o0.length : Int)) < 0
    · skip
      go_enter Try.func4, Try.ntmps4
      have HB := Lib.hid (Below.refl w.heap.size w)
      go_wp2_with fail
      generalize hW : World.alloc w _ = w1
      obtain ⟨bx, hb⟩ := box3_of hW
      have hz_w1 : w1.heap.size = w.heap.size + 1 := by rw [← hW, World.size_alloc]
      have hp_w1 := bx.1
      have BX_aC := Lib.hid bx
      clear hW bx
      have HS_w1 := hb.size
      have HB := Lib.hid (HB.out.trans (hb.mono (by first | omega | exact Nat.le_refl _)))
      clear hb
      refine (szCirc k0 a0 _ c0 b0 _ d0 o0 _ _ mm0 ((Q0.out.2).below HB.out) (by omega) (by omega)).mono ?_
      rw [if_pos (by omega)]
      rintro r w2 ⟨rfl, hb⟩
      have HS_w2 := hb.size
      have BX_aC := Lib.hid (BX_aC.out.below hb)
      have HB := Lib.hid (HB.out.trans (hb.mono (by first | omega | exact Nat.le_refl _)))
      clear hb
      have c_ := BX_aC.out
      obtain ⟨l0_, x0_, y0_, z0_⟩ := c_
      go_wp2
      go_ret
      exact ⟨rfl, HB.out⟩
    · skip
      go_enter Try.func4, Try.ntmps4
      have HB := Lib.hid (Below.refl w.heap.size w)
      go_wp2_with fail
      generalize hW : World.alloc w _ = w1
      obtain ⟨bx, hb⟩ := box3_of hW
      have hz_w1 : w1.heap.size = w.heap.size + 1 := by rw [← hW, World.size_alloc]
      have hp_w1 := bx.1
      have BX_aC := Lib.hid bx
      clear hW bx
      have HS_w1 := hb.size
      have HB := Lib.hid (HB.out.trans (hb.mono (by first | omega | exact Nat.le_refl _)))
      clear hb
      refine (szCirc k0 a0 _ c0 b0 _ d0 o0 _ _ mm0 ((Q0.out.2).below HB.out) (by omega) (by omega)).mono ?_
      rw [if_neg (by omega)]
      rintro r w2 ⟨rfl, hb⟩
      have HS_w2 := hb.size
      have BX_aC := Lib.hid (BX_aC.out.below hb)
      have HB := Lib.hid (HB.out.trans (hb.mono (by first | omega | exact Nat.le_refl _)))
      clear hb
      have c_ := BX_aC.out
      obtain ⟨l0_, x0_, y0_, z0_⟩ := c_
      go_wp2_with fail
      clear l0_ x0_ y0_ z0_
      refine (toCirc_any k0 a0 L0.length c0 L0 b0 o0.length d0 o0 _ (Q0.out.below HB.out) (by omega) (by omega)).mono ?_
      rintro r w3 ⟨ra3, rc3, rb3, rd3, rfl, o, hb, ln3, lm3⟩
      have HS_w3 := hb.size
      have BX_aC := Lib.hid (BX_aC.out.below hb)
      have HB := Lib.hid (HB.out.trans (hb.mono (by first | omega | exact Nat.le_refl _)))
      clear hb
      have O0 := Lib.hid (o)
      clear o
      have c_ := BX_aC.out
      obtain ⟨l0_, x0_, y0_, z0_⟩ := c_
      go_wp2_with fail
      clear l0_ x0_ y0_ z0_
      refine (toIntS_any a1 y1.length cap1 y1 _ (Q1.out.below HB.out) (by omega)).mono ?_
      rintro r w4 ⟨ra4, rc4, rfl, o, hb, ln4⟩
      have HS_w4 := hb.size
      have O0 := Lib.hid (O0.out.later hb (by omega))
      have BX_aC := Lib.hid (BX_aC.out.below hb)
      have HB := Lib.hid (HB.out.trans (hb.mono (by first | omega | exact Nat.le_refl _)))
      clear hb
      have O1 := Lib.hid (OwnI.of o)
      clear o
      have c_ := BX_aC.out
      obtain ⟨l0_, x0_, y0_, z0_⟩ := c_
      go_wp2_with fail
      clear l0_ x0_ y0_ z0_
      refine (sLinesOf k0 ra3 L0.length rc3 L0 rb3 o0.length rd3 o0 ra4 y1.length rc4 y1 _ (O0.out.cs rfl) (Ints.of_own O1.out.1) (own_nilc O1.out.1)).mono ?_
      rintro r w5 ⟨ra5, rc5, rfl, o, hb, ln5⟩
      have HS_w5 := hb.size
      have O0 := Lib.hid (O0.out.later hb (by omega))
      have O1 := Lib.hid (O1.out.stay (SameIn.of_below hb (by omega)))
      have BX_aC := Lib.hid (BX_aC.out.below hb)
      have HB := Lib.hid (HB.out.trans (hb.mono (by first | omega | exact Nat.le_refl _)))
      clear hb
      have O2 := Lib.hid (OwnI.of o)
      clear o
      have c_ := BX_aC.out
      obtain ⟨l0_, x0_, y0_, z0_⟩ := c_
      go_wp2_with fail
      clear l0_ x0_ y0_ z0_
      refine (toCirc_any k0 a0 L0.length c0 L0 b0 o0.length d0 o0 _ (Q0.out.below HB.out) (by omega) (by omega)).mono ?_
      rintro r w6 ⟨ra6, rc6, rb6, rd6, rfl, o, hb, ln6, lm6⟩
      have HS_w6 := hb.size
      have O2 := Lib.hid (O2.out.stay (SameIn.of_below hb (by omega)))
      have BX_aC := Lib.hid (BX_aC.out.below hb)
      have HB := Lib.hid (HB.out.trans (hb.mono (by first | omega | exact Nat.le_refl _)))
      clear hb
      have O3 := Lib.hid (o)
      clear o
      have c_ := BX_aC.out
      obtain ⟨l0_, x0_, y0_, z0_⟩ := c_
      go_wp2_with fail
      generalize hW : World.alloc w6 _ = w7
      obtain ⟨bx, hb⟩ := box3_of hW
      have hp_w7 := bx.1
      have BX_x0 := Lib.hid bx
      clear hW bx
      clear l0_ x0_ y0_ z0_
      have HS_w7 := hb.size
      have O2 := Lib.hid (O2.out.stay (SameIn.of_below hb (by omega)))
      have O3 := Lib.hid (O3.out.later hb (by omega))
      have BX_aC := Lib.hid (BX_aC.out.below hb)
      have HB := Lib.hid (HB.out.trans (hb.mono (by first | omega | exact Nat.le_refl _)))
      clear hb
      refine (toIntS_any a1 y1.length cap1 y1 _ (Q1.out.below HB.out) (by omega)).mono ?_
      rintro r w8 ⟨ra8, rc8, rfl, o, hb, ln8⟩
      have HS_w8 := hb.size
      have O2 := Lib.hid (O2.out.stay (SameIn.of_below hb (by omega)))
      have O3 := Lib.hid (O3.out.later hb (by omega))
      have BX_aC := Lib.hid (BX_aC.out.below hb)
      have BX_x0 := Lib.hid (BX_x0.out.below hb)
      have HB := Lib.hid (HB.out.trans (hb.mono (by first | omega | exact Nat.le_refl _)))
      clear hb
      have O4 := Lib.hid (OwnI.of o)
      clear o
      have c_ := BX_aC.out
      obtain ⟨l0_, x0_, y0_, z0_⟩ := c_
      have c_ := BX_x0.out
      obtain ⟨l1_, x1_, y1_, z1_⟩ := c_
      go_wp2_with fail
      clear l0_ x0_ y0_ z0_
      clear l1_ x1_ y1_ z1_
      refine (iLinesOf k0 ra6 L0.length rc6 L0 rb6 o0.length rd6 o0 ra8 y1.length rc8 y1 _ (O3.out.cs rfl) (Ints.of_own O4.out.1) (own_nilc O4.out.1)).mono ?_
      rintro r w9 ⟨ra9, rc9, rfl, o, hb, ln9⟩
      have HS_w9 := hb.size
      have O2 := Lib.hid (O2.out.stay (SameIn.of_below hb (by omega)))
      have O3 := Lib.hid (O3.out.later hb (by omega))
      have O4 := Lib.hid (O4.out.stay (SameIn.of_below hb (by omega)))
      have BX_aC := Lib.hid (BX_aC.out.below hb)
      have BX_x0 := Lib.hid (BX_x0.out.below hb)
      have HB := Lib.hid (HB.out.trans (hb.mono (by first | omega | exact Nat.le_refl _)))
      clear hb
      have O5 := Lib.hid (OwnI.of o)
      clear o
      have c_ := BX_aC.out
      obtain ⟨l0_, x0_, y0_, z0_⟩ := c_
      have c_ := BX_x0.out
      obtain ⟨l1_, x1_, y1_, z1_⟩ := c_
      go_wp2_with fail
      clear l0_ x0_ y0_ z0_
      clear l1_ x1_ y1_ z1_
      refine (eqIntS_same ra9 ra5 _ rc9 rc5 _ _ (Ints.of_own O5.out.1) (Ints.of_own O2.out.1)).mono ?_
      rintro r w10 ⟨rfl, hb⟩
      have HS_w10 := hb.size
      have O2 := Lib.hid (O2.out.stay (SameIn.of_below hb (by omega)))
      have O3 := Lib.hid (O3.out.later hb (by omega))
      have O4 := Lib.hid (O4.out.stay (SameIn.of_below hb (by omega)))
      have O5 := Lib.hid (O5.out.stay (SameIn.of_below hb (by omega)))
      have BX_aC := Lib.hid (BX_aC.out.below hb)
      have BX_x0 := Lib.hid (BX_x0.out.below hb)
      have HB := Lib.hid (HB.out.trans (hb.mono (by first | omega | exact Nat.le_refl _)))
      clear hb
      have c_ := BX_aC.out
      obtain ⟨l0_, x0_, y0_, z0_⟩ := c_
      have c_ := BX_x0.out
      obtain ⟨l1_, x1_, y1_, z1_⟩ := c_
      go_wp2_with fail
      clear l0_ x0_ y0_ z0_
      clear l1_ x1_ y1_ z1_
      have SS : Hid (∀ W, Below w10.heap.size w10 W → W.cell? ⟨w6.heap.size, 0, none⟩ = some (.int .i64 k0) ∧ W.cell? ⟨w6.heap.size, 1, none⟩ = some (.slice ra6 L0.length rc6) ∧ W.cell? ⟨w6.heap.size, 2, none⟩ = some (.slice rb6 o0.length rd6) ∧ W.cell? ⟨w.heap.size, 0, none⟩ = some (.int .i64 k0) ∧ W.cell? ⟨w.heap.size, 1, none⟩ = some (.slice a0 L0.length c0) ∧ W.cell? ⟨w.heap.size, 2, none⟩ = some (.slice b0 o0.length d0)) := Lib.hid fun W hW => by
        obtain ⟨-, x0_, y0_, z0_⟩ := BX_x0.out.below hW
        obtain ⟨-, x1_, y1_, z1_⟩ := BX_aC.out.below hW
        exact ⟨x0_, y0_, z0_, x1_, y1_, z1_⟩
      have PQ0 : Hid (∀ W, Below w10.heap.size w10 W → Cs W a0 L0.length c0 L0 b0 o0.length d0 o0) := Lib.hid fun W hW => (Q0.out.below HB.out).below hW
      have PX : Hid (∀ W, Below w10.heap.size w10 W → Cs W ra6 L0.length rc6 L0 rb6 o0.length rd6 o0) := Lib.hid fun W hW => (O3.out.cs rfl).below hW
      have c_ := BX_aC.out
      obtain ⟨l0_, x0_, y0_, z0_⟩ := c_
      have c_ := BX_x0.out
      obtain ⟨l1_, x1_, y1_, z1_⟩ := c_
      go_region_held3 (fun W => W.cell? ⟨w6.heap.size, 0, none⟩ = some (.int .i64 k0) ∧ W.cell? ⟨w6.heap.size, 1, none⟩ = some (.slice ra6 L0.length rc6) ∧ W.cell? ⟨w6.heap.size, 2, none⟩ = some (.slice rb6 o0.length rd6) ∧ W.cell? ⟨w.heap.size, 0, none⟩ = some (.int .i64 k0) ∧ W.cell? ⟨w.heap.size, 1, none⟩ = some (.slice a0 L0.length c0) ∧ W.cell? ⟨w.heap.size, 2, none⟩ = some (.slice b0 o0.length d0)) (exact SS.out _ (by (repeat' (first | (with_reducible exact Below.refl _ _) | (with_reducible assumption) | (with_reducible refine below_gc ?_ ?_ _) | (with_reducible refine below_gd ?_ _) | (with_reducible refine below_drewN ?_ _) | (with_reducible refine Below.drew ?_) | (with_reducible refine Below.alloc ?_ ?_ _) | (with_reducible refine Below.setCell ?_ ?_ _) | (with_reducible refine below_gw ?_ ?_ _) | (with_reducible refine below_via ?_ ‹Below _ _ _› ?_) | (with_reducible exact Nat.le_refl _) | (with_reducible refine le_gc ?_ _) | (with_reducible refine le_gd ?_ _) | (with_reducible refine le_gw ?_ _) | (with_reducible refine le_alloc ?_ _) | (with_reducible refine le_setCell ?_ _ _) | (with_reducible refine le_drew ?_) | (with_reducible refine le_drewN ?_ _) | go_size)))) ((first | (go_at_call 10; refine (toCirc_any k0 a0 L0.length c0 L0 b0 o0.length d0 o0 _ (PQ0.out _ (by (repeat' (first | (with_reducible exact Below.refl _ _) | (with_reducible assumption) | (with_reducible refine below_gc ?_ ?_ _) | (with_reducible refine below_gd ?_ _) | (with_reducible refine below_drewN ?_ _) | (with_reducible refine Below.drew ?_) | (with_reducible refine Below.alloc ?_ ?_ _) | (with_reducible refine Below.setCell ?_ ?_ _) | (with_reducible refine below_gw ?_ ?_ _) | (with_reducible refine below_via ?_ ‹Below _ _ _› ?_) | (with_reducible exact Nat.le_refl _) | (with_reducible refine le_gc ?_ _) | (with_reducible refine le_gd ?_ _) | (with_reducible refine le_gw ?_ _) | (with_reducible refine le_alloc ?_ _) | (with_reducible refine le_setCell ?_ _ _) | (with_reducible refine le_drew ?_) | (with_reducible refine le_drewN ?_ _) | go_size)))) (by omega) (by omega)).mono ?_; rintro r w_ ⟨qa_, qc_, qb_, qd_, rfl, o, hb, -, -⟩; obtain ⟨p_, rfl⟩ := gw_of_below hb; have T0 := Lib.hid (o.cs rfl); clear o hb; (try simp only [gw_of_drew] at T0); (try simp only [gw_gw] at T0)) | (go_at_call 12; refine (eqCirc_same k0 ra6 qa_ L0.length rc6 qc_ L0 rb6 qb_ o0.length rd6 qd_ o0 _ (PX.out _ (by (repeat' (first | (with_reducible exact Below.refl _ _) | (with_reducible assumption) | (with_reducible refine below_gc ?_ ?_ _) | (with_reducible refine below_gd ?_ _) | (with_reducible refine below_drewN ?_ _) | (with_reducible refine Below.drew ?_) | (with_reducible refine Below.alloc ?_ ?_ _) | (with_reducible refine Below.setCell ?_ ?_ _) | (with_reducible refine below_gw ?_ ?_ _) | (with_reducible refine below_via ?_ ‹Below _ _ _› ?_) | (with_reducible exact Nat.le_refl _) | (with_reducible refine le_gc ?_ _) | (with_reducible refine le_gd ?_ _) | (with_reducible refine le_gw ?_ _) | (with_reducible refine le_alloc ?_ _) | (with_reducible refine le_setCell ?_ _ _) | (with_reducible refine le_drew ?_) | (with_reducible refine le_drewN ?_ _) | go_size)))) (by first | (exact T0.out.below (by ((repeat' (first | (with_reducible exact Below.refl _ _) | (with_reducible assumption) | (with_reducible refine below_gc ?_ ?_ _) | (with_reducible refine below_gd ?_ _) | (with_reducible refine below_drewN ?_ _) | (with_reducible refine Below.drew ?_) | (with_reducible refine Below.alloc ?_ ?_ _) | (with_reducible refine Below.setCell ?_ ?_ _) | (with_reducible refine below_gw ?_ ?_ _) | (with_reducible refine below_via ?_ ‹Below _ _ _› ?_) | (with_reducible exact Nat.le_refl _) | (with_reducible refine le_gc ?_ _) | (with_reducible refine le_gd ?_ _) | (with_reducible refine le_gw ?_ _) | (with_reducible refine le_alloc ?_ _) | (with_reducible refine le_setCell ?_ _ _) | (with_reducible refine le_drew ?_) | (with_reducible refine le_drewN ?_ _) | go_size))); done)) | (have hh := T0.out; simp only [gw_gw, gw_of_drew, gw_drew] at hh ⊢; exact hh))).mono ?_; rintro r w_ ⟨rfl, hb⟩; obtain ⟨p9_, rfl⟩ := gw_of_below hb; clear hb)))
      generalize hW : gw w10 _ = w11
      have hb : Below w10.heap.size w10 w11 := by rw [← hW]; (repeat' (first | (with_reducible exact Below.refl _ _) | (with_reducible assumption) | (with_reducible refine below_gc ?_ ?_ _) | (with_reducible refine below_gd ?_ _) | (with_reducible refine below_drewN ?_ _) | (with_reducible refine Below.drew ?_) | (with_reducible refine Below.alloc ?_ ?_ _) | (with_reducible refine Below.setCell ?_ ?_ _) | (with_reducible refine below_gw ?_ ?_ _) | (with_reducible refine below_via ?_ ‹Below _ _ _› ?_) | (with_reducible exact Nat.le_refl _) | (with_reducible refine le_gc ?_ _) | (with_reducible refine le_gd ?_ _) | (with_reducible refine le_gw ?_ _) | (with_reducible refine le_alloc ?_ _) | (with_reducible refine le_setCell ?_ _ _) | (with_reducible refine le_drew ?_) | (with_reducible refine le_drewN ?_ _) | go_size))
      clear hW SS PQ0 PX T0
      clear l0_ x0_ y0_ z0_
      clear l1_ x1_ y1_ z1_
      have HS_w11 := hb.size
      have O2 := Lib.hid (O2.out.stay (SameIn.of_below hb (by omega)))
      have O3 := Lib.hid (O3.out.later hb (by omega))
      have O4 := Lib.hid (O4.out.stay (SameIn.of_below hb (by omega)))
      have O5 := Lib.hid (O5.out.stay (SameIn.of_below hb (by omega)))
      have BX_aC := Lib.hid (BX_aC.out.below hb)
      have BX_x0 := Lib.hid (BX_x0.out.below hb)
      have HB := Lib.hid (HB.out.trans (hb.mono (by first | omega | exact Nat.le_refl _)))
      clear hb
      have c_ := BX_aC.out
      obtain ⟨l0_, x0_, y0_, z0_⟩ := c_
      have c_ := BX_x0.out
      obtain ⟨l1_, x1_, y1_, z1_⟩ := c_
      go_wp2_with fail
      clear l0_ x0_ y0_ z0_
      clear l1_ x1_ y1_ z1_
      refine (toIntS_any a1 y1.length cap1 y1 _ (Q1.out.below HB.out) (by omega)).mono ?_
      rintro r w12 ⟨ra12, rc12, rfl, o, hb, ln12⟩
      have HS_w12 := hb.size
      have O2 := Lib.hid (O2.out.stay (SameIn.of_below hb (by omega)))
      have O3 := Lib.hid (O3.out.later hb (by omega))
      have O4 := Lib.hid (O4.out.stay (SameIn.of_below hb (by omega)))
      have O5 := Lib.hid (O5.out.stay (SameIn.of_below hb (by omega)))
      have BX_aC := Lib.hid (BX_aC.out.below hb)
      have BX_x0 := Lib.hid (BX_x0.out.below hb)
      have HB := Lib.hid (HB.out.trans (hb.mono (by first | omega | exact Nat.le_refl _)))
      clear hb
      have O6 := Lib.hid (OwnI.of o)
      clear o
      have c_ := BX_aC.out
      obtain ⟨l0_, x0_, y0_, z0_⟩ := c_
      have c_ := BX_x0.out
      obtain ⟨l1_, x1_, y1_, z1_⟩ := c_
      go_wp2_with fail
      clear l0_ x0_ y0_ z0_
      clear l1_ x1_ y1_ z1_
      refine (eqIntS_same ra8 ra12 _ rc8 rc12 _ _ (Ints.of_own O4.out.1) (Ints.of_own O6.out.1)).mono ?_
      rintro r w13 ⟨rfl, hb⟩
      have HS_w13 := hb.size
      have O2 := Lib.hid (O2.out.stay (SameIn.of_below hb (by omega)))
      have O3 := Lib.hid (O3.out.later hb (by omega))
      have O4 := Lib.hid (O4.out.stay (SameIn.of_below hb (by omega)))
      have O5 := Lib.hid (O5.out.stay (SameIn.of_below hb (by omega)))
      have O6 := Lib.hid (O6.out.stay (SameIn.of_below hb (by omega)))
      have BX_aC := Lib.hid (BX_aC.out.below hb)
      have BX_x0 := Lib.hid (BX_x0.out.below hb)
      have HB := Lib.hid (HB.out.trans (hb.mono (by first | omega | exact Nat.le_refl _)))
      clear hb
      have c_ := BX_aC.out
      obtain ⟨l0_, x0_, y0_, z0_⟩ := c_
      have c_ := BX_x0.out
      obtain ⟨l1_, x1_, y1_, z1_⟩ := c_
      go_wp2_with fail
      clear l0_ x0_ y0_ z0_
      clear l1_ x1_ y1_ z1_
      refine (markCirc_any w5.heap.size w6.heap.size k0 ra6 L0.length rc6 _ rb6 o0.length rd6 _ _ _ O3.out (Tm.flat_length _) (by omega) (by omega) (by omega) (by omega) (by omega)).mono ?_
      rintro r w14 ⟨rfl, o2, ho⟩
      have HS_w14 := ho.size
      have HB := Lib.hid (TurnF.below HB.out ho (by omega) (by omega))
      have O2 := Lib.hid (O2.out.stay (SameIn.of_turnF ho (by omega) (by omega)))
      have O4 := Lib.hid (O4.out.stay (SameIn.of_turnF ho (by omega) (by omega)))
      have O5 := Lib.hid (O5.out.stay (SameIn.of_turnF ho (by omega) (by omega)))
      have BX_aC := Lib.hid (BX_aC.out.turn ho (by omega))
      have BX_x0 := Lib.hid (BX_x0.out.turn ho (by omega))
      have O3 := Lib.hid o2
      clear o2 ho
      have c_ := BX_aC.out
      obtain ⟨l0_, x0_, y0_, z0_⟩ := c_
      have c_ := BX_x0.out
      obtain ⟨l1_, x1_, y1_, z1_⟩ := c_
      go_wp2_with fail
      clear l0_ x0_ y0_ z0_
      clear l1_ x1_ y1_ z1_
      refine (markIntS_any w7.heap.size ra8 _ rc8 _ _ _ rfl O4.out.1 (by omega) (by omega) (by omega)).mono ?_
      rintro r w15 ⟨rfl, o3, hg, hz⟩
      obtain ⟨o2, ho⟩ := O4.out.marked o3 hg
      clear o3 hg hz
      have HS_w15 := ho.size
      have HB := Lib.hid (TurnF.below HB.out ho (by omega) (by omega))
      have O2 := Lib.hid (O2.out.stay (SameIn.of_turnF ho (by omega) (by omega)))
      have O3 := Lib.hid (O3.out.stay (SameIn.of_turnF ho (by omega) (by omega)))
      have O5 := Lib.hid (O5.out.stay (SameIn.of_turnF ho (by omega) (by omega)))
      have BX_aC := Lib.hid (BX_aC.out.turn ho (by omega))
      have BX_x0 := Lib.hid (BX_x0.out.turn ho (by omega))
      have O4 := Lib.hid o2
      clear o2 ho
      have c_ := BX_aC.out
      obtain ⟨l0_, x0_, y0_, z0_⟩ := c_
      have c_ := BX_x0.out
      obtain ⟨l1_, x1_, y1_, z1_⟩ := c_
      go_wp2_with fail
      clear l0_ x0_ y0_ z0_
      clear l1_ x1_ y1_ z1_
      refine (eqIntS_same ra9 ra5 _ rc9 rc5 _ _ (Ints.of_own O5.out.1) (Ints.of_own O2.out.1)).mono ?_
      rintro r w16 ⟨rfl, hb⟩
      have HS_w16 := hb.size
      have O2 := Lib.hid (O2.out.stay (SameIn.of_below hb (by omega)))
      have O3 := Lib.hid (O3.out.later hb (by omega))
      have O4 := Lib.hid (O4.out.stay (SameIn.of_below hb (by omega)))
      have O5 := Lib.hid (O5.out.stay (SameIn.of_below hb (by omega)))
      have BX_aC := Lib.hid (BX_aC.out.below hb)
      have BX_x0 := Lib.hid (BX_x0.out.below hb)
      have HB := Lib.hid (HB.out.trans (hb.mono (by first | omega | exact Nat.le_refl _)))
      clear hb
      have c_ := BX_aC.out
      obtain ⟨l0_, x0_, y0_, z0_⟩ := c_
      have c_ := BX_x0.out
      obtain ⟨l1_, x1_, y1_, z1_⟩ := c_
      go_wp2_with fail
      clear l0_ x0_ y0_ z0_
      clear l1_ x1_ y1_ z1_
      refine (markIntS_any w8.heap.size ra9 _ rc9 _ _ _ rfl O5.out.1 (by omega) (by omega) (by omega)).mono ?_
      rintro r w17 ⟨rfl, o3, hg, hz⟩
      obtain ⟨o2, ho⟩ := O5.out.marked o3 hg
      clear o3 hg hz
      have HS_w17 := ho.size
      have HB := Lib.hid (TurnF.below HB.out ho (by omega) (by omega))
      have O2 := Lib.hid (O2.out.stay (SameIn.of_turnF ho (by omega) (by omega)))
      have O3 := Lib.hid (O3.out.stay (SameIn.of_turnF ho (by omega) (by omega)))
      have O4 := Lib.hid (O4.out.stay (SameIn.of_turnF ho (by omega) (by omega)))
      have BX_aC := Lib.hid (BX_aC.out.turn ho (by omega))
      have BX_x0 := Lib.hid (BX_x0.out.turn ho (by omega))
      have O5 := Lib.hid o2
      clear o2 ho
      have c_ := BX_aC.out
      obtain ⟨l0_, x0_, y0_, z0_⟩ := c_
      have c_ := BX_x0.out
      obtain ⟨l1_, x1_, y1_, z1_⟩ := c_
      go_wp2_with fail
      clear l0_ x0_ y0_ z0_
      clear l1_ x1_ y1_ z1_
      refine (heldIntS_marks ra9 _ rc9 _ _ (O5.out.intsAt (marks_length _ _)) (by omega) (by omega) (by omega)).mono ?_
      rintro r w18 ⟨rfl, rfl⟩
      have c_ := BX_aC.out
      obtain ⟨l0_, x0_, y0_, z0_⟩ := c_
      have c_ := BX_x0.out
      obtain ⟨l1_, x1_, y1_, z1_⟩ := c_
      go_wp2_with fail
      clear l0_ x0_ y0_ z0_
      clear l1_ x1_ y1_ z1_
      refine (toCirc_any k0 a0 L0.length c0 L0 b0 o0.length d0 o0 _ (Q0.out.below HB.out) (by omega) (by omega)).mono ?_
      rintro r w18 ⟨ra18, rc18, rb18, rd18, rfl, o, hb, ln18, lm18⟩
      have HS_w18 := hb.size
      have O2 := Lib.hid (O2.out.stay (SameIn.of_below hb (by omega)))
      have O3 := Lib.hid (O3.out.later hb (by omega))
      have O4 := Lib.hid (O4.out.stay (SameIn.of_below hb (by omega)))
      have O5 := Lib.hid (O5.out.stay (SameIn.of_below hb (by omega)))
      have BX_aC := Lib.hid (BX_aC.out.below hb)
      have BX_x0 := Lib.hid (BX_x0.out.below hb)
      have HB := Lib.hid (HB.out.trans (hb.mono (by first | omega | exact Nat.le_refl _)))
      clear hb
      have O7 := Lib.hid (o)
      clear o
      have c_ := BX_aC.out
      obtain ⟨l0_, x0_, y0_, z0_⟩ := c_
      have c_ := BX_x0.out
      obtain ⟨l1_, x1_, y1_, z1_⟩ := c_
      go_wp2_with fail
      clear l0_ x0_ y0_ z0_
      clear l1_ x1_ y1_ z1_
      refine (toIntS_any a1 y1.length cap1 y1 _ (Q1.out.below HB.out) (by omega)).mono ?_
      rintro r w19 ⟨ra19, rc19, rfl, o, hb, ln19⟩
      have HS_w19 := hb.size
      have O2 := Lib.hid (O2.out.stay (SameIn.of_below hb (by omega)))
      have O3 := Lib.hid (O3.out.later hb (by omega))
      have O4 := Lib.hid (O4.out.stay (SameIn.of_below hb (by omega)))
      have O5 := Lib.hid (O5.out.stay (SameIn.of_below hb (by omega)))
      have O7 := Lib.hid (O7.out.later hb (by omega))
      have BX_aC := Lib.hid (BX_aC.out.below hb)
      have BX_x0 := Lib.hid (BX_x0.out.below hb)
      have HB := Lib.hid (HB.out.trans (hb.mono (by first | omega | exact Nat.le_refl _)))
      clear hb
      have O8 := Lib.hid (OwnI.of o)
      clear o
      have c_ := BX_aC.out
      obtain ⟨l0_, x0_, y0_, z0_⟩ := c_
      have c_ := BX_x0.out
      obtain ⟨l1_, x1_, y1_, z1_⟩ := c_
      go_wp2_with fail
      clear l0_ x0_ y0_ z0_
      clear l1_ x1_ y1_ z1_
      refine (iLinesOf k0 ra18 L0.length rc18 L0 rb18 o0.length rd18 o0 ra19 y1.length rc19 y1 _ (O7.out.cs rfl) (Ints.of_own O8.out.1) (own_nilc O8.out.1)).mono ?_
      rintro r w20 ⟨ra20, rc20, rfl, o, hb, ln20⟩
      have HS_w20 := hb.size
      have O2 := Lib.hid (O2.out.stay (SameIn.of_below hb (by omega)))
      have O3 := Lib.hid (O3.out.later hb (by omega))
      have O4 := Lib.hid (O4.out.stay (SameIn.of_below hb (by omega)))
      have O5 := Lib.hid (O5.out.stay (SameIn.of_below hb (by omega)))
      have O7 := Lib.hid (O7.out.later hb (by omega))
      have O8 := Lib.hid (O8.out.stay (SameIn.of_below hb (by omega)))
      have BX_aC := Lib.hid (BX_aC.out.below hb)
      have BX_x0 := Lib.hid (BX_x0.out.below hb)
      have HB := Lib.hid (HB.out.trans (hb.mono (by first | omega | exact Nat.le_refl _)))
      clear hb
      have O9 := Lib.hid (OwnI.of o)
      clear o
      have c_ := BX_aC.out
      obtain ⟨l0_, x0_, y0_, z0_⟩ := c_
      have c_ := BX_x0.out
      obtain ⟨l1_, x1_, y1_, z1_⟩ := c_
      go_wp2_with fail
      clear l0_ x0_ y0_ z0_
      clear l1_ x1_ y1_ z1_
      refine (eqIntS_same ra20 ra5 _ rc20 rc5 _ _ (Ints.of_own O9.out.1) (Ints.of_own O2.out.1)).mono ?_
      rintro r w21 ⟨rfl, hb⟩
      have HS_w21 := hb.size
      have O2 := Lib.hid (O2.out.stay (SameIn.of_below hb (by omega)))
      have O3 := Lib.hid (O3.out.later hb (by omega))
      have O4 := Lib.hid (O4.out.stay (SameIn.of_below hb (by omega)))
      have O5 := Lib.hid (O5.out.stay (SameIn.of_below hb (by omega)))
      have O9 := Lib.hid (O9.out.stay (SameIn.of_below hb (by omega)))
      have BX_aC := Lib.hid (BX_aC.out.below hb)
      have BX_x0 := Lib.hid (BX_x0.out.below hb)
      have HB := Lib.hid (HB.out.trans (hb.mono (by first | omega | exact Nat.le_refl _)))
      clear hb
      have c_ := BX_aC.out
      obtain ⟨l0_, x0_, y0_, z0_⟩ := c_
      have c_ := BX_x0.out
      obtain ⟨l1_, x1_, y1_, z1_⟩ := c_
      go_wp2_with fail
      clear l0_ x0_ y0_ z0_
      clear l1_ x1_ y1_ z1_
      refine (heldIntS_marks ra9 _ rc9 _ _ (O5.out.intsAt (marks_length _ _)) (by omega) (by omega) (by omega)).mono ?_
      rintro r w22 ⟨rfl, rfl⟩
      have c_ := BX_aC.out
      obtain ⟨l0_, x0_, y0_, z0_⟩ := c_
      have c_ := BX_x0.out
      obtain ⟨l1_, x1_, y1_, z1_⟩ := c_
      go_wp2
      go_ret
      exact ⟨rfl, HB.out⟩
  · go_enter Try.func4, Try.ntmps4
    go_wp2
    go_ret
    exact ⟨rfl, by (repeat' (first | (with_reducible exact Below.refl _ _) | (with_reducible assumption) | (with_reducible refine below_drewN ?_ _) | (with_reducible refine Below.drew ?_) | (with_reducible refine Below.alloc ?_ ?_ _) | (with_reducible refine Below.setCell ?_ ?_ _) | (with_reducible refine below_gw ?_ ?_ _) | (with_reducible refine below_via ?_ ‹Below _ _ _› ?_) | (with_reducible exact Nat.le_refl _) | (with_reducible refine le_gw ?_ _) | (with_reducible refine le_alloc ?_ _) | (with_reducible refine le_setCell ?_ _ _) | (with_reducible refine le_drew ?_) | (with_reducible refine le_drewN ?_ _) | go_size))⟩
end Go.Proofs.Ytpmdkifnejkofaa

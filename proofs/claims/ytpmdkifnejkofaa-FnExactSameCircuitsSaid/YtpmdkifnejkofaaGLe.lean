/- Walks of exact laws over structs. -/
import Derived.Test.YtpmdkifnejkofaaGSSame
import Derived.Test.YtpmdkifnejkofaaGISame
import Derived.Test.YtpmdkifnejkofaaGBox
namespace Go.Proofs.Ytpmdkifnejkofaa
set_option maxRecDepth 20000
open Go.RowKit

set_option maxRecDepth 20000 in
set_option maxHeartbeats 4000000 in
theorem wFnExactSameCircuits (k0 : Int) (a0 : Option Addr) (n0 c0 : Nat) (L0 : List (Nat → Int)) (b0 : Option Addr) (m0 d0 : Nat) (o0 : List Int) (k1 : Int) (a1 : Option Addr) (n1 c1 : Nat) (L1 : List (Nat → Int)) (b1 : Option Addr) (m1 d1 : Nat) (o1 : List Int) (w : World) (w0 : Cs w a0 n0 c0 L0 b0 m0 d0 o0) (_u0 : (Lit.int .i64 k0).wf = true) (w1 : Cs w a1 n1 c1 L1 b1 m1 d1 o1) (_u1 : (Lit.int .i64 k1).wf = true) : Calls Try.prog 7 #[circV k0 a0 n0 c0 b0 m0 d0, circV k1 a1 n1 c1 b1 m1 d1] w fun e w' => e = .returned (.bool true) ∧ Below w.heap.size w w' := by
  have mm0 : n0 ≤ 9223372036854775807 := by have h2 := w0.1.2.1; have h3 := w0.1.2.2.1; unfold maxLen at h3; omega
  obtain rfl : L0.length = n0 := w0.1.1
  obtain rfl : o0.length = m0 := w0.2.1
  have Q0 := Lib.hid w0
  clear w0
  have mm1 : n1 ≤ 9223372036854775807 := by have h2 := w1.1.2.1; have h3 := w1.1.2.2.1; unfold maxLen at h3; omega
  obtain rfl : L1.length = n1 := w1.1.1
  obtain rfl : o1.length = m1 := w1.2.1
  have Q1 := Lib.hid w1
  clear w1
  by_cases g0 : ((1048576 : Int) - (L0.length : Int) - (o0.length : Int)) < 0
  · skip
    go_enter Try.func7, Try.ntmps7
    have HB := Lib.hid (Below.refl w.heap.size w)
    go_wp2_with fail
    generalize hW : World.alloc w _ = w1
    obtain ⟨bx, hb⟩ := box3_of hW
    have hz_w1 : w1.heap.size = w.heap.size + 1 := by rw [← hW, World.size_alloc]
    have hp_w1 := bx.1
    have BX_aC := Lib.hid bx
    clear hW bx
    have HS_w1 := hb.size
    have HB := Lib.hid (HB.out.trans (hb.mono (by first | omega | exact Nat.le_refl _)))
    clear hb
    generalize hW : World.alloc w1 _ = w2
    obtain ⟨bx, hb⟩ := box3_of hW
    have hz_w2 : w2.heap.size = w.heap.size + 2 := by rw [← hW, World.size_alloc, hz_w1]
    rw [hz_w1] at bx
    have hp_w2 := bx.1
    have BX_aD := Lib.hid bx
    clear hW bx
    have HS_w2 := hb.size
    have BX_aC := Lib.hid (BX_aC.out.below hb)
    have HB := Lib.hid (HB.out.trans (hb.mono (by first | omega | exact Nat.le_refl _)))
    clear hb
    refine (szCirc k0 a0 _ c0 b0 _ d0 o0 _ _ mm0 ((Q0.out.2).below HB.out) (by omega) (by omega)).mono ?_
    rw [if_pos (by omega)]
    rintro r w3 ⟨rfl, hb⟩
    have HS_w3 := hb.size
    have BX_aC := Lib.hid (BX_aC.out.below hb)
    have BX_aD := Lib.hid (BX_aD.out.below hb)
    have HB := Lib.hid (HB.out.trans (hb.mono (by first | omega | exact Nat.le_refl _)))
    clear hb
    have c_ := BX_aC.out
    obtain ⟨l0_, x0_, y0_, z0_⟩ := c_
    have c_ := BX_aD.out
    obtain ⟨l1_, x1_, y1_, z1_⟩ := c_
    go_wp2
    go_ret
    exact ⟨rfl, HB.out⟩
  · skip
    by_cases g1 : (((1048576 : Int) - (L0.length : Int) - (o0.length : Int)) - (L1.length : Int) - (o1.length : Int)) < 0
    · skip
      go_enter Try.func7, Try.ntmps7
      have HB := Lib.hid (Below.refl w.heap.size w)
      go_wp2_with fail
      generalize hW : World.alloc w _ = w1
      obtain ⟨bx, hb⟩ := box3_of hW
      have hz_w1 : w1.heap.size = w.heap.size + 1 := by rw [← hW, World.size_alloc]
      have hp_w1 := bx.1
      have BX_aC := Lib.hid bx
      clear hW bx
      have HS_w1 := hb.size
      have HB := Lib.hid (HB.out.trans (hb.mono (by first | omega | exact Nat.le_refl _)))
      clear hb
      generalize hW : World.alloc w1 _ = w2
      obtain ⟨bx, hb⟩ := box3_of hW
      have hz_w2 : w2.heap.size = w.heap.size + 2 := by rw [← hW, World.size_alloc, hz_w1]
      rw [hz_w1] at bx
      have hp_w2 := bx.1
      have BX_aD := Lib.hid bx
      clear hW bx
      have HS_w2 := hb.size
      have BX_aC := Lib.hid (BX_aC.out.below hb)
      have HB := Lib.hid (HB.out.trans (hb.mono (by first | omega | exact Nat.le_refl _)))
      clear hb
      refine (szCirc k0 a0 _ c0 b0 _ d0 o0 _ _ mm0 ((Q0.out.2).below HB.out) (by omega) (by omega)).mono ?_
      rw [if_neg (by omega)]
      rintro r w3 ⟨rfl, hb⟩
      have HS_w3 := hb.size
      have BX_aC := Lib.hid (BX_aC.out.below hb)
      have BX_aD := Lib.hid (BX_aD.out.below hb)
      have HB := Lib.hid (HB.out.trans (hb.mono (by first | omega | exact Nat.le_refl _)))
      clear hb
      have c_ := BX_aC.out
      obtain ⟨l0_, x0_, y0_, z0_⟩ := c_
      have c_ := BX_aD.out
      obtain ⟨l1_, x1_, y1_, z1_⟩ := c_
      go_wp2_with fail
      clear l0_ x0_ y0_ z0_
      clear l1_ x1_ y1_ z1_
      refine (szCirc k1 a1 _ c1 b1 _ d1 o1 _ _ mm1 ((Q1.out.2).below HB.out) (by omega) (by omega)).mono ?_
      rw [if_pos (by omega)]
      rintro r w4 ⟨rfl, hb⟩
      have HS_w4 := hb.size
      have BX_aC := Lib.hid (BX_aC.out.below hb)
      have BX_aD := Lib.hid (BX_aD.out.below hb)
      have HB := Lib.hid (HB.out.trans (hb.mono (by first | omega | exact Nat.le_refl _)))
      clear hb
      have c_ := BX_aC.out
      obtain ⟨l0_, x0_, y0_, z0_⟩ := c_
      have c_ := BX_aD.out
      obtain ⟨l1_, x1_, y1_, z1_⟩ := c_
      go_wp2
      go_ret
      exact ⟨rfl, HB.out⟩
    · skip
      go_enter Try.func7, Try.ntmps7
      have HB := Lib.hid (Below.refl w.heap.size w)
      go_wp2_with fail
      generalize hW : World.alloc w _ = w1
      obtain ⟨bx, hb⟩ := box3_of hW
      have hz_w1 : w1.heap.size = w.heap.size + 1 := by rw [← hW, World.size_alloc]
      have hp_w1 := bx.1
      have BX_aC := Lib.hid bx
      clear hW bx
      have HS_w1 := hb.size
      have HB := Lib.hid (HB.out.trans (hb.mono (by first | omega | exact Nat.le_refl _)))
      clear hb
      generalize hW : World.alloc w1 _ = w2
      obtain ⟨bx, hb⟩ := box3_of hW
      have hz_w2 : w2.heap.size = w.heap.size + 2 := by rw [← hW, World.size_alloc, hz_w1]
      rw [hz_w1] at bx
      have hp_w2 := bx.1
      have BX_aD := Lib.hid bx
      clear hW bx
      have HS_w2 := hb.size
      have BX_aC := Lib.hid (BX_aC.out.below hb)
      have HB := Lib.hid (HB.out.trans (hb.mono (by first | omega | exact Nat.le_refl _)))
      clear hb
      refine (szCirc k0 a0 _ c0 b0 _ d0 o0 _ _ mm0 ((Q0.out.2).below HB.out) (by omega) (by omega)).mono ?_
      rw [if_neg (by omega)]
      rintro r w3 ⟨rfl, hb⟩
      have HS_w3 := hb.size
      have BX_aC := Lib.hid (BX_aC.out.below hb)
      have BX_aD := Lib.hid (BX_aD.out.below hb)
      have HB := Lib.hid (HB.out.trans (hb.mono (by first | omega | exact Nat.le_refl _)))
      clear hb
      have c_ := BX_aC.out
      obtain ⟨l0_, x0_, y0_, z0_⟩ := c_
      have c_ := BX_aD.out
      obtain ⟨l1_, x1_, y1_, z1_⟩ := c_
      go_wp2_with fail
      clear l0_ x0_ y0_ z0_
      clear l1_ x1_ y1_ z1_
      refine (szCirc k1 a1 _ c1 b1 _ d1 o1 _ _ mm1 ((Q1.out.2).below HB.out) (by omega) (by omega)).mono ?_
      rw [if_neg (by omega)]
      rintro r w4 ⟨rfl, hb⟩
      have HS_w4 := hb.size
      have BX_aC := Lib.hid (BX_aC.out.below hb)
      have BX_aD := Lib.hid (BX_aD.out.below hb)
      have HB := Lib.hid (HB.out.trans (hb.mono (by first | omega | exact Nat.le_refl _)))
      clear hb
      have c_ := BX_aC.out
      obtain ⟨l0_, x0_, y0_, z0_⟩ := c_
      have c_ := BX_aD.out
      obtain ⟨l1_, x1_, y1_, z1_⟩ := c_
      go_wp2_with fail
      clear l0_ x0_ y0_ z0_
      clear l1_ x1_ y1_ z1_
      have SS : Hid (∀ W, Below w4.heap.size w4 W → W.cell? ⟨w.heap.size, 0, none⟩ = some (.int .i64 k0) ∧ W.cell? ⟨w.heap.size, 1, none⟩ = some (.slice a0 L0.length c0) ∧ W.cell? ⟨w.heap.size, 2, none⟩ = some (.slice b0 o0.length d0) ∧ W.cell? ⟨w.heap.size + 1, 0, none⟩ = some (.int .i64 k1) ∧ W.cell? ⟨w.heap.size + 1, 1, none⟩ = some (.slice a1 L1.length c1) ∧ W.cell? ⟨w.heap.size + 1, 2, none⟩ = some (.slice b1 o1.length d1)) := Lib.hid fun W hW => by
        obtain ⟨-, x0_, y0_, z0_⟩ := BX_aC.out.below hW
        obtain ⟨-, x1_, y1_, z1_⟩ := BX_aD.out.below hW
        exact ⟨x0_, y0_, z0_, x1_, y1_, z1_⟩
      have TF0 := Lib.hid (fun (W : World) (hW : Below w4.heap.size w4 W) => toCirc_any k0 a0 L0.length c0 L0 b0 o0.length d0 o0 W ((Q0.out.below HB.out).below hW) (by omega) (by omega))
      have TF1 := Lib.hid (fun (W : World) (hW : Below w4.heap.size w4 W) => toCirc_any k1 a1 L1.length c1 L1 b1 o1.length d1 o1 W ((Q1.out.below HB.out).below hW) (by omega) (by omega))
      have c_ := BX_aC.out
      obtain ⟨l0_, x0_, y0_, z0_⟩ := c_
      have c_ := BX_aD.out
      obtain ⟨l1_, x1_, y1_, z1_⟩ := c_
      go_region_held3 (fun W => W.cell? ⟨w.heap.size, 0, none⟩ = some (.int .i64 k0) ∧ W.cell? ⟨w.heap.size, 1, none⟩ = some (.slice a0 L0.length c0) ∧ W.cell? ⟨w.heap.size, 2, none⟩ = some (.slice b0 o0.length d0) ∧ W.cell? ⟨w.heap.size + 1, 0, none⟩ = some (.int .i64 k1) ∧ W.cell? ⟨w.heap.size + 1, 1, none⟩ = some (.slice a1 L1.length c1) ∧ W.cell? ⟨w.heap.size + 1, 2, none⟩ = some (.slice b1 o1.length d1)) (exact SS.out _ (by (repeat' (first | (with_reducible exact Below.refl _ _) | (with_reducible assumption) | (with_reducible refine below_gc ?_ ?_ _) | (with_reducible refine below_gd ?_ _) | (with_reducible refine below_drewN ?_ _) | (with_reducible refine Below.drew ?_) | (with_reducible refine Below.alloc ?_ ?_ _) | (with_reducible refine Below.setCell ?_ ?_ _) | (with_reducible refine below_gw ?_ ?_ _) | (with_reducible refine below_via ?_ ‹Below _ _ _› ?_) | (with_reducible exact Nat.le_refl _) | (with_reducible refine le_gc ?_ _) | (with_reducible refine le_gd ?_ _) | (with_reducible refine le_gw ?_ _) | (with_reducible refine le_alloc ?_ _) | (with_reducible refine le_setCell ?_ _ _) | (with_reducible refine le_drew ?_) | (with_reducible refine le_drewN ?_ _) | go_size)))) ((first | (go_at_call 10; with_reducible refine (TF0.out _ (by ((repeat' (first | (with_reducible exact Below.refl _ _) | (with_reducible assumption) | (with_reducible refine below_gc ?_ ?_ _) | (with_reducible refine below_gd ?_ _) | (with_reducible refine below_drewN ?_ _) | (with_reducible refine Below.drew ?_) | (with_reducible refine Below.alloc ?_ ?_ _) | (with_reducible refine Below.setCell ?_ ?_ _) | (with_reducible refine below_gw ?_ ?_ _) | (with_reducible refine below_via ?_ ‹Below _ _ _› ?_) | (with_reducible exact Nat.le_refl _) | (with_reducible refine le_gc ?_ _) | (with_reducible refine le_gd ?_ _) | (with_reducible refine le_gw ?_ _) | (with_reducible refine le_alloc ?_ _) | (with_reducible refine le_setCell ?_ _ _) | (with_reducible refine le_drew ?_) | (with_reducible refine le_drewN ?_ _) | go_size))); done)).mono ?_; intro r w_ hh_; unfold RetC at hh_; obtain ⟨qa0_, qc0_, qb0_, qd0_, rfl, o, hb, -, -⟩ := hh_; obtain ⟨p0_, rfl⟩ := gw_of_below hb; have T0 := Lib.hid (o.cs rfl); clear o hb; (try simp only [gw_of_drew] at T0); (try simp only [gw_gw] at T0)) | (go_at_call 10; with_reducible refine (TF1.out _ (by ((repeat' (first | (with_reducible exact Below.refl _ _) | (with_reducible assumption) | (with_reducible refine below_gc ?_ ?_ _) | (with_reducible refine below_gd ?_ _) | (with_reducible refine below_drewN ?_ _) | (with_reducible refine Below.drew ?_) | (with_reducible refine Below.alloc ?_ ?_ _) | (with_reducible refine Below.setCell ?_ ?_ _) | (with_reducible refine below_gw ?_ ?_ _) | (with_reducible refine below_via ?_ ‹Below _ _ _› ?_) | (with_reducible exact Nat.le_refl _) | (with_reducible refine le_gc ?_ _) | (with_reducible refine le_gd ?_ _) | (with_reducible refine le_gw ?_ _) | (with_reducible refine le_alloc ?_ _) | (with_reducible refine le_setCell ?_ _ _) | (with_reducible refine le_drew ?_) | (with_reducible refine le_drewN ?_ _) | go_size))); done)).mono ?_; intro r w_ hh_; unfold RetC at hh_; obtain ⟨qa1_, qc1_, qb1_, qd1_, rfl, o, hb, -, -⟩ := hh_; obtain ⟨p1_, rfl⟩ := gw_of_below hb; have T1 := Lib.hid (o.cs rfl); clear o hb; (try simp only [gw_of_drew] at T1); (try simp only [gw_gw] at T1)) | (go_at_call 24; refine (sSameCircuits k0 qa0_ L0.length qc0_ L0 qb0_ o0.length qd0_ o0 k1 qa1_ L1.length qc1_ L1 qb1_ o1.length qd1_ o1 _ (by first | (exact T0.out.below (by ((repeat' (first | (with_reducible exact Below.refl _ _) | (with_reducible assumption) | (with_reducible refine below_gc ?_ ?_ _) | (with_reducible refine below_gd ?_ _) | (with_reducible refine below_drewN ?_ _) | (with_reducible refine Below.drew ?_) | (with_reducible refine Below.alloc ?_ ?_ _) | (with_reducible refine Below.setCell ?_ ?_ _) | (with_reducible refine below_gw ?_ ?_ _) | (with_reducible refine below_via ?_ ‹Below _ _ _› ?_) | (with_reducible exact Nat.le_refl _) | (with_reducible refine le_gc ?_ _) | (with_reducible refine le_gd ?_ _) | (with_reducible refine le_gw ?_ _) | (with_reducible refine le_alloc ?_ _) | (with_reducible refine le_setCell ?_ _ _) | (with_reducible refine le_drew ?_) | (with_reducible refine le_drewN ?_ _) | go_size))); done)) | (have hh := T0.out; simp only [gw_gw, gw_of_drew, gw_drew] at hh ⊢; exact hh)) (by first | (exact T1.out.below (by ((repeat' (first | (with_reducible exact Below.refl _ _) | (with_reducible assumption) | (with_reducible refine below_gc ?_ ?_ _) | (with_reducible refine below_gd ?_ _) | (with_reducible refine below_drewN ?_ _) | (with_reducible refine Below.drew ?_) | (with_reducible refine Below.alloc ?_ ?_ _) | (with_reducible refine Below.setCell ?_ ?_ _) | (with_reducible refine below_gw ?_ ?_ _) | (with_reducible refine below_via ?_ ‹Below _ _ _› ?_) | (with_reducible exact Nat.le_refl _) | (with_reducible refine le_gc ?_ _) | (with_reducible refine le_gd ?_ _) | (with_reducible refine le_gw ?_ _) | (with_reducible refine le_alloc ?_ _) | (with_reducible refine le_setCell ?_ _ _) | (with_reducible refine le_drew ?_) | (with_reducible refine le_drewN ?_ _) | go_size))); done)) | (have hh := T1.out; simp only [gw_gw, gw_of_drew, gw_drew] at hh ⊢; exact hh))).mono ?_; rintro r w_ ⟨rfl, hb⟩; obtain ⟨p9_, rfl⟩ := gw_of_below hb; clear hb)))
      generalize hW : gw w4 _ = w5
      have hb : Below w4.heap.size w4 w5 := by rw [← hW]; (repeat' (first | (with_reducible exact Below.refl _ _) | (with_reducible assumption) | (with_reducible refine below_gc ?_ ?_ _) | (with_reducible refine below_gd ?_ _) | (with_reducible refine below_drewN ?_ _) | (with_reducible refine Below.drew ?_) | (with_reducible refine Below.alloc ?_ ?_ _) | (with_reducible refine Below.setCell ?_ ?_ _) | (with_reducible refine below_gw ?_ ?_ _) | (with_reducible refine below_via ?_ ‹Below _ _ _› ?_) | (with_reducible exact Nat.le_refl _) | (with_reducible refine le_gc ?_ _) | (with_reducible refine le_gd ?_ _) | (with_reducible refine le_gw ?_ _) | (with_reducible refine le_alloc ?_ _) | (with_reducible refine le_setCell ?_ _ _) | (with_reducible refine le_drew ?_) | (with_reducible refine le_drewN ?_ _) | go_size))
      clear hW SS TF0 TF1 T0 T1
      clear l0_ x0_ y0_ z0_
      clear l1_ x1_ y1_ z1_
      have HS_w5 := hb.size
      have BX_aC := Lib.hid (BX_aC.out.below hb)
      have BX_aD := Lib.hid (BX_aD.out.below hb)
      have HB := Lib.hid (HB.out.trans (hb.mono (by first | omega | exact Nat.le_refl _)))
      clear hb
      have c_ := BX_aC.out
      obtain ⟨l0_, x0_, y0_, z0_⟩ := c_
      have c_ := BX_aD.out
      obtain ⟨l1_, x1_, y1_, z1_⟩ := c_
      go_wp2_with fail
      clear l0_ x0_ y0_ z0_
      clear l1_ x1_ y1_ z1_
      refine (toCirc_any k0 a0 L0.length c0 L0 b0 o0.length d0 o0 _ (Q0.out.below HB.out) (by omega) (by omega)).mono ?_
      rintro r w6 ⟨ra6, rc6, rb6, rd6, rfl, o, hb, ln6, lm6⟩
      have HS_w6 := hb.size
      have BX_aC := Lib.hid (BX_aC.out.below hb)
      have BX_aD := Lib.hid (BX_aD.out.below hb)
      have HB := Lib.hid (HB.out.trans (hb.mono (by first | omega | exact Nat.le_refl _)))
      clear hb
      have O0 := Lib.hid (o)
      clear o
      have c_ := BX_aC.out
      obtain ⟨l0_, x0_, y0_, z0_⟩ := c_
      have c_ := BX_aD.out
      obtain ⟨l1_, x1_, y1_, z1_⟩ := c_
      go_wp2_with fail
      generalize hW : World.alloc w6 _ = w7
      obtain ⟨bx, hb⟩ := box3_of hW
      have hp_w7 := bx.1
      have BX_x0 := Lib.hid bx
      clear hW bx
      clear l0_ x0_ y0_ z0_
      clear l1_ x1_ y1_ z1_
      have HS_w7 := hb.size
      have O0 := Lib.hid (O0.out.later hb (by omega))
      have BX_aC := Lib.hid (BX_aC.out.below hb)
      have BX_aD := Lib.hid (BX_aD.out.below hb)
      have HB := Lib.hid (HB.out.trans (hb.mono (by first | omega | exact Nat.le_refl _)))
      clear hb
      refine (toCirc_any k1 a1 L1.length c1 L1 b1 o1.length d1 o1 _ (Q1.out.below HB.out) (by omega) (by omega)).mono ?_
      rintro r w8 ⟨ra8, rc8, rb8, rd8, rfl, o, hb, ln8, lm8⟩
      have HS_w8 := hb.size
      have O0 := Lib.hid (O0.out.later hb (by omega))
      have BX_aC := Lib.hid (BX_aC.out.below hb)
      have BX_aD := Lib.hid (BX_aD.out.below hb)
      have BX_x0 := Lib.hid (BX_x0.out.below hb)
      have HB := Lib.hid (HB.out.trans (hb.mono (by first | omega | exact Nat.le_refl _)))
      clear hb
      have O1 := Lib.hid (o)
      clear o
      have c_ := BX_aC.out
      obtain ⟨l0_, x0_, y0_, z0_⟩ := c_
      have c_ := BX_aD.out
      obtain ⟨l1_, x1_, y1_, z1_⟩ := c_
      have c_ := BX_x0.out
      obtain ⟨l2_, x2_, y2_, z2_⟩ := c_
      go_wp2_with fail
      generalize hW : World.alloc w8 _ = w9
      obtain ⟨bx, hb⟩ := box3_of hW
      have hp_w9 := bx.1
      have BX_x1 := Lib.hid bx
      clear hW bx
      clear l0_ x0_ y0_ z0_
      clear l1_ x1_ y1_ z1_
      clear l2_ x2_ y2_ z2_
      have HS_w9 := hb.size
      have O0 := Lib.hid (O0.out.later hb (by omega))
      have O1 := Lib.hid (O1.out.later hb (by omega))
      have BX_aC := Lib.hid (BX_aC.out.below hb)
      have BX_aD := Lib.hid (BX_aD.out.below hb)
      have BX_x0 := Lib.hid (BX_x0.out.below hb)
      have HB := Lib.hid (HB.out.trans (hb.mono (by first | omega | exact Nat.le_refl _)))
      clear hb
      refine (iSameCircuits k0 ra6 L0.length rc6 L0 rb6 o0.length rd6 o0 k1 ra8 L1.length rc8 L1 rb8 o1.length rd8 o1 _ (O0.out.cs rfl) (O1.out.cs rfl)).mono ?_
      rintro r w10 ⟨rfl, hb⟩
      have HS_w10 := hb.size
      have O0 := Lib.hid (O0.out.later hb (by omega))
      have O1 := Lib.hid (O1.out.later hb (by omega))
      have BX_aC := Lib.hid (BX_aC.out.below hb)
      have BX_aD := Lib.hid (BX_aD.out.below hb)
      have BX_x0 := Lib.hid (BX_x0.out.below hb)
      have BX_x1 := Lib.hid (BX_x1.out.below hb)
      have HB := Lib.hid (HB.out.trans (hb.mono (by first | omega | exact Nat.le_refl _)))
      clear hb
      have c_ := BX_aC.out
      obtain ⟨l0_, x0_, y0_, z0_⟩ := c_
      have c_ := BX_aD.out
      obtain ⟨l1_, x1_, y1_, z1_⟩ := c_
      have c_ := BX_x0.out
      obtain ⟨l2_, x2_, y2_, z2_⟩ := c_
      have c_ := BX_x1.out
      obtain ⟨l3_, x3_, y3_, z3_⟩ := c_
      go_wp2_with fail
      clear l0_ x0_ y0_ z0_
      clear l1_ x1_ y1_ z1_
      clear l2_ x2_ y2_ z2_
      clear l3_ x3_ y3_ z3_
      have SS : Hid (∀ W, Below w10.heap.size w10 W → W.cell? ⟨w6.heap.size, 0, none⟩ = some (.int .i64 k0) ∧ W.cell? ⟨w6.heap.size, 1, none⟩ = some (.slice ra6 L0.length rc6) ∧ W.cell? ⟨w6.heap.size, 2, none⟩ = some (.slice rb6 o0.length rd6) ∧ W.cell? ⟨w.heap.size, 0, none⟩ = some (.int .i64 k0) ∧ W.cell? ⟨w.heap.size, 1, none⟩ = some (.slice a0 L0.length c0) ∧ W.cell? ⟨w.heap.size, 2, none⟩ = some (.slice b0 o0.length d0)) := Lib.hid fun W hW => by
        obtain ⟨-, x0_, y0_, z0_⟩ := BX_x0.out.below hW
        obtain ⟨-, x1_, y1_, z1_⟩ := BX_aC.out.below hW
        exact ⟨x0_, y0_, z0_, x1_, y1_, z1_⟩
      have PQ0 : Hid (∀ W, Below w10.heap.size w10 W → Cs W a0 L0.length c0 L0 b0 o0.length d0 o0) := Lib.hid fun W hW => (Q0.out.below HB.out).below hW
      have PX : Hid (∀ W, Below w10.heap.size w10 W → Cs W ra6 L0.length rc6 L0 rb6 o0.length rd6 o0) := Lib.hid fun W hW => (O0.out.cs rfl).below hW
      have c_ := BX_aC.out
      obtain ⟨l0_, x0_, y0_, z0_⟩ := c_
      have c_ := BX_aD.out
      obtain ⟨l1_, x1_, y1_, z1_⟩ := c_
      have c_ := BX_x0.out
      obtain ⟨l2_, x2_, y2_, z2_⟩ := c_
      have c_ := BX_x1.out
      obtain ⟨l3_, x3_, y3_, z3_⟩ := c_
      go_region_held3 (fun W => W.cell? ⟨w6.heap.size, 0, none⟩ = some (.int .i64 k0) ∧ W.cell? ⟨w6.heap.size, 1, none⟩ = some (.slice ra6 L0.length rc6) ∧ W.cell? ⟨w6.heap.size, 2, none⟩ = some (.slice rb6 o0.length rd6) ∧ W.cell? ⟨w.heap.size, 0, none⟩ = some (.int .i64 k0) ∧ W.cell? ⟨w.heap.size, 1, none⟩ = some (.slice a0 L0.length c0) ∧ W.cell? ⟨w.heap.size, 2, none⟩ = some (.slice b0 o0.length d0)) (exact SS.out _ (by (repeat' (first | (with_reducible exact Below.refl _ _) | (with_reducible assumption) | (with_reducible refine below_gc ?_ ?_ _) | (with_reducible refine below_gd ?_ _) | (with_reducible refine below_drewN ?_ _) | (with_reducible refine Below.drew ?_) | (with_reducible refine Below.alloc ?_ ?_ _) | (with_reducible refine Below.setCell ?_ ?_ _) | (with_reducible refine below_gw ?_ ?_ _) | (with_reducible refine below_via ?_ ‹Below _ _ _› ?_) | (with_reducible exact Nat.le_refl _) | (with_reducible refine le_gc ?_ _) | (with_reducible refine le_gd ?_ _) | (with_reducible refine le_gw ?_ _) | (with_reducible refine le_alloc ?_ _) | (with_reducible refine le_setCell ?_ _ _) | (with_reducible refine le_drew ?_) | (with_reducible refine le_drewN ?_ _) | go_size)))) ((first | (go_at_call 10; refine (toCirc_any k0 a0 L0.length c0 L0 b0 o0.length d0 o0 _ (PQ0.out _ (by (repeat' (first | (with_reducible exact Below.refl _ _) | (with_reducible assumption) | (with_reducible refine below_gc ?_ ?_ _) | (with_reducible refine below_gd ?_ _) | (with_reducible refine below_drewN ?_ _) | (with_reducible refine Below.drew ?_) | (with_reducible refine Below.alloc ?_ ?_ _) | (with_reducible refine Below.setCell ?_ ?_ _) | (with_reducible refine below_gw ?_ ?_ _) | (with_reducible refine below_via ?_ ‹Below _ _ _› ?_) | (with_reducible exact Nat.le_refl _) | (with_reducible refine le_gc ?_ _) | (with_reducible refine le_gd ?_ _) | (with_reducible refine le_gw ?_ _) | (with_reducible refine le_alloc ?_ _) | (with_reducible refine le_setCell ?_ _ _) | (with_reducible refine le_drew ?_) | (with_reducible refine le_drewN ?_ _) | go_size)))) (by omega) (by omega)).mono ?_; rintro r w_ ⟨qa_, qc_, qb_, qd_, rfl, o, hb, -, -⟩; obtain ⟨p_, rfl⟩ := gw_of_below hb; have T0 := Lib.hid (o.cs rfl); clear o hb; (try simp only [gw_of_drew] at T0); (try simp only [gw_gw] at T0)) | (go_at_call 12; refine (eqCirc_same k0 ra6 qa_ L0.length rc6 qc_ L0 rb6 qb_ o0.length rd6 qd_ o0 _ (PX.out _ (by (repeat' (first | (with_reducible exact Below.refl _ _) | (with_reducible assumption) | (with_reducible refine below_gc ?_ ?_ _) | (with_reducible refine below_gd ?_ _) | (with_reducible refine below_drewN ?_ _) | (with_reducible refine Below.drew ?_) | (with_reducible refine Below.alloc ?_ ?_ _) | (with_reducible refine Below.setCell ?_ ?_ _) | (with_reducible refine below_gw ?_ ?_ _) | (with_reducible refine below_via ?_ ‹Below _ _ _› ?_) | (with_reducible exact Nat.le_refl _) | (with_reducible refine le_gc ?_ _) | (with_reducible refine le_gd ?_ _) | (with_reducible refine le_gw ?_ _) | (with_reducible refine le_alloc ?_ _) | (with_reducible refine le_setCell ?_ _ _) | (with_reducible refine le_drew ?_) | (with_reducible refine le_drewN ?_ _) | go_size)))) (by first | (exact T0.out.below (by ((repeat' (first | (with_reducible exact Below.refl _ _) | (with_reducible assumption) | (with_reducible refine below_gc ?_ ?_ _) | (with_reducible refine below_gd ?_ _) | (with_reducible refine below_drewN ?_ _) | (with_reducible refine Below.drew ?_) | (with_reducible refine Below.alloc ?_ ?_ _) | (with_reducible refine Below.setCell ?_ ?_ _) | (with_reducible refine below_gw ?_ ?_ _) | (with_reducible refine below_via ?_ ‹Below _ _ _› ?_) | (with_reducible exact Nat.le_refl _) | (with_reducible refine le_gc ?_ _) | (with_reducible refine le_gd ?_ _) | (with_reducible refine le_gw ?_ _) | (with_reducible refine le_alloc ?_ _) | (with_reducible refine le_setCell ?_ _ _) | (with_reducible refine le_drew ?_) | (with_reducible refine le_drewN ?_ _) | go_size))); done)) | (have hh := T0.out; simp only [gw_gw, gw_of_drew, gw_drew] at hh ⊢; exact hh))).mono ?_; rintro r w_ ⟨rfl, hb⟩; obtain ⟨p9_, rfl⟩ := gw_of_below hb; clear hb)))
      generalize hW : gw w10 _ = w11
      have hb : Below w10.heap.size w10 w11 := by rw [← hW]; (repeat' (first | (with_reducible exact Below.refl _ _) | (with_reducible assumption) | (with_reducible refine below_gc ?_ ?_ _) | (with_reducible refine below_gd ?_ _) | (with_reducible refine below_drewN ?_ _) | (with_reducible refine Below.drew ?_) | (with_reducible refine Below.alloc ?_ ?_ _) | (with_reducible refine Below.setCell ?_ ?_ _) | (with_reducible refine below_gw ?_ ?_ _) | (with_reducible refine below_via ?_ ‹Below _ _ _› ?_) | (with_reducible exact Nat.le_refl _) | (with_reducible refine le_gc ?_ _) | (with_reducible refine le_gd ?_ _) | (with_reducible refine le_gw ?_ _) | (with_reducible refine le_alloc ?_ _) | (with_reducible refine le_setCell ?_ _ _) | (with_reducible refine le_drew ?_) | (with_reducible refine le_drewN ?_ _) | go_size))
      clear hW SS PQ0 PX T0
      clear l0_ x0_ y0_ z0_
      clear l1_ x1_ y1_ z1_
      clear l2_ x2_ y2_ z2_
      clear l3_ x3_ y3_ z3_
      have HS_w11 := hb.size
      have O0 := Lib.hid (O0.out.later hb (by omega))
      have O1 := Lib.hid (O1.out.later hb (by omega))
      have BX_aC := Lib.hid (BX_aC.out.below hb)
      have BX_aD := Lib.hid (BX_aD.out.below hb)
      have BX_x0 := Lib.hid (BX_x0.out.below hb)
      have BX_x1 := Lib.hid (BX_x1.out.below hb)
      have HB := Lib.hid (HB.out.trans (hb.mono (by first | omega | exact Nat.le_refl _)))
      clear hb
      have c_ := BX_aC.out
      obtain ⟨l0_, x0_, y0_, z0_⟩ := c_
      have c_ := BX_aD.out
      obtain ⟨l1_, x1_, y1_, z1_⟩ := c_
      have c_ := BX_x0.out
      obtain ⟨l2_, x2_, y2_, z2_⟩ := c_
      have c_ := BX_x1.out
      obtain ⟨l3_, x3_, y3_, z3_⟩ := c_
      go_wp2_with fail
      clear l0_ x0_ y0_ z0_
      clear l1_ x1_ y1_ z1_
      clear l2_ x2_ y2_ z2_
      clear l3_ x3_ y3_ z3_
      have SS : Hid (∀ W, Below w11.heap.size w11 W → W.cell? ⟨w8.heap.size, 0, none⟩ = some (.int .i64 k1) ∧ W.cell? ⟨w8.heap.size, 1, none⟩ = some (.slice ra8 L1.length rc8) ∧ W.cell? ⟨w8.heap.size, 2, none⟩ = some (.slice rb8 o1.length rd8) ∧ W.cell? ⟨w.heap.size + 1, 0, none⟩ = some (.int .i64 k1) ∧ W.cell? ⟨w.heap.size + 1, 1, none⟩ = some (.slice a1 L1.length c1) ∧ W.cell? ⟨w.heap.size + 1, 2, none⟩ = some (.slice b1 o1.length d1)) := Lib.hid fun W hW => by
        obtain ⟨-, x0_, y0_, z0_⟩ := BX_x1.out.below hW
        obtain ⟨-, x1_, y1_, z1_⟩ := BX_aD.out.below hW
        exact ⟨x0_, y0_, z0_, x1_, y1_, z1_⟩
      have PQ0 : Hid (∀ W, Below w11.heap.size w11 W → Cs W a1 L1.length c1 L1 b1 o1.length d1 o1) := Lib.hid fun W hW => (Q1.out.below HB.out).below hW
      have PX : Hid (∀ W, Below w11.heap.size w11 W → Cs W ra8 L1.length rc8 L1 rb8 o1.length rd8 o1) := Lib.hid fun W hW => (O1.out.cs rfl).below hW
      have c_ := BX_aC.out
      obtain ⟨l0_, x0_, y0_, z0_⟩ := c_
      have c_ := BX_aD.out
      obtain ⟨l1_, x1_, y1_, z1_⟩ := c_
      have c_ := BX_x0.out
      obtain ⟨l2_, x2_, y2_, z2_⟩ := c_
      have c_ := BX_x1.out
      obtain ⟨l3_, x3_, y3_, z3_⟩ := c_
      go_region_held3 (fun W => W.cell? ⟨w8.heap.size, 0, none⟩ = some (.int .i64 k1) ∧ W.cell? ⟨w8.heap.size, 1, none⟩ = some (.slice ra8 L1.length rc8) ∧ W.cell? ⟨w8.heap.size, 2, none⟩ = some (.slice rb8 o1.length rd8) ∧ W.cell? ⟨w.heap.size + 1, 0, none⟩ = some (.int .i64 k1) ∧ W.cell? ⟨w.heap.size + 1, 1, none⟩ = some (.slice a1 L1.length c1) ∧ W.cell? ⟨w.heap.size + 1, 2, none⟩ = some (.slice b1 o1.length d1)) (exact SS.out _ (by (repeat' (first | (with_reducible exact Below.refl _ _) | (with_reducible assumption) | (with_reducible refine below_gc ?_ ?_ _) | (with_reducible refine below_gd ?_ _) | (with_reducible refine below_drewN ?_ _) | (with_reducible refine Below.drew ?_) | (with_reducible refine Below.alloc ?_ ?_ _) | (with_reducible refine Below.setCell ?_ ?_ _) | (with_reducible refine below_gw ?_ ?_ _) | (with_reducible refine below_via ?_ ‹Below _ _ _› ?_) | (with_reducible exact Nat.le_refl _) | (with_reducible refine le_gc ?_ _) | (with_reducible refine le_gd ?_ _) | (with_reducible refine le_gw ?_ _) | (with_reducible refine le_alloc ?_ _) | (with_reducible refine le_setCell ?_ _ _) | (with_reducible refine le_drew ?_) | (with_reducible refine le_drewN ?_ _) | go_size)))) ((first | (go_at_call 10; refine (toCirc_any k1 a1 L1.length c1 L1 b1 o1.length d1 o1 _ (PQ0.out _ (by (repeat' (first | (with_reducible exact Below.refl _ _) | (with_reducible assumption) | (with_reducible refine below_gc ?_ ?_ _) | (with_reducible refine below_gd ?_ _) | (with_reducible refine below_drewN ?_ _) | (with_reducible refine Below.drew ?_) | (with_reducible refine Below.alloc ?_ ?_ _) | (with_reducible refine Below.setCell ?_ ?_ _) | (with_reducible refine below_gw ?_ ?_ _) | (with_reducible refine below_via ?_ ‹Below _ _ _› ?_) | (with_reducible exact Nat.le_refl _) | (with_reducible refine le_gc ?_ _) | (with_reducible refine le_gd ?_ _) | (with_reducible refine le_gw ?_ _) | (with_reducible refine le_alloc ?_ _) | (with_reducible refine le_setCell ?_ _ _) | (with_reducible refine le_drew ?_) | (with_reducible refine le_drewN ?_ _) | go_size)))) (by omega) (by omega)).mono ?_; rintro r w_ ⟨qa_, qc_, qb_, qd_, rfl, o, hb, -, -⟩; obtain ⟨p_, rfl⟩ := gw_of_below hb; have T0 := Lib.hid (o.cs rfl); clear o hb; (try simp only [gw_of_drew] at T0); (try simp only [gw_gw] at T0)) | (go_at_call 12; refine (eqCirc_same k1 ra8 qa_ L1.length rc8 qc_ L1 rb8 qb_ o1.length rd8 qd_ o1 _ (PX.out _ (by (repeat' (first | (with_reducible exact Below.refl _ _) | (with_reducible assumption) | (with_reducible refine below_gc ?_ ?_ _) | (with_reducible refine below_gd ?_ _) | (with_reducible refine below_drewN ?_ _) | (with_reducible refine Below.drew ?_) | (with_reducible refine Below.alloc ?_ ?_ _) | (with_reducible refine Below.setCell ?_ ?_ _) | (with_reducible refine below_gw ?_ ?_ _) | (with_reducible refine below_via ?_ ‹Below _ _ _› ?_) | (with_reducible exact Nat.le_refl _) | (with_reducible refine le_gc ?_ _) | (with_reducible refine le_gd ?_ _) | (with_reducible refine le_gw ?_ _) | (with_reducible refine le_alloc ?_ _) | (with_reducible refine le_setCell ?_ _ _) | (with_reducible refine le_drew ?_) | (with_reducible refine le_drewN ?_ _) | go_size)))) (by first | (exact T0.out.below (by ((repeat' (first | (with_reducible exact Below.refl _ _) | (with_reducible assumption) | (with_reducible refine below_gc ?_ ?_ _) | (with_reducible refine below_gd ?_ _) | (with_reducible refine below_drewN ?_ _) | (with_reducible refine Below.drew ?_) | (with_reducible refine Below.alloc ?_ ?_ _) | (with_reducible refine Below.setCell ?_ ?_ _) | (with_reducible refine below_gw ?_ ?_ _) | (with_reducible refine below_via ?_ ‹Below _ _ _› ?_) | (with_reducible exact Nat.le_refl _) | (with_reducible refine le_gc ?_ _) | (with_reducible refine le_gd ?_ _) | (with_reducible refine le_gw ?_ _) | (with_reducible refine le_alloc ?_ _) | (with_reducible refine le_setCell ?_ _ _) | (with_reducible refine le_drew ?_) | (with_reducible refine le_drewN ?_ _) | go_size))); done)) | (have hh := T0.out; simp only [gw_gw, gw_of_drew, gw_drew] at hh ⊢; exact hh))).mono ?_; rintro r w_ ⟨rfl, hb⟩; obtain ⟨p9_, rfl⟩ := gw_of_below hb; clear hb)))
      generalize hW : gw w11 _ = w12
      have hb : Below w11.heap.size w11 w12 := by rw [← hW]; (repeat' (first | (with_reducible exact Below.refl _ _) | (with_reducible assumption) | (with_reducible refine below_gc ?_ ?_ _) | (with_reducible refine below_gd ?_ _) | (with_reducible refine below_drewN ?_ _) | (with_reducible refine Below.drew ?_) | (with_reducible refine Below.alloc ?_ ?_ _) | (with_reducible refine Below.setCell ?_ ?_ _) | (with_reducible refine below_gw ?_ ?_ _) | (with_reducible refine below_via ?_ ‹Below _ _ _› ?_) | (with_reducible exact Nat.le_refl _) | (with_reducible refine le_gc ?_ _) | (with_reducible refine le_gd ?_ _) | (with_reducible refine le_gw ?_ _) | (with_reducible refine le_alloc ?_ _) | (with_reducible refine le_setCell ?_ _ _) | (with_reducible refine le_drew ?_) | (with_reducible refine le_drewN ?_ _) | go_size))
      clear hW SS PQ0 PX T0
      clear l0_ x0_ y0_ z0_
      clear l1_ x1_ y1_ z1_
      clear l2_ x2_ y2_ z2_
      clear l3_ x3_ y3_ z3_
      have HS_w12 := hb.size
      have O0 := Lib.hid (O0.out.later hb (by omega))
      have O1 := Lib.hid (O1.out.later hb (by omega))
      have BX_aC := Lib.hid (BX_aC.out.below hb)
      have BX_aD := Lib.hid (BX_aD.out.below hb)
      have BX_x0 := Lib.hid (BX_x0.out.below hb)
      have BX_x1 := Lib.hid (BX_x1.out.below hb)
      have HB := Lib.hid (HB.out.trans (hb.mono (by first | omega | exact Nat.le_refl _)))
      clear hb
      have c_ := BX_aC.out
      obtain ⟨l0_, x0_, y0_, z0_⟩ := c_
      have c_ := BX_aD.out
      obtain ⟨l1_, x1_, y1_, z1_⟩ := c_
      have c_ := BX_x0.out
      obtain ⟨l2_, x2_, y2_, z2_⟩ := c_
      have c_ := BX_x1.out
      obtain ⟨l3_, x3_, y3_, z3_⟩ := c_
      go_wp2
      go_ret
      exact ⟨rfl, HB.out⟩
end Go.Proofs.Ytpmdkifnejkofaa

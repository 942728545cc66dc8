/- Walks of exact laws over structs. -/
import Derived.Test.YtjbmgppgkgacpaaGDual
import Derived.Test.YtjbmgppgkgacpaaGDC
import Derived.Test.YtjbmgppgkgacpaaGRow
import Derived.Test.YtjbmgppgkgacpaaGBox
namespace Go.Proofs.Ytjbmgppgkgacpaa
set_option maxRecDepth 20000
open Go.RowKit

set_option maxRecDepth 20000 in
set_option maxHeartbeats 4000000 in
theorem wFnExactDualCircuit (k0 : Int) (a0 : Option Addr) (n0 c0 : Nat) (L0 : List (Nat → Int)) (b0 : Option Addr) (m0 d0 : Nat) (o0 : List Int) (w : World) (w0 : Cs w a0 n0 c0 L0 b0 m0 d0 o0) (_u0 : (Lit.int .i64 k0).wf = true) : Calls Try.prog 5 #[circV k0 a0 n0 c0 b0 m0 d0] w fun e w' => e = .returned (.bool true) ∧ Below w.heap.size w w' := by
  have mm0 : n0 ≤ 9223372036854775807 := by have h2 := w0.1.2.1; have h3 := w0.1.2.2.1; unfold maxLen at h3; omega
  obtain rfl : L0.length = n0 := w0.1.1
  obtain rfl : o0.length = m0 := w0.2.1
  have Q0 := Lib.hid w0
  clear w0
  by_cases g0 : ((1048576 : Int) - (L0.length : Int) - (o0.length : Int)) < 0
  · skip
    go_enter Try.func5, Try.ntmps5
    have HB := Lib.hid (Below.refl w.heap.size w)
    go_wp2_with fail
    generalize hW : World.alloc w _ = w1
    obtain ⟨bx, hb⟩ := box3_of hW
    have hz_w1 : w1.heap.size = w.heap.size + 1 := by rw [← hW, World.size_alloc]
    have hp_w1 := bx.1
    have BX_aC := Lib.hid bx
    clear hW bx
    have HS_w1 := hb.size
    have HB := Lib.hid (HB.out.trans (hb.mono (by first | omega | exact Nat.le_refl _)))
    clear hb
    refine (szCirc k0 a0 _ c0 b0 _ d0 o0 _ _ mm0 ((Q0.out.2).below HB.out) (by omega) (by omega)).mono ?_
    rw [if_pos (by omega)]
    rintro r w2 ⟨rfl, hb⟩
    have HS_w2 := hb.size
    have BX_aC := Lib.hid (BX_aC.out.below hb)
    have HB := Lib.hid (HB.out.trans (hb.mono (by first | omega | exact Nat.le_refl _)))
    clear hb
    have c_ := BX_aC.out
    obtain ⟨l0_, x0_, y0_, z0_⟩ := c_
    go_wp2
    go_ret
    exact ⟨rfl, HB.out⟩
  · skip
    go_enter Try.func5, Try.ntmps5
    have HB := Lib.hid (Below.refl w.heap.size w)
    go_wp2_with fail
    generalize hW : World.alloc w _ = w1
    obtain ⟨bx, hb⟩ := box3_of hW
    have hz_w1 : w1.heap.size = w.heap.size + 1 := by rw [← hW, World.size_alloc]
    have hp_w1 := bx.1
    have BX_aC := Lib.hid bx
    clear hW bx
    have HS_w1 := hb.size
    have HB := Lib.hid (HB.out.trans (hb.mono (by first | omega | exact Nat.le_refl _)))
    clear hb
    refine (szCirc k0 a0 _ c0 b0 _ d0 o0 _ _ mm0 ((Q0.out.2).below HB.out) (by omega) (by omega)).mono ?_
    rw [if_neg (by omega)]
    rintro r w2 ⟨rfl, hb⟩
    have HS_w2 := hb.size
    have BX_aC := Lib.hid (BX_aC.out.below hb)
    have HB := Lib.hid (HB.out.trans (hb.mono (by first | omega | exact Nat.le_refl _)))
    clear hb
    have c_ := BX_aC.out
    obtain ⟨l0_, x0_, y0_, z0_⟩ := c_
    go_wp2_with fail
    clear l0_ x0_ y0_ z0_
    refine (toCirc_any k0 a0 L0.length c0 L0 b0 o0.length d0 o0 _ (Q0.out.below HB.out) (by omega) (by omega)).mono ?_
    rintro r w3 ⟨ra3, rc3, rb3, rd3, rfl, o, hb, ln3, lm3⟩
    have HS_w3 := hb.size
    have BX_aC := Lib.hid (BX_aC.out.below hb)
    have HB := Lib.hid (HB.out.trans (hb.mono (by first | omega | exact Nat.le_refl _)))
    clear hb
    have O0 := Lib.hid (o)
    clear o
    have c_ := BX_aC.out
    obtain ⟨l0_, x0_, y0_, z0_⟩ := c_
    go_wp2_with fail
    clear l0_ x0_ y0_ z0_
    refine (sDualC k0 ra3 L0.length rc3 L0 rb3 o0.length rd3 o0 _ (O0.out.cs rfl)).mono ?_
    rintro r w4 ⟨ra4, rc4, rb4, rd4, rfl, o, hb, ln4, lm4⟩
    have HS_w4 := hb.size
    have O0 := Lib.hid (O0.out.later hb (by omega))
    have BX_aC := Lib.hid (BX_aC.out.below hb)
    have HB := Lib.hid (HB.out.trans (hb.mono (by first | omega | exact Nat.le_refl _)))
    clear hb
    have O1 := Lib.hid (o)
    clear o
    have c_ := BX_aC.out
    obtain ⟨l0_, x0_, y0_, z0_⟩ := c_
    go_wp2_with fail
    generalize hW : World.alloc w4 _ = w5
    obtain ⟨bx, hb⟩ := box3_of hW
    have hp_w5 := bx.1
    have BX_w0 := Lib.hid bx
    clear hW bx
    clear l0_ x0_ y0_ z0_
    have HS_w5 := hb.size
    have O1 := Lib.hid (O1.out.later hb (by omega))
    have BX_aC := Lib.hid (BX_aC.out.below hb)
    have HB := Lib.hid (HB.out.trans (hb.mono (by first | omega | exact Nat.le_refl _)))
    clear hb
    refine (toCirc_any k0 a0 L0.length c0 L0 b0 o0.length d0 o0 _ (Q0.out.below HB.out) (by omega) (by omega)).mono ?_
    rintro r w6 ⟨ra6, rc6, rb6, rd6, rfl, o, hb, ln6, lm6⟩
    have HS_w6 := hb.size
    have O1 := Lib.hid (O1.out.later hb (by omega))
    have BX_aC := Lib.hid (BX_aC.out.below hb)
    have BX_w0 := Lib.hid (BX_w0.out.below hb)
    have HB := Lib.hid (HB.out.trans (hb.mono (by first | omega | exact Nat.le_refl _)))
    clear hb
    have O2 := Lib.hid (o)
    clear o
    have c_ := BX_aC.out
    obtain ⟨l0_, x0_, y0_, z0_⟩ := c_
    have c_ := BX_w0.out
    obtain ⟨l1_, x1_, y1_, z1_⟩ := c_
    go_wp2_with fail
    generalize hW : World.alloc w6 _ = w7
    obtain ⟨bx, hb⟩ := box3_of hW
    have hp_w7 := bx.1
    have BX_x0 := Lib.hid bx
    clear hW bx
    clear l0_ x0_ y0_ z0_
    clear l1_ x1_ y1_ z1_
    have HS_w7 := hb.size
    have O1 := Lib.hid (O1.out.later hb (by omega))
    have O2 := Lib.hid (O2.out.later hb (by omega))
    have BX_aC := Lib.hid (BX_aC.out.below hb)
    have BX_w0 := Lib.hid (BX_w0.out.below hb)
    have HB := Lib.hid (HB.out.trans (hb.mono (by first | omega | exact Nat.le_refl _)))
    clear hb
    refine (iDualC k0 ra6 L0.length rc6 L0 rb6 o0.length rd6 o0 _ (O2.out.cs rfl)).mono ?_
    rintro r w8 ⟨ra8, rc8, rb8, rd8, rfl, o, hb, ln8, lm8⟩
    have HS_w8 := hb.size
    have O1 := Lib.hid (O1.out.later hb (by omega))
    have O2 := Lib.hid (O2.out.later hb (by omega))
    have BX_aC := Lib.hid (BX_aC.out.below hb)
    have BX_w0 := Lib.hid (BX_w0.out.below hb)
    have BX_x0 := Lib.hid (BX_x0.out.below hb)
    have HB := Lib.hid (HB.out.trans (hb.mono (by first | omega | exact Nat.le_refl _)))
    clear hb
    have O3 := Lib.hid (o)
    clear o
    have c_ := BX_aC.out
    obtain ⟨l0_, x0_, y0_, z0_⟩ := c_
    have c_ := BX_w0.out
    obtain ⟨l1_, x1_, y1_, z1_⟩ := c_
    have c_ := BX_x0.out
    obtain ⟨l2_, x2_, y2_, z2_⟩ := c_
    go_wp2_with fail
    generalize hW : World.alloc w8 _ = w9
    obtain ⟨bx, hb⟩ := box3_of hW
    have hp_w9 := bx.1
    have BX_g0 := Lib.hid bx
    clear hW bx
    clear l0_ x0_ y0_ z0_
    clear l1_ x1_ y1_ z1_
    clear l2_ x2_ y2_ z2_
    have HS_w9 := hb.size
    have O1 := Lib.hid (O1.out.later hb (by omega))
    have O2 := Lib.hid (O2.out.later hb (by omega))
    have O3 := Lib.hid (O3.out.later hb (by omega))
    have BX_aC := Lib.hid (BX_aC.out.below hb)
    have BX_w0 := Lib.hid (BX_w0.out.below hb)
    have BX_x0 := Lib.hid (BX_x0.out.below hb)
    have HB := Lib.hid (HB.out.trans (hb.mono (by first | omega | exact Nat.le_refl _)))
    clear hb
    refine (eqCirc_same _ ra8 ra4 _ rc8 rc4 _ rb8 rb4 _ rd8 rd4 _ _ (O3.out.cs rfl) (O1.out.cs rfl)).mono ?_
    rintro r w10 ⟨rfl, hb⟩
    have HS_w10 := hb.size
    have O1 := Lib.hid (O1.out.later hb (by omega))
    have O2 := Lib.hid (O2.out.later hb (by omega))
    have O3 := Lib.hid (O3.out.later hb (by omega))
    have BX_aC := Lib.hid (BX_aC.out.below hb)
    have BX_w0 := Lib.hid (BX_w0.out.below hb)
    have BX_x0 := Lib.hid (BX_x0.out.below hb)
    have BX_g0 := Lib.hid (BX_g0.out.below hb)
    have HB := Lib.hid (HB.out.trans (hb.mono (by first | omega | exact Nat.le_refl _)))
    clear hb
    have c_ := BX_aC.out
    obtain ⟨l0_, x0_, y0_, z0_⟩ := c_
    have c_ := BX_w0.out
    obtain ⟨l1_, x1_, y1_, z1_⟩ := c_
    have c_ := BX_x0.out
    obtain ⟨l2_, x2_, y2_, z2_⟩ := c_
    have c_ := BX_g0.out
    obtain ⟨l3_, x3_, y3_, z3_⟩ := c_
    go_wp2_with fail
    clear l0_ x0_ y0_ z0_
    clear l1_ x1_ y1_ z1_
    clear l2_ x2_ y2_ z2_
    clear l3_ x3_ y3_ z3_
    have SS : Hid (∀ W, Below w10.heap.size w10 W → W.cell? ⟨w6.heap.size, 0, none⟩ = some (.int .i64 k0) ∧ W.cell? ⟨w6.heap.size, 1, none⟩ = some (.slice ra6 L0.length rc6) ∧ W.cell? ⟨w6.heap.size, 2, none⟩ = some (.slice rb6 o0.length rd6) ∧ W.cell? ⟨w.heap.size, 0, none⟩ = some (.int .i64 k0) ∧ W.cell? ⟨w.heap.size, 1, none⟩ = some (.slice a0 L0.length c0) ∧ W.cell? ⟨w.heap.size, 2, none⟩ = some (.slice b0 o0.length d0)) := Lib.hid fun W hW => by
      obtain ⟨-, x0_, y0_, z0_⟩ := BX_x0.out.below hW
      obtain ⟨-, x1_, y1_, z1_⟩ := BX_aC.out.below hW
      exact ⟨x0_, y0_, z0_, x1_, y1_, z1_⟩
    have PQ0 : Hid (∀ W, Below w10.heap.size w10 W → Cs W a0 L0.length c0 L0 b0 o0.length d0 o0) := Lib.hid fun W hW => (Q0.out.below HB.out).below hW
    have PX : Hid (∀ W, Below w10.heap.size w10 W → Cs W ra6 L0.length rc6 L0 rb6 o0.length rd6 o0) := Lib.hid fun W hW => (O2.out.cs rfl).below hW
    have c_ := BX_aC.out
    obtain ⟨l0_, x0_, y0_, z0_⟩ := c_
    have c_ := BX_w0.out
    obtain ⟨l1_, x1_, y1_, z1_⟩ := c_
    have c_ := BX_x0.out
    obtain ⟨l2_, x2_, y2_, z2_⟩ := c_
    have c_ := BX_g0.out
    obtain ⟨l3_, x3_, y3_, z3_⟩ := c_
    go_region_held3 (fun W => W.cell? ⟨w6.heap.size, 0, none⟩ = some (.int .i64 k0) ∧ W.cell? ⟨w6.heap.size, 1, none⟩ = some (.slice ra6 L0.length rc6) ∧ W.cell? ⟨w6.heap.size, 2, none⟩ = some (.slice rb6 o0.length rd6) ∧ W.cell? ⟨w.heap.size, 0, none⟩ = some (.int .i64 k0) ∧ W.cell? ⟨w.heap.size, 1, none⟩ = some (.slice a0 L0.length c0) ∧ W.cell? ⟨w.heap.size, 2, none⟩ = some (.slice b0 o0.length d0)) (exact SS.out _ (by (repeat' (first | (with_reducible exact Below.refl _ _) | (with_reducible assumption) | (with_reducible refine below_gc ?_ ?_ _) | (with_reducible refine below_gd ?_ _) | (with_reducible refine below_drewN ?_ _) | (with_reducible refine Below.drew ?_) | (with_reducible refine Below.alloc ?_ ?_ _) | (with_reducible refine Below.setCell ?_ ?_ _) | (with_reducible refine below_gw ?_ ?_ _) | (with_reducible refine below_via ?_ ‹Below _ _ _› ?_) | (with_reducible exact Nat.le_refl _) | (with_reducible refine le_gc ?_ _) | (with_reducible refine le_gd ?_ _) | (with_reducible refine le_gw ?_ _) | (with_reducible refine le_alloc ?_ _) | (with_reducible refine le_setCell ?_ _ _) | (with_reducible refine le_drew ?_) | (with_reducible refine le_drewN ?_ _) | go_size)))) ((first | (go_at_call 17; refine (toCirc_any k0 a0 L0.length c0 L0 b0 o0.length d0 o0 _ (PQ0.out _ (by (repeat' (first | (with_reducible exact Below.refl _ _) | (with_reducible assumption) | (with_reducible refine below_gc ?_ ?_ _) | (with_reducible refine below_gd ?_ _) | (with_reducible refine below_drewN ?_ _) | (with_reducible refine Below.drew ?_) | (with_reducible refine Below.alloc ?_ ?_ _) | (with_reducible refine Below.setCell ?_ ?_ _) | (with_reducible refine below_gw ?_ ?_ _) | (with_reducible refine below_via ?_ ‹Below _ _ _› ?_) | (with_reducible exact Nat.le_refl _) | (with_reducible refine le_gc ?_ _) | (with_reducible refine le_gd ?_ _) | (with_reducible refine le_gw ?_ _) | (with_reducible refine le_alloc ?_ _) | (with_reducible refine le_setCell ?_ _ _) | (with_reducible refine le_drew ?_) | (with_reducible refine le_drewN ?_ _) | go_size)))) (by omega) (by omega)).mono ?_; rintro r w_ ⟨qa_, qc_, qb_, qd_, rfl, o, hb, -, -⟩; obtain ⟨p_, rfl⟩ := gw_of_below hb; have T0 := Lib.hid (o.cs rfl); clear o hb; (try simp only [gw_of_drew] at T0); (try simp only [gw_gw] at T0)) | (go_at_call 9; refine (eqCirc_same k0 ra6 qa_ L0.length rc6 qc_ L0 rb6 qb_ o0.length rd6 qd_ o0 _ (PX.out _ (by (repeat' (first | (with_reducible exact Below.refl _ _) | (with_reducible assumption) | (with_reducible refine below_gc ?_ ?_ _) | (with_reducible refine below_gd ?_ _) | (with_reducible refine below_drewN ?_ _) | (with_reducible refine Below.drew ?_) | (with_reducible refine Below.alloc ?_ ?_ _) | (with_reducible refine Below.setCell ?_ ?_ _) | (with_reducible refine below_gw ?_ ?_ _) | (with_reducible refine below_via ?_ ‹Below _ _ _› ?_) | (with_reducible exact Nat.le_refl _) | (with_reducible refine le_gc ?_ _) | (with_reducible refine le_gd ?_ _) | (with_reducible refine le_gw ?_ _) | (with_reducible refine le_alloc ?_ _) | (with_reducible refine le_setCell ?_ _ _) | (with_reducible refine le_drew ?_) | (with_reducible refine le_drewN ?_ _) | go_size)))) (by first | (exact T0.out.below (by ((repeat' (first | (with_reducible exact Below.refl _ _) | (with_reducible assumption) | (with_reducible refine below_gc ?_ ?_ _) | (with_reducible refine below_gd ?_ _) | (with_reducible refine below_drewN ?_ _) | (with_reducible refine Below.drew ?_) | (with_reducible refine Below.alloc ?_ ?_ _) | (with_reducible refine Below.setCell ?_ ?_ _) | (with_reducible refine below_gw ?_ ?_ _) | (with_reducible refine below_via ?_ ‹Below _ _ _› ?_) | (with_reducible exact Nat.le_refl _) | (with_reducible refine le_gc ?_ _) | (with_reducible refine le_gd ?_ _) | (with_reducible refine le_gw ?_ _) | (with_reducible refine le_alloc ?_ _) | (with_reducible refine le_setCell ?_ _ _) | (with_reducible refine le_drew ?_) | (with_reducible refine le_drewN ?_ _) | go_size))); done)) | (have hh := T0.out; simp only [gw_gw, gw_of_drew, gw_drew] at hh ⊢; exact hh))).mono ?_; rintro r w_ ⟨rfl, hb⟩; obtain ⟨p9_, rfl⟩ := gw_of_below hb; clear hb)))
    generalize hW : gw w10 _ = w11
    have hb : Below w10.heap.size w10 w11 := by rw [← hW]; (repeat' (first | (with_reducible exact Below.refl _ _) | (with_reducible assumption) | (with_reducible refine below_gc ?_ ?_ _) | (with_reducible refine below_gd ?_ _) | (with_reducible refine below_drewN ?_ _) | (with_reducible refine Below.drew ?_) | (with_reducible refine Below.alloc ?_ ?_ _) | (with_reducible refine Below.setCell ?_ ?_ _) | (with_reducible refine below_gw ?_ ?_ _) | (with_reducible refine below_via ?_ ‹Below _ _ _› ?_) | (with_reducible exact Nat.le_refl _) | (with_reducible refine le_gc ?_ _) | (with_reducible refine le_gd ?_ _) | (with_reducible refine le_gw ?_ _) | (with_reducible refine le_alloc ?_ _) | (with_reducible refine le_setCell ?_ _ _) | (with_reducible refine le_drew ?_) | (with_reducible refine le_drewN ?_ _) | go_size))
    clear hW SS PQ0 PX T0
    clear l0_ x0_ y0_ z0_
    clear l1_ x1_ y1_ z1_
    clear l2_ x2_ y2_ z2_
    clear l3_ x3_ y3_ z3_
    have HS_w11 := hb.size
    have O1 := Lib.hid (O1.out.later hb (by omega))
    have O2 := Lib.hid (O2.out.later hb (by omega))
    have O3 := Lib.hid (O3.out.later hb (by omega))
    have BX_aC := Lib.hid (BX_aC.out.below hb)
    have BX_w0 := Lib.hid (BX_w0.out.below hb)
    have BX_x0 := Lib.hid (BX_x0.out.below hb)
    have BX_g0 := Lib.hid (BX_g0.out.below hb)
    have HB := Lib.hid (HB.out.trans (hb.mono (by first | omega | exact Nat.le_refl _)))
    clear hb
    have c_ := BX_aC.out
    obtain ⟨l0_, x0_, y0_, z0_⟩ := c_
    have c_ := BX_w0.out
    obtain ⟨l1_, x1_, y1_, z1_⟩ := c_
    have c_ := BX_x0.out
    obtain ⟨l2_, x2_, y2_, z2_⟩ := c_
    have c_ := BX_g0.out
    obtain ⟨l3_, x3_, y3_, z3_⟩ := c_
    go_wp2_with fail
    clear l0_ x0_ y0_ z0_
    clear l1_ x1_ y1_ z1_
    clear l2_ x2_ y2_ z2_
    clear l3_ x3_ y3_ z3_
    refine (markCirc_any w5.heap.size w6.heap.size k0 ra6 L0.length rc6 _ rb6 o0.length rd6 _ _ _ O2.out (Tm.flat_length _) (by omega) (by omega) (by omega) (by omega) (by omega)).mono ?_
    rintro r w12 ⟨rfl, o2, ho⟩
    have HS_w12 := ho.size
    have HB := Lib.hid (TurnF.below HB.out ho (by omega) (by omega))
    have O1 := Lib.hid (O1.out.stay (SameIn.of_turnF ho (by omega) (by omega)))
    have O3 := Lib.hid (O3.out.stay (SameIn.of_turnF ho (by omega) (by omega)))
    have BX_aC := Lib.hid (BX_aC.out.turn ho (by omega))
    have BX_w0 := Lib.hid (BX_w0.out.turn ho (by omega))
    have BX_x0 := Lib.hid (BX_x0.out.turn ho (by omega))
    have BX_g0 := Lib.hid (BX_g0.out.turn ho (by omega))
    have O2 := Lib.hid o2
    clear o2 ho
    have c_ := BX_aC.out
    obtain ⟨l0_, x0_, y0_, z0_⟩ := c_
    have c_ := BX_w0.out
    obtain ⟨l1_, x1_, y1_, z1_⟩ := c_
    have c_ := BX_x0.out
    obtain ⟨l2_, x2_, y2_, z2_⟩ := c_
    have c_ := BX_g0.out
    obtain ⟨l3_, x3_, y3_, z3_⟩ := c_
    go_wp2_with fail
    clear l0_ x0_ y0_ z0_
    clear l1_ x1_ y1_ z1_
    clear l2_ x2_ y2_ z2_
    clear l3_ x3_ y3_ z3_
    refine (eqCirc_same _ ra8 ra4 _ rc8 rc4 _ rb8 rb4 _ rd8 rd4 _ _ (O3.out.cs rfl) (O1.out.cs rfl)).mono ?_
    rintro r w13 ⟨rfl, hb⟩
    have HS_w13 := hb.size
    have O1 := Lib.hid (O1.out.later hb (by omega))
    have O2 := Lib.hid (O2.out.later hb (by omega))
    have O3 := Lib.hid (O3.out.later hb (by omega))
    have BX_aC := Lib.hid (BX_aC.out.below hb)
    have BX_w0 := Lib.hid (BX_w0.out.below hb)
    have BX_x0 := Lib.hid (BX_x0.out.below hb)
    have BX_g0 := Lib.hid (BX_g0.out.below hb)
    have HB := Lib.hid (HB.out.trans (hb.mono (by first | omega | exact Nat.le_refl _)))
    clear hb
    have c_ := BX_aC.out
    obtain ⟨l0_, x0_, y0_, z0_⟩ := c_
    have c_ := BX_w0.out
    obtain ⟨l1_, x1_, y1_, z1_⟩ := c_
    have c_ := BX_x0.out
    obtain ⟨l2_, x2_, y2_, z2_⟩ := c_
    have c_ := BX_g0.out
    obtain ⟨l3_, x3_, y3_, z3_⟩ := c_
    go_wp2_with fail
    clear l0_ x0_ y0_ z0_
    clear l1_ x1_ y1_ z1_
    clear l2_ x2_ y2_ z2_
    clear l3_ x3_ y3_ z3_
    refine (markCirc_any w7.heap.size w8.heap.size _ ra8 _ rc8 _ rb8 _ rd8 _ _ _ O3.out (Tm.flat_length _) (by omega) (by omega) (by omega) (by omega) (by omega)).mono ?_
    rintro r w14 ⟨rfl, o2, ho⟩
    have HS_w14 := ho.size
    have HB := Lib.hid (TurnF.below HB.out ho (by omega) (by omega))
    have O1 := Lib.hid (O1.out.stay (SameIn.of_turnF ho (by omega) (by omega)))
    have O2 := Lib.hid (O2.out.stay (SameIn.of_turnF ho (by omega) (by omega)))
    have BX_aC := Lib.hid (BX_aC.out.turn ho (by omega))
    have BX_w0 := Lib.hid (BX_w0.out.turn ho (by omega))
    have BX_x0 := Lib.hid (BX_x0.out.turn ho (by omega))
    have BX_g0 := Lib.hid (BX_g0.out.turn ho (by omega))
    have O3 := Lib.hid o2
    clear o2 ho
    have c_ := BX_aC.out
    obtain ⟨l0_, x0_, y0_, z0_⟩ := c_
    have c_ := BX_w0.out
    obtain ⟨l1_, x1_, y1_, z1_⟩ := c_
    have c_ := BX_x0.out
    obtain ⟨l2_, x2_, y2_, z2_⟩ := c_
    have c_ := BX_g0.out
    obtain ⟨l3_, x3_, y3_, z3_⟩ := c_
    go_wp2_with fail
    clear l0_ x0_ y0_ z0_
    clear l1_ x1_ y1_ z1_
    clear l2_ x2_ y2_ z2_
    clear l3_ x3_ y3_ z3_
    refine (heldCirc_marks w7.heap.size w8.heap.size _ ra8 _ rc8 rb8 _ rd8 _ _ O3.out (by omega) (by omega) (by omega) (by omega)).mono ?_
    rintro r w15 ⟨rfl, hb⟩
    have HS_w15 := hb.size
    have O1 := Lib.hid (O1.out.later hb (by omega))
    have O2 := Lib.hid (O2.out.later hb (by omega))
    have O3 := Lib.hid (O3.out.later hb (by omega))
    have BX_aC := Lib.hid (BX_aC.out.below hb)
    have BX_w0 := Lib.hid (BX_w0.out.below hb)
    have BX_x0 := Lib.hid (BX_x0.out.below hb)
    have BX_g0 := Lib.hid (BX_g0.out.below hb)
    have HB := Lib.hid (HB.out.trans (hb.mono (by first | omega | exact Nat.le_refl _)))
    clear hb
    have c_ := BX_aC.out
    obtain ⟨l0_, x0_, y0_, z0_⟩ := c_
    have c_ := BX_w0.out
    obtain ⟨l1_, x1_, y1_, z1_⟩ := c_
    have c_ := BX_x0.out
    obtain ⟨l2_, x2_, y2_, z2_⟩ := c_
    have c_ := BX_g0.out
    obtain ⟨l3_, x3_, y3_, z3_⟩ := c_
    go_wp2_with fail
    clear l0_ x0_ y0_ z0_
    clear l1_ x1_ y1_ z1_
    clear l2_ x2_ y2_ z2_
    clear l3_ x3_ y3_ z3_
    refine (toCirc_any k0 a0 L0.length c0 L0 b0 o0.length d0 o0 _ (Q0.out.below HB.out) (by omega) (by omega)).mono ?_
    rintro r w16 ⟨ra16, rc16, rb16, rd16, rfl, o, hb, ln16, lm16⟩
    have HS_w16 := hb.size
    have O1 := Lib.hid (O1.out.later hb (by omega))
    have O2 := Lib.hid (O2.out.later hb (by omega))
    have O3 := Lib.hid (O3.out.later hb (by omega))
    have BX_aC := Lib.hid (BX_aC.out.below hb)
    have BX_w0 := Lib.hid (BX_w0.out.below hb)
    have BX_x0 := Lib.hid (BX_x0.out.below hb)
    have BX_g0 := Lib.hid (BX_g0.out.below hb)
    have HB := Lib.hid (HB.out.trans (hb.mono (by first | omega | exact Nat.le_refl _)))
    clear hb
    have O4 := Lib.hid (o)
    clear o
    have c_ := BX_aC.out
    obtain ⟨l0_, x0_, y0_, z0_⟩ := c_
    have c_ := BX_w0.out
    obtain ⟨l1_, x1_, y1_, z1_⟩ := c_
    have c_ := BX_x0.out
    obtain ⟨l2_, x2_, y2_, z2_⟩ := c_
    have c_ := BX_g0.out
    obtain ⟨l3_, x3_, y3_, z3_⟩ := c_
    go_wp2_with fail
    clear l0_ x0_ y0_ z0_
    clear l1_ x1_ y1_ z1_
    clear l2_ x2_ y2_ z2_
    clear l3_ x3_ y3_ z3_
    refine (iDualC k0 ra16 L0.length rc16 L0 rb16 o0.length rd16 o0 _ (O4.out.cs rfl)).mono ?_
    rintro r w17 ⟨ra17, rc17, rb17, rd17, rfl, o, hb, ln17, lm17⟩
    have HS_w17 := hb.size
    have O1 := Lib.hid (O1.out.later hb (by omega))
    have O2 := Lib.hid (O2.out.later hb (by omega))
    have O3 := Lib.hid (O3.out.later hb (by omega))
    have O4 := Lib.hid (O4.out.later hb (by omega))
    have BX_aC := Lib.hid (BX_aC.out.below hb)
    have BX_w0 := Lib.hid (BX_w0.out.below hb)
    have BX_x0 := Lib.hid (BX_x0.out.below hb)
    have BX_g0 := Lib.hid (BX_g0.out.below hb)
    have HB := Lib.hid (HB.out.trans (hb.mono (by first | omega | exact Nat.le_refl _)))
    clear hb
    have O5 := Lib.hid (o)
    clear o
    have c_ := BX_aC.out
    obtain ⟨l0_, x0_, y0_, z0_⟩ := c_
    have c_ := BX_w0.out
    obtain ⟨l1_, x1_, y1_, z1_⟩ := c_
    have c_ := BX_x0.out
    obtain ⟨l2_, x2_, y2_, z2_⟩ := c_
    have c_ := BX_g0.out
    obtain ⟨l3_, x3_, y3_, z3_⟩ := c_
    go_wp2_with fail
    generalize hW : World.alloc w17 _ = w18
    obtain ⟨bx, hb⟩ := box3_of hW
    have hp_w18 := bx.1
    have BX_h0 := Lib.hid bx
    clear hW bx
    clear l0_ x0_ y0_ z0_
    clear l1_ x1_ y1_ z1_
    clear l2_ x2_ y2_ z2_
    clear l3_ x3_ y3_ z3_
    have HS_w18 := hb.size
    have O1 := Lib.hid (O1.out.later hb (by omega))
    have O2 := Lib.hid (O2.out.later hb (by omega))
    have O3 := Lib.hid (O3.out.later hb (by omega))
    have O5 := Lib.hid (O5.out.later hb (by omega))
    have BX_aC := Lib.hid (BX_aC.out.below hb)
    have BX_w0 := Lib.hid (BX_w0.out.below hb)
    have BX_x0 := Lib.hid (BX_x0.out.below hb)
    have BX_g0 := Lib.hid (BX_g0.out.below hb)
    have HB := Lib.hid (HB.out.trans (hb.mono (by first | omega | exact Nat.le_refl _)))
    clear hb
    refine (eqCirc_same _ ra17 ra4 _ rc17 rc4 _ rb17 rb4 _ rd17 rd4 _ _ (O5.out.cs rfl) (O1.out.cs rfl)).mono ?_
    rintro r w19 ⟨rfl, hb⟩
    have HS_w19 := hb.size
    have O1 := Lib.hid (O1.out.later hb (by omega))
    have O2 := Lib.hid (O2.out.later hb (by omega))
    have O3 := Lib.hid (O3.out.later hb (by omega))
    have O5 := Lib.hid (O5.out.later hb (by omega))
    have BX_aC := Lib.hid (BX_aC.out.below hb)
    have BX_w0 := Lib.hid (BX_w0.out.below hb)
    have BX_x0 := Lib.hid (BX_x0.out.below hb)
    have BX_g0 := Lib.hid (BX_g0.out.below hb)
    have BX_h0 := Lib.hid (BX_h0.out.below hb)
    have HB := Lib.hid (HB.out.trans (hb.mono (by first | omega | exact Nat.le_refl _)))
    clear hb
    have c_ := BX_aC.out
    obtain ⟨l0_, x0_, y0_, z0_⟩ := c_
    have c_ := BX_w0.out
    obtain ⟨l1_, x1_, y1_, z1_⟩ := c_
    have c_ := BX_x0.out
    obtain ⟨l2_, x2_, y2_, z2_⟩ := c_
    have c_ := BX_g0.out
    obtain ⟨l3_, x3_, y3_, z3_⟩ := c_
    have c_ := BX_h0.out
    obtain ⟨l4_, x4_, y4_, z4_⟩ := c_
    go_wp2_with fail
    clear l0_ x0_ y0_ z0_
    clear l1_ x1_ y1_ z1_
    clear l2_ x2_ y2_ z2_
    clear l3_ x3_ y3_ z3_
    clear l4_ x4_ y4_ z4_
    refine (heldCirc_marks w7.heap.size w8.heap.size _ ra8 _ rc8 rb8 _ rd8 _ _ O3.out (by omega) (by omega) (by omega) (by omega)).mono ?_
    rintro r w20 ⟨rfl, hb⟩
    have HS_w20 := hb.size
    have O1 := Lib.hid (O1.out.later hb (by omega))
    have O2 := Lib.hid (O2.out.later hb (by omega))
    have O3 := Lib.hid (O3.out.later hb (by omega))
    have O5 := Lib.hid (O5.out.later hb (by omega))
    have BX_aC := Lib.hid (BX_aC.out.below hb)
    have BX_w0 := Lib.hid (BX_w0.out.below hb)
    have BX_x0 := Lib.hid (BX_x0.out.below hb)
    have BX_g0 := Lib.hid (BX_g0.out.below hb)
    have BX_h0 := Lib.hid (BX_h0.out.below hb)
    have HB := Lib.hid (HB.out.trans (hb.mono (by first | omega | exact Nat.le_refl _)))
    clear hb
    have c_ := BX_aC.out
    obtain ⟨l0_, x0_, y0_, z0_⟩ := c_
    have c_ := BX_w0.out
    obtain ⟨l1_, x1_, y1_, z1_⟩ := c_
    have c_ := BX_x0.out
    obtain ⟨l2_, x2_, y2_, z2_⟩ := c_
    have c_ := BX_g0.out
    obtain ⟨l3_, x3_, y3_, z3_⟩ := c_
    have c_ := BX_h0.out
    obtain ⟨l4_, x4_, y4_, z4_⟩ := c_
    go_wp2
    go_ret
    exact ⟨rfl, HB.out⟩
end Go.Proofs.Ytjbmgppgkgacpaa

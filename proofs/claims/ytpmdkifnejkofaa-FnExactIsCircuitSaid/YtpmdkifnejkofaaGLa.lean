/- Walks of exact laws over structs. -/
import Derived.Test.YtpmdkifnejkofaaGS
import Derived.Test.YtpmdkifnejkofaaGI1
import Derived.Test.YtpmdkifnejkofaaGBox
namespace Go.Proofs.Ytpmdkifnejkofaa
set_option maxRecDepth 20000
open Go.RowKit

set_option maxRecDepth 20000 in
set_option maxHeartbeats 4000000 in
theorem wFnExactIsCircuit (k0 : Int) (a0 : Option Addr) (n0 c0 : Nat) (L0 : List (Nat → Int)) (b0 : Option Addr) (m0 d0 : Nat) (o0 : List Int) (w : World) (w0 : Cs w a0 n0 c0 L0 b0 m0 d0 o0) (_u0 : (Lit.int .i64 k0).wf = true) : Calls Try.prog 3 #[circV k0 a0 n0 c0 b0 m0 d0] w fun e w' => e = .returned (.bool true) ∧ Below w.heap.size w w' := by
  have mm0 : n0 ≤ 9223372036854775807 := by have h2 := w0.1.2.1; have h3 := w0.1.2.2.1; unfold maxLen at h3; omega
  obtain rfl : L0.length = n0 := w0.1.1
  obtain rfl : o0.length = m0 := w0.2.1
  have Q0 := Lib.hid w0
  clear w0
  by_cases g0 : ((1048576 : Int) - (L0.length : Int) - (o0.length : Int)) < 0
  · skip
    go_enter Try.func3, Try.ntmps3
    have HB := Lib.hid (Below.refl w.heap.size w)
    go_wp2_with fail
    generalize hW : World.alloc w _ = w1
    obtain ⟨bx, hb⟩ := box3_of hW
    have hz_w1 : w1.heap.size = w.heap.size + 1 := by rw [← hW, World.size_alloc]
    have hp_w1 := bx.1
    have BX_aC := Lib.hid bx
    clear hW bx
    have HS_w1 := hb.size
    have HB := Lib.hid (HB.out.trans (hb.mono (by first | omega | exact Nat.le_refl _)))
    clear hb
    refine (szCirc k0 a0 _ c0 b0 _ d0 o0 _ _ mm0 ((Q0.out.2).below HB.out) (by omega) (by omega)).mono ?_
    rw [if_pos (by omega)]
    rintro r w2 ⟨rfl, hb⟩
    have HS_w2 := hb.size
    have BX_aC := Lib.hid (BX_aC.out.below hb)
    have HB := Lib.hid (HB.out.trans (hb.mono (by first | omega | exact Nat.le_refl _)))
    clear hb
    have c_ := BX_aC.out
    obtain ⟨l0_, x0_, y0_, z0_⟩ := c_
    go_wp2
    go_ret
    exact ⟨rfl, HB.out⟩
  · skip
    go_enter Try.func3, Try.ntmps3
    have HB := Lib.hid (Below.refl w.heap.size w)
    go_wp2_with fail
    generalize hW : World.alloc w _ = w1
    obtain ⟨bx, hb⟩ := box3_of hW
    have hz_w1 : w1.heap.size = w.heap.size + 1 := by rw [← hW, World.size_alloc]
    have hp_w1 := bx.1
    have BX_aC := Lib.hid bx
    clear hW bx
    have HS_w1 := hb.size
    have HB := Lib.hid (HB.out.trans (hb.mono (by first | omega | exact Nat.le_refl _)))
    clear hb
    refine (szCirc k0 a0 _ c0 b0 _ d0 o0 _ _ mm0 ((Q0.out.2).below HB.out) (by omega) (by omega)).mono ?_
    rw [if_neg (by omega)]
    rintro r w2 ⟨rfl, hb⟩
    have HS_w2 := hb.size
    have BX_aC := Lib.hid (BX_aC.out.below hb)
    have HB := Lib.hid (HB.out.trans (hb.mono (by first | omega | exact Nat.le_refl _)))
    clear hb
    have c_ := BX_aC.out
    obtain ⟨l0_, x0_, y0_, z0_⟩ := c_
    go_wp2_with fail
    clear l0_ x0_ y0_ z0_
    refine (toCirc_any k0 a0 L0.length c0 L0 b0 o0.length d0 o0 _ (Q0.out.below HB.out) (by omega) (by omega)).mono ?_
    rintro r w3 ⟨ra3, rc3, rb3, rd3, rfl, o, hb, ln3, lm3⟩
    have HS_w3 := hb.size
    have BX_aC := Lib.hid (BX_aC.out.below hb)
    have HB := Lib.hid (HB.out.trans (hb.mono (by first | omega | exact Nat.le_refl _)))
    clear hb
    have O0 := Lib.hid (o)
    clear o
    have c_ := BX_aC.out
    obtain ⟨l0_, x0_, y0_, z0_⟩ := c_
    go_wp2_with fail
    clear l0_ x0_ y0_ z0_
    refine (sIsCircuit k0 ra3 L0.length rc3 L0 rb3 o0.length rd3 o0 _ (O0.out.cs rfl)).mono ?_
    rintro r w4 ⟨rfl, hb⟩
    have HS_w4 := hb.size
    have O0 := Lib.hid (O0.out.later hb (by omega))
    have BX_aC := Lib.hid (BX_aC.out.below hb)
    have HB := Lib.hid (HB.out.trans (hb.mono (by first | omega | exact Nat.le_refl _)))
    clear hb
    have c_ := BX_aC.out
    obtain ⟨l0_, x0_, y0_, z0_⟩ := c_
    go_wp2_with fail
    clear l0_ x0_ y0_ z0_
    refine (toCirc_any k0 a0 L0.length c0 L0 b0 o0.length d0 o0 _ (Q0.out.below HB.out) (by omega) (by omega)).mono ?_
    rintro r w5 ⟨ra5, rc5, rb5, rd5, rfl, o, hb, ln5, lm5⟩
    have HS_w5 := hb.size
    have BX_aC := Lib.hid (BX_aC.out.below hb)
    have HB := Lib.hid (HB.out.trans (hb.mono (by first | omega | exact Nat.le_refl _)))
    clear hb
    have O1 := Lib.hid (o)
    clear o
    have c_ := BX_aC.out
    obtain ⟨l0_, x0_, y0_, z0_⟩ := c_
    go_wp2_with fail
    generalize hW : World.alloc w5 _ = w6
    obtain ⟨bx, hb⟩ := box3_of hW
    have hp_w6 := bx.1
    have BX_x0 := Lib.hid bx
    clear hW bx
    clear l0_ x0_ y0_ z0_
    have HS_w6 := hb.size
    have O1 := Lib.hid (O1.out.later hb (by omega))
    have BX_aC := Lib.hid (BX_aC.out.below hb)
    have HB := Lib.hid (HB.out.trans (hb.mono (by first | omega | exact Nat.le_refl _)))
    clear hb
    refine (iIsCircuit k0 ra5 L0.length rc5 L0 rb5 o0.length rd5 o0 _ (O1.out.cs rfl)).mono ?_
    rintro r w7 ⟨rfl, hb⟩
    have HS_w7 := hb.size
    have O1 := Lib.hid (O1.out.later hb (by omega))
    have BX_aC := Lib.hid (BX_aC.out.below hb)
    have BX_x0 := Lib.hid (BX_x0.out.below hb)
    have HB := Lib.hid (HB.out.trans (hb.mono (by first | omega | exact Nat.le_refl _)))
    clear hb
    have c_ := BX_aC.out
    obtain ⟨l0_, x0_, y0_, z0_⟩ := c_
    have c_ := BX_x0.out
    obtain ⟨l1_, x1_, y1_, z1_⟩ := c_
    go_wp2_with fail
    clear l0_ x0_ y0_ z0_
    clear l1_ x1_ y1_ z1_
    have SS : Hid (∀ W, Below w7.heap.size w7 W → W.cell? ⟨w5.heap.size, 0, none⟩ = some (.int .i64 k0) ∧ W.cell? ⟨w5.heap.size, 1, none⟩ = some (.slice ra5 L0.length rc5) ∧ W.cell? ⟨w5.heap.size, 2, none⟩ = some (.slice rb5 o0.length rd5) ∧ W.cell? ⟨w.heap.size, 0, none⟩ = some (.int .i64 k0) ∧ W.cell? ⟨w.heap.size, 1, none⟩ = some (.slice a0 L0.length c0) ∧ W.cell? ⟨w.heap.size, 2, none⟩ = some (.slice b0 o0.length d0)) := Lib.hid fun W hW => by
      obtain ⟨-, x0_, y0_, z0_⟩ := BX_x0.out.below hW
      obtain ⟨-, x1_, y1_, z1_⟩ := BX_aC.out.below hW
      exact ⟨x0_, y0_, z0_, x1_, y1_, z1_⟩
    have PQ0 : Hid (∀ W, Below w7.heap.size w7 W → Cs W a0 L0.length c0 L0 b0 o0.length d0 o0) := Lib.hid fun W hW => (Q0.out.below HB.out).below hW
    have PX : Hid (∀ W, Below w7.heap.size w7 W → Cs W ra5 L0.length rc5 L0 rb5 o0.length rd5 o0) := Lib.hid fun W hW => (O1.out.cs rfl).below hW
    have c_ := BX_aC.out
    obtain ⟨l0_, x0_, y0_, z0_⟩ := c_
    have c_ := BX_x0.out
    obtain ⟨l1_, x1_, y1_, z1_⟩ := c_
    go_region_held3 (fun W => W.cell? ⟨w5.heap.size, 0, none⟩ = some (.int .i64 k0) ∧ W.cell? ⟨w5.heap.size, 1, none⟩ = some (.slice ra5 L0.length rc5) ∧ W.cell? ⟨w5.heap.size, 2, none⟩ = some (.slice rb5 o0.length rd5) ∧ W.cell? ⟨w.heap.size, 0, none⟩ = some (.int .i64 k0) ∧ W.cell? ⟨w.heap.size, 1, none⟩ = some (.slice a0 L0.length c0) ∧ W.cell? ⟨w.heap.size, 2, none⟩ = some (.slice b0 o0.length d0)) (exact SS.out _ (by (repeat' (first | (with_reducible exact Below.refl _ _) | (with_reducible assumption) | (with_reducible refine below_gc ?_ ?_ _) | (with_reducible refine below_gd ?_ _) | (with_reducible refine below_drewN ?_ _) | (with_reducible refine Below.drew ?_) | (with_reducible refine Below.alloc ?_ ?_ _) | (with_reducible refine Below.setCell ?_ ?_ _) | (with_reducible refine below_gw ?_ ?_ _) | (with_reducible refine below_via ?_ ‹Below _ _ _› ?_) | (with_reducible exact Nat.le_refl _) | (with_reducible refine le_gc ?_ _) | (with_reducible refine le_gd ?_ _) | (with_reducible refine le_gw ?_ _) | (with_reducible refine le_alloc ?_ _) | (with_reducible refine le_setCell ?_ _ _) | (with_reducible refine le_drew ?_) | (with_reducible refine le_drewN ?_ _) | go_size)))) ((first | (go_at_call 10; refine (toCirc_any k0 a0 L0.length c0 L0 b0 o0.length d0 o0 _ (PQ0.out _ (by (repeat' (first | (with_reducible exact Below.refl _ _) | (with_reducible assumption) | (with_reducible refine below_gc ?_ ?_ _) | (with_reducible refine below_gd ?_ _) | (with_reducible refine below_drewN ?_ _) | (with_reducible refine Below.drew ?_) | (with_reducible refine Below.alloc ?_ ?_ _) | (with_reducible refine Below.setCell ?_ ?_ _) | (with_reducible refine below_gw ?_ ?_ _) | (with_reducible refine below_via ?_ ‹Below _ _ _› ?_) | (with_reducible exact Nat.le_refl _) | (with_reducible refine le_gc ?_ _) | (with_reducible refine le_gd ?_ _) | (with_reducible refine le_gw ?_ _) | (with_reducible refine le_alloc ?_ _) | (with_reducible refine le_setCell ?_ _ _) | (with_reducible refine le_drew ?_) | (with_reducible refine le_drewN ?_ _) | go_size)))) (by omega) (by omega)).mono ?_; rintro r w_ ⟨qa_, qc_, qb_, qd_, rfl, o, hb, -, -⟩; obtain ⟨p_, rfl⟩ := gw_of_below hb; have T0 := Lib.hid (o.cs rfl); clear o hb; (try simp only [gw_of_drew] at T0); (try simp only [gw_gw] at T0)) | (go_at_call 12; refine (eqCirc_same k0 ra5 qa_ L0.length rc5 qc_ L0 rb5 qb_ o0.length rd5 qd_ o0 _ (PX.out _ (by (repeat' (first | (with_reducible exact Below.refl _ _) | (with_reducible assumption) | (with_reducible refine below_gc ?_ ?_ _) | (with_reducible refine below_gd ?_ _) | (with_reducible refine below_drewN ?_ _) | (with_reducible refine Below.drew ?_) | (with_reducible refine Below.alloc ?_ ?_ _) | (with_reducible refine Below.setCell ?_ ?_ _) | (with_reducible refine below_gw ?_ ?_ _) | (with_reducible refine below_via ?_ ‹Below _ _ _› ?_) | (with_reducible exact Nat.le_refl _) | (with_reducible refine le_gc ?_ _) | (with_reducible refine le_gd ?_ _) | (with_reducible refine le_gw ?_ _) | (with_reducible refine le_alloc ?_ _) | (with_reducible refine le_setCell ?_ _ _) | (with_reducible refine le_drew ?_) | (with_reducible refine le_drewN ?_ _) | go_size)))) (by first | (exact T0.out.below (by ((repeat' (first | (with_reducible exact Below.refl _ _) | (with_reducible assumption) | (with_reducible refine below_gc ?_ ?_ _) | (with_reducible refine below_gd ?_ _) | (with_reducible refine below_drewN ?_ _) | (with_reducible refine Below.drew ?_) | (with_reducible refine Below.alloc ?_ ?_ _) | (with_reducible refine Below.setCell ?_ ?_ _) | (with_reducible refine below_gw ?_ ?_ _) | (with_reducible refine below_via ?_ ‹Below _ _ _› ?_) | (with_reducible exact Nat.le_refl _) | (with_reducible refine le_gc ?_ _) | (with_reducible refine le_gd ?_ _) | (with_reducible refine le_gw ?_ _) | (with_reducible refine le_alloc ?_ _) | (with_reducible refine le_setCell ?_ _ _) | (with_reducible refine le_drew ?_) | (with_reducible refine le_drewN ?_ _) | go_size))); done)) | (have hh := T0.out; simp only [gw_gw, gw_of_drew, gw_drew] at hh ⊢; exact hh))).mono ?_; rintro r w_ ⟨rfl, hb⟩; obtain ⟨p9_, rfl⟩ := gw_of_below hb; clear hb)))
    generalize hW : gw w7 _ = w8
    have hb : Below w7.heap.size w7 w8 := by rw [← hW]; (repeat' (first | (with_reducible exact Below.refl _ _) | (with_reducible assumption) | (with_reducible refine below_gc ?_ ?_ _) | (with_reducible refine below_gd ?_ _) | (with_reducible refine below_drewN ?_ _) | (with_reducible refine Below.drew ?_) | (with_reducible refine Below.alloc ?_ ?_ _) | (with_reducible refine Below.setCell ?_ ?_ _) | (with_reducible refine below_gw ?_ ?_ _) | (with_reducible refine below_via ?_ ‹Below _ _ _› ?_) | (with_reducible exact Nat.le_refl _) | (with_reducible refine le_gc ?_ _) | (with_reducible refine le_gd ?_ _) | (with_reducible refine le_gw ?_ _) | (with_reducible refine le_alloc ?_ _) | (with_reducible refine le_setCell ?_ _ _) | (with_reducible refine le_drew ?_) | (with_reducible refine le_drewN ?_ _) | go_size))
    clear hW SS PQ0 PX T0
    clear l0_ x0_ y0_ z0_
    clear l1_ x1_ y1_ z1_
    have HS_w8 := hb.size
    have O1 := Lib.hid (O1.out.later hb (by omega))
    have BX_aC := Lib.hid (BX_aC.out.below hb)
    have BX_x0 := Lib.hid (BX_x0.out.below hb)
    have HB := Lib.hid (HB.out.trans (hb.mono (by first | omega | exact Nat.le_refl _)))
    clear hb
    have c_ := BX_aC.out
    obtain ⟨l0_, x0_, y0_, z0_⟩ := c_
    have c_ := BX_x0.out
    obtain ⟨l1_, x1_, y1_, z1_⟩ := c_
    go_wp2
    go_ret
    exact ⟨rfl, HB.out⟩
end Go.Proofs.Ytpmdkifnejkofaa

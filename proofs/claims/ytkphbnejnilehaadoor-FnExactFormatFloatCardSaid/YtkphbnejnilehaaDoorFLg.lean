/- Walks of exact laws over floats. -/
import Derived.Test.YtkphbnejnilehaaDoorDT
import Derived.Test.YtkphbnejnilehaaDoorBox
namespace Go.Proofs.YtkphbnejnilehaaDoor
open Go.RowKit

set_option maxRecDepth 20000 in
set_option maxHeartbeats 4000000 in
theorem wFnExactFormatFloat (a0 : Option Addr) (len0 cap0 : Nat) (z0 : List Int) (x0 : Int) (w : World) (w0 : IsRow .i64 w a0 len0 cap0 z0) (_v0 : (Lit.int .i64 x0).wf = true) (htab : Lib.TabIs Tryd.prog w "internal/strconv.uint64pow10" .u64 Lib.pow10Tab) : Calls Tryd.prog 3 #[.agg #[.slice a0 len0 cap0, .int .i64 x0]] w fun e w' => e = .returned (.bool true) ∧ Below w.heap.size w w' := by
  have HT := Lib.hid htab
  clear htab
  have q0 := Ints.of_row w0
  have m0 : len0 ≤ 9223372036854775807 := by obtain ⟨_, h2, h3, _⟩ := q0; unfold maxLen at h3; omega
  obtain ⟨y0, ey0⟩ : ∃ y, y = z0.take len0 := ⟨_, rfl⟩
  rw [← ey0] at q0
  clear ey0 w0
  obtain rfl : len0 = y0.length := q0.1.symm
  have Q0 := Lib.hid q0
  clear q0
  by_cases g0 : (1048576 : Int) - (y0.length : Int) < 0
  · skip
    go_enter Tryd.func3, Tryd.ntmps3
    have HB := Lib.hid (Below.refl w.heap.size w)
    go_wp2_with fail
    generalize hW : World.alloc w _ = w1
    obtain ⟨bx, hb⟩ := box_of hW
    have hz_w1 : w1.heap.size = w.heap.size + 1 := by rw [← hW, World.size_alloc]
    have hp_w1 := bx.1
    have BX_aF := Lib.hid bx
    clear hW bx
    have HS_w1 := hb.size
    have HB := Lib.hid (HB.out.trans (hb.mono (by first | omega | exact Nat.le_refl _)))
    clear hb
    refine (szFlt a0 _ cap0 y0 _ _ _ (Q0.out.below HB.out) (by omega) (by omega)).mono ?_
    rw [if_pos (by omega)]
    rintro r w2 ⟨rfl, hb⟩
    have HS_w2 := hb.size
    have BX_aF := Lib.hid (BX_aF.out.below hb)
    have HB := Lib.hid (HB.out.trans (hb.mono (by first | omega | exact Nat.le_refl _)))
    clear hb
    have c_ := BX_aF.out
    obtain ⟨l0_, x0_, y0_⟩ := c_
    go_wp2
    go_ret
    exact ⟨rfl, HB.out⟩
  · skip
    go_enter Tryd.func3, Tryd.ntmps3
    have HB := Lib.hid (Below.refl w.heap.size w)
    go_wp2_with fail
    generalize hW : World.alloc w _ = w1
    obtain ⟨bx, hb⟩ := box_of hW
    have hz_w1 : w1.heap.size = w.heap.size + 1 := by rw [← hW, World.size_alloc]
    have hp_w1 := bx.1
    have BX_aF := Lib.hid bx
    clear hW bx
    have HS_w1 := hb.size
    have HB := Lib.hid (HB.out.trans (hb.mono (by first | omega | exact Nat.le_refl _)))
    clear hb
    refine (szFlt a0 _ cap0 y0 _ _ _ (Q0.out.below HB.out) (by omega) (by omega)).mono ?_
    rw [if_neg (by omega)]
    rintro r w2 ⟨rfl, hb⟩
    have HS_w2 := hb.size
    have BX_aF := Lib.hid (BX_aF.out.below hb)
    have HB := Lib.hid (HB.out.trans (hb.mono (by first | omega | exact Nat.le_refl _)))
    clear hb
    have c_ := BX_aF.out
    obtain ⟨l0_, x0_, y0_⟩ := c_
    go_wp2_with fail
    clear l0_ x0_ y0_
    refine (toFlt_any a0 y0.length cap0 y0 x0 _ (Q0.out.below HB.out) (by omega)).mono ?_
    rintro r w3 ⟨b3, c3, rfl, o, hb, ln3⟩
    have HS_w3 := hb.size
    have BX_aF := Lib.hid (BX_aF.out.below hb)
    have HB := Lib.hid (HB.out.trans (hb.mono (by first | omega | exact Nat.le_refl _)))
    clear hb
    have O0 := Lib.hid (OwnI.of o)
    clear o
    have c_ := BX_aF.out
    obtain ⟨l0_, x0_, y0_⟩ := c_
    go_wp2_with fail
    clear l0_ x0_ y0_
    refine (sFormatFloat b3 y0.length c3 y0 x0 _ (Ints.of_own O0.out.1)).mono ?_
    rintro r w4 ⟨rfl, hb⟩
    have HS_w4 := hb.size
    have O0 := Lib.hid (O0.out.later hb (by omega))
    have BX_aF := Lib.hid (BX_aF.out.below hb)
    have HB := Lib.hid (HB.out.trans (hb.mono (by first | omega | exact Nat.le_refl _)))
    clear hb
    have c_ := BX_aF.out
    obtain ⟨l0_, x0_, y0_⟩ := c_
    go_wp2_with fail
    clear l0_ x0_ y0_
    refine (toFlt_any a0 y0.length cap0 y0 x0 _ (Q0.out.below HB.out) (by omega)).mono ?_
    rintro r w5 ⟨b5, c5, rfl, o, hb, ln5⟩
    have HS_w5 := hb.size
    have BX_aF := Lib.hid (BX_aF.out.below hb)
    have HB := Lib.hid (HB.out.trans (hb.mono (by first | omega | exact Nat.le_refl _)))
    clear hb
    have O1 := Lib.hid (OwnI.of o)
    clear o
    have c_ := BX_aF.out
    obtain ⟨l0_, x0_, y0_⟩ := c_
    go_wp2_with fail
    generalize hW : World.alloc w5 _ = w6
    obtain ⟨bx, hb⟩ := box_of hW
    have hp_w6 := bx.1
    have BX_x0 := Lib.hid bx
    clear hW bx
    clear l0_ x0_ y0_
    have HS_w6 := hb.size
    have O1 := Lib.hid (O1.out.later hb (by omega))
    have BX_aF := Lib.hid (BX_aF.out.below hb)
    have HB := Lib.hid (HB.out.trans (hb.mono (by first | omega | exact Nat.le_refl _)))
    clear hb
    refine (iFormatFloat b5 y0.length c5 y0 x0 _ (Ints.of_own O1.out.1) (tab_below HT.out HB.out)).mono ?_
    rintro r w7 ⟨rfl, hb⟩
    have HS_w7 := hb.size
    have O1 := Lib.hid (O1.out.later hb (by omega))
    have BX_aF := Lib.hid (BX_aF.out.below hb)
    have BX_x0 := Lib.hid (BX_x0.out.below hb)
    have HB := Lib.hid (HB.out.trans (hb.mono (by first | omega | exact Nat.le_refl _)))
    clear hb
    have c_ := BX_aF.out
    obtain ⟨l0_, x0_, y0_⟩ := c_
    have c_ := BX_x0.out
    obtain ⟨l1_, x1_, y1_⟩ := c_
    go_wp2_with fail
    clear l0_ x0_ y0_
    clear l1_ x1_ y1_
    have SS : Hid (∀ W, Below w7.heap.size w7 W → W.cell? ⟨w5.heap.size, 0, none⟩ = some (.slice b5 y0.length c5) ∧ W.cell? ⟨w5.heap.size, 1, none⟩ = some (.int .i64 x0) ∧ W.cell? ⟨w.heap.size, 0, none⟩ = some (.slice a0 y0.length cap0) ∧ W.cell? ⟨w.heap.size, 1, none⟩ = some (.int .i64 x0)) := Lib.hid fun W hW => by
      obtain ⟨-, x0_, y0_⟩ := BX_x0.out.below hW
      obtain ⟨-, x1_, y1_⟩ := BX_aF.out.below hW
      exact ⟨x0_, y0_, x1_, y1_⟩
    have PQ0 : Hid (∀ W, Below w7.heap.size w7 W → Ints W a0 y0.length cap0 y0) := Lib.hid fun W hW => (Q0.out.below HB.out).below hW
    have PX : Hid (∀ W, Below w7.heap.size w7 W → Ints W b5 y0.length c5 y0) := Lib.hid fun W hW => (Ints.of_own O1.out.1).below hW
    have c_ := BX_aF.out
    obtain ⟨l0_, x0_, y0_⟩ := c_
    have c_ := BX_x0.out
    obtain ⟨l1_, x1_, y1_⟩ := c_
    go_region_held3 (fun W => W.cell? ⟨w5.heap.size, 0, none⟩ = some (.slice b5 y0.length c5) ∧ W.cell? ⟨w5.heap.size, 1, none⟩ = some (.int .i64 x0) ∧ W.cell? ⟨w.heap.size, 0, none⟩ = some (.slice a0 y0.length cap0) ∧ W.cell? ⟨w.heap.size, 1, none⟩ = some (.int .i64 x0)) (exact SS.out _ (by (repeat' (first | (with_reducible exact Below.refl _ _) | (with_reducible assumption) | (with_reducible refine below_gc ?_ ?_ _) | (with_reducible refine below_gd ?_ _) | (with_reducible refine below_drewN ?_ _) | (with_reducible refine Below.drew ?_) | (with_reducible refine Below.alloc ?_ ?_ _) | (with_reducible refine Below.setCell ?_ ?_ _) | (with_reducible refine below_gw ?_ ?_ _) | (with_reducible refine below_via ?_ ‹Below _ _ _› ?_) | (with_reducible exact Nat.le_refl _) | (with_reducible refine le_gc ?_ _) | (with_reducible refine le_gd ?_ _) | (with_reducible refine le_gw ?_ _) | (with_reducible refine le_alloc ?_ _) | (with_reducible refine le_setCell ?_ _ _) | (with_reducible refine le_drew ?_) | (with_reducible refine le_drewN ?_ _) | go_size)))) ((first | (go_at_call 7; refine (toFlt_any a0 y0.length cap0 y0 x0 _ (PQ0.out _ (by (repeat' (first | (with_reducible exact Below.refl _ _) | (with_reducible assumption) | (with_reducible refine below_gc ?_ ?_ _) | (with_reducible refine below_gd ?_ _) | (with_reducible refine below_drewN ?_ _) | (with_reducible refine Below.drew ?_) | (with_reducible refine Below.alloc ?_ ?_ _) | (with_reducible refine Below.setCell ?_ ?_ _) | (with_reducible refine below_gw ?_ ?_ _) | (with_reducible refine below_via ?_ ‹Below _ _ _› ?_) | (with_reducible exact Nat.le_refl _) | (with_reducible refine le_gc ?_ _) | (with_reducible refine le_gd ?_ _) | (with_reducible refine le_gw ?_ _) | (with_reducible refine le_alloc ?_ _) | (with_reducible refine le_setCell ?_ _ _) | (with_reducible refine le_drew ?_) | (with_reducible refine le_drewN ?_ _) | go_size)))) (by omega)).mono ?_; rintro r w_ ⟨b_, c_, rfl, o, hb, -⟩; obtain ⟨p_, rfl⟩ := gw_of_below hb; have T0 := Lib.hid (Ints.of_own o); clear o hb; (try simp only [gw_of_drew] at T0); (try simp only [gw_gw] at T0)) | (go_at_call 9; refine (eqFlt_same b5 b_ _ c5 c_ _ _ _ (PX.out _ (by (repeat' (first | (with_reducible exact Below.refl _ _) | (with_reducible assumption) | (with_reducible refine below_gc ?_ ?_ _) | (with_reducible refine below_gd ?_ _) | (with_reducible refine below_drewN ?_ _) | (with_reducible refine Below.drew ?_) | (with_reducible refine Below.alloc ?_ ?_ _) | (with_reducible refine Below.setCell ?_ ?_ _) | (with_reducible refine below_gw ?_ ?_ _) | (with_reducible refine below_via ?_ ‹Below _ _ _› ?_) | (with_reducible exact Nat.le_refl _) | (with_reducible refine le_gc ?_ _) | (with_reducible refine le_gd ?_ _) | (with_reducible refine le_gw ?_ _) | (with_reducible refine le_alloc ?_ _) | (with_reducible refine le_setCell ?_ _ _) | (with_reducible refine le_drew ?_) | (with_reducible refine le_drewN ?_ _) | go_size)))) (by first | (exact T0.out.below (by ((repeat' (first | (with_reducible exact Below.refl _ _) | (with_reducible assumption) | (with_reducible refine below_gc ?_ ?_ _) | (with_reducible refine below_gd ?_ _) | (with_reducible refine below_drewN ?_ _) | (with_reducible refine Below.drew ?_) | (with_reducible refine Below.alloc ?_ ?_ _) | (with_reducible refine Below.setCell ?_ ?_ _) | (with_reducible refine below_gw ?_ ?_ _) | (with_reducible refine below_via ?_ ‹Below _ _ _› ?_) | (with_reducible exact Nat.le_refl _) | (with_reducible refine le_gc ?_ _) | (with_reducible refine le_gd ?_ _) | (with_reducible refine le_gw ?_ _) | (with_reducible refine le_alloc ?_ _) | (with_reducible refine le_setCell ?_ _ _) | (with_reducible refine le_drew ?_) | (with_reducible refine le_drewN ?_ _) | go_size))); done)) | (have hh := T0.out; simp only [gw_gw, gw_of_drew, gw_drew] at hh ⊢; exact hh))).mono ?_; rintro r w_ ⟨rfl, hb⟩; obtain ⟨p9_, rfl⟩ := gw_of_below hb; clear hb)))
    generalize hW : gw w7 _ = w8
    have hb : Below w7.heap.size w7 w8 := by rw [← hW]; (repeat' (first | (with_reducible exact Below.refl _ _) | (with_reducible assumption) | (with_reducible refine below_gc ?_ ?_ _) | (with_reducible refine below_gd ?_ _) | (with_reducible refine below_drewN ?_ _) | (with_reducible refine Below.drew ?_) | (with_reducible refine Below.alloc ?_ ?_ _) | (with_reducible refine Below.setCell ?_ ?_ _) | (with_reducible refine below_gw ?_ ?_ _) | (with_reducible refine below_via ?_ ‹Below _ _ _› ?_) | (with_reducible exact Nat.le_refl _) | (with_reducible refine le_gc ?_ _) | (with_reducible refine le_gd ?_ _) | (with_reducible refine le_gw ?_ _) | (with_reducible refine le_alloc ?_ _) | (with_reducible refine le_setCell ?_ _ _) | (with_reducible refine le_drew ?_) | (with_reducible refine le_drewN ?_ _) | go_size))
    clear hW SS PQ0 PX T0
    clear l0_ x0_ y0_
    clear l1_ x1_ y1_
    have HS_w8 := hb.size
    have O1 := Lib.hid (O1.out.later hb (by omega))
    have BX_aF := Lib.hid (BX_aF.out.below hb)
    have BX_x0 := Lib.hid (BX_x0.out.below hb)
    have HB := Lib.hid (HB.out.trans (hb.mono (by first | omega | exact Nat.le_refl _)))
    clear hb
    have c_ := BX_aF.out
    obtain ⟨l0_, x0_, y0_⟩ := c_
    have c_ := BX_x0.out
    obtain ⟨l1_, x1_, y1_⟩ := c_
    go_wp2
    go_ret
    exact ⟨rfl, HB.out⟩
end Go.Proofs.YtkphbnejnilehaaDoor

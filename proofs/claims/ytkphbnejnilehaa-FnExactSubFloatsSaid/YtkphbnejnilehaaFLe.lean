/- Walks of exact laws over floats. -/
import Derived.Test.YtkphbnejnilehaaFI3
import Derived.Test.YtkphbnejnilehaaFS4
import Derived.Test.YtkphbnejnilehaaBox
namespace Go.Proofs.Ytkphbnejnilehaa
open Go.RowKit

set_option maxRecDepth 20000 in
set_option maxHeartbeats 4000000 in
theorem wFnExactSubFloats (a0 : Option Addr) (len0 cap0 : Nat) (z0 : List Int) (x0 : Int) (a1 : Option Addr) (len1 cap1 : Nat) (z1 : List Int) (x1 : Int) (w : World) (w0 : IsRow .i64 w a0 len0 cap0 z0) (_v0 : (Lit.int .i64 x0).wf = true) (w1 : IsRow .i64 w a1 len1 cap1 z1) (_v1 : (Lit.int .i64 x1).wf = true) : Calls Try.prog 9 #[.agg #[.slice a0 len0 cap0, .int .i64 x0], .agg #[.slice a1 len1 cap1, .int .i64 x1]] w fun e w' => e = .returned (.bool true) ∧ Below w.heap.size w w' := by
  have q0 := Ints.of_row w0
  have m0 : len0 ≤ 9223372036854775807 := by obtain ⟨_, h2, h3, _⟩ := q0; unfold maxLen at h3; omega
  obtain ⟨y0, ey0⟩ : ∃ y, y = z0.take len0 := ⟨_, rfl⟩
  rw [← ey0] at q0
  clear ey0 w0
  obtain rfl : len0 = y0.length := q0.1.symm
  have Q0 := Lib.hid q0
  clear q0
  have q1 := Ints.of_row w1
  have m1 : len1 ≤ 9223372036854775807 := by obtain ⟨_, h2, h3, _⟩ := q1; unfold maxLen at h3; omega
  obtain ⟨y1, ey1⟩ : ∃ y, y = z1.take len1 := ⟨_, rfl⟩
  rw [← ey1] at q1
  clear ey1 w1
  obtain rfl : len1 = y1.length := q1.1.symm
  have Q1 := Lib.hid q1
  clear q1
  by_cases g0 : (1048576 : Int) - (y0.length : Int) < 0
  · skip
    go_enter Try.func9, Try.ntmps9
    have HB := Lib.hid (Below.refl w.heap.size w)
    go_wp2_with fail
    generalize hW : World.alloc w _ = w1
    obtain ⟨bx, hb⟩ := box_of hW
    have hz_w1 : w1.heap.size = w.heap.size + 1 := by rw [← hW, World.size_alloc]
    have hp_w1 := bx.1
    have BX_aA := Lib.hid bx
    clear hW bx
    have HS_w1 := hb.size
    have HB := Lib.hid (HB.out.trans (hb.mono (by first | omega | exact Nat.le_refl _)))
    clear hb
    generalize hW : World.alloc w1 _ = w2
    obtain ⟨bx, hb⟩ := box_of hW
    have hz_w2 : w2.heap.size = w.heap.size + 2 := by rw [← hW, World.size_alloc, hz_w1]
    rw [hz_w1] at bx
    have hp_w2 := bx.1
    have BX_aB := Lib.hid bx
    clear hW bx
    have HS_w2 := hb.size
    have BX_aA := Lib.hid (BX_aA.out.below hb)
    have HB := Lib.hid (HB.out.trans (hb.mono (by first | omega | exact Nat.le_refl _)))
    clear hb
    refine (szFlt a0 _ cap0 y0 _ _ _ (Q0.out.below HB.out) (by omega) (by omega)).mono ?_
    rw [if_pos (by omega)]
    rintro r w3 ⟨rfl, hb⟩
    have HS_w3 := hb.size
    have BX_aA := Lib.hid (BX_aA.out.below hb)
    have BX_aB := Lib.hid (BX_aB.out.below hb)
    have HB := Lib.hid (HB.out.trans (hb.mono (by first | omega | exact Nat.le_refl _)))
    clear hb
    have c_ := BX_aA.out
    obtain ⟨l0_, x0_, y0_⟩ := c_
    have c_ := BX_aB.out
    obtain ⟨l1_, x1_, y1_⟩ := c_
    go_wp2
    go_ret
    exact ⟨rfl, HB.out⟩
  · skip
    by_cases g1 : ((1048576 : Int) - ((y0.length : Nat) : Int)) - (y1.length : Int) < 0
    · skip
      go_enter Try.func9, Try.ntmps9
      have HB := Lib.hid (Below.refl w.heap.size w)
      go_wp2_with fail
      generalize hW : World.alloc w _ = w1
      obtain ⟨bx, hb⟩ := box_of hW
      have hz_w1 : w1.heap.size = w.heap.size + 1 := by rw [← hW, World.size_alloc]
      have hp_w1 := bx.1
      have BX_aA := Lib.hid bx
      clear hW bx
      have HS_w1 := hb.size
      have HB := Lib.hid (HB.out.trans (hb.mono (by first | omega | exact Nat.le_refl _)))
      clear hb
      generalize hW : World.alloc w1 _ = w2
      obtain ⟨bx, hb⟩ := box_of hW
      have hz_w2 : w2.heap.size = w.heap.size + 2 := by rw [← hW, World.size_alloc, hz_w1]
      rw [hz_w1] at bx
      have hp_w2 := bx.1
      have BX_aB := Lib.hid bx
      clear hW bx
      have HS_w2 := hb.size
      have BX_aA := Lib.hid (BX_aA.out.below hb)
      have HB := Lib.hid (HB.out.trans (hb.mono (by first | omega | exact Nat.le_refl _)))
      clear hb
      refine (szFlt a0 _ cap0 y0 _ _ _ (Q0.out.below HB.out) (by omega) (by omega)).mono ?_
      rw [if_neg (by omega)]
      rintro r w3 ⟨rfl, hb⟩
      have HS_w3 := hb.size
      have BX_aA := Lib.hid (BX_aA.out.below hb)
      have BX_aB := Lib.hid (BX_aB.out.below hb)
      have HB := Lib.hid (HB.out.trans (hb.mono (by first | omega | exact Nat.le_refl _)))
      clear hb
      have c_ := BX_aA.out
      obtain ⟨l0_, x0_, y0_⟩ := c_
      have c_ := BX_aB.out
      obtain ⟨l1_, x1_, y1_⟩ := c_
      go_wp2_with fail
      clear l0_ x0_ y0_
      clear l1_ x1_ y1_
      refine (szFlt a1 _ cap1 y1 _ _ _ (Q1.out.below HB.out) (by omega) (by omega)).mono ?_
      rw [if_pos (by omega)]
      rintro r w4 ⟨rfl, hb⟩
      have HS_w4 := hb.size
      have BX_aA := Lib.hid (BX_aA.out.below hb)
      have BX_aB := Lib.hid (BX_aB.out.below hb)
      have HB := Lib.hid (HB.out.trans (hb.mono (by first | omega | exact Nat.le_refl _)))
      clear hb
      have c_ := BX_aA.out
      obtain ⟨l0_, x0_, y0_⟩ := c_
      have c_ := BX_aB.out
      obtain ⟨l1_, x1_, y1_⟩ := c_
      go_wp2
      go_ret
      exact ⟨rfl, HB.out⟩
    · skip
      go_enter Try.func9, Try.ntmps9
      have HB := Lib.hid (Below.refl w.heap.size w)
      go_wp2_with fail
      generalize hW : World.alloc w _ = w1
      obtain ⟨bx, hb⟩ := box_of hW
      have hz_w1 : w1.heap.size = w.heap.size + 1 := by rw [← hW, World.size_alloc]
      have hp_w1 := bx.1
      have BX_aA := Lib.hid bx
      clear hW bx
      have HS_w1 := hb.size
      have HB := Lib.hid (HB.out.trans (hb.mono (by first | omega | exact Nat.le_refl _)))
      clear hb
      generalize hW : World.alloc w1 _ = w2
      obtain ⟨bx, hb⟩ := box_of hW
      have hz_w2 : w2.heap.size = w.heap.size + 2 := by rw [← hW, World.size_alloc, hz_w1]
      rw [hz_w1] at bx
      have hp_w2 := bx.1
      have BX_aB := Lib.hid bx
      clear hW bx
      have HS_w2 := hb.size
      have BX_aA := Lib.hid (BX_aA.out.below hb)
      have HB := Lib.hid (HB.out.trans (hb.mono (by first | omega | exact Nat.le_refl _)))
      clear hb
      refine (szFlt a0 _ cap0 y0 _ _ _ (Q0.out.below HB.out) (by omega) (by omega)).mono ?_
      rw [if_neg (by omega)]
      rintro r w3 ⟨rfl, hb⟩
      have HS_w3 := hb.size
      have BX_aA := Lib.hid (BX_aA.out.below hb)
      have BX_aB := Lib.hid (BX_aB.out.below hb)
      have HB := Lib.hid (HB.out.trans (hb.mono (by first | omega | exact Nat.le_refl _)))
      clear hb
      have c_ := BX_aA.out
      obtain ⟨l0_, x0_, y0_⟩ := c_
      have c_ := BX_aB.out
      obtain ⟨l1_, x1_, y1_⟩ := c_
      go_wp2_with fail
      clear l0_ x0_ y0_
      clear l1_ x1_ y1_
      refine (szFlt a1 _ cap1 y1 _ _ _ (Q1.out.below HB.out) (by omega) (by omega)).mono ?_
      rw [if_neg (by omega)]
      rintro r w4 ⟨rfl, hb⟩
      have HS_w4 := hb.size
      have BX_aA := Lib.hid (BX_aA.out.below hb)
      have BX_aB := Lib.hid (BX_aB.out.below hb)
      have HB := Lib.hid (HB.out.trans (hb.mono (by first | omega | exact Nat.le_refl _)))
      clear hb
      have c_ := BX_aA.out
      obtain ⟨l0_, x0_, y0_⟩ := c_
      have c_ := BX_aB.out
      obtain ⟨l1_, x1_, y1_⟩ := c_
      go_wp2_with fail
      clear l0_ x0_ y0_
      clear l1_ x1_ y1_
      have SS : Hid (∀ W, Below w4.heap.size w4 W → W.cell? ⟨w.heap.size, 0, none⟩ = some (.slice a0 y0.length cap0) ∧ W.cell? ⟨w.heap.size, 1, none⟩ = some (.int .i64 x0) ∧ W.cell? ⟨w.heap.size + 1, 0, none⟩ = some (.slice a1 y1.length cap1) ∧ W.cell? ⟨w.heap.size + 1, 1, none⟩ = some (.int .i64 x1)) := Lib.hid fun W hW => by
        obtain ⟨-, x0_, y0_⟩ := BX_aA.out.below hW
        obtain ⟨-, x1_, y1_⟩ := BX_aB.out.below hW
        exact ⟨x0_, y0_, x1_, y1_⟩
      have TF0 := Lib.hid (fun (W : World) (hW : Below w4.heap.size w4 W) => toFlt_any a0 y0.length cap0 y0 x0 W ((Q0.out.below HB.out).below hW) (by omega))
      have TF1 := Lib.hid (fun (W : World) (hW : Below w4.heap.size w4 W) => toFlt_any a1 y1.length cap1 y1 x1 W ((Q1.out.below HB.out).below hW) (by omega))
      have c_ := BX_aA.out
      obtain ⟨l0_, x0_, y0_⟩ := c_
      have c_ := BX_aB.out
      obtain ⟨l1_, x1_, y1_⟩ := c_
      apply later_key
      case main =>
        intro KEY
        go_region_held3 (fun W => W.cell? ⟨w.heap.size, 0, none⟩ = some (.slice a0 y0.length cap0) ∧ W.cell? ⟨w.heap.size, 1, none⟩ = some (.int .i64 x0) ∧ W.cell? ⟨w.heap.size + 1, 0, none⟩ = some (.slice a1 y1.length cap1) ∧ W.cell? ⟨w.heap.size + 1, 1, none⟩ = some (.int .i64 x1)) (exact SS.out _ (by (repeat' (first | (with_reducible exact Below.refl _ _) | (with_reducible assumption) | (with_reducible refine below_gc ?_ ?_ _) | (with_reducible refine below_gd ?_ _) | (with_reducible refine below_drewN ?_ _) | (with_reducible refine Below.drew ?_) | (with_reducible refine Below.alloc ?_ ?_ _) | (with_reducible refine Below.setCell ?_ ?_ _) | (with_reducible refine below_gw ?_ ?_ _) | (with_reducible refine below_via ?_ ‹Below _ _ _› ?_) | (with_reducible exact Nat.le_refl _) | (with_reducible refine le_gc ?_ _) | (with_reducible refine le_gd ?_ _) | (with_reducible refine le_gw ?_ _) | (with_reducible refine le_alloc ?_ _) | (with_reducible refine le_setCell ?_ _ _) | (with_reducible refine le_drew ?_) | (with_reducible refine le_drewN ?_ _) | go_size)))) ((first | (go_at_call 16; with_reducible refine (TF0.out _ (by ((repeat' (first | (with_reducible exact Below.refl _ _) | (with_reducible assumption) | (with_reducible refine below_gc ?_ ?_ _) | (with_reducible refine below_gd ?_ _) | (with_reducible refine below_drewN ?_ _) | (with_reducible refine Below.drew ?_) | (with_reducible refine Below.alloc ?_ ?_ _) | (with_reducible refine Below.setCell ?_ ?_ _) | (with_reducible refine below_gw ?_ ?_ _) | (with_reducible refine below_via ?_ ‹Below _ _ _› ?_) | (with_reducible exact Nat.le_refl _) | (with_reducible refine le_gc ?_ _) | (with_reducible refine le_gd ?_ _) | (with_reducible refine le_gw ?_ _) | (with_reducible refine le_alloc ?_ _) | (with_reducible refine le_setCell ?_ _ _) | (with_reducible refine le_drew ?_) | (with_reducible refine le_drewN ?_ _) | go_size))); done)).mono ?_; intro r w_ hh_; unfold RetF at hh_; obtain ⟨b0_, c0_, rfl, o, hb, -⟩ := hh_; obtain ⟨p0_, rfl⟩ := gw_of_below hb; have T0 := Lib.hid (Ints.of_own o); clear o hb; (try simp only [gw_of_drew] at T0); (try simp only [gw_gw] at T0)) | (go_at_call 16; with_reducible refine (TF1.out _ (by ((repeat' (first | (with_reducible exact Below.refl _ _) | (with_reducible assumption) | (with_reducible refine below_gc ?_ ?_ _) | (with_reducible refine below_gd ?_ _) | (with_reducible refine below_drewN ?_ _) | (with_reducible refine Below.drew ?_) | (with_reducible refine Below.alloc ?_ ?_ _) | (with_reducible refine Below.setCell ?_ ?_ _) | (with_reducible refine below_gw ?_ ?_ _) | (with_reducible refine below_via ?_ ‹Below _ _ _› ?_) | (with_reducible exact Nat.le_refl _) | (with_reducible refine le_gc ?_ _) | (with_reducible refine le_gd ?_ _) | (with_reducible refine le_gw ?_ _) | (with_reducible refine le_alloc ?_ _) | (with_reducible refine le_setCell ?_ _ _) | (with_reducible refine le_drew ?_) | (with_reducible refine le_drewN ?_ _) | go_size))); done)).mono ?_; intro r w_ hh_; unfold RetF at hh_; obtain ⟨b1_, c1_, rfl, o, hb, -⟩ := hh_; obtain ⟨p1_, rfl⟩ := gw_of_below hb; have T1 := Lib.hid (Ints.of_own o); clear o hb; (try simp only [gw_of_drew] at T1); (try simp only [gw_gw] at T1)) | (go_at_call 31; refine (sSubFloats b0_ _ c0_ y0 x0 b1_ _ c1_ y1 x1 _ (by first | (exact T0.out.below (by ((repeat' (first | (with_reducible exact Below.refl _ _) | (with_reducible assumption) | (with_reducible refine below_gc ?_ ?_ _) | (with_reducible refine below_gd ?_ _) | (with_reducible refine below_drewN ?_ _) | (with_reducible refine Below.drew ?_) | (with_reducible refine Below.alloc ?_ ?_ _) | (with_reducible refine Below.setCell ?_ ?_ _) | (with_reducible refine below_gw ?_ ?_ _) | (with_reducible refine below_via ?_ ‹Below _ _ _› ?_) | (with_reducible exact Nat.le_refl _) | (with_reducible refine le_gc ?_ _) | (with_reducible refine le_gd ?_ _) | (with_reducible refine le_gw ?_ _) | (with_reducible refine le_alloc ?_ _) | (with_reducible refine le_setCell ?_ _ _) | (with_reducible refine le_drew ?_) | (with_reducible refine le_drewN ?_ _) | go_size))); done)) | (have hh := T0.out; simp only [gw_gw, gw_of_drew, gw_drew] at hh ⊢; exact hh)) (by first | (exact T1.out.below (by ((repeat' (first | (with_reducible exact Below.refl _ _) | (with_reducible assumption) | (with_reducible refine below_gc ?_ ?_ _) | (with_reducible refine below_gd ?_ _) | (with_reducible refine below_drewN ?_ _) | (with_reducible refine Below.drew ?_) | (with_reducible refine Below.alloc ?_ ?_ _) | (with_reducible refine Below.setCell ?_ ?_ _) | (with_reducible refine below_gw ?_ ?_ _) | (with_reducible refine below_via ?_ ‹Below _ _ _› ?_) | (with_reducible exact Nat.le_refl _) | (with_reducible refine le_gc ?_ _) | (with_reducible refine le_gd ?_ _) | (with_reducible refine le_gw ?_ _) | (with_reducible refine le_alloc ?_ _) | (with_reducible refine le_setCell ?_ _ _) | (with_reducible refine le_drew ?_) | (with_reducible refine le_drewN ?_ _) | go_size))); done)) | (have hh := T1.out; simp only [gw_gw, gw_of_drew, gw_drew] at hh ⊢; exact hh))).mono ?_; rintro r w_ ⟨b9_, c9_, rfl, o, hb, -⟩; obtain ⟨p9_, rfl⟩ := gw_of_below hb; have T9 := Lib.hid o; clear o hb; (try simp only [gw_of_drew] at T9); (try simp only [gw_gw] at T9))))
        all_goals (rename_i hH_; clear hH_; first
          | (generalize hW : World.alloc (gw w4 _) _ = W_; have LD := laid_after (a := w4) hW T9.out (by (repeat' (first | (with_reducible exact Below.refl _ _) | (with_reducible assumption) | (with_reducible refine below_gc ?_ ?_ _) | (with_reducible refine below_gd ?_ _) | (with_reducible refine below_drewN ?_ _) | (with_reducible refine Below.drew ?_) | (with_reducible refine Below.alloc ?_ ?_ _) | (with_reducible refine Below.setCell ?_ ?_ _) | (with_reducible refine below_gw ?_ ?_ _) | (with_reducible refine below_via ?_ ‹Below _ _ _› ?_) | (with_reducible exact Nat.le_refl _) | (with_reducible refine le_gc ?_ _) | (with_reducible refine le_gd ?_ _) | (with_reducible refine le_gw ?_ _) | (with_reducible refine le_alloc ?_ _) | (with_reducible refine le_setCell ?_ _ _) | (with_reducible refine le_drew ?_) | (with_reducible refine le_drewN ?_ _) | go_size))) (by first | exact le_gc (Nat.le_refl _) _ | exact le_gw (Nat.le_refl _) _ | exact le_gw (by simp only [World.size_alloc]; omega) _ | (simp only [World.size_alloc]; omega)) (by first | exact le_gc (Nat.le_refl _) _ | exact le_gw (Nat.le_refl _) _ | exact le_gw (by simp only [World.size_alloc]; omega) _ | (simp only [World.size_alloc]; omega)); clear hW T0 T1 T9; rw [gw_size] at LD; revert LD; generalize w4.heap.size + Array.size _ = pb)
          | (generalize hW : gw (World.alloc (gw w4 _) _) _ = W_; have LD := laid_before (a := w4) hW T9.out (by (repeat' (first | (with_reducible exact Below.refl _ _) | (with_reducible assumption) | (with_reducible refine below_gc ?_ ?_ _) | (with_reducible refine below_gd ?_ _) | (with_reducible refine below_drewN ?_ _) | (with_reducible refine Below.drew ?_) | (with_reducible refine Below.alloc ?_ ?_ _) | (with_reducible refine Below.setCell ?_ ?_ _) | (with_reducible refine below_gw ?_ ?_ _) | (with_reducible refine below_via ?_ ‹Below _ _ _› ?_) | (with_reducible exact Nat.le_refl _) | (with_reducible refine le_gc ?_ _) | (with_reducible refine le_gd ?_ _) | (with_reducible refine le_gw ?_ _) | (with_reducible refine le_alloc ?_ _) | (with_reducible refine le_setCell ?_ _ _) | (with_reducible refine le_drew ?_) | (with_reducible refine le_drewN ?_ _) | go_size))) (by first | exact le_gc (Nat.le_refl _) _ | exact le_gw (Nat.le_refl _) _ | exact le_gw (by simp only [World.size_alloc]; omega) _ | (simp only [World.size_alloc]; omega)) (by first | exact le_gc (Nat.le_refl _) _ | exact le_gw (Nat.le_refl _) _ | exact le_gw (by simp only [World.size_alloc]; omega) _ | (simp only [World.size_alloc]; omega)); clear hW T0 T1 T9; rw [gw_size] at LD; revert LD; generalize w4.heap.size + Array.size _ = pb)
          | (generalize hW : gw (World.alloc w4 _) _ = W_; have LD := laid_before (a := w4) hW T9.out (Below.refl _ _) (by first | exact le_gc (Nat.le_refl _) _ | exact le_gw (Nat.le_refl _) _ | exact le_gw (by simp only [World.size_alloc]; omega) _ | (simp only [World.size_alloc]; omega)) (by first | exact le_gc (Nat.le_refl _) _ | exact le_gw (Nat.le_refl _) _ | exact le_gw (by simp only [World.size_alloc]; omega) _ | (simp only [World.size_alloc]; omega)); clear hW T0 T1 T9; revert LD; generalize w4.heap.size = pb))
        all_goals (revert b0_ c0_ b1_ c1_ b9_ c9_ W_ pb; exact KEY.out)
      case pf =>
        intro b0_ c0_ b1_ c1_ b5 c5 w5 pb5 LD
        obtain ⟨kb5, ke5, bx, o, hb, hq51, hq52, hq53, hq54, hq55⟩ := LD
        clear SS TF0 TF1
        clear l0_ x0_ y0_
        clear l1_ x1_ y1_
        have BX_w0 := Lib.hid bx
        have hp_w5 := bx.1
        have O0 := Lib.hid o
        clear bx o
        have HS_w5 := hb.size
        have BX_aA := Lib.hid (BX_aA.out.below hb)
        have BX_aB := Lib.hid (BX_aB.out.below hb)
        have HB := Lib.hid (HB.out.trans (hb.mono (by first | omega | exact Nat.le_refl _)))
        clear hb
        have c_ := BX_aA.out
        obtain ⟨l0_, x0_, y0_⟩ := c_
        have c_ := BX_aB.out
        obtain ⟨l1_, x1_, y1_⟩ := c_
        have c_ := BX_w0.out
        obtain ⟨l2_, x2_, y2_⟩ := c_
        go_wp2_with fail
        clear l0_ x0_ y0_
        clear l1_ x1_ y1_
        clear l2_ x2_ y2_
        refine (toFlt_any a0 y0.length cap0 y0 x0 _ (Q0.out.below HB.out) (by omega)).mono ?_
        rintro r w6 ⟨b6, c6, rfl, o, hb, ln6⟩
        have HS_w6 := hb.size
        have O0 := Lib.hid (O0.out.later hb (by omega))
        have BX_aA := Lib.hid (BX_aA.out.below hb)
        have BX_aB := Lib.hid (BX_aB.out.below hb)
        have BX_w0 := Lib.hid (BX_w0.out.below hb)
        have HB := Lib.hid (HB.out.trans (hb.mono (by first | omega | exact Nat.le_refl _)))
        clear hb
        have O1 := Lib.hid (OwnI.of o)
        clear o
        have c_ := BX_aA.out
        obtain ⟨l0_, x0_, y0_⟩ := c_
        have c_ := BX_aB.out
        obtain ⟨l1_, x1_, y1_⟩ := c_
        have c_ := BX_w0.out
        obtain ⟨l2_, x2_, y2_⟩ := c_
        go_wp2_with fail
        generalize hW : World.alloc w6 _ = w7
        obtain ⟨bx, hb⟩ := box_of hW
        have hp_w7 := bx.1
        have BX_x0 := Lib.hid bx
        clear hW bx
        clear l0_ x0_ y0_
        clear l1_ x1_ y1_
        clear l2_ x2_ y2_
        have HS_w7 := hb.size
        have O0 := Lib.hid (O0.out.later hb (by omega))
        have O1 := Lib.hid (O1.out.later hb (by omega))
        have BX_aA := Lib.hid (BX_aA.out.below hb)
        have BX_aB := Lib.hid (BX_aB.out.below hb)
        have BX_w0 := Lib.hid (BX_w0.out.below hb)
        have HB := Lib.hid (HB.out.trans (hb.mono (by first | omega | exact Nat.le_refl _)))
        clear hb
        refine (toFlt_any a1 y1.length cap1 y1 x1 _ (Q1.out.below HB.out) (by omega)).mono ?_
        rintro r w8 ⟨b8, c8, rfl, o, hb, ln8⟩
        have HS_w8 := hb.size
        have O0 := Lib.hid (O0.out.later hb (by omega))
        have O1 := Lib.hid (O1.out.later hb (by omega))
        have BX_aA := Lib.hid (BX_aA.out.below hb)
        have BX_aB := Lib.hid (BX_aB.out.below hb)
        have BX_w0 := Lib.hid (BX_w0.out.below hb)
        have BX_x0 := Lib.hid (BX_x0.out.below hb)
        have HB := Lib.hid (HB.out.trans (hb.mono (by first | omega | exact Nat.le_refl _)))
        clear hb
        have O2 := Lib.hid (OwnI.of o)
        clear o
        have c_ := BX_aA.out
        obtain ⟨l0_, x0_, y0_⟩ := c_
        have c_ := BX_aB.out
        obtain ⟨l1_, x1_, y1_⟩ := c_
        have c_ := BX_w0.out
        obtain ⟨l2_, x2_, y2_⟩ := c_
        have c_ := BX_x0.out
        obtain ⟨l3_, x3_, y3_⟩ := c_
        go_wp2_with fail
        generalize hW : World.alloc w8 _ = w9
        obtain ⟨bx, hb⟩ := box_of hW
        have hp_w9 := bx.1
        have BX_x1 := Lib.hid bx
        clear hW bx
        clear l0_ x0_ y0_
        clear l1_ x1_ y1_
        clear l2_ x2_ y2_
        clear l3_ x3_ y3_
        have HS_w9 := hb.size
        have O0 := Lib.hid (O0.out.later hb (by omega))
        have O1 := Lib.hid (O1.out.later hb (by omega))
        have O2 := Lib.hid (O2.out.later hb (by omega))
        have BX_aA := Lib.hid (BX_aA.out.below hb)
        have BX_aB := Lib.hid (BX_aB.out.below hb)
        have BX_w0 := Lib.hid (BX_w0.out.below hb)
        have BX_x0 := Lib.hid (BX_x0.out.below hb)
        have HB := Lib.hid (HB.out.trans (hb.mono (by first | omega | exact Nat.le_refl _)))
        clear hb
        refine (iSubFloats b6 y0.length c6 y0 x0 b8 y1.length c8 y1 x1 _ (Ints.of_own O1.out.1) (Ints.of_own O2.out.1)).mono ?_
        rintro r w10 ⟨b10, c10, rfl, o, hb, ln10⟩
        have HS_w10 := hb.size
        have O0 := Lib.hid (O0.out.later hb (by omega))
        have O1 := Lib.hid (O1.out.later hb (by omega))
        have O2 := Lib.hid (O2.out.later hb (by omega))
        have BX_aA := Lib.hid (BX_aA.out.below hb)
        have BX_aB := Lib.hid (BX_aB.out.below hb)
        have BX_w0 := Lib.hid (BX_w0.out.below hb)
        have BX_x0 := Lib.hid (BX_x0.out.below hb)
        have BX_x1 := Lib.hid (BX_x1.out.below hb)
        have HB := Lib.hid (HB.out.trans (hb.mono (by first | omega | exact Nat.le_refl _)))
        clear hb
        have O3 := Lib.hid (OwnI.of o)
        clear o
        have c_ := BX_aA.out
        obtain ⟨l0_, x0_, y0_⟩ := c_
        have c_ := BX_aB.out
        obtain ⟨l1_, x1_, y1_⟩ := c_
        have c_ := BX_w0.out
        obtain ⟨l2_, x2_, y2_⟩ := c_
        have c_ := BX_x0.out
        obtain ⟨l3_, x3_, y3_⟩ := c_
        have c_ := BX_x1.out
        obtain ⟨l4_, x4_, y4_⟩ := c_
        go_wp2_with fail
        generalize hW : World.alloc w10 _ = w11
        obtain ⟨bx, hb⟩ := box_of hW
        have hp_w11 := bx.1
        have BX_g0 := Lib.hid bx
        clear hW bx
        clear l0_ x0_ y0_
        clear l1_ x1_ y1_
        clear l2_ x2_ y2_
        clear l3_ x3_ y3_
        clear l4_ x4_ y4_
        have HS_w11 := hb.size
        have O0 := Lib.hid (O0.out.later hb (by omega))
        have O1 := Lib.hid (O1.out.later hb (by omega))
        have O2 := Lib.hid (O2.out.later hb (by omega))
        have O3 := Lib.hid (O3.out.later hb (by omega))
        have BX_aA := Lib.hid (BX_aA.out.below hb)
        have BX_aB := Lib.hid (BX_aB.out.below hb)
        have BX_w0 := Lib.hid (BX_w0.out.below hb)
        have BX_x0 := Lib.hid (BX_x0.out.below hb)
        have BX_x1 := Lib.hid (BX_x1.out.below hb)
        have HB := Lib.hid (HB.out.trans (hb.mono (by first | omega | exact Nat.le_refl _)))
        clear hb
        refine (eqFlt_same b10 b5 _ c10 c5 _ _ _ (Ints.of_own O3.out.1) (Ints.of_own O0.out.1)).mono ?_
        rintro r w12 ⟨rfl, hb⟩
        have HS_w12 := hb.size
        have O0 := Lib.hid (O0.out.later hb (by omega))
        have O1 := Lib.hid (O1.out.later hb (by omega))
        have O2 := Lib.hid (O2.out.later hb (by omega))
        have O3 := Lib.hid (O3.out.later hb (by omega))
        have BX_aA := Lib.hid (BX_aA.out.below hb)
        have BX_aB := Lib.hid (BX_aB.out.below hb)
        have BX_w0 := Lib.hid (BX_w0.out.below hb)
        have BX_x0 := Lib.hid (BX_x0.out.below hb)
        have BX_x1 := Lib.hid (BX_x1.out.below hb)
        have BX_g0 := Lib.hid (BX_g0.out.below hb)
        have HB := Lib.hid (HB.out.trans (hb.mono (by first | omega | exact Nat.le_refl _)))
        clear hb
        have c_ := BX_aA.out
        obtain ⟨l0_, x0_, y0_⟩ := c_
        have c_ := BX_aB.out
        obtain ⟨l1_, x1_, y1_⟩ := c_
        have c_ := BX_w0.out
        obtain ⟨l2_, x2_, y2_⟩ := c_
        have c_ := BX_x0.out
        obtain ⟨l3_, x3_, y3_⟩ := c_
        have c_ := BX_x1.out
        obtain ⟨l4_, x4_, y4_⟩ := c_
        have c_ := BX_g0.out
        obtain ⟨l5_, x5_, y5_⟩ := c_
        go_wp2_with fail
        clear l0_ x0_ y0_
        clear l1_ x1_ y1_
        clear l2_ x2_ y2_
        clear l3_ x3_ y3_
        clear l4_ x4_ y4_
        clear l5_ x5_ y5_
        have SS : Hid (∀ W, Below w12.heap.size w12 W → W.cell? ⟨w6.heap.size, 0, none⟩ = some (.slice b6 y0.length c6) ∧ W.cell? ⟨w6.heap.size, 1, none⟩ = some (.int .i64 x0) ∧ W.cell? ⟨w.heap.size, 0, none⟩ = some (.slice a0 y0.length cap0) ∧ W.cell? ⟨w.heap.size, 1, none⟩ = some (.int .i64 x0)) := Lib.hid fun W hW => by
          obtain ⟨-, x0_, y0_⟩ := BX_x0.out.below hW
          obtain ⟨-, x1_, y1_⟩ := BX_aA.out.below hW
          exact ⟨x0_, y0_, x1_, y1_⟩
        have PQ0 : Hid (∀ W, Below w12.heap.size w12 W → Ints W a0 y0.length cap0 y0) := Lib.hid fun W hW => (Q0.out.below HB.out).below hW
        have PX : Hid (∀ W, Below w12.heap.size w12 W → Ints W b6 y0.length c6 y0) := Lib.hid fun W hW => (Ints.of_own O1.out.1).below hW
        have c_ := BX_aA.out
        obtain ⟨l0_, x0_, y0_⟩ := c_
        have c_ := BX_aB.out
        obtain ⟨l1_, x1_, y1_⟩ := c_
        have c_ := BX_w0.out
        obtain ⟨l2_, x2_, y2_⟩ := c_
        have c_ := BX_x0.out
        obtain ⟨l3_, x3_, y3_⟩ := c_
        have c_ := BX_x1.out
        obtain ⟨l4_, x4_, y4_⟩ := c_
        have c_ := BX_g0.out
        obtain ⟨l5_, x5_, y5_⟩ := c_
        go_region_held3 (fun W => W.cell? ⟨w6.heap.size, 0, none⟩ = some (.slice b6 y0.length c6) ∧ W.cell? ⟨w6.heap.size, 1, none⟩ = some (.int .i64 x0) ∧ W.cell? ⟨w.heap.size, 0, none⟩ = some (.slice a0 y0.length cap0) ∧ W.cell? ⟨w.heap.size, 1, none⟩ = some (.int .i64 x0)) (exact SS.out _ (by (repeat' (first | (with_reducible exact Below.refl _ _) | (with_reducible assumption) | (with_reducible refine below_gc ?_ ?_ _) | (with_reducible refine below_gd ?_ _) | (with_reducible refine below_drewN ?_ _) | (with_reducible refine Below.drew ?_) | (with_reducible refine Below.alloc ?_ ?_ _) | (with_reducible refine Below.setCell ?_ ?_ _) | (with_reducible refine below_gw ?_ ?_ _) | (with_reducible refine below_via ?_ ‹Below _ _ _› ?_) | (with_reducible exact Nat.le_refl _) | (with_reducible refine le_gc ?_ _) | (with_reducible refine le_gd ?_ _) | (with_reducible refine le_gw ?_ _) | (with_reducible refine le_alloc ?_ _) | (with_reducible refine le_setCell ?_ _ _) | (with_reducible refine le_drew ?_) | (with_reducible refine le_drewN ?_ _) | go_size)))) ((first | (go_at_call 16; refine (toFlt_any a0 y0.length cap0 y0 x0 _ (PQ0.out _ (by (repeat' (first | (with_reducible exact Below.refl _ _) | (with_reducible assumption) | (with_reducible refine below_gc ?_ ?_ _) | (with_reducible refine below_gd ?_ _) | (with_reducible refine below_drewN ?_ _) | (with_reducible refine Below.drew ?_) | (with_reducible refine Below.alloc ?_ ?_ _) | (with_reducible refine Below.setCell ?_ ?_ _) | (with_reducible refine below_gw ?_ ?_ _) | (with_reducible refine below_via ?_ ‹Below _ _ _› ?_) | (with_reducible exact Nat.le_refl _) | (with_reducible refine le_gc ?_ _) | (with_reducible refine le_gd ?_ _) | (with_reducible refine le_gw ?_ _) | (with_reducible refine le_alloc ?_ _) | (with_reducible refine le_setCell ?_ _ _) | (with_reducible refine le_drew ?_) | (with_reducible refine le_drewN ?_ _) | go_size)))) (by omega)).mono ?_; rintro r w_ ⟨b_, c_, rfl, o, hb, -⟩; obtain ⟨p_, rfl⟩ := gw_of_below hb; have T0 := Lib.hid (Ints.of_own o); clear o hb; (try simp only [gw_of_drew] at T0); (try simp only [gw_gw] at T0)) | (go_at_call 18; refine (eqFlt_same b6 b_ _ c6 c_ _ _ _ (PX.out _ (by (repeat' (first | (with_reducible exact Below.refl _ _) | (with_reducible assumption) | (with_reducible refine below_gc ?_ ?_ _) | (with_reducible refine below_gd ?_ _) | (with_reducible refine below_drewN ?_ _) | (with_reducible refine Below.drew ?_) | (with_reducible refine Below.alloc ?_ ?_ _) | (with_reducible refine Below.setCell ?_ ?_ _) | (with_reducible refine below_gw ?_ ?_ _) | (with_reducible refine below_via ?_ ‹Below _ _ _› ?_) | (with_reducible exact Nat.le_refl _) | (with_reducible refine le_gc ?_ _) | (with_reducible refine le_gd ?_ _) | (with_reducible refine le_gw ?_ _) | (with_reducible refine le_alloc ?_ _) | (with_reducible refine le_setCell ?_ _ _) | (with_reducible refine le_drew ?_) | (with_reducible refine le_drewN ?_ _) | go_size)))) (by first | (exact T0.out.below (by ((repeat' (first | (with_reducible exact Below.refl _ _) | (with_reducible assumption) | (with_reducible refine below_gc ?_ ?_ _) | (with_reducible refine below_gd ?_ _) | (with_reducible refine below_drewN ?_ _) | (with_reducible refine Below.drew ?_) | (with_reducible refine Below.alloc ?_ ?_ _) | (with_reducible refine Below.setCell ?_ ?_ _) | (with_reducible refine below_gw ?_ ?_ _) | (with_reducible refine below_via ?_ ‹Below _ _ _› ?_) | (with_reducible exact Nat.le_refl _) | (with_reducible refine le_gc ?_ _) | (with_reducible refine le_gd ?_ _) | (with_reducible refine le_gw ?_ _) | (with_reducible refine le_alloc ?_ _) | (with_reducible refine le_setCell ?_ _ _) | (with_reducible refine le_drew ?_) | (with_reducible refine le_drewN ?_ _) | go_size))); done)) | (have hh := T0.out; simp only [gw_gw, gw_of_drew, gw_drew] at hh ⊢; exact hh))).mono ?_; rintro r w_ ⟨rfl, hb⟩; obtain ⟨p9_, rfl⟩ := gw_of_below hb; clear hb)))
        generalize hW : gw w12 _ = w13
        have hb : Below w12.heap.size w12 w13 := by rw [← hW]; (repeat' (first | (with_reducible exact Below.refl _ _) | (with_reducible assumption) | (with_reducible refine below_gc ?_ ?_ _) | (with_reducible refine below_gd ?_ _) | (with_reducible refine below_drewN ?_ _) | (with_reducible refine Below.drew ?_) | (with_reducible refine Below.alloc ?_ ?_ _) | (with_reducible refine Below.setCell ?_ ?_ _) | (with_reducible refine below_gw ?_ ?_ _) | (with_reducible refine below_via ?_ ‹Below _ _ _› ?_) | (with_reducible exact Nat.le_refl _) | (with_reducible refine le_gc ?_ _) | (with_reducible refine le_gd ?_ _) | (with_reducible refine le_gw ?_ _) | (with_reducible refine le_alloc ?_ _) | (with_reducible refine le_setCell ?_ _ _) | (with_reducible refine le_drew ?_) | (with_reducible refine le_drewN ?_ _) | go_size))
        clear hW SS PQ0 PX T0
        clear l0_ x0_ y0_
        clear l1_ x1_ y1_
        clear l2_ x2_ y2_
        clear l3_ x3_ y3_
        clear l4_ x4_ y4_
        clear l5_ x5_ y5_
        have HS_w13 := hb.size
        have O0 := Lib.hid (O0.out.later hb (by omega))
        have O1 := Lib.hid (O1.out.later hb (by omega))
        have O2 := Lib.hid (O2.out.later hb (by omega))
        have O3 := Lib.hid (O3.out.later hb (by omega))
        have BX_aA := Lib.hid (BX_aA.out.below hb)
        have BX_aB := Lib.hid (BX_aB.out.below hb)
        have BX_w0 := Lib.hid (BX_w0.out.below hb)
        have BX_x0 := Lib.hid (BX_x0.out.below hb)
        have BX_x1 := Lib.hid (BX_x1.out.below hb)
        have BX_g0 := Lib.hid (BX_g0.out.below hb)
        have HB := Lib.hid (HB.out.trans (hb.mono (by first | omega | exact Nat.le_refl _)))
        clear hb
        have c_ := BX_aA.out
        obtain ⟨l0_, x0_, y0_⟩ := c_
        have c_ := BX_aB.out
        obtain ⟨l1_, x1_, y1_⟩ := c_
        have c_ := BX_w0.out
        obtain ⟨l2_, x2_, y2_⟩ := c_
        have c_ := BX_x0.out
        obtain ⟨l3_, x3_, y3_⟩ := c_
        have c_ := BX_x1.out
        obtain ⟨l4_, x4_, y4_⟩ := c_
        have c_ := BX_g0.out
        obtain ⟨l5_, x5_, y5_⟩ := c_
        go_wp2_with fail
        clear l0_ x0_ y0_
        clear l1_ x1_ y1_
        clear l2_ x2_ y2_
        clear l3_ x3_ y3_
        clear l4_ x4_ y4_
        clear l5_ x5_ y5_
        have SS : Hid (∀ W, Below w13.heap.size w13 W → W.cell? ⟨w8.heap.size, 0, none⟩ = some (.slice b8 y1.length c8) ∧ W.cell? ⟨w8.heap.size, 1, none⟩ = some (.int .i64 x1) ∧ W.cell? ⟨w.heap.size + 1, 0, none⟩ = some (.slice a1 y1.length cap1) ∧ W.cell? ⟨w.heap.size + 1, 1, none⟩ = some (.int .i64 x1)) := Lib.hid fun W hW => by
          obtain ⟨-, x0_, y0_⟩ := BX_x1.out.below hW
          obtain ⟨-, x1_, y1_⟩ := BX_aB.out.below hW
          exact ⟨x0_, y0_, x1_, y1_⟩
        have PQ0 : Hid (∀ W, Below w13.heap.size w13 W → Ints W a1 y1.length cap1 y1) := Lib.hid fun W hW => (Q1.out.below HB.out).below hW
        have PX : Hid (∀ W, Below w13.heap.size w13 W → Ints W b8 y1.length c8 y1) := Lib.hid fun W hW => (Ints.of_own O2.out.1).below hW
        have c_ := BX_aA.out
        obtain ⟨l0_, x0_, y0_⟩ := c_
        have c_ := BX_aB.out
        obtain ⟨l1_, x1_, y1_⟩ := c_
        have c_ := BX_w0.out
        obtain ⟨l2_, x2_, y2_⟩ := c_
        have c_ := BX_x0.out
        obtain ⟨l3_, x3_, y3_⟩ := c_
        have c_ := BX_x1.out
        obtain ⟨l4_, x4_, y4_⟩ := c_
        have c_ := BX_g0.out
        obtain ⟨l5_, x5_, y5_⟩ := c_
        go_region_held3 (fun W => W.cell? ⟨w8.heap.size, 0, none⟩ = some (.slice b8 y1.length c8) ∧ W.cell? ⟨w8.heap.size, 1, none⟩ = some (.int .i64 x1) ∧ W.cell? ⟨w.heap.size + 1, 0, none⟩ = some (.slice a1 y1.length cap1) ∧ W.cell? ⟨w.heap.size + 1, 1, none⟩ = some (.int .i64 x1)) (exact SS.out _ (by (repeat' (first | (with_reducible exact Below.refl _ _) | (with_reducible assumption) | (with_reducible refine below_gc ?_ ?_ _) | (with_reducible refine below_gd ?_ _) | (with_reducible refine below_drewN ?_ _) | (with_reducible refine Below.drew ?_) | (with_reducible refine Below.alloc ?_ ?_ _) | (with_reducible refine Below.setCell ?_ ?_ _) | (with_reducible refine below_gw ?_ ?_ _) | (with_reducible refine below_via ?_ ‹Below _ _ _› ?_) | (with_reducible exact Nat.le_refl _) | (with_reducible refine le_gc ?_ _) | (with_reducible refine le_gd ?_ _) | (with_reducible refine le_gw ?_ _) | (with_reducible refine le_alloc ?_ _) | (with_reducible refine le_setCell ?_ _ _) | (with_reducible refine le_drew ?_) | (with_reducible refine le_drewN ?_ _) | go_size)))) ((first | (go_at_call 16; refine (toFlt_any a1 y1.length cap1 y1 x1 _ (PQ0.out _ (by (repeat' (first | (with_reducible exact Below.refl _ _) | (with_reducible assumption) | (with_reducible refine below_gc ?_ ?_ _) | (with_reducible refine below_gd ?_ _) | (with_reducible refine below_drewN ?_ _) | (with_reducible refine Below.drew ?_) | (with_reducible refine Below.alloc ?_ ?_ _) | (with_reducible refine Below.setCell ?_ ?_ _) | (with_reducible refine below_gw ?_ ?_ _) | (with_reducible refine below_via ?_ ‹Below _ _ _› ?_) | (with_reducible exact Nat.le_refl _) | (with_reducible refine le_gc ?_ _) | (with_reducible refine le_gd ?_ _) | (with_reducible refine le_gw ?_ _) | (with_reducible refine le_alloc ?_ _) | (with_reducible refine le_setCell ?_ _ _) | (with_reducible refine le_drew ?_) | (with_reducible refine le_drewN ?_ _) | go_size)))) (by omega)).mono ?_; rintro r w_ ⟨b_, c_, rfl, o, hb, -⟩; obtain ⟨p_, rfl⟩ := gw_of_below hb; have T0 := Lib.hid (Ints.of_own o); clear o hb; (try simp only [gw_of_drew] at T0); (try simp only [gw_gw] at T0)) | (go_at_call 18; refine (eqFlt_same b8 b_ _ c8 c_ _ _ _ (PX.out _ (by (repeat' (first | (with_reducible exact Below.refl _ _) | (with_reducible assumption) | (with_reducible refine below_gc ?_ ?_ _) | (with_reducible refine below_gd ?_ _) | (with_reducible refine below_drewN ?_ _) | (with_reducible refine Below.drew ?_) | (with_reducible refine Below.alloc ?_ ?_ _) | (with_reducible refine Below.setCell ?_ ?_ _) | (with_reducible refine below_gw ?_ ?_ _) | (with_reducible refine below_via ?_ ‹Below _ _ _› ?_) | (with_reducible exact Nat.le_refl _) | (with_reducible refine le_gc ?_ _) | (with_reducible refine le_gd ?_ _) | (with_reducible refine le_gw ?_ _) | (with_reducible refine le_alloc ?_ _) | (with_reducible refine le_setCell ?_ _ _) | (with_reducible refine le_drew ?_) | (with_reducible refine le_drewN ?_ _) | go_size)))) (by first | (exact T0.out.below (by ((repeat' (first | (with_reducible exact Below.refl _ _) | (with_reducible assumption) | (with_reducible refine below_gc ?_ ?_ _) | (with_reducible refine below_gd ?_ _) | (with_reducible refine below_drewN ?_ _) | (with_reducible refine Below.drew ?_) | (with_reducible refine Below.alloc ?_ ?_ _) | (with_reducible refine Below.setCell ?_ ?_ _) | (with_reducible refine below_gw ?_ ?_ _) | (with_reducible refine below_via ?_ ‹Below _ _ _› ?_) | (with_reducible exact Nat.le_refl _) | (with_reducible refine le_gc ?_ _) | (with_reducible refine le_gd ?_ _) | (with_reducible refine le_gw ?_ _) | (with_reducible refine le_alloc ?_ _) | (with_reducible refine le_setCell ?_ _ _) | (with_reducible refine le_drew ?_) | (with_reducible refine le_drewN ?_ _) | go_size))); done)) | (have hh := T0.out; simp only [gw_gw, gw_of_drew, gw_drew] at hh ⊢; exact hh))).mono ?_; rintro r w_ ⟨rfl, hb⟩; obtain ⟨p9_, rfl⟩ := gw_of_below hb; clear hb)))
        generalize hW : gw w13 _ = w14
        have hb : Below w13.heap.size w13 w14 := by rw [← hW]; (repeat' (first | (with_reducible exact Below.refl _ _) | (with_reducible assumption) | (with_reducible refine below_gc ?_ ?_ _) | (with_reducible refine below_gd ?_ _) | (with_reducible refine below_drewN ?_ _) | (with_reducible refine Below.drew ?_) | (with_reducible refine Below.alloc ?_ ?_ _) | (with_reducible refine Below.setCell ?_ ?_ _) | (with_reducible refine below_gw ?_ ?_ _) | (with_reducible refine below_via ?_ ‹Below _ _ _› ?_) | (with_reducible exact Nat.le_refl _) | (with_reducible refine le_gc ?_ _) | (with_reducible refine le_gd ?_ _) | (with_reducible refine le_gw ?_ _) | (with_reducible refine le_alloc ?_ _) | (with_reducible refine le_setCell ?_ _ _) | (with_reducible refine le_drew ?_) | (with_reducible refine le_drewN ?_ _) | go_size))
        clear hW SS PQ0 PX T0
        clear l0_ x0_ y0_
        clear l1_ x1_ y1_
        clear l2_ x2_ y2_
        clear l3_ x3_ y3_
        clear l4_ x4_ y4_
        clear l5_ x5_ y5_
        have HS_w14 := hb.size
        have O0 := Lib.hid (O0.out.later hb (by omega))
        have O1 := Lib.hid (O1.out.later hb (by omega))
        have O2 := Lib.hid (O2.out.later hb (by omega))
        have O3 := Lib.hid (O3.out.later hb (by omega))
        have BX_aA := Lib.hid (BX_aA.out.below hb)
        have BX_aB := Lib.hid (BX_aB.out.below hb)
        have BX_w0 := Lib.hid (BX_w0.out.below hb)
        have BX_x0 := Lib.hid (BX_x0.out.below hb)
        have BX_x1 := Lib.hid (BX_x1.out.below hb)
        have BX_g0 := Lib.hid (BX_g0.out.below hb)
        have HB := Lib.hid (HB.out.trans (hb.mono (by first | omega | exact Nat.le_refl _)))
        clear hb
        have c_ := BX_aA.out
        obtain ⟨l0_, x0_, y0_⟩ := c_
        have c_ := BX_aB.out
        obtain ⟨l1_, x1_, y1_⟩ := c_
        have c_ := BX_w0.out
        obtain ⟨l2_, x2_, y2_⟩ := c_
        have c_ := BX_x0.out
        obtain ⟨l3_, x3_, y3_⟩ := c_
        have c_ := BX_x1.out
        obtain ⟨l4_, x4_, y4_⟩ := c_
        have c_ := BX_g0.out
        obtain ⟨l5_, x5_, y5_⟩ := c_
        go_wp2_with fail
        clear l0_ x0_ y0_
        clear l1_ x1_ y1_
        clear l2_ x2_ y2_
        clear l3_ x3_ y3_
        clear l4_ x4_ y4_
        clear l5_ x5_ y5_
        refine (markFlt_any _ _ b6 _ c6 _ _ _ _ rfl O1.out (by omega) (by omega) (by omega)).mono ?_
        rintro r w15 ⟨rfl, o2, ho⟩
        have HS_w15 := ho.size
        have HB := Lib.hid (TurnF.below HB.out ho (by omega) (by omega))
        have O0 := Lib.hid (O0.out.stay (SameIn.of_turnF ho (by omega) (by omega)))
        have O2 := Lib.hid (O2.out.stay (SameIn.of_turnF ho (by omega) (by omega)))
        have O3 := Lib.hid (O3.out.stay (SameIn.of_turnF ho (by omega) (by omega)))
        have BX_aA := Lib.hid (BX_aA.out.turn ho (by omega))
        have BX_aB := Lib.hid (BX_aB.out.turn ho (by omega))
        have BX_w0 := Lib.hid (BX_w0.out.turn ho (by omega))
        have BX_x0 := Lib.hid (BX_x0.out.turn ho (by omega))
        have BX_x1 := Lib.hid (BX_x1.out.turn ho (by omega))
        have BX_g0 := Lib.hid (BX_g0.out.turn ho (by omega))
        have O1 := Lib.hid o2
        clear o2 ho
        have c_ := BX_aA.out
        obtain ⟨l0_, x0_, y0_⟩ := c_
        have c_ := BX_aB.out
        obtain ⟨l1_, x1_, y1_⟩ := c_
        have c_ := BX_w0.out
        obtain ⟨l2_, x2_, y2_⟩ := c_
        have c_ := BX_x0.out
        obtain ⟨l3_, x3_, y3_⟩ := c_
        have c_ := BX_x1.out
        obtain ⟨l4_, x4_, y4_⟩ := c_
        have c_ := BX_g0.out
        obtain ⟨l5_, x5_, y5_⟩ := c_
        go_wp2_with fail
        clear l0_ x0_ y0_
        clear l1_ x1_ y1_
        clear l2_ x2_ y2_
        clear l3_ x3_ y3_
        clear l4_ x4_ y4_
        clear l5_ x5_ y5_
        refine (markFlt_any _ _ b8 _ c8 _ _ _ _ rfl O2.out (by omega) (by omega) (by omega)).mono ?_
        rintro r w16 ⟨rfl, o2, ho⟩
        have HS_w16 := ho.size
        have HB := Lib.hid (TurnF.below HB.out ho (by omega) (by omega))
        have O0 := Lib.hid (O0.out.stay (SameIn.of_turnF ho (by omega) (by omega)))
        have O1 := Lib.hid (O1.out.stay (SameIn.of_turnF ho (by omega) (by omega)))
        have O3 := Lib.hid (O3.out.stay (SameIn.of_turnF ho (by omega) (by omega)))
        have BX_aA := Lib.hid (BX_aA.out.turn ho (by omega))
        have BX_aB := Lib.hid (BX_aB.out.turn ho (by omega))
        have BX_w0 := Lib.hid (BX_w0.out.turn ho (by omega))
        have BX_x0 := Lib.hid (BX_x0.out.turn ho (by omega))
        have BX_x1 := Lib.hid (BX_x1.out.turn ho (by omega))
        have BX_g0 := Lib.hid (BX_g0.out.turn ho (by omega))
        have O2 := Lib.hid o2
        clear o2 ho
        have c_ := BX_aA.out
        obtain ⟨l0_, x0_, y0_⟩ := c_
        have c_ := BX_aB.out
        obtain ⟨l1_, x1_, y1_⟩ := c_
        have c_ := BX_w0.out
        obtain ⟨l2_, x2_, y2_⟩ := c_
        have c_ := BX_x0.out
        obtain ⟨l3_, x3_, y3_⟩ := c_
        have c_ := BX_x1.out
        obtain ⟨l4_, x4_, y4_⟩ := c_
        have c_ := BX_g0.out
        obtain ⟨l5_, x5_, y5_⟩ := c_
        go_wp2_with fail
        clear l0_ x0_ y0_
        clear l1_ x1_ y1_
        clear l2_ x2_ y2_
        clear l3_ x3_ y3_
        clear l4_ x4_ y4_
        clear l5_ x5_ y5_
        refine (eqFlt_same b10 b5 _ c10 c5 _ _ _ (Ints.of_own O3.out.1) (Ints.of_own O0.out.1)).mono ?_
        rintro r w17 ⟨rfl, hb⟩
        have HS_w17 := hb.size
        have O0 := Lib.hid (O0.out.later hb (by omega))
        have O1 := Lib.hid (O1.out.later hb (by omega))
        have O2 := Lib.hid (O2.out.later hb (by omega))
        have O3 := Lib.hid (O3.out.later hb (by omega))
        have BX_aA := Lib.hid (BX_aA.out.below hb)
        have BX_aB := Lib.hid (BX_aB.out.below hb)
        have BX_w0 := Lib.hid (BX_w0.out.below hb)
        have BX_x0 := Lib.hid (BX_x0.out.below hb)
        have BX_x1 := Lib.hid (BX_x1.out.below hb)
        have BX_g0 := Lib.hid (BX_g0.out.below hb)
        have HB := Lib.hid (HB.out.trans (hb.mono (by first | omega | exact Nat.le_refl _)))
        clear hb
        have c_ := BX_aA.out
        obtain ⟨l0_, x0_, y0_⟩ := c_
        have c_ := BX_aB.out
        obtain ⟨l1_, x1_, y1_⟩ := c_
        have c_ := BX_w0.out
        obtain ⟨l2_, x2_, y2_⟩ := c_
        have c_ := BX_x0.out
        obtain ⟨l3_, x3_, y3_⟩ := c_
        have c_ := BX_x1.out
        obtain ⟨l4_, x4_, y4_⟩ := c_
        have c_ := BX_g0.out
        obtain ⟨l5_, x5_, y5_⟩ := c_
        go_wp2_with fail
        clear l0_ x0_ y0_
        clear l1_ x1_ y1_
        clear l2_ x2_ y2_
        clear l3_ x3_ y3_
        clear l4_ x4_ y4_
        clear l5_ x5_ y5_
        refine (markFlt_any _ _ b10 _ c10 _ _ _ _ rfl O3.out (by omega) (by omega) (by omega)).mono ?_
        rintro r w18 ⟨rfl, o2, ho⟩
        have HS_w18 := ho.size
        have HB := Lib.hid (TurnF.below HB.out ho (by omega) (by omega))
        have O0 := Lib.hid (O0.out.stay (SameIn.of_turnF ho (by omega) (by omega)))
        have O1 := Lib.hid (O1.out.stay (SameIn.of_turnF ho (by omega) (by omega)))
        have O2 := Lib.hid (O2.out.stay (SameIn.of_turnF ho (by omega) (by omega)))
        have BX_aA := Lib.hid (BX_aA.out.turn ho (by omega))
        have BX_aB := Lib.hid (BX_aB.out.turn ho (by omega))
        have BX_w0 := Lib.hid (BX_w0.out.turn ho (by omega))
        have BX_x0 := Lib.hid (BX_x0.out.turn ho (by omega))
        have BX_x1 := Lib.hid (BX_x1.out.turn ho (by omega))
        have BX_g0 := Lib.hid (BX_g0.out.turn ho (by omega))
        have O3 := Lib.hid o2
        clear o2 ho
        have c_ := BX_aA.out
        obtain ⟨l0_, x0_, y0_⟩ := c_
        have c_ := BX_aB.out
        obtain ⟨l1_, x1_, y1_⟩ := c_
        have c_ := BX_w0.out
        obtain ⟨l2_, x2_, y2_⟩ := c_
        have c_ := BX_x0.out
        obtain ⟨l3_, x3_, y3_⟩ := c_
        have c_ := BX_x1.out
        obtain ⟨l4_, x4_, y4_⟩ := c_
        have c_ := BX_g0.out
        obtain ⟨l5_, x5_, y5_⟩ := c_
        go_wp2_with fail
        clear l0_ x0_ y0_
        clear l1_ x1_ y1_
        clear l2_ x2_ y2_
        clear l3_ x3_ y3_
        clear l4_ x4_ y4_
        clear l5_ x5_ y5_
        refine (heldFlt_marks b10 _ c10 _ _ _ (O3.out.intsAt (marks_length _ _)) (by omega) (by omega) (by omega)).mono ?_
        rintro r w19 ⟨rfl, hb⟩
        have HS_w19 := hb.size
        have O0 := Lib.hid (O0.out.later hb (by omega))
        have O1 := Lib.hid (O1.out.later hb (by omega))
        have O2 := Lib.hid (O2.out.later hb (by omega))
        have O3 := Lib.hid (O3.out.later hb (by omega))
        have BX_aA := Lib.hid (BX_aA.out.below hb)
        have BX_aB := Lib.hid (BX_aB.out.below hb)
        have BX_w0 := Lib.hid (BX_w0.out.below hb)
        have BX_x0 := Lib.hid (BX_x0.out.below hb)
        have BX_x1 := Lib.hid (BX_x1.out.below hb)
        have BX_g0 := Lib.hid (BX_g0.out.below hb)
        have HB := Lib.hid (HB.out.trans (hb.mono (by first | omega | exact Nat.le_refl _)))
        clear hb
        have c_ := BX_aA.out
        obtain ⟨l0_, x0_, y0_⟩ := c_
        have c_ := BX_aB.out
        obtain ⟨l1_, x1_, y1_⟩ := c_
        have c_ := BX_w0.out
        obtain ⟨l2_, x2_, y2_⟩ := c_
        have c_ := BX_x0.out
        obtain ⟨l3_, x3_, y3_⟩ := c_
        have c_ := BX_x1.out
        obtain ⟨l4_, x4_, y4_⟩ := c_
        have c_ := BX_g0.out
        obtain ⟨l5_, x5_, y5_⟩ := c_
        go_wp2_with fail
        clear l0_ x0_ y0_
        clear l1_ x1_ y1_
        clear l2_ x2_ y2_
        clear l3_ x3_ y3_
        clear l4_ x4_ y4_
        clear l5_ x5_ y5_
        have SS : Hid (∀ W, Below w19.heap.size w19 W → W.cell? ⟨w.heap.size, 0, none⟩ = some (.slice a0 y0.length cap0) ∧ W.cell? ⟨w.heap.size, 1, none⟩ = some (.int .i64 x0) ∧ W.cell? ⟨w.heap.size + 1, 0, none⟩ = some (.slice a1 y1.length cap1) ∧ W.cell? ⟨w.heap.size + 1, 1, none⟩ = some (.int .i64 x1)) := Lib.hid fun W hW => by
          obtain ⟨-, x0_, y0_⟩ := BX_aA.out.below hW
          obtain ⟨-, x1_, y1_⟩ := BX_aB.out.below hW
          exact ⟨x0_, y0_, x1_, y1_⟩
        have TF0 := Lib.hid (fun (W : World) (hW : Below w19.heap.size w19 W) => toFlt_any a0 y0.length cap0 y0 x0 W ((Q0.out.below HB.out).below hW) (by omega))
        have TF1 := Lib.hid (fun (W : World) (hW : Below w19.heap.size w19 W) => toFlt_any a1 y1.length cap1 y1 x1 W ((Q1.out.below HB.out).below hW) (by omega))
        have c_ := BX_aA.out
        obtain ⟨l0_, x0_, y0_⟩ := c_
        have c_ := BX_aB.out
        obtain ⟨l1_, x1_, y1_⟩ := c_
        have c_ := BX_w0.out
        obtain ⟨l2_, x2_, y2_⟩ := c_
        have c_ := BX_x0.out
        obtain ⟨l3_, x3_, y3_⟩ := c_
        have c_ := BX_x1.out
        obtain ⟨l4_, x4_, y4_⟩ := c_
        have c_ := BX_g0.out
        obtain ⟨l5_, x5_, y5_⟩ := c_
        apply later_key
        case main =>
          intro KEY
          go_region_held3 (fun W => W.cell? ⟨w.heap.size, 0, none⟩ = some (.slice a0 y0.length cap0) ∧ W.cell? ⟨w.heap.size, 1, none⟩ = some (.int .i64 x0) ∧ W.cell? ⟨w.heap.size + 1, 0, none⟩ = some (.slice a1 y1.length cap1) ∧ W.cell? ⟨w.heap.size + 1, 1, none⟩ = some (.int .i64 x1)) (exact SS.out _ (by (repeat' (first | (with_reducible exact Below.refl _ _) | (with_reducible assumption) | (with_reducible refine below_gc ?_ ?_ _) | (with_reducible refine below_gd ?_ _) | (with_reducible refine below_drewN ?_ _) | (with_reducible refine Below.drew ?_) | (with_reducible refine Below.alloc ?_ ?_ _) | (with_reducible refine Below.setCell ?_ ?_ _) | (with_reducible refine below_gw ?_ ?_ _) | (with_reducible refine below_via ?_ ‹Below _ _ _› ?_) | (with_reducible exact Nat.le_refl _) | (with_reducible refine le_gc ?_ _) | (with_reducible refine le_gd ?_ _) | (with_reducible refine le_gw ?_ _) | (with_reducible refine le_alloc ?_ _) | (with_reducible refine le_setCell ?_ _ _) | (with_reducible refine le_drew ?_) | (with_reducible refine le_drewN ?_ _) | go_size)))) ((first | (go_at_call 16; with_reducible refine (TF0.out _ (by ((repeat' (first | (with_reducible exact Below.refl _ _) | (with_reducible assumption) | (with_reducible refine below_gc ?_ ?_ _) | (with_reducible refine below_gd ?_ _) | (with_reducible refine below_drewN ?_ _) | (with_reducible refine Below.drew ?_) | (with_reducible refine Below.alloc ?_ ?_ _) | (with_reducible refine Below.setCell ?_ ?_ _) | (with_reducible refine below_gw ?_ ?_ _) | (with_reducible refine below_via ?_ ‹Below _ _ _› ?_) | (with_reducible exact Nat.le_refl _) | (with_reducible refine le_gc ?_ _) | (with_reducible refine le_gd ?_ _) | (with_reducible refine le_gw ?_ _) | (with_reducible refine le_alloc ?_ _) | (with_reducible refine le_setCell ?_ _ _) | (with_reducible refine le_drew ?_) | (with_reducible refine le_drewN ?_ _) | go_size))); done)).mono ?_; intro r w_ hh_; unfold RetF at hh_; obtain ⟨b0_, c0_, rfl, o, hb, -⟩ := hh_; obtain ⟨p0_, rfl⟩ := gw_of_below hb; have T0 := Lib.hid (Ints.of_own o); clear o hb; (try simp only [gw_of_drew] at T0); (try simp only [gw_gw] at T0)) | (go_at_call 16; with_reducible refine (TF1.out _ (by ((repeat' (first | (with_reducible exact Below.refl _ _) | (with_reducible assumption) | (with_reducible refine below_gc ?_ ?_ _) | (with_reducible refine below_gd ?_ _) | (with_reducible refine below_drewN ?_ _) | (with_reducible refine Below.drew ?_) | (with_reducible refine Below.alloc ?_ ?_ _) | (with_reducible refine Below.setCell ?_ ?_ _) | (with_reducible refine below_gw ?_ ?_ _) | (with_reducible refine below_via ?_ ‹Below _ _ _› ?_) | (with_reducible exact Nat.le_refl _) | (with_reducible refine le_gc ?_ _) | (with_reducible refine le_gd ?_ _) | (with_reducible refine le_gw ?_ _) | (with_reducible refine le_alloc ?_ _) | (with_reducible refine le_setCell ?_ _ _) | (with_reducible refine le_drew ?_) | (with_reducible refine le_drewN ?_ _) | go_size))); done)).mono ?_; intro r w_ hh_; unfold RetF at hh_; obtain ⟨b1_, c1_, rfl, o, hb, -⟩ := hh_; obtain ⟨p1_, rfl⟩ := gw_of_below hb; have T1 := Lib.hid (Ints.of_own o); clear o hb; (try simp only [gw_of_drew] at T1); (try simp only [gw_gw] at T1)) | (go_at_call 32; refine (iSubFloats b0_ _ c0_ y0 x0 b1_ _ c1_ y1 x1 _ (by first | (exact T0.out.below (by ((repeat' (first | (with_reducible exact Below.refl _ _) | (with_reducible assumption) | (with_reducible refine below_gc ?_ ?_ _) | (with_reducible refine below_gd ?_ _) | (with_reducible refine below_drewN ?_ _) | (with_reducible refine Below.drew ?_) | (with_reducible refine Below.alloc ?_ ?_ _) | (with_reducible refine Below.setCell ?_ ?_ _) | (with_reducible refine below_gw ?_ ?_ _) | (with_reducible refine below_via ?_ ‹Below _ _ _› ?_) | (with_reducible exact Nat.le_refl _) | (with_reducible refine le_gc ?_ _) | (with_reducible refine le_gd ?_ _) | (with_reducible refine le_gw ?_ _) | (with_reducible refine le_alloc ?_ _) | (with_reducible refine le_setCell ?_ _ _) | (with_reducible refine le_drew ?_) | (with_reducible refine le_drewN ?_ _) | go_size))); done)) | (have hh := T0.out; simp only [gw_gw, gw_of_drew, gw_drew] at hh ⊢; exact hh)) (by first | (exact T1.out.below (by ((repeat' (first | (with_reducible exact Below.refl _ _) | (with_reducible assumption) | (with_reducible refine below_gc ?_ ?_ _) | (with_reducible refine below_gd ?_ _) | (with_reducible refine below_drewN ?_ _) | (with_reducible refine Below.drew ?_) | (with_reducible refine Below.alloc ?_ ?_ _) | (with_reducible refine Below.setCell ?_ ?_ _) | (with_reducible refine below_gw ?_ ?_ _) | (with_reducible refine below_via ?_ ‹Below _ _ _› ?_) | (with_reducible exact Nat.le_refl _) | (with_reducible refine le_gc ?_ _) | (with_reducible refine le_gd ?_ _) | (with_reducible refine le_gw ?_ _) | (with_reducible refine le_alloc ?_ _) | (with_reducible refine le_setCell ?_ _ _) | (with_reducible refine le_drew ?_) | (with_reducible refine le_drewN ?_ _) | go_size))); done)) | (have hh := T1.out; simp only [gw_gw, gw_of_drew, gw_drew] at hh ⊢; exact hh))).mono ?_; rintro r w_ ⟨b9_, c9_, rfl, o, hb, -⟩; obtain ⟨p9_, rfl⟩ := gw_of_below hb; have T9 := Lib.hid o; clear o hb; (try simp only [gw_of_drew] at T9); (try simp only [gw_gw] at T9))))
          all_goals (rename_i hH_; clear hH_; first
            | (generalize hW : World.alloc (gw w19 _) _ = W_; have LD := laid_after (a := w19) hW T9.out (by (repeat' (first | (with_reducible exact Below.refl _ _) | (with_reducible assumption) | (with_reducible refine below_gc ?_ ?_ _) | (with_reducible refine below_gd ?_ _) | (with_reducible refine below_drewN ?_ _) | (with_reducible refine Below.drew ?_) | (with_reducible refine Below.alloc ?_ ?_ _) | (with_reducible refine Below.setCell ?_ ?_ _) | (with_reducible refine below_gw ?_ ?_ _) | (with_reducible refine below_via ?_ ‹Below _ _ _› ?_) | (with_reducible exact Nat.le_refl _) | (with_reducible refine le_gc ?_ _) | (with_reducible refine le_gd ?_ _) | (with_reducible refine le_gw ?_ _) | (with_reducible refine le_alloc ?_ _) | (with_reducible refine le_setCell ?_ _ _) | (with_reducible refine le_drew ?_) | (with_reducible refine le_drewN ?_ _) | go_size))) (by first | exact le_gc (Nat.le_refl _) _ | exact le_gw (Nat.le_refl _) _ | exact le_gw (by simp only [World.size_alloc]; omega) _ | (simp only [World.size_alloc]; omega)) (by first | exact le_gc (Nat.le_refl _) _ | exact le_gw (Nat.le_refl _) _ | exact le_gw (by simp only [World.size_alloc]; omega) _ | (simp only [World.size_alloc]; omega)); clear hW T0 T1 T9; rw [gw_size] at LD; revert LD; generalize w19.heap.size + Array.size _ = pb)
            | (generalize hW : gw (World.alloc (gw w19 _) _) _ = W_; have LD := laid_before (a := w19) hW T9.out (by (repeat' (first | (with_reducible exact Below.refl _ _) | (with_reducible assumption) | (with_reducible refine below_gc ?_ ?_ _) | (with_reducible refine below_gd ?_ _) | (with_reducible refine below_drewN ?_ _) | (with_reducible refine Below.drew ?_) | (with_reducible refine Below.alloc ?_ ?_ _) | (with_reducible refine Below.setCell ?_ ?_ _) | (with_reducible refine below_gw ?_ ?_ _) | (with_reducible refine below_via ?_ ‹Below _ _ _› ?_) | (with_reducible exact Nat.le_refl _) | (with_reducible refine le_gc ?_ _) | (with_reducible refine le_gd ?_ _) | (with_reducible refine le_gw ?_ _) | (with_reducible refine le_alloc ?_ _) | (with_reducible refine le_setCell ?_ _ _) | (with_reducible refine le_drew ?_) | (with_reducible refine le_drewN ?_ _) | go_size))) (by first | exact le_gc (Nat.le_refl _) _ | exact le_gw (Nat.le_refl _) _ | exact le_gw (by simp only [World.size_alloc]; omega) _ | (simp only [World.size_alloc]; omega)) (by first | exact le_gc (Nat.le_refl _) _ | exact le_gw (Nat.le_refl _) _ | exact le_gw (by simp only [World.size_alloc]; omega) _ | (simp only [World.size_alloc]; omega)); clear hW T0 T1 T9; rw [gw_size] at LD; revert LD; generalize w19.heap.size + Array.size _ = pb)
            | (generalize hW : gw (World.alloc w19 _) _ = W_; have LD := laid_before (a := w19) hW T9.out (Below.refl _ _) (by first | exact le_gc (Nat.le_refl _) _ | exact le_gw (Nat.le_refl _) _ | exact le_gw (by simp only [World.size_alloc]; omega) _ | (simp only [World.size_alloc]; omega)) (by first | exact le_gc (Nat.le_refl _) _ | exact le_gw (Nat.le_refl _) _ | exact le_gw (by simp only [World.size_alloc]; omega) _ | (simp only [World.size_alloc]; omega)); clear hW T0 T1 T9; revert LD; generalize w19.heap.size = pb))
          all_goals (revert b0_ c0_ b1_ c1_ b9_ c9_ W_ pb; exact KEY.out)
        case pf =>
          intro b0_ c0_ b1_ c1_ b20 c20 w20 pb20 LD
          obtain ⟨kb20, ke20, bx, o, hb, hq201, hq202, hq203, hq204, hq205⟩ := LD
          clear SS TF0 TF1
          clear l0_ x0_ y0_
          clear l1_ x1_ y1_
          clear l2_ x2_ y2_
          clear l3_ x3_ y3_
          clear l4_ x4_ y4_
          clear l5_ x5_ y5_
          have BX_h0 := Lib.hid bx
          have hp_w20 := bx.1
          have O4 := Lib.hid o
          clear bx o
          have HS_w20 := hb.size
          have O0 := Lib.hid (O0.out.later hb (by omega))
          have O1 := Lib.hid (O1.out.later hb (by omega))
          have O2 := Lib.hid (O2.out.later hb (by omega))
          have O3 := Lib.hid (O3.out.later hb (by omega))
          have BX_aA := Lib.hid (BX_aA.out.below hb)
          have BX_aB := Lib.hid (BX_aB.out.below hb)
          have BX_w0 := Lib.hid (BX_w0.out.below hb)
          have BX_x0 := Lib.hid (BX_x0.out.below hb)
          have BX_x1 := Lib.hid (BX_x1.out.below hb)
          have BX_g0 := Lib.hid (BX_g0.out.below hb)
          have HB := Lib.hid (HB.out.trans (hb.mono (by first | omega | exact Nat.le_refl _)))
          clear hb
          have c_ := BX_aA.out
          obtain ⟨l0_, x0_, y0_⟩ := c_
          have c_ := BX_aB.out
          obtain ⟨l1_, x1_, y1_⟩ := c_
          have c_ := BX_w0.out
          obtain ⟨l2_, x2_, y2_⟩ := c_
          have c_ := BX_x0.out
          obtain ⟨l3_, x3_, y3_⟩ := c_
          have c_ := BX_x1.out
          obtain ⟨l4_, x4_, y4_⟩ := c_
          have c_ := BX_g0.out
          obtain ⟨l5_, x5_, y5_⟩ := c_
          have c_ := BX_h0.out
          obtain ⟨l6_, x6_, y6_⟩ := c_
          go_wp2_with fail
          clear l0_ x0_ y0_
          clear l1_ x1_ y1_
          clear l2_ x2_ y2_
          clear l3_ x3_ y3_
          clear l4_ x4_ y4_
          clear l5_ x5_ y5_
          clear l6_ x6_ y6_
          refine (eqFlt_same b20 b5 _ c20 c5 _ _ _ (Ints.of_own O4.out.1) (Ints.of_own O0.out.1)).mono ?_
          rintro r w21 ⟨rfl, hb⟩
          have HS_w21 := hb.size
          have O0 := Lib.hid (O0.out.later hb (by omega))
          have O1 := Lib.hid (O1.out.later hb (by omega))
          have O2 := Lib.hid (O2.out.later hb (by omega))
          have O3 := Lib.hid (O3.out.later hb (by omega))
          have O4 := Lib.hid (O4.out.later hb (by omega))
          have BX_aA := Lib.hid (BX_aA.out.below hb)
          have BX_aB := Lib.hid (BX_aB.out.below hb)
          have BX_w0 := Lib.hid (BX_w0.out.below hb)
          have BX_x0 := Lib.hid (BX_x0.out.below hb)
          have BX_x1 := Lib.hid (BX_x1.out.below hb)
          have BX_g0 := Lib.hid (BX_g0.out.below hb)
          have BX_h0 := Lib.hid (BX_h0.out.below hb)
          have HB := Lib.hid (HB.out.trans (hb.mono (by first | omega | exact Nat.le_refl _)))
          clear hb
          have c_ := BX_aA.out
          obtain ⟨l0_, x0_, y0_⟩ := c_
          have c_ := BX_aB.out
          obtain ⟨l1_, x1_, y1_⟩ := c_
          have c_ := BX_w0.out
          obtain ⟨l2_, x2_, y2_⟩ := c_
          have c_ := BX_x0.out
          obtain ⟨l3_, x3_, y3_⟩ := c_
          have c_ := BX_x1.out
          obtain ⟨l4_, x4_, y4_⟩ := c_
          have c_ := BX_g0.out
          obtain ⟨l5_, x5_, y5_⟩ := c_
          have c_ := BX_h0.out
          obtain ⟨l6_, x6_, y6_⟩ := c_
          go_wp2_with fail
          clear l0_ x0_ y0_
          clear l1_ x1_ y1_
          clear l2_ x2_ y2_
          clear l3_ x3_ y3_
          clear l4_ x4_ y4_
          clear l5_ x5_ y5_
          clear l6_ x6_ y6_
          refine (heldFlt_marks b10 _ c10 _ _ _ (O3.out.intsAt (marks_length _ _)) (by omega) (by omega) (by omega)).mono ?_
          rintro r w22 ⟨rfl, hb⟩
          have HS_w22 := hb.size
          have O0 := Lib.hid (O0.out.later hb (by omega))
          have O1 := Lib.hid (O1.out.later hb (by omega))
          have O2 := Lib.hid (O2.out.later hb (by omega))
          have O3 := Lib.hid (O3.out.later hb (by omega))
          have O4 := Lib.hid (O4.out.later hb (by omega))
          have BX_aA := Lib.hid (BX_aA.out.below hb)
          have BX_aB := Lib.hid (BX_aB.out.below hb)
          have BX_w0 := Lib.hid (BX_w0.out.below hb)
          have BX_x0 := Lib.hid (BX_x0.out.below hb)
          have BX_x1 := Lib.hid (BX_x1.out.below hb)
          have BX_g0 := Lib.hid (BX_g0.out.below hb)
          have BX_h0 := Lib.hid (BX_h0.out.below hb)
          have HB := Lib.hid (HB.out.trans (hb.mono (by first | omega | exact Nat.le_refl _)))
          clear hb
          have c_ := BX_aA.out
          obtain ⟨l0_, x0_, y0_⟩ := c_
          have c_ := BX_aB.out
          obtain ⟨l1_, x1_, y1_⟩ := c_
          have c_ := BX_w0.out
          obtain ⟨l2_, x2_, y2_⟩ := c_
          have c_ := BX_x0.out
          obtain ⟨l3_, x3_, y3_⟩ := c_
          have c_ := BX_x1.out
          obtain ⟨l4_, x4_, y4_⟩ := c_
          have c_ := BX_g0.out
          obtain ⟨l5_, x5_, y5_⟩ := c_
          have c_ := BX_h0.out
          obtain ⟨l6_, x6_, y6_⟩ := c_
          go_wp2
          go_ret
          exact ⟨rfl, HB.out⟩
end Go.Proofs.Ytkphbnejnilehaa

/- The model's machine: numbers, names, programs and machines that are valid. -/
import Derived.Test.YtcphnfhpidhnmaaDoorMRow
import Derived.Test.YtcphnfhpidhnmaaDoorMMath
import Derived.Test.YtcphnfhpidhnmaaDoorWS
namespace Go.Proofs.YtcphnfhpidhnmaaDoor
set_option maxRecDepth 20000
open Go.RowKit
theorem sCell (n : Int) (w : World) : Calls Tryd.prog 17 #[.int .i64 n] w fun e w' => e = .returned (.bool (Tm.inB n (-9841) 9841)) ∧ w = w' := by
  have SI := Lib.hid (fun w => sIn n (-9841) 9841 w)
  go_enter Tryd.func17, Tryd.ntmps17
  go_wp2_with fail
  refine (SI.out _).mono ?_
  rintro e w' ⟨rfl, rfl⟩
  go_wp2
  go_ret
  exact ⟨rfl, rfl⟩
set_option maxHeartbeats 8000000 in
theorem sIsCode (a : Option Addr) (n cap : Nat) (L : List (Nat → Int)) (w : World) (h : OpR w a n cap L) : Calls Tryd.prog 6 #[.slice a n cap] w fun e w' => e = .returned (.bool (Tm.codeOk L)) ∧ Below w.heap.size w w' := by
  have H := Lib.hid h
  obtain rfl : L.length = n := h.1
  have hc1 := h.2.1
  have hc2 := h.2.2.1
  unfold maxLen at hc2
  clear h
  have SI := Lib.hid (fun w => sIn (L.length : Int) 1 80 w)
  cases hl : Tm.inB (L.length : Int) 1 80 with
  | false =>
    rw [hl] at SI
    rw [Tm.codeOk_len (fun h' => by rw [(Tm.inB_iff _ _ _).2 (by omega)] at hl; cases hl)]
    clear hl
    go_enter Tryd.func6, Tryd.ntmps6
    go_wp2_with fail
    refine (SI.out _).mono ?_
    rintro e w' ⟨rfl, rfl⟩
    go_wp2
    go_ret
    exact ⟨rfl, by (repeat' (first | (with_reducible exact Below.refl _ _) | (with_reducible assumption) | (with_reducible refine below_drewN ?_ _) | (with_reducible refine Below.drew ?_) | (with_reducible refine Below.alloc ?_ ?_ _) | (with_reducible refine Below.setCell ?_ ?_ _) | (with_reducible refine below_gw ?_ ?_ _) | (with_reducible refine below_via ?_ ‹Below _ _ _› ?_) | (with_reducible exact Nat.le_refl _) | (with_reducible refine le_gw ?_ _) | (with_reducible refine le_alloc ?_ _) | (with_reducible refine le_setCell ?_ _ _) | (with_reducible refine le_drew ?_) | (with_reducible refine le_drewN ?_ _) | go_size))⟩
  | true =>
    rw [hl] at SI
    have hl' := (Tm.inB_iff _ _ _).1 hl
    obtain ⟨l1, l2⟩ := hl'
    clear hl
    go_enter Tryd.func6, Tryd.ntmps6
    go_wp2_with fail
    refine (SI.out _).mono ?_
    rintro e w' ⟨rfl, rfl⟩
    go_wp2
    go_loopw [14] (fun i wr => ∃ j : Nat, j ≤ L.length ∧ i = .int .i64 j ∧ Hid (∀ q, q < j → Tm.opOk L.length (L.getD q Tm.g0) = true) ∧ Below w.heap.size w wr) (fun i _ => L.length - (intOf i).toNat)
    case atStart => exact ⟨0, by omega, rfl, Lib.hid (fun q hq => by omega), Below.refl _ _⟩
    case round =>
      obtain ⟨j, hj, rfl, GK, hb⟩ := hrel
      by_cases hlt : j < L.length
      · obtain ⟨-, -, -, y⟩ := H.out.below hb
        rcases y with h0 | ⟨bb, oo, rfl, hbl, hc⟩
        · omega
        obtain ⟨g, hg, g1⟩ := OpR.op hc hlt
        have GG := Lib.hid hg
        obtain ⟨p0, p1, p2, p3⟩ := g1
        clear hg hc
        have hs := hb.size
        have NO : Hid (Tm.opOk L.length g = false → false = Tm.codeOk L) := Lib.hid fun e => (Tm.codeOk_no hlt (by rw [← GG.out]; exact e)).symm
        have OK : Hid (Tm.opOk L.length g = true → ∀ q, q < j + 1 → Tm.opOk L.length (L.getD q Tm.g0) = true) := Lib.hid fun e q hq => by
          by_cases e' : q = j
          · subst e'; rw [← GG.out]; exact e
          · exact GK.out q (by omega)
        obtain ⟨x0, hx0⟩ : ∃ x, x = g 0 := ⟨_, rfl⟩
        obtain ⟨x1, hx1⟩ : ∃ x, x = g 1 := ⟨_, rfl⟩
        obtain ⟨x2, hx2⟩ : ∃ x, x = g 2 := ⟨_, rfl⟩
        obtain ⟨x3, hx3⟩ : ∃ x, x = g 3 := ⟨_, rfl⟩
        have OP : Hid (Tm.opOk L.length g = (if x0 = 1 then Tm.inB x1 (-9841) 9841 && (decide (x2 = 0) && decide (x3 = 0)) else if x0 = 10 then Tm.inB x1 (-9) 9 && (decide (x2 = 0) && decide (x3 = 0)) else if x0 = 13 then Tm.inB x1 0 L.length && (decide (x2 = 0) && decide (x3 = 0)) else if x0 = 14 then Tm.inB x1 0 L.length && (Tm.inB x2 0 L.length && Tm.inB x3 0 L.length) else Tm.inB x0 1 15 && (decide (x1 = 0) && (decide (x2 = 0) && decide (x3 = 0))))) := Lib.hid (by rw [hx0, hx1, hx2, hx3]; rfl)
        rw [← hx0] at p0
        rw [← hx1] at p1
        rw [← hx2] at p2
        rw [← hx3] at p3
        clear hx0 hx1 hx2 hx3 GK GG
        by_cases d2 : x2 = 0
        · subst d2
          go_wp2_with (first | (go_at_call 16; refine (sIn _ _ _ _).mono ?_; rintro e w1 ⟨rfl, rfl⟩) | (go_at_call 17; refine (sCell _ _).mono ?_; rintro e w1 ⟨rfl, rfl⟩))
          all_goals first
            | (go_ret; exact ⟨ret_bool (NO.out (by rw [OP.out]; first | (simp [*]; done) | (simp_all; done) | grind)), by (repeat' (first | (with_reducible exact Below.refl _ _) | (with_reducible assumption) | (with_reducible refine below_drewN ?_ _) | (with_reducible refine Below.drew ?_) | (with_reducible refine Below.alloc ?_ ?_ _) | (with_reducible refine Below.setCell ?_ ?_ _) | (with_reducible refine below_gw ?_ ?_ _) | (with_reducible refine below_via ?_ ‹Below _ _ _› ?_) | (with_reducible exact Nat.le_refl _) | (with_reducible refine le_gw ?_ _) | (with_reducible refine le_alloc ?_ _) | (with_reducible refine le_setCell ?_ _ _) | (with_reducible refine le_drew ?_) | (with_reducible refine le_drewN ?_ _) | go_size))⟩)
            | (have OK2 := Lib.hid (OK.out (by rw [OP.out]; first | (simp [*]; done) | (simp_all; done) | grind)); exact ⟨⟨j + 1, by omega, by go_num, OK2, by (repeat' (first | (with_reducible exact Below.refl _ _) | (with_reducible assumption) | (with_reducible refine below_drewN ?_ _) | (with_reducible refine Below.drew ?_) | (with_reducible refine Below.alloc ?_ ?_ _) | (with_reducible refine Below.setCell ?_ ?_ _) | (with_reducible refine below_gw ?_ ?_ _) | (with_reducible refine below_via ?_ ‹Below _ _ _› ?_) | (with_reducible exact Nat.le_refl _) | (with_reducible refine le_gw ?_ _) | (with_reducible refine le_alloc ?_ _) | (with_reducible refine le_setCell ?_ _ _) | (with_reducible refine le_drew ?_) | (with_reducible refine le_drewN ?_ _) | go_size))⟩, by simp [intOf]; omega⟩)
        · have d2' : (x2 == 0) = false := by simpa using d2
          go_wp2_with (first | (go_at_call 16; refine (sIn _ _ _ _).mono ?_; rintro e w1 ⟨rfl, rfl⟩) | (go_at_call 17; refine (sCell _ _).mono ?_; rintro e w1 ⟨rfl, rfl⟩))
          all_goals first
            | (go_ret; exact ⟨ret_bool (NO.out (by rw [OP.out]; first | (simp [*]; done) | (simp_all; done) | grind)), by (repeat' (first | (with_reducible exact Below.refl _ _) | (with_reducible assumption) | (with_reducible refine below_drewN ?_ _) | (with_reducible refine Below.drew ?_) | (with_reducible refine Below.alloc ?_ ?_ _) | (with_reducible refine Below.setCell ?_ ?_ _) | (with_reducible refine below_gw ?_ ?_ _) | (with_reducible refine below_via ?_ ‹Below _ _ _› ?_) | (with_reducible exact Nat.le_refl _) | (with_reducible refine le_gw ?_ _) | (with_reducible refine le_alloc ?_ _) | (with_reducible refine le_setCell ?_ _ _) | (with_reducible refine le_drew ?_) | (with_reducible refine le_drewN ?_ _) | go_size))⟩)
            | (have OK2 := Lib.hid (OK.out (by rw [OP.out]; first | (simp [*]; done) | (simp_all; done) | grind)); exact ⟨⟨j + 1, by omega, by go_num, OK2, by (repeat' (first | (with_reducible exact Below.refl _ _) | (with_reducible assumption) | (with_reducible refine below_drewN ?_ _) | (with_reducible refine Below.drew ?_) | (with_reducible refine Below.alloc ?_ ?_ _) | (with_reducible refine Below.setCell ?_ ?_ _) | (with_reducible refine below_gw ?_ ?_ _) | (with_reducible refine below_via ?_ ‹Below _ _ _› ?_) | (with_reducible exact Nat.le_refl _) | (with_reducible refine le_gw ?_ _) | (with_reducible refine le_alloc ?_ _) | (with_reducible refine le_setCell ?_ _ _) | (with_reducible refine le_drew ?_) | (with_reducible refine le_drewN ?_ _) | go_size))⟩, by simp [intOf]; omega⟩)
      · obtain rfl : j = L.length := by omega
        have CO := Lib.hid (Tm.codeOk_of ⟨by omega, by omega⟩ GK.out)
        go_wp2
        go_ret
        exact ⟨ret_bool CO.out.symm, hb⟩
end Go.Proofs.YtcphnfhpidhnmaaDoor

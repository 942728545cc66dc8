/- The program's test that numbers lie below a bound. The program's spans: numbers that lie outside. slices.Equal of integers. -/
import Derived.Test.YteklgngooflhlaaGMath
import Derived.Test.YteklgngooflhlaaRow
import Derived.Test.YteklgngooflhlaaMath
namespace Go.Proofs.Yteklgngooflhlaa
set_option maxRecDepth 20000
open Go.RowKit
theorem iAreBefore (e : Int) (a : Option Addr) (n cap : Nat) (xs : List Int) (w : World) (h : Ints w a n cap xs) : Calls Try.prog 81 #[.int .i64 e, .slice a n cap] w fun r w' => r = .returned (.bool (Tm.linesOk e xs)) ∧ w = w' := by
  obtain ⟨x1, x2, x3, x4⟩ := h
  subst x1
  unfold maxLen at x3
  go_enter Try.func81, Try.ntmps81
  go_wp2
  go_loop [9] (fun i => ∃ k : Nat, k ≤ xs.length ∧ i = .int .i64 k ∧ Hid (∀ q, q < k → 0 ≤ xs.getD q 0 ∧ xs.getD q 0 < e)) (fun i => xs.length - (intOf i).toNat)
  case atStart => exact ⟨0, by omega, rfl, Lib.hid (fun q hq => by omega)⟩
  case round =>
    obtain ⟨k, hk, rfl, GK⟩ := hrel
    by_cases hlt : k < xs.length
    · rcases x4 with h0 | ⟨b, o, rfl, hbl, hc⟩
      · omega
      have c1 := hc k hlt
      obtain ⟨x, hx⟩ : ∃ x, x = xs.getD k 0 := ⟨_, rfl⟩
      rw [← hx] at c1
      have XX := Lib.hid hx
      clear hc hx
      by_cases c : 0 ≤ x ∧ x < e
      · obtain ⟨c0, c2⟩ := c
        have GK2 : Hid (∀ q, q < k + 1 → 0 ≤ xs.getD q 0 ∧ xs.getD q 0 < e) := Lib.hid fun q hq => by
          by_cases e : q = k
          · subst e; rw [← XX.out]; omega
          · exact GK.out q (by omega)
        clear GK
        go_wp2
        go_round
        case rel => exact ⟨k + 1, by omega, by go_num, GK2⟩
        case measure => simp [intOf]; omega
      · have NO : Hid (false = Tm.linesOk e xs) := Lib.hid (by rw [Tm.linesOk_no hlt (by rw [← XX.out]; exact c)])
        rcases Int.lt_or_le x 0 with c0 | c0
        · clear c
          go_wp2
          go_ret
          exact ⟨ret_bool NO.out, rfl⟩
        · have c2 : e ≤ x := by omega
          clear c
          go_wp2
          go_ret
          exact ⟨ret_bool NO.out, rfl⟩
    · obtain rfl : k = xs.length := by omega
      go_wp2
      go_ret
      exact ⟨ret_bool (by rw [Tm.linesOk_of GK.out]), rfl⟩
namespace Tm
/-- Some number is not from lo to hi. -/
def outs (lo hi : Int) (xs : List Int) : Bool := xs.any fun x => !inB x lo hi
theorem outs_no {lo hi : Int} {xs : List Int} (h : ∀ q, q < xs.length → inB (xs.getD q 0) lo hi = true) : outs lo hi xs = false := by
  rw [outs, List.any_eq_false]
  intro x hx
  obtain ⟨i, hi, rfl⟩ := List.getElem_of_mem hx
  have := h i hi
  rw [List.getD_eq_getElem?_getD, List.getElem?_eq_getElem hi] at this
  simp only [Option.getD_some] at this
  rw [this]; simp
theorem outs_yes {lo hi : Int} {xs : List Int} {q : Nat} (hq : q < xs.length) (h : inB (xs.getD q 0) lo hi = false) : outs lo hi xs = true := by
  rw [outs, List.any_eq_true]
  rw [List.getD_eq_getElem?_getD, List.getElem?_eq_getElem hq] at h
  simp only [Option.getD_some] at h
  exact ⟨_, List.getElem_mem hq, by rw [h]; rfl⟩
end Tm
theorem iLacks (lo hi n : Int) (w : World) : Calls Try.prog 79 #[.agg #[.int .i64 lo, .int .i64 hi], .int .i64 n] w fun e w' => e = .returned (.bool (!Tm.inB n lo hi)) ∧ Below w.heap.size w w' := by
  by_cases c : n < lo
  · have e : Tm.inB n lo hi = false := by rw [Bool.eq_false_iff]; intro h; have := (Tm.inB_iff _ _ _).1 h; omega
    rw [e]
    go_enter Try.func79, Try.ntmps79
    go_wp2
    go_ret
    exact ⟨rfl, by (repeat' (first | (with_reducible exact Below.refl _ _) | (with_reducible assumption) | (with_reducible refine below_drewN ?_ _) | (with_reducible refine Below.drew ?_) | (with_reducible refine Below.alloc ?_ ?_ _) | (with_reducible refine Below.setCell ?_ ?_ _) | (with_reducible refine below_gw ?_ ?_ _) | (with_reducible refine below_via ?_ ‹Below _ _ _› ?_) | (with_reducible exact Nat.le_refl _) | (with_reducible refine le_gw ?_ _) | (with_reducible refine le_alloc ?_ _) | (with_reducible refine le_setCell ?_ _ _) | (with_reducible refine le_drew ?_) | (with_reducible refine le_drewN ?_ _) | go_size))⟩
  · by_cases c2 : hi < n
    · have e : Tm.inB n lo hi = false := by rw [Bool.eq_false_iff]; intro h; have := (Tm.inB_iff _ _ _).1 h; omega
      rw [e]
      clear e
      go_enter Try.func79, Try.ntmps79
      go_wp2
      go_ret
      exact ⟨rfl, by (repeat' (first | (with_reducible exact Below.refl _ _) | (with_reducible assumption) | (with_reducible refine below_drewN ?_ _) | (with_reducible refine Below.drew ?_) | (with_reducible refine Below.alloc ?_ ?_ _) | (with_reducible refine Below.setCell ?_ ?_ _) | (with_reducible refine below_gw ?_ ?_ _) | (with_reducible refine below_via ?_ ‹Below _ _ _› ?_) | (with_reducible exact Nat.le_refl _) | (with_reducible refine le_gw ?_ _) | (with_reducible refine le_alloc ?_ _) | (with_reducible refine le_setCell ?_ _ _) | (with_reducible refine le_drew ?_) | (with_reducible refine le_drewN ?_ _) | go_size))⟩
    · have e : Tm.inB n lo hi = true := (Tm.inB_iff _ _ _).2 ⟨by omega, by omega⟩
      rw [e]
      clear e
      go_enter Try.func79, Try.ntmps79
      go_wp2
      go_ret
      exact ⟨rfl, by (repeat' (first | (with_reducible exact Below.refl _ _) | (with_reducible assumption) | (with_reducible refine below_drewN ?_ _) | (with_reducible refine Below.drew ?_) | (with_reducible refine Below.alloc ?_ ?_ _) | (with_reducible refine Below.setCell ?_ ?_ _) | (with_reducible refine below_gw ?_ ?_ _) | (with_reducible refine below_via ?_ ‹Below _ _ _› ?_) | (with_reducible exact Nat.le_refl _) | (with_reducible refine le_gw ?_ _) | (with_reducible refine le_alloc ?_ _) | (with_reducible refine le_setCell ?_ _ _) | (with_reducible refine le_drew ?_) | (with_reducible refine le_drewN ?_ _) | go_size))⟩
/-- The method of a span as a value. -/
abbrev lacksV (lo hi : Int) : Value := .func (.func 79) #[.agg #[.int .i64 lo, .int .i64 hi]] #[]
theorem iIndexLacks (lo hi : Int) (a : Option Addr) (n cap : Nat) (xs : List Int) (w : World) (h : Ints w a n cap xs) : Calls Try.prog 102 #[.slice a n cap, lacksV lo hi] w fun e w' => ∃ r : Int, e = .returned (.int .i64 r) ∧ (decide (0 ≤ r) = Tm.outs lo hi xs) ∧ Below w.heap.size w w' := by
  have H := Lib.hid h
  obtain rfl : xs.length = n := h.1
  have hx := h.2.1
  have hy := h.2.2.1
  unfold maxLen at hy
  clear h
  go_enter Try.func102, Try.ntmps102
  go_wp2
  go_loopw [8] (fun i wr => ∃ k : Nat, k ≤ xs.length ∧ i = .int .i64 k ∧ Hid (∀ q, q < k → Tm.inB (xs.getD q 0) lo hi = true) ∧ Below w.heap.size w wr) (fun i _ => xs.length - (intOf i).toNat)
  case atStart => exact ⟨0, by omega, rfl, Lib.hid (fun q hq => by omega), Below.refl _ _⟩
  case round =>
    obtain ⟨k, hk, rfl, GK, hb⟩ := hrel
    by_cases hlt : k < xs.length
    · obtain ⟨-, -, -, y⟩ := H.out.below hb
      rcases y with h0 | ⟨b, o, rfl, hbl, hc⟩
      · omega
      have c1 := hc k hlt
      obtain ⟨x, hx'⟩ : ∃ x, x = xs.getD k 0 := ⟨_, rfl⟩
      rw [← hx'] at c1
      have XX := Lib.hid hx'
      clear hc hx'
      have LK := Lib.hid (fun w => iLacks lo hi x w)
      cases hT : Tm.inB x lo hi with
      | true =>
        rw [hT] at LK
        have GK2 : Hid (∀ q, q < k + 1 → Tm.inB (xs.getD q 0) lo hi = true) := Lib.hid fun q hq => by
          by_cases e : q = k
          · subst e; rw [← XX.out]; exact hT
          · exact GK.out q (by omega)
        clear GK hT
        go_wp2_with fail
        refine (LK.out _).mono ?_
        rintro r w1 ⟨rfl, hb1⟩
        have hb2 : Below w.heap.size w w1 := hb.trans (hb1.mono hb.size)
        clear hb hb1
        go_wp2
        exact ⟨⟨k + 1, by omega, by go_num, GK2, hb2⟩, by simp [intOf]; omega⟩
      | false =>
        rw [hT] at LK
        have NO : Hid (Tm.outs lo hi xs = true) := Lib.hid (Tm.outs_yes hlt (by rw [← XX.out]; exact hT))
        clear hT
        go_wp2_with fail
        refine (LK.out _).mono ?_
        rintro r w1 ⟨rfl, hb1⟩
        have hb2 : Below w.heap.size w w1 := hb.trans (hb1.mono hb.size)
        clear hb hb1
        go_wp2
        go_ret
        exact ⟨(k : Int), rfl, by rw [NO.out]; simp, hb2⟩
    · obtain rfl : k = xs.length := by omega
      go_wp2
      go_ret
      exact ⟨-1, rfl, by rw [Tm.outs_no GK.out]; rfl, hb⟩
theorem iHasLacks (lo hi : Int) (a : Option Addr) (n cap : Nat) (xs : List Int) (w : World) (h : Ints w a n cap xs) : Calls Try.prog 80 #[.slice a n cap, lacksV lo hi] w fun e w' => e = .returned (.bool (Tm.outs lo hi xs)) ∧ Below w.heap.size w w' := by
  have H := Lib.hid (iIndexLacks lo hi a n cap xs w h)
  clear h
  go_enter Try.func80, Try.ntmps80
  go_wp2_with fail
  refine H.out.mono ?_
  rintro e w1 ⟨r, rfl, hr, hb⟩
  go_wp2
  go_ret
  exact ⟨by first | rfl | exact ret_bool hr, hb⟩
theorem iEqualS (a : Option Addr) (n cap : Nat) (xs : List Int) (a' : Option Addr) (n' cap' : Nat) (ys : List Int) (w : World) (h : Ints w a n cap xs) (h' : Ints w a' n' cap' ys) : Calls Try.prog 87 #[.slice a n cap, .slice a' n' cap'] w fun e w' => e = .returned (.bool (decide (xs = ys))) ∧ Below w.heap.size w w' := by
  obtain ⟨x1, x2, x3, x4⟩ := h
  obtain ⟨y1, y2, y3, y4⟩ := h'
  subst x1
  subst y1
  unfold maxLen at x3 y3
  by_cases hl : xs.length = ys.length
  · have hl2 : ((xs.length : Int) != (ys.length : Int)) = false := by rw [hl]; simp
    have HL := Lib.hid hl
    have hl3 : ys.length ≤ xs.length := by omega
    have hl4 : xs.length ≤ ys.length := by omega
    clear hl
    go_enter Try.func87, Try.ntmps87
    go_wp2
    go_loopw [13] (fun i wr => ∃ k : Nat, k ≤ xs.length ∧ i = .int .i64 k ∧ Hid (∀ q, q < k → xs.getD q 0 = ys.getD q 0) ∧ ∃ d, wr = w.drewN d) (fun i _ => xs.length - (intOf i).toNat)
    case atStart => exact ⟨0, by omega, rfl, Lib.hid (fun q hq => by omega), 0, rfl⟩
    case round =>
      obtain ⟨k, hk, rfl, AG, dd, rfl⟩ := hrel
      by_cases hlt : k < xs.length
      · rcases x4 with h0 | ⟨b, o, rfl, hbl, hc⟩
        · omega
        rcases y4 with h0 | ⟨b', o', rfl, hbl', hc'⟩
        · omega
        have c1 := hc k hlt
        have c2 := hc' k (by omega)
        obtain ⟨x, hx⟩ : ∃ x, x = xs.getD k 0 := ⟨_, rfl⟩
        obtain ⟨y, hy⟩ : ∃ y, y = ys.getD k 0 := ⟨_, rfl⟩
        rw [← hx] at c1
        rw [← hy] at c2
        have lt2 : k < ys.length := by omega
        have XY : Hid (x = xs.getD k 0 ∧ y = ys.getD k 0) := Lib.hid ⟨hx, hy⟩
        clear hc hc' hx hy
        by_cases exy : x = y
        · have EQ := Lib.hid exy
          have ne : (x != y) = false := by simpa using exy
          have AG2 : Hid (∀ q, q < k + 1 → xs.getD q 0 = ys.getD q 0) := Lib.hid fun q hq => by
            by_cases e : q = k
            · subst e; rw [← XY.out.1, ← XY.out.2, EQ.out]
            · exact AG.out q (by omega)
          clear AG exy
          go_wp2
          go_quiet (fail)
          go_wp2
          exact ⟨⟨k + 1, by omega, by go_num, AG2, dd + nq, rfl⟩, by simp [intOf]; omega⟩
        · have NE : Hid (decide (xs = ys) = false) := Lib.hid (by rw [decide_eq_false_iff_not]; intro e; apply exy; rw [XY.out.1, XY.out.2, e])
          have ne : (x != y) = true := by simpa using exy
          clear exy
          go_wp2
          go_quiet (fail)
          go_wp2
          go_ret
          exact ⟨ret_bool NE.out.symm, by (repeat' (first | (with_reducible exact Below.refl _ _) | (with_reducible assumption) | (with_reducible refine below_drewN ?_ _) | (with_reducible refine Below.drew ?_) | (with_reducible refine Below.alloc ?_ ?_ _) | (with_reducible refine Below.setCell ?_ ?_ _) | (with_reducible refine below_gw ?_ ?_ _) | (with_reducible refine below_via ?_ ‹Below _ _ _› ?_) | (with_reducible exact Nat.le_refl _) | (with_reducible refine le_gw ?_ _) | (with_reducible refine le_alloc ?_ _) | (with_reducible refine le_setCell ?_ _ _) | (with_reducible refine le_drew ?_) | (with_reducible refine le_drewN ?_ _) | go_size))⟩
      · obtain rfl : k = xs.length := by omega
        have EQ : Hid (decide (xs = ys) = true) := Lib.hid (by
          rw [decide_eq_true_eq]
          apply List.ext_getElem?
          intro j
          by_cases c : j < xs.length
          · have := AG.out j c
            rw [List.getD_eq_getElem?_getD, List.getD_eq_getElem?_getD, List.getElem?_eq_getElem c, List.getElem?_eq_getElem (by omega)] at this
            rw [List.getElem?_eq_getElem c, List.getElem?_eq_getElem (by omega)]
            simpa using this
          · rw [List.getElem?_eq_none (by omega), List.getElem?_eq_none (by omega)])
        go_wp2
        go_ret
        exact ⟨ret_bool EQ.out.symm, by (repeat' (first | (with_reducible exact Below.refl _ _) | (with_reducible assumption) | (with_reducible refine below_drewN ?_ _) | (with_reducible refine Below.drew ?_) | (with_reducible refine Below.alloc ?_ ?_ _) | (with_reducible refine Below.setCell ?_ ?_ _) | (with_reducible refine below_gw ?_ ?_ _) | (with_reducible refine below_via ?_ ‹Below _ _ _› ?_) | (with_reducible exact Nat.le_refl _) | (with_reducible refine le_gw ?_ _) | (with_reducible refine le_alloc ?_ _) | (with_reducible refine le_setCell ?_ _ _) | (with_reducible refine le_drew ?_) | (with_reducible refine le_drewN ?_ _) | go_size))⟩
  · have NE : Hid (decide (xs = ys) = false) := Lib.hid (by rw [decide_eq_false_iff_not]; intro e; apply hl; rw [e])
    have hl2 : ((xs.length : Int) != (ys.length : Int)) = true := by rw [bne_iff_ne]; omega
    clear hl
    go_enter Try.func87, Try.ntmps87
    go_wp2
    go_ret
    exact ⟨ret_bool NE.out.symm, by (repeat' (first | (with_reducible exact Below.refl _ _) | (with_reducible assumption) | (with_reducible refine below_drewN ?_ _) | (with_reducible refine Below.drew ?_) | (with_reducible refine Below.alloc ?_ ?_ _) | (with_reducible refine Below.setCell ?_ ?_ _) | (with_reducible refine below_gw ?_ ?_ _) | (with_reducible refine below_via ?_ ‹Below _ _ _› ?_) | (with_reducible exact Nat.le_refl _) | (with_reducible refine le_gw ?_ _) | (with_reducible refine le_alloc ?_ _) | (with_reducible refine le_setCell ?_ _ _) | (with_reducible refine le_drew ?_) | (with_reducible refine le_drewN ?_ _) | go_size))⟩
end Go.Proofs.Yteklgngooflhlaa

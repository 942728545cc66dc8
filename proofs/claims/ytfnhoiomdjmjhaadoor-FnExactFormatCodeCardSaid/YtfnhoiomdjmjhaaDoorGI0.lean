/- The program's test that numbers lie below a bound. The program's spans: numbers that lie outside. slices.Equal of integers. -/
import Derived.Test.YtfnhoiomdjmjhaaDoorGMath
import Derived.Test.YtfnhoiomdjmjhaaDoorRow
import Derived.Test.YtfnhoiomdjmjhaaDoorMath
namespace Go.Proofs.YtfnhoiomdjmjhaaDoor
set_option maxRecDepth 20000
open Go.RowKit
namespace Tm
/-- Some number is not from lo to hi. -/
def outs (lo hi : Int) (xs : List Int) : Bool := xs.any fun x => !inB x lo hi
theorem outs_no {lo hi : Int} {xs : List Int} (h : ∀ q, q < xs.length → inB (xs.getD q 0) lo hi = true) : outs lo hi xs = false := by
  rw [outs, List.any_eq_false]
  intro x hx
  obtain ⟨i, hi, rfl⟩ := List.getElem_of_mem hx
  have := h i hi
  rw [List.getD_eq_getElem?_getD, List.getElem?_eq_getElem hi] at this
  simp only [Option.getD_some] at this
  rw [this]; simp
theorem outs_yes {lo hi : Int} {xs : List Int} {q : Nat} (hq : q < xs.length) (h : inB (xs.getD q 0) lo hi = false) : outs lo hi xs = true := by
  rw [outs, List.any_eq_true]
  rw [List.getD_eq_getElem?_getD, List.getElem?_eq_getElem hq] at h
  simp only [Option.getD_some] at h
  exact ⟨_, List.getElem_mem hq, by rw [h]; rfl⟩
end Tm
theorem iLacks (lo hi n : Int) (w : World) : Calls Tryd.prog 40 #[.agg #[.int .i64 lo, .int .i64 hi], .int .i64 n] w fun e w' => e = .returned (.bool (!Tm.inB n lo hi)) ∧ Below w.heap.size w w' := by
  by_cases c : n < lo
  · have e : Tm.inB n lo hi = false := by rw [Bool.eq_false_iff]; intro h; have := (Tm.inB_iff _ _ _).1 h; omega
    rw [e]
    go_enter Tryd.func40, Tryd.ntmps40
    go_wp2
    go_ret
    exact ⟨rfl, by (repeat' (first | (with_reducible exact Below.refl _ _) | (with_reducible assumption) | (with_reducible refine below_drewN ?_ _) | (with_reducible refine Below.drew ?_) | (with_reducible refine Below.alloc ?_ ?_ _) | (with_reducible refine Below.setCell ?_ ?_ _) | (with_reducible refine below_gw ?_ ?_ _) | (with_reducible refine below_via ?_ ‹Below _ _ _› ?_) | (with_reducible exact Nat.le_refl _) | (with_reducible refine le_gw ?_ _) | (with_reducible refine le_alloc ?_ _) | (with_reducible refine le_setCell ?_ _ _) | (with_reducible refine le_drew ?_) | (with_reducible refine le_drewN ?_ _) | go_size))⟩
  · by_cases c2 : hi < n
    · have e : Tm.inB n lo hi = false := by rw [Bool.eq_false_iff]; intro h; have := (Tm.inB_iff _ _ _).1 h; omega
      rw [e]
      clear e
      go_enter Tryd.func40, Tryd.ntmps40
      go_wp2
      go_ret
      exact ⟨rfl, by (repeat' (first | (with_reducible exact Below.refl _ _) | (with_reducible assumption) | (with_reducible refine below_drewN ?_ _) | (with_reducible refine Below.drew ?_) | (with_reducible refine Below.alloc ?_ ?_ _) | (with_reducible refine Below.setCell ?_ ?_ _) | (with_reducible refine below_gw ?_ ?_ _) | (with_reducible refine below_via ?_ ‹Below _ _ _› ?_) | (with_reducible exact Nat.le_refl _) | (with_reducible refine le_gw ?_ _) | (with_reducible refine le_alloc ?_ _) | (with_reducible refine le_setCell ?_ _ _) | (with_reducible refine le_drew ?_) | (with_reducible refine le_drewN ?_ _) | go_size))⟩
    · have e : Tm.inB n lo hi = true := (Tm.inB_iff _ _ _).2 ⟨by omega, by omega⟩
      rw [e]
      clear e
      go_enter Tryd.func40, Tryd.ntmps40
      go_wp2
      go_ret
      exact ⟨rfl, by (repeat' (first | (with_reducible exact Below.refl _ _) | (with_reducible assumption) | (with_reducible refine below_drewN ?_ _) | (with_reducible refine Below.drew ?_) | (with_reducible refine Below.alloc ?_ ?_ _) | (with_reducible refine Below.setCell ?_ ?_ _) | (with_reducible refine below_gw ?_ ?_ _) | (with_reducible refine below_via ?_ ‹Below _ _ _› ?_) | (with_reducible exact Nat.le_refl _) | (with_reducible refine le_gw ?_ _) | (with_reducible refine le_alloc ?_ _) | (with_reducible refine le_setCell ?_ _ _) | (with_reducible refine le_drew ?_) | (with_reducible refine le_drewN ?_ _) | go_size))⟩
/-- The method of a span as a value. -/
abbrev lacksV (lo hi : Int) : Value := .func (.func 40) #[.agg #[.int .i64 lo, .int .i64 hi]] #[]
theorem iIndexLacks (lo hi : Int) (a : Option Addr) (n cap : Nat) (xs : List Int) (w : World) (h : Ints w a n cap xs) : Calls Tryd.prog 60 #[.slice a n cap, lacksV lo hi] w fun e w' => ∃ r : Int, e = .returned (.int .i64 r) ∧ (decide (0 ≤ r) = Tm.outs lo hi xs) ∧ Below w.heap.size w w' := by
  have H := Lib.hid h
  obtain rfl : xs.length = n := h.1
  have hx := h.2.1
  have hy := h.2.2.1
  unfold maxLen at hy
  clear h
  go_enter Tryd.func60, Tryd.ntmps60
  go_wp2
  go_loopw [8] (fun i wr => ∃ k : Nat, k ≤ xs.length ∧ i = .int .i64 k ∧ Hid (∀ q, q < k → Tm.inB (xs.getD q 0) lo hi = true) ∧ Below w.heap.size w wr) (fun i _ => xs.length - (intOf i).toNat)
  case atStart => exact ⟨0, by omega, rfl, Lib.hid (fun q hq => by omega), Below.refl _ _⟩
  case round =>
    obtain ⟨k, hk, rfl, GK, hb⟩ := hrel
    by_cases hlt : k < xs.length
    · obtain ⟨-, -, -, y⟩ := H.out.below hb
      rcases y with h0 | ⟨b, o, rfl, hbl, hc⟩
      · omega
      have c1 := hc k hlt
      obtain ⟨x, hx'⟩ : ∃ x, x = xs.getD k 0 := ⟨_, rfl⟩
      rw [← hx'] at c1
      have XX := Lib.hid hx'
      clear hc hx'
      have LK := Lib.hid (fun w => iLacks lo hi x w)
      cases hT : Tm.inB x lo hi with
      | true =>
        rw [hT] at LK
        have GK2 : Hid (∀ q, q < k + 1 → Tm.inB (xs.getD q 0) lo hi = true) := Lib.hid fun q hq => by
          by_cases e : q = k
          · subst e; rw [← XX.out]; exact hT
          · exact GK.out q (by omega)
        clear GK hT
        go_wp2_with fail
        refine (LK.out _).mono ?_
        rintro r w1 ⟨rfl, hb1⟩
        have hb2 : Below w.heap.size w w1 := hb.trans (hb1.mono hb.size)
        clear hb hb1
        go_wp2
        exact ⟨⟨k + 1, by omega, by go_num, GK2, hb2⟩, by simp [intOf]; omega⟩
      | false =>
        rw [hT] at LK
        have NO : Hid (Tm.outs lo hi xs = true) := Lib.hid (Tm.outs_yes hlt (by rw [← XX.out]; exact hT))
        clear hT
        go_wp2_with fail
        refine (LK.out _).mono ?_
        rintro r w1 ⟨rfl, hb1⟩
        have hb2 : Below w.heap.size w w1 := hb.trans (hb1.mono hb.size)
        clear hb hb1
        go_wp2
        go_ret
        exact ⟨(k : Int), rfl, by rw [NO.out]; simp, hb2⟩
    · obtain rfl : k = xs.length := by omega
      go_wp2
      go_ret
      exact ⟨-1, rfl, by rw [Tm.outs_no GK.out]; rfl, hb⟩
theorem iHasLacks (lo hi : Int) (a : Option Addr) (n cap : Nat) (xs : List Int) (w : World) (h : Ints w a n cap xs) : Calls Tryd.prog 42 #[.slice a n cap, lacksV lo hi] w fun e w' => e = .returned (.bool (Tm.outs lo hi xs)) ∧ Below w.heap.size w w' := by
  have H := Lib.hid (iIndexLacks lo hi a n cap xs w h)
  clear h
  go_enter Tryd.func42, Tryd.ntmps42
  go_wp2_with fail
  refine H.out.mono ?_
  rintro e w1 ⟨r, rfl, hr, hb⟩
  go_wp2
  go_ret
  exact ⟨by first | rfl | exact ret_bool hr, hb⟩
end Go.Proofs.YtfnhoiomdjmjhaaDoor

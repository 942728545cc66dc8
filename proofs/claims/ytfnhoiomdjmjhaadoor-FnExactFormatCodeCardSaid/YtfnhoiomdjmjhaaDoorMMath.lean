/- Plain facts on the machine: no program, no world. An operation is its four numbers: 0 its code, 1 to 3 what it names. -/
import Derived.Test.YtfnhoiomdjmjhaaDoorGMath
namespace Go.Proofs.YtfnhoiomdjmjhaaDoor
set_option maxRecDepth 20000
open Go.RowKit
namespace Tm
/-- The remainder of nine trits. -/
def wrapC (n : Int) : Int := if 9841 < n.tmod 19683 then n.tmod 19683 - 19683 else if n.tmod 19683 < -9841 then n.tmod 19683 + 19683 else n.tmod 19683
theorem tmod_cell (n : Int) : -19683 < n.tmod 19683 ∧ n.tmod 19683 < 19683 := by
  have := Int.tmod_lt_of_pos n (show (0 : Int) < 19683 by omega)
  have := Int.lt_tmod_of_pos n (show (0 : Int) < 19683 by omega)
  omega
theorem wrapC_bd (n : Int) : -9841 ≤ wrapC n ∧ wrapC n ≤ 9841 := by
  have := tmod_cell n
  unfold wrapC
  split
  · omega
  · split <;> omega
def isCell (n : Int) : Bool := inB n (-9841) 9841
theorem isCell_iff (n : Int) : isCell n = true ↔ -9841 ≤ n ∧ n ≤ 9841 := inB_iff _ _ _
/-- How many numbers an operation names. -/
def namN (c : Int) : Nat := if c = 14 then 3 else if c = 1 ∨ c = 10 ∨ c = 13 then 1 else 0
/-- What an operation of a program of n operations may be. -/
def opOk (n : Int) (x : Nat → Int) : Bool :=
  if x 0 = 1 then inB (x 1) (-9841) 9841 && (decide (x 2 = 0) && decide (x 3 = 0))
  else if x 0 = 10 then inB (x 1) (-9) 9 && (decide (x 2 = 0) && decide (x 3 = 0))
  else if x 0 = 13 then inB (x 1) 0 n && (decide (x 2 = 0) && decide (x 3 = 0))
  else if x 0 = 14 then inB (x 1) 0 n && (inB (x 2) 0 n && inB (x 3) 0 n)
  else inB (x 0) 1 15 && (decide (x 1 = 0) && (decide (x 2 = 0) && decide (x 3 = 0)))
theorem opOk_iff (n : Int) (x : Nat → Int) : opOk n x = true ↔ 1 ≤ x 0 ∧ x 0 ≤ 15 ∧ (x 0 ≠ 14 → x 2 = 0 ∧ x 3 = 0) ∧ (x 0 = 1 → -9841 ≤ x 1 ∧ x 1 ≤ 9841) ∧ (x 0 = 10 → -9 ≤ x 1 ∧ x 1 ≤ 9) ∧ (x 0 = 13 → 0 ≤ x 1 ∧ x 1 ≤ n) ∧ (x 0 = 14 → (0 ≤ x 1 ∧ x 1 ≤ n) ∧ (0 ≤ x 2 ∧ x 2 ≤ n) ∧ 0 ≤ x 3 ∧ x 3 ≤ n) ∧ (x 0 ≠ 1 → x 0 ≠ 10 → x 0 ≠ 13 → x 0 ≠ 14 → x 1 = 0) := by
  unfold opOk
  split
  · simp only [Bool.and_eq_true, inB_iff, decide_eq_true_eq]; omega
  · split
    · simp only [Bool.and_eq_true, inB_iff, decide_eq_true_eq]; omega
    · split
      · simp only [Bool.and_eq_true, inB_iff, decide_eq_true_eq]; omega
      · split
        · simp only [Bool.and_eq_true, inB_iff]; omega
        · simp only [Bool.and_eq_true, inB_iff, decide_eq_true_eq]; omega
def codeOk (L : List (Nat → Int)) : Bool := inB (L.length : Int) 1 80 && L.all (opOk L.length)
theorem codeOk_iff (L : List (Nat → Int)) : codeOk L = true ↔ (1 ≤ L.length ∧ L.length ≤ 80) ∧ ∀ i, i < L.length → opOk L.length (L.getD i g0) = true := by
  rw [codeOk, Bool.and_eq_true, inB_iff, List.all_eq_true]
  constructor
  · rintro ⟨h1, h2⟩
    refine ⟨by omega, fun i hi => h2 _ ?_⟩
    rw [List.getD_eq_getElem?_getD, List.getElem?_eq_getElem hi]; exact List.getElem_mem hi
  · rintro ⟨h1, h2⟩
    refine ⟨by omega, fun x hx => ?_⟩
    obtain ⟨i, hi, rfl⟩ := List.getElem_of_mem hx
    have := h2 i hi
    rw [List.getD_eq_getElem?_getD, List.getElem?_eq_getElem hi] at this
    exact this
theorem codeOk_no {L : List (Nat → Int)} {i : Nat} (hi : i < L.length) (h : opOk L.length (L.getD i g0) = false) : codeOk L = false := by
  cases e : codeOk L with
  | false => rfl
  | true => rw [((codeOk_iff L).1 e).2 i hi] at h; cases h
theorem codeOk_len {L : List (Nat → Int)} (h : ¬ (1 ≤ L.length ∧ L.length ≤ 80)) : codeOk L = false := by
  cases e : codeOk L with
  | false => rfl
  | true => exact absurd ((codeOk_iff L).1 e).1 h
theorem codeOk_of {L : List (Nat → Int)} (h : 1 ≤ L.length ∧ L.length ≤ 80) (h2 : ∀ i, i < L.length → opOk L.length (L.getD i g0) = true) : codeOk L = true := (codeOk_iff L).2 ⟨h, h2⟩
/-- What a machine for a program may be. -/
def cellsOk (s : List Int) : Bool := s.all isCell
theorem cellsOk_iff (s : List Int) : cellsOk s = true ↔ ∀ i, i < s.length → -9841 ≤ s.getD i 0 ∧ s.getD i 0 ≤ 9841 := by
  rw [cellsOk, List.all_eq_true]
  constructor
  · intro h i hi
    exact (isCell_iff _).1 (h _ (getD_mem hi))
  · intro h x hx
    obtain ⟨i, hi, rfl⟩ := List.getElem_of_mem hx
    have := h i hi
    rw [List.getD_eq_getElem?_getD, List.getElem?_eq_getElem hi] at this
    exact (isCell_iff _).2 this
theorem cellsOk_no {s : List Int} {i : Nat} (hi : i < s.length) (h : ¬ (-9841 ≤ s.getD i 0 ∧ s.getD i 0 ≤ 9841)) : cellsOk s = false := by
  cases e : cellsOk s with
  | false => rfl
  | true => exact absurd ((cellsOk_iff s).1 e i hi) h
def machOk (L : List (Nat → Int)) (k : Int) (s o : List Int) : Bool := codeOk L && (inB k 0 L.length && (decide (s.length ≤ 20) && (decide (o.length = 27) && (cellsOk s && cellsOk o))))
theorem machOk_iff (L : List (Nat → Int)) (k : Int) (s o : List Int) : machOk L k s o = true ↔ codeOk L = true ∧ (0 ≤ k ∧ k ≤ L.length) ∧ s.length ≤ 20 ∧ o.length = 27 ∧ cellsOk s = true ∧ cellsOk o = true := by
  simp only [machOk, Bool.and_eq_true, inB_iff, decide_eq_true_eq]
/-! ### Names. -/
def opName (c : Int) : ByteArray :=
  if c = 1 then ⟨#[112, 117, 115, 104]⟩ else if c = 2 then ⟨#[97, 100, 100]⟩ else if c = 3 then ⟨#[115, 117, 98]⟩ else if c = 4 then ⟨#[109, 117, 108]⟩
  else if c = 5 then ⟨#[110, 101, 103, 97, 116, 101]⟩ else if c = 6 then ⟨#[115, 105, 103, 110]⟩ else if c = 7 then ⟨#[99, 111, 112, 121]⟩ else if c = 8 then ⟨#[115, 119, 97, 112]⟩
  else if c = 9 then ⟨#[100, 114, 111, 112]⟩ else if c = 10 then ⟨#[115, 104, 105, 102, 116]⟩ else if c = 11 then ⟨#[108, 111, 97, 100]⟩ else if c = 12 then ⟨#[115, 116, 111, 114, 101]⟩
  else if c = 13 then ⟨#[106, 117, 109, 112]⟩ else if c = 14 then ⟨#[98, 114, 97, 110, 99, 104]⟩ else if c = 15 then ⟨#[104, 97, 108, 116]⟩ else ⟨#[]⟩
theorem opName_no {c : Int} (h : ¬ (1 ≤ c ∧ c ≤ 15)) : opName c = ⟨#[]⟩ := by
  unfold opName
  repeat (rw [if_neg (by omega)])
end Tm
end Go.Proofs.YtfnhoiomdjmjhaaDoor

/- Plain facts on circuits: no program, no world. A gate is its eleven numbers: 0 to 8 its table, 9 and 10 its lines. -/
import Derived.Test.YtjfeiekdkefpeaaTab3
namespace Go.Proofs.Ytjfeiekdkefpeaa
set_option maxRecDepth 20000
open Go.RowKit
namespace Tm
/-- No gate. -/
def g0 : Nat → Int := fun _ => 0
def gateOk (n : Int) (g : Nat → Int) : Bool := isTab g && inB (g 9) 0 (n - 1) && inB (g 10) 0 (n - 1)
/-- The gates from n on are valid. -/
def gatesOk : Int → List (Nat → Int) → Bool
  | _, [] => true
  | n, g :: L => gateOk n g && gatesOk (n + 1) L
def linesOk (n : Int) (o : List Int) : Bool := o.all fun x => inB x 0 (n - 1)
def isCirc (k : Int) (L : List (Nat → Int)) (o : List Int) : Bool := inB k 0 8 && decide (L.length ≤ 60) && decide (o.length ≤ 60) && gatesOk (3 + k) L && linesOk (3 + k + (L.length : Int)) o
theorem gatesOk_at {n : Int} {L : List (Nat → Int)} (h : gatesOk n L = true) : ∀ i, i < L.length → gateOk (n + (i : Int)) (L.getD i g0) = true := by
  induction L generalizing n with
  | nil => intro i hi; simp at hi
  | cons g L ih =>
    rw [gatesOk, Bool.and_eq_true] at h
    intro i hi
    match i with
    | 0 => simpa using h.1
    | i + 1 =>
      have := ih h.2 i (by simpa using hi)
      rw [show n + ((i + 1 : Nat) : Int) = n + 1 + (i : Int) by omega]
      simpa using this
theorem gatesOk_of {n : Int} {L : List (Nat → Int)} (h : ∀ i, i < L.length → gateOk (n + (i : Int)) (L.getD i g0) = true) : gatesOk n L = true := by
  induction L generalizing n with
  | nil => rfl
  | cons g L ih =>
    rw [gatesOk, Bool.and_eq_true]
    refine ⟨by simpa using h 0 (by simp), ih fun i hi => ?_⟩
    have := h (i + 1) (by simpa using hi)
    rw [show n + ((i + 1 : Nat) : Int) = n + 1 + (i : Int) by omega] at this
    simpa using this
theorem gatesOk_no {n : Int} {L : List (Nat → Int)} {i : Nat} (hi : i < L.length) (h : gateOk (n + (i : Int)) (L.getD i g0) = false) : gatesOk n L = false := by
  cases e : gatesOk n L with
  | false => rfl
  | true => rw [gatesOk_at e i hi] at h; cases h
theorem gateOk_iff (n : Int) (g : Nat → Int) : gateOk n g = true ↔ isTab g = true ∧ (0 ≤ g 9 ∧ g 9 < n) ∧ 0 ≤ g 10 ∧ g 10 < n := by
  simp only [gateOk, Bool.and_eq_true, inB_iff]; constructor
  · rintro ⟨⟨h1, h2⟩, h3⟩; exact ⟨h1, by omega, by omega⟩
  · rintro ⟨h1, h2, h3⟩; exact ⟨⟨h1, by omega⟩, by omega⟩
theorem linesOk_at {n : Int} {o : List Int} (h : linesOk n o = true) : ∀ i, i < o.length → 0 ≤ o.getD i 0 ∧ o.getD i 0 < n := by
  intro i hi
  rw [linesOk, List.all_eq_true] at h
  have := (inB_iff _ _ _).1 (h (o.getD i 0) (by rw [List.getD_eq_getElem?_getD, List.getElem?_eq_getElem hi]; exact List.getElem_mem hi))
  omega
theorem linesOk_of {n : Int} {o : List Int} (h : ∀ i, i < o.length → 0 ≤ o.getD i 0 ∧ o.getD i 0 < n) : linesOk n o = true := by
  rw [linesOk, List.all_eq_true]
  intro x hx
  obtain ⟨i, hi, rfl⟩ := List.getElem_of_mem hx
  have := h i hi
  rw [List.getD_eq_getElem?_getD, List.getElem?_eq_getElem hi] at this
  simp only [Option.getD_some] at this
  exact (inB_iff _ _ _).2 (by omega)
theorem linesOk_no {n : Int} {o : List Int} {i : Nat} (hi : i < o.length) (h : ¬ (0 ≤ o.getD i 0 ∧ o.getD i 0 < n)) : linesOk n o = false := by
  cases e : linesOk n o with
  | false => rfl
  | true => exact absurd (linesOk_at e i hi) h
theorem isCirc_iff (k : Int) (L : List (Nat → Int)) (o : List Int) : isCirc k L o = true ↔ (0 ≤ k ∧ k ≤ 8) ∧ L.length ≤ 60 ∧ o.length ≤ 60 ∧ gatesOk (3 + k) L = true ∧ linesOk (3 + k + (L.length : Int)) o = true := by
  simp only [isCirc, Bool.and_eq_true, inB_iff, decide_eq_true_eq, and_assoc]
/-- Numbers of lines, each of which follows from those before it. -/
def readL (f : (Nat → Int) → Int → Int → Int) : List Int → List (Nat → Int) → List Int
  | o, [] => o
  | o, g :: L => readL f (o ++ [f g (o.getD (g 9).toNat 0) (o.getD (g 10).toNat 0)]) L
theorem readL_length (f : (Nat → Int) → Int → Int → Int) (o : List Int) (L : List (Nat → Int)) : (readL f o L).length = o.length + L.length := by
  induction L generalizing o with
  | nil => rfl
  | cons g L ih => rw [readL, ih]; simp; omega
theorem readL_snoc (f : (Nat → Int) → Int → Int → Int) (o : List Int) (L : List (Nat → Int)) (g : Nat → Int) : readL f o (L ++ [g]) = readL f o L ++ [f g ((readL f o L).getD (g 9).toNat 0) ((readL f o L).getD (g 10).toNat 0)] := by
  induction L generalizing o with
  | nil => rfl
  | cons x L ih => rw [List.cons_append, readL, ih, readL]
theorem take_snoc' {α : Type} (L : List α) (d : α) {k : Nat} (h : k < L.length) : L.take (k + 1) = L.take k ++ [L.getD k d] := by
  rw [List.take_add_one, List.getElem?_eq_getElem h, List.getD_eq_getElem?_getD, List.getElem?_eq_getElem h]; rfl
theorem readL_step (f : (Nat → Int) → Int → Int → Int) (o : List Int) (L : List (Nat → Int)) {k : Nat} (h : k < L.length) : readL f o (L.take (k + 1)) = readL f o (L.take k) ++ [f (L.getD k g0) ((readL f o (L.take k)).getD ((L.getD k g0) 9).toNat 0) ((readL f o (L.take k)).getD ((L.getD k g0) 10).toNat 0)] := by
  rw [take_snoc' L g0 h, readL_snoc]
end Tm
end Go.Proofs.Ytjfeiekdkefpeaa

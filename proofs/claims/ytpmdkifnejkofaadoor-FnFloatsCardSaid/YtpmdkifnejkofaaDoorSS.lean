/- Slices of slices of integers: what is told of one that is read; the program's test that words are alike. -/
import Derived.Test.YtpmdkifnejkofaaDoorWI
import Derived.Test.YtpmdkifnejkofaaDoorRow2
namespace Go.Proofs.YtpmdkifnejkofaaDoor
set_option maxRecDepth 20000
open Go.RowKit
/-- The slice value '.slice a n cap' reads as the lists L. -/
def Rows (w : World) (a : Option Addr) (n cap : Nat) (L : List (List Int)) : Prop :=
  L.length = n ∧ n ≤ cap ∧ cap ≤ maxLen ∧ (n = 0 ∨ ∃ b o, a = some ⟨b, o, none⟩ ∧ b < w.heap.size ∧ ∀ i, i < n → ∃ a' m c, w.cell? ⟨b, o + i, none⟩ = some (.slice a' m c) ∧ Ints w a' m c (L.getD i []))
theorem Rows.below {w w' : World} {a : Option Addr} {n cap : Nat} {L : List (List Int)} (h : Rows w a n cap L) (hb : Below w.heap.size w w') : Rows w' a n cap L := by
  obtain ⟨h1, h2, h3, h4⟩ := h
  refine ⟨h1, h2, h3, ?_⟩
  rcases h4 with h4 | ⟨b, o, ha, hlt, hc⟩
  · exact .inl h4
  · refine .inr ⟨b, o, ha, by have := hb.size; omega, fun i hi => ?_⟩
    obtain ⟨a', m, c, hcell, hi'⟩ := hc i hi
    exact ⟨a', m, c, by rw [← hcell]; exact World.cell?_of_block (a := ⟨b, o + i, none⟩) (hb.block b hlt), hi'.below hb⟩
theorem Rows.nil (w : World) (a : Option Addr) (cap : Nat) (hc : cap ≤ maxLen) : Rows w a 0 cap [] := ⟨rfl, Nat.zero_le _, hc, .inl rfl⟩
/-- A part of it, from place k on. -/
theorem Rows.tail {w : World} {b o n cap : Nat} {L : List (List Int)} (h : Rows w (some ⟨b, o, none⟩) n cap L) (k : Nat) (hk : k ≤ n) : Rows w (some ⟨b, o + k, none⟩) (n - k) (cap - k) (L.drop k) := by
  obtain ⟨h1, h2, h3, h4⟩ := h
  refine ⟨by simp; omega, by omega, by omega, ?_⟩
  rcases h4 with h4 | ⟨b', o', ha, hlt, hc⟩
  · exact .inl (by omega)
  · cases ha
    refine .inr ⟨b, o + k, rfl, hlt, fun i hi => ?_⟩
    obtain ⟨a', m, c, hcell, hi'⟩ := hc (k + i) (by omega)
    refine ⟨a', m, c, by rw [Nat.add_assoc]; exact hcell, ?_⟩
    rw [show (L.drop k).getD i [] = L.getD (k + i) [] from by simp [List.getD_eq_getElem?_getD]]
    exact hi'
theorem rows_one {w : World} {a : Option Addr} {n cap : Nat} {xs : List Int} (h : Ints w a n cap xs) (t : TypeId) : Rows (w.alloc (.cells #[.slice a n cap] t)) (some ⟨w.heap.size, 0, none⟩) 1 1 [xs] := by
  refine ⟨rfl, Nat.le_refl _, by unfold maxLen; omega, .inr ⟨_, _, rfl, by rw [World.size_alloc]; omega, fun i hi => ?_⟩⟩
  match i, hi with
  | 0, _ => exact ⟨a, n, cap, by simp, h.alloc _⟩
theorem rows_two {w : World} {a b : Option Addr} {n m cap cap2 : Nat} {xs ys : List Int} (h : Ints w a n cap xs) (h2 : Ints w b m cap2 ys) (t : TypeId) : Rows (w.alloc (.cells #[.slice a n cap, .slice b m cap2] t)) (some ⟨w.heap.size, 0, none⟩) 2 2 [xs, ys] := by
  refine ⟨rfl, Nat.le_refl _, by unfold maxLen; omega, .inr ⟨_, _, rfl, by rw [World.size_alloc]; omega, fun i hi => ?_⟩⟩
  match i, hi with
  | 0, _ => exact ⟨a, n, cap, by simp, h.alloc _⟩
  | 1, _ => exact ⟨b, m, cap2, by simp, h2.alloc _⟩
theorem rows_three {w : World} {a b c : Option Addr} {n m l cap cap2 cap3 : Nat} {xs ys zs : List Int} (h : Ints w a n cap xs) (h2 : Ints w b m cap2 ys) (h3 : Ints w c l cap3 zs) (t : TypeId) : Rows (w.alloc (.cells #[.slice a n cap, .slice b m cap2, .slice c l cap3] t)) (some ⟨w.heap.size, 0, none⟩) 3 3 [xs, ys, zs] := by
  refine ⟨rfl, Nat.le_refl _, by unfold maxLen; omega, .inr ⟨_, _, rfl, by rw [World.size_alloc]; omega, fun i hi => ?_⟩⟩
  match i, hi with
  | 0, _ => exact ⟨a, n, cap, by simp, h.alloc _⟩
  | 1, _ => exact ⟨b, m, cap2, by simp, h2.alloc _⟩
  | 2, _ => exact ⟨c, l, cap3, by simp, h3.alloc _⟩
namespace Tm
def alike (L : List (List Int)) : Bool := L.all fun x => isW x && decide (x.length = (L.getD 0 []).length)
def AllA (L : List (List Int)) (k : Nat) : Prop := ∀ j, j < k → isW (L.getD j []) = true ∧ (L.getD j []).length = (L.getD 0 []).length
theorem AllA_zero (L : List (List Int)) : AllA L 0 := fun j h => by omega
theorem AllA_succ {L : List (List Int)} {k : Nat} (h : AllA L k) (h1 : isW (L.getD k []) = true) (h2 : (L.getD k []).length = (L.getD 0 []).length) : AllA L (k + 1) := fun j hj => by
  by_cases e : j = k
  · subst e; exact ⟨h1, h2⟩
  · exact h j (by omega)
theorem alike_all {L : List (List Int)} (h : AllA L L.length) : alike L = true := by
  rw [alike, List.all_eq_true]
  intro x hx
  obtain ⟨i, hi, rfl⟩ := List.mem_iff_getElem.1 hx
  have := h i hi
  rw [List.getD_eq_getElem?_getD, List.getElem?_eq_getElem hi] at this
  simp only [Option.getD_some] at this
  rw [this.1, this.2]; simp
theorem alike_no {L : List (List Int)} {k : Nat} (hk : k < L.length) (h : isW (L.getD k []) = false ∨ (L.getD k []).length ≠ (L.getD 0 []).length) : alike L = false := by
  rw [alike, List.all_eq_false]
  refine ⟨L[k], List.getElem_mem hk, ?_⟩
  rw [List.getD_eq_getElem?_getD, List.getElem?_eq_getElem hk] at h
  simp only [Option.getD_some] at h
  rcases h with h | h
  · rw [h]; simp
  · rw [decide_eq_false h]; simp
end Tm
end Go.Proofs.YtpmdkifnejkofaaDoor

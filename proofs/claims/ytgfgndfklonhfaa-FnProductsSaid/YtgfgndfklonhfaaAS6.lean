/- The model's sums of many words, on. -/
import Derived.Test.YtgfgndfklonhfaaAS5
namespace Go.Proofs.Ytgfgndfklonhfaa
set_option maxRecDepth 20000
open Go.RowKit
def lenV : Value → Nat
  | .slice _ n _ => n
  | _ => 0
namespace Tm
/-- How far a sum by rounds has come: f rounds at most are left. -/
def TreeAt (k : Nat) (L M : List (List Int)) (f : Nat) (r : Int) : Prop := allW k M ∧ trL f M = trL 40 L ∧ r + trN f M = trN 40 L ∧ M.length ≤ f + 2 ∧ 1 ≤ M.length ∧ M.length ≤ 40 ∧ 0 ≤ r ∧ r + f ≤ 40
theorem TreeAt.start {k : Nat} {L : List (List Int)} (h : allW k L) (h1 : 1 ≤ L.length) (h2 : L.length ≤ 40) : TreeAt k L L 40 0 := ⟨h, rfl, by omega, by omega, h1, h2, by omega, by omega⟩
theorem TreeAt.step {k f : Nat} {L M : List (List Int)} {r : Int} (h : TreeAt k L M f r) (h2 : 2 < M.length) : ∃ f', TreeAt k L (rnd1 M) f' (r + 1) ∧ (rnd1 M).length < M.length := by
  obtain ⟨a, b, c, d, e, g, i, j⟩ := h
  match f, b, c, d, j with
  | 0, _, _, d, _ => omega
  | f + 1, b, c, d, j =>
    have hr := rnd1_length M
    rw [trL, if_pos h2] at b
    rw [trN, if_pos h2] at c
    exact ⟨f, ⟨rnd1_word a, b, by omega, by omega, by omega, by omega, by omega, by omega⟩, by omega⟩
theorem trL_done {f : Nat} {M : List (List Int)} (h : M.length ≤ 2) : trL f M = M := by
  cases f with
  | zero => rfl
  | succ f => rw [trL, if_neg (by omega)]
theorem trN_done {f : Nat} {M : List (List Int)} (h : M.length ≤ 2) : trN f M = 0 := by
  cases f with
  | zero => rfl
  | succ f => rw [trN, if_neg (by omega)]
theorem TreeAt.one {k f : Nat} {L : List (List Int)} {xs : List Int} {r : Int} (h : TreeAt k L [xs] f r) (ho : treeOk L = true) : tree L = xs ∧ treeN L = r ∧ isW xs = true := by
  obtain ⟨a, b, c, _⟩ := h
  rw [trL_done (by simp)] at b
  rw [trN_done (by simp)] at c
  exact ⟨by rw [tree, if_pos ho, ← b]; rfl, by rw [treeN, if_pos ho]; omega, (a xs (by simp)).1⟩
theorem TreeAt.two {k f : Nat} {L : List (List Int)} {xs ys : List Int} {r : Int} (h : TreeAt k L [xs, ys] f r) (ho : treeOk L = true) : tree L = addL xs ys 0 ∧ treeN L = r ∧ addOk xs ys 0 = true := by
  obtain ⟨a, b, c, _⟩ := h
  rw [trL_done (by simp)] at b
  rw [trN_done (by simp)] at c
  have hx := a xs (by simp)
  have hy := a ys (by simp)
  exact ⟨by rw [tree, if_pos ho, ← b]; rfl, by rw [treeN, if_pos ho]; omega, by rw [addOk, Bool.and_eq_true, fit_iff]; exact ⟨⟨hx.1, hy.1, by rw [hx.2, hy.2]⟩, rfl⟩⟩
def FitTo (L : List (List Int)) (k : Nat) : Prop := ∀ j, j < k → fit (L.getD 0 []) (L.getD j []) = true
theorem FitTo.zero (L : List (List Int)) : FitTo L 0 := fun j h => by omega
theorem FitTo.succ {L : List (List Int)} {k : Nat} (h : FitTo L k) (h1 : fit (L.getD 0 []) (L.getD k []) = true) : FitTo L (k + 1) := fun j hj => by
  by_cases e : j = k
  · subst e; exact h1
  · exact h j (by omega)
theorem head_at (L : List (List Int)) : L.headD [] = L.getD 0 [] := by cases L <;> rfl
theorem FitTo.ok {L : List (List Int)} (h : FitTo L L.length) (h1 : 1 ≤ L.length) (h2 : L.length ≤ 40) : treeOk L = true := by
  rw [treeOk, Bool.and_eq_true, decide_eq_true_eq, List.all_eq_true]
  refine ⟨⟨h1, h2⟩, fun x hx => ?_⟩
  obtain ⟨i, hi, rfl⟩ := List.mem_iff_getElem.1 hx
  have := h i hi
  rwa [head_at, ← show L.getD i [] = L[i] from by rw [List.getD_eq_getElem?_getD, List.getElem?_eq_getElem hi]; rfl]
theorem treeOk_no {L : List (List Int)} {k : Nat} (hk : k < L.length) (h : fit (L.getD 0 []) (L.getD k []) = false) : treeOk L = false := by
  rw [Bool.eq_false_iff]
  intro e
  rw [treeOk, Bool.and_eq_true, List.all_eq_true] at e
  have := e.2 _ (List.getElem_mem hk)
  rw [head_at, ← show L.getD k [] = L[k] from by rw [List.getD_eq_getElem?_getD, List.getElem?_eq_getElem hk]; rfl, h] at this
  cases this
end Tm
end Go.Proofs.Ytgfgndfklonhfaa

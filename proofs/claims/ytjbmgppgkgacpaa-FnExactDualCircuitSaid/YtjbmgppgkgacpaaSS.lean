/- Slices of slices of integers: what is told of one that is read; the program's test that words are alike. Slices of slices of integers that the call builds: the list is its own, what lies in it may lie anywhere else. -/
import Derived.Test.YtjbmgppgkgacpaaWI
import Derived.Test.YtjbmgppgkgacpaaRow2
namespace Go.Proofs.Ytjbmgppgkgacpaa
set_option maxRecDepth 20000
open Go.RowKit
/-- The slice value '.slice a n cap' reads as the lists L. -/
def Rows (w : World) (a : Option Addr) (n cap : Nat) (L : List (List Int)) : Prop :=
  L.length = n ∧ n ≤ cap ∧ cap ≤ maxLen ∧ (n = 0 ∨ ∃ b o, a = some ⟨b, o, none⟩ ∧ b < w.heap.size ∧ ∀ i, i < n → ∃ a' m c, w.cell? ⟨b, o + i, none⟩ = some (.slice a' m c) ∧ Ints w a' m c (L.getD i []))
theorem Rows.below {w w' : World} {a : Option Addr} {n cap : Nat} {L : List (List Int)} (h : Rows w a n cap L) (hb : Below w.heap.size w w') : Rows w' a n cap L := by
  obtain ⟨h1, h2, h3, h4⟩ := h
  refine ⟨h1, h2, h3, ?_⟩
  rcases h4 with h4 | ⟨b, o, ha, hlt, hc⟩
  · exact .inl h4
  · refine .inr ⟨b, o, ha, by have := hb.size; omega, fun i hi => ?_⟩
    obtain ⟨a', m, c, hcell, hi'⟩ := hc i hi
    exact ⟨a', m, c, by rw [← hcell]; exact World.cell?_of_block (a := ⟨b, o + i, none⟩) (hb.block b hlt), hi'.below hb⟩
theorem Rows.nil (w : World) (a : Option Addr) (cap : Nat) (hc : cap ≤ maxLen) : Rows w a 0 cap [] := ⟨rfl, Nat.zero_le _, hc, .inl rfl⟩
/-- A part of it, from place k on. -/
theorem Rows.tail {w : World} {b o n cap : Nat} {L : List (List Int)} (h : Rows w (some ⟨b, o, none⟩) n cap L) (k : Nat) (hk : k ≤ n) : Rows w (some ⟨b, o + k, none⟩) (n - k) (cap - k) (L.drop k) := by
  obtain ⟨h1, h2, h3, h4⟩ := h
  refine ⟨by simp; omega, by omega, by omega, ?_⟩
  rcases h4 with h4 | ⟨b', o', ha, hlt, hc⟩
  · exact .inl (by omega)
  · cases ha
    refine .inr ⟨b, o + k, rfl, hlt, fun i hi => ?_⟩
    obtain ⟨a', m, c, hcell, hi'⟩ := hc (k + i) (by omega)
    refine ⟨a', m, c, by rw [Nat.add_assoc]; exact hcell, ?_⟩
    rw [show (L.drop k).getD i [] = L.getD (k + i) [] from by simp [List.getD_eq_getElem?_getD]]
    exact hi'
theorem rows_one {w : World} {a : Option Addr} {n cap : Nat} {xs : List Int} (h : Ints w a n cap xs) (t : TypeId) : Rows (w.alloc (.cells #[.slice a n cap] t)) (some ⟨w.heap.size, 0, none⟩) 1 1 [xs] := by
  refine ⟨rfl, Nat.le_refl _, by unfold maxLen; omega, .inr ⟨_, _, rfl, by rw [World.size_alloc]; omega, fun i hi => ?_⟩⟩
  match i, hi with
  | 0, _ => exact ⟨a, n, cap, by simp, h.alloc _⟩
theorem rows_two {w : World} {a b : Option Addr} {n m cap cap2 : Nat} {xs ys : List Int} (h : Ints w a n cap xs) (h2 : Ints w b m cap2 ys) (t : TypeId) : Rows (w.alloc (.cells #[.slice a n cap, .slice b m cap2] t)) (some ⟨w.heap.size, 0, none⟩) 2 2 [xs, ys] := by
  refine ⟨rfl, Nat.le_refl _, by unfold maxLen; omega, .inr ⟨_, _, rfl, by rw [World.size_alloc]; omega, fun i hi => ?_⟩⟩
  match i, hi with
  | 0, _ => exact ⟨a, n, cap, by simp, h.alloc _⟩
  | 1, _ => exact ⟨b, m, cap2, by simp, h2.alloc _⟩
theorem rows_three {w : World} {a b c : Option Addr} {n m l cap cap2 cap3 : Nat} {xs ys zs : List Int} (h : Ints w a n cap xs) (h2 : Ints w b m cap2 ys) (h3 : Ints w c l cap3 zs) (t : TypeId) : Rows (w.alloc (.cells #[.slice a n cap, .slice b m cap2, .slice c l cap3] t)) (some ⟨w.heap.size, 0, none⟩) 3 3 [xs, ys, zs] := by
  refine ⟨rfl, Nat.le_refl _, by unfold maxLen; omega, .inr ⟨_, _, rfl, by rw [World.size_alloc]; omega, fun i hi => ?_⟩⟩
  match i, hi with
  | 0, _ => exact ⟨a, n, cap, by simp, h.alloc _⟩
  | 1, _ => exact ⟨b, m, cap2, by simp, h2.alloc _⟩
  | 2, _ => exact ⟨c, l, cap3, by simp, h3.alloc _⟩
namespace Tm
def alike (L : List (List Int)) : Bool := L.all fun x => isW x && decide (x.length = (L.getD 0 []).length)
def AllA (L : List (List Int)) (k : Nat) : Prop := ∀ j, j < k → isW (L.getD j []) = true ∧ (L.getD j []).length = (L.getD 0 []).length
theorem AllA_zero (L : List (List Int)) : AllA L 0 := fun j h => by omega
theorem AllA_succ {L : List (List Int)} {k : Nat} (h : AllA L k) (h1 : isW (L.getD k []) = true) (h2 : (L.getD k []).length = (L.getD 0 []).length) : AllA L (k + 1) := fun j hj => by
  by_cases e : j = k
  · subst e; exact ⟨h1, h2⟩
  · exact h j (by omega)
theorem alike_all {L : List (List Int)} (h : AllA L L.length) : alike L = true := by
  rw [alike, List.all_eq_true]
  intro x hx
  obtain ⟨i, hi, rfl⟩ := List.mem_iff_getElem.1 hx
  have := h i hi
  rw [List.getD_eq_getElem?_getD, List.getElem?_eq_getElem hi] at this
  simp only [Option.getD_some] at this
  rw [this.1, this.2]; simp
theorem alike_no {L : List (List Int)} {k : Nat} (hk : k < L.length) (h : isW (L.getD k []) = false ∨ (L.getD k []).length ≠ (L.getD 0 []).length) : alike L = false := by
  rw [alike, List.all_eq_false]
  refine ⟨L[k], List.getElem_mem hk, ?_⟩
  rw [List.getD_eq_getElem?_getD, List.getElem?_eq_getElem hk] at h
  simp only [Option.getD_some] at h
  rcases h with h | h
  · rw [h]; simp
  · rw [decide_eq_false h]; simp
end Tm
/-- The values xs are slices that read as the lists L; none of them lies in block 'row'. -/
def SSof (w : World) (row : Option Nat) (L : List (List Int)) (xs : List Value) : Prop :=
  xs.length = L.length ∧ ∀ j, j < L.length → ∃ a m c, xs[j]? = some (.slice a m c) ∧ Ints w a m c (L.getD j []) ∧ (0 < m → ∀ b o, a = some ⟨b, o, none⟩ → some b ≠ row)
theorem SSof.nil (w : World) (row : Option Nat) : SSof w row [] [] := ⟨rfl, fun j h => by simp at h⟩
theorem SSof.cons_one {w : World} {row : Option Nat} {a : Option Addr} {m c : Nat} {xs : List Int} (h : Ints w a m c xs) (hne : 0 < m → ∀ b o, a = some ⟨b, o, none⟩ → some b ≠ row) : SSof w row [xs] [.slice a m c] :=
  ⟨rfl, fun j hj => match j, hj with
    | 0, _ => ⟨a, m, c, rfl, h, hne⟩⟩
theorem SSof.append {w : World} {row : Option Nat} {L M : List (List Int)} {xs ys : List Value} (h : SSof w row L xs) (k : SSof w row M ys) : SSof w row (L ++ M) (xs ++ ys) := by
  refine ⟨by simp [h.1, k.1], fun j hj => ?_⟩
  rw [List.length_append] at hj
  by_cases hl : j < L.length
  · obtain ⟨a, m, c, e1, e2, e3⟩ := h.2 j hl
    refine ⟨a, m, c, by rw [List.getElem?_append_left (by rw [h.1]; exact hl)]; exact e1, ?_, e3⟩
    rw [List.getD_eq_getElem?_getD, List.getElem?_append_left hl, ← List.getD_eq_getElem?_getD]
    exact e2
  · obtain ⟨a, m, c, e1, e2, e3⟩ := k.2 (j - L.length) (by omega)
    refine ⟨a, m, c, by rw [List.getElem?_append_right (by rw [h.1]; omega), h.1]; exact e1, ?_, e3⟩
    rw [List.getD_eq_getElem?_getD, List.getElem?_append_right (by omega), ← List.getD_eq_getElem?_getD]
    exact e2
theorem Ints.lt {w : World} {a : Option Addr} {n cap : Nat} {xs : List Int} (h : Ints w a n cap xs) (hn : 0 < n) : ∀ b o, a = some ⟨b, o, none⟩ → b < w.heap.size := by
  intro b o e
  rcases h.2.2.2 with h0 | ⟨b', o', e', hb, _⟩
  · omega
  · rw [e] at e'; cases e'; exact hb
theorem Ints.kept0 {w w' : World} {a : Option Addr} {n cap : Nat} {xs : List Int} (h : Ints w a n cap xs) {row : Option Nat} (hg : w.grownBy w' row) (hne : 0 < n → ∀ b o, a = some ⟨b, o, none⟩ → some b ≠ row) : Ints w' a n cap xs := by
  rcases Nat.eq_zero_or_pos n with h0 | h0
  · obtain ⟨h1, h2, h3, _⟩ := h; exact ⟨h1, h2, h3, .inl h0⟩
  · exact h.kept hg (hne h0)
theorem SSof.kept {w w' : World} {row row' : Option Nat} {L : List (List Int)} {xs : List Value} (h : SSof w row L xs) (hg : w.grownBy w' row) (hr : row' = row ∨ row' = some w.heap.size) : SSof w' row' L xs := by
  refine ⟨h.1, fun j hj => ?_⟩
  obtain ⟨a, m, c, e1, e2, e3⟩ := h.2 j hj
  refine ⟨a, m, c, e1, e2.kept0 hg e3, fun hm b o e => ?_⟩
  rcases hr with rfl | rfl
  · exact e3 hm b o e
  · have := e2.lt hm b o e
    simp only [ne_eq, Option.some.injEq]; omega
theorem SSof.below {w w' : World} {row : Option Nat} {L : List (List Int)} {xs : List Value} (h : SSof w row L xs) (hb : Below w.heap.size w w') : SSof w' row L xs := by
  refine ⟨h.1, fun j hj => ?_⟩
  obtain ⟨a, m, c, e1, e2, e3⟩ := h.2 j hj
  exact ⟨a, m, c, e1, e2.below hb, e3⟩
/-- A list of the callee's own, of slices that lie outside it. -/
def OwnSS (w : World) (B e : Nat) (v : Value) (L : List (List Int)) : Prop := ∃ xs, w.ownsRow B e 1 v L.length xs ∧ SSof w v.ownBlock L xs
theorem OwnSS.below {w w' : World} {B e : Nat} {v : Value} {L : List (List Int)} (h : OwnSS w B e v L) (hb : Below w.heap.size w w') : OwnSS w' B e v L := by
  obtain ⟨xs, h1, h2⟩ := h; exact ⟨xs, own_below h1 hb, h2.below hb⟩
theorem OwnSS.rows {w : World} {B e : Nat} {v : Value} {L : List (List Int)} (h : OwnSS w B e v L) : ∃ a cap, v = .slice a L.length cap ∧ Rows w a L.length cap L := by
  obtain ⟨xs, h1, h2⟩ := h
  rcases h1.2 with ⟨e1, e2⟩ | ⟨g, cap, cur, rfl, hB, hg, hn, hcap, hsz, ht⟩
  · subst e1
    have : L = [] := List.length_eq_zero_iff.1 e2
    subst this
    exact ⟨none, 0, rfl, Rows.nil _ _ _ (by unfold maxLen; omega)⟩
  · refine ⟨_, cap, rfl, rfl, hn, hcap, .inr ⟨g, 0, rfl, (Array.getElem?_eq_some_iff.1 hg).1, fun i hi => ?_⟩⟩
    obtain ⟨a, m, c, e1, e2, _⟩ := h2.2 i hi
    have := h1.cellAt i (by have := h1.1; omega)
    rw [Nat.zero_add, this]
    exact ⟨a, m, c, e1, e2⟩
theorem OwnSS.lt {w : World} {B e : Nat} {v : Value} {L : List (List Int)} (h : OwnSS w B e v L) : ∀ k, v.ownBlock = some k → B ≤ k ∧ k < w.heap.size := by
  obtain ⟨xs, h1, _⟩ := h; exact h1.lt
theorem own_nilS (w : World) (B e : Nat) : OwnSS w B e (.slice none 0 0) [] := ⟨[], World.ownsRow_nil _ _ _ _, SSof.nil _ _⟩
/-- '[][]int{}'. -/
theorem own_emptyS (w : World) (B e : Nat) (hB : B ≤ w.heap.size) : OwnSS (w.alloc (.cells #[] e)) B e (.slice (some ⟨w.heap.size, 0, none⟩) 0 0) [] := ⟨[], own_empty w B e hB, SSof.nil _ _⟩
theorem app_s1 (w : World) (x : Value) (t : TypeId) : ∀ j u, [x][j]? = some u → (w.alloc (.cells #[x] t)).cell? ((⟨w.heap.size, 0, none⟩ : Addr).add j) = some u := cell_one_new w x t
theorem app_s2 (w : World) (x y : Value) (t : TypeId) : ∀ j u, [x, y][j]? = some u → (w.alloc (.cells #[x, y] t)).cell? ((⟨w.heap.size, 0, none⟩ : Addr).add j) = some u := by
  intro j u hj
  match j, hj with
  | 0, hj => simp at hj; subst hj; simp [Addr.add]
  | 1, hj => simp at hj; subst hj; simp [Addr.add]
theorem app_s3 (a : Option Addr) (n c : Nat) : ∀ u ∈ [Value.slice a n c], u.oneCell' = true := by intro u hu; simp at hu; subst hu; rfl
theorem app_s4 (a b : Option Addr) (n c m d : Nat) : ∀ u ∈ [Value.slice a n c, Value.slice b m d], u.oneCell' = true := by intro u hu; simp at hu; rcases hu with rfl | rfl <;> rfl
/-- What an append of slices leaves. -/
theorem OwnSS.appended {w w' : World} {B e : Nat} {v v' : Value} {L M : List (List Int)} {xs ys : List Value} (h2 : SSof w v.ownBlock L xs) (k : SSof w v.ownBlock M ys) (hown : w'.ownsRow B e 1 v' (L.length + M.length) (xs ++ ys)) (hg : w.grownBy w' v.ownBlock) (hat : v'.ownBlock = v.ownBlock ∨ v'.ownBlock = some w.heap.size) : OwnSS w' B e v' (L ++ M) :=
  ⟨xs ++ ys, by rw [List.length_append]; exact hown, (h2.append k).kept hg hat⟩
/-- A slice of the callee's own that lies behind the list's block, or outside it. -/
theorem own_outside {w : World} {B e : Nat} {v : Value} {L : List (List Int)} (h : OwnSS w B e v L) {b : Nat} (hb : w.heap.size ≤ b ∨ b < B) : some b ≠ v.ownBlock := by
  intro e1
  have := h.lt b e1.symm
  omega
end Go.Proofs.Ytjbmgppgkgacpaa

/- What a call owns, and how it stays: blocks from B to E - 1. Rows of integers, lists of such rows. -/
import Derived.Test.YtjbmgppgkgacpaaSS
import Derived.Deep.Matrix
namespace Go.Proofs.Ytjbmgppgkgacpaa
set_option maxRecDepth 20000
open Go.RowKit
/-- The blocks from B to E - 1 are as they were. -/
def SameIn (B E : Nat) (w w' : World) : Prop := w.heap.size ≤ w'.heap.size ∧ ∀ k, B ≤ k → k < E → w'.heap[k]? = w.heap[k]?
/-- No blocks but those from B to E - 1 have turned; no block is new. -/
structure Only (B E : Nat) (w w' : World) : Prop where
  os : w'.os = w.os
  tape : w'.tape = w.tape
  output : w'.output = w.output
  size : w'.heap.size = w.heap.size
  block : ∀ k, k < w.heap.size → ¬ (B ≤ k ∧ k < E) → w'.heap[k]? = w.heap[k]?
theorem SameIn.of_below {B E : Nat} {w w' : World} (h : Below w.heap.size w w') (hE : E ≤ w.heap.size) : SameIn B E w w' := ⟨h.size, fun k _ hk => h.block k (by omega)⟩
theorem SameIn.of_only {B E B' E' : Nat} {w w' : World} (h : Only B' E' w w') (hE : E ≤ w.heap.size) (hd : E ≤ B' ∨ E' ≤ B) : SameIn B E w w' := ⟨by rw [h.size]; exact Nat.le_refl _, fun k h1 h2 => h.block k (by omega) (by omega)⟩
theorem Only.refl (B E : Nat) (w : World) : Only B E w w := ⟨rfl, rfl, rfl, rfl, fun _ _ _ => rfl⟩
theorem Only.trans {B E : Nat} {a b c : World} (h : Only B E a b) (k : Only B E b c) : Only B E a c :=
  ⟨k.os.trans h.os, k.tape.trans h.tape, k.output.trans h.output, k.size.trans h.size, fun j h1 h2 => (k.block j (by rw [h.size]; exact h1) h2).trans (h.block j h1 h2)⟩
theorem Only.of_row {B E : Nat} {w w' : World} {row : Option Nat} (h : w.grownBy w' row) (hs : w'.heap.size = w.heap.size) (hr : ∀ k, row = some k → B ≤ k ∧ k < E) : Only B E w w' :=
  ⟨h.os, h.tape, h.output, hs, fun k h1 h2 => h.block k h1 (fun e => h2 (hr k e.symm))⟩
theorem Only.wide {B E B' E' : Nat} {w w' : World} (h : Only B E w w') (h1 : B' ≤ B) (h2 : E ≤ E') : Only B' E' w w' := ⟨h.os, h.tape, h.output, h.size, fun k h3 h4 => h.block k h3 (by omega)⟩
/-- What was below stays. -/
theorem Only.below {B E C : Nat} {a w w' : World} (h : Below C a w) (k : Only B E w w') (hC : C ≤ B) (hs : C ≤ w.heap.size) : Below C a w' :=
  ⟨k.os.trans h.os, k.tape.trans h.tape, k.output.trans h.output, by rw [k.size]; exact h.size, fun j hj => (k.block j (by omega) (by omega)).trans (h.block j hj)⟩
theorem own_stable {w w' : World} {B e s n : Nat} {v : Value} {xs : List Value} (h : w.ownsRow B e s v n xs) (hs : ∀ k, v.ownBlock = some k → w'.heap[k]? = w.heap[k]?) : w'.ownsRow B e s v n xs := by
  obtain ⟨h1, h2⟩ := h
  refine ⟨h1, ?_⟩
  rcases h2 with h2 | ⟨g, cap, cur, rfl, hB, hg, h3⟩
  · exact .inl h2
  · exact .inr ⟨g, cap, cur, rfl, hB, by rw [hs g rfl]; exact hg, h3⟩
theorem own_weak2 {w : World} {B B' e s n : Nat} {v : Value} {xs : List Value} (h : w.ownsRow B e s v n xs) (hB : B' ≤ B) : w.ownsRow B' e s v n xs := by
  obtain ⟨h1, h2⟩ := h
  refine ⟨h1, ?_⟩
  rcases h2 with h2 | ⟨g, cap, cur, h3, h4, h5⟩
  · exact .inl h2
  · exact .inr ⟨g, cap, cur, h3, by omega, h5⟩
/-- A row of integers. -/
def OwnI (w : World) (B E e : Nat) (v : Value) (xs : List Int) : Prop := w.ownsRow B e 1 v xs.length (xs.map (Value.int .i64)) ∧ ∀ k, v.ownBlock = some k → k < E
theorem OwnI.lt {w : World} {B E e : Nat} {v : Value} {xs : List Int} (h : OwnI w B E e v xs) : ∀ k, v.ownBlock = some k → B ≤ k ∧ k < E := fun k hk => ⟨(h.1.lt k hk).1, h.2 k hk⟩
theorem OwnI.stay {w w' : World} {B E e : Nat} {v : Value} {xs : List Int} (h : OwnI w B E e v xs) (hs : SameIn B E w w') : OwnI w' B E e v xs :=
  ⟨own_stable h.1 fun k hk => hs.2 k (h.lt k hk).1 (h.lt k hk).2, h.2⟩
theorem OwnI.wide {w : World} {B E B' E' e : Nat} {v : Value} {xs : List Int} (h : OwnI w B E e v xs) (h1 : B' ≤ B) (h2 : E ≤ E') : OwnI w B' E' e v xs :=
  ⟨own_weak2 h.1 h1, fun k hk => Nat.lt_of_lt_of_le (h.2 k hk) h2⟩
theorem OwnI.form {w : World} {B E e : Nat} {v : Value} {xs : List Int} (h : OwnI w B E e v xs) : ∃ a c, v = .slice a xs.length c ∧ Ints w a xs.length c xs := by
  obtain ⟨a, c, rfl⟩ := own_form h.1
  exact ⟨a, c, rfl, Ints.of_own h.1⟩
theorem OwnI.intsAt {w : World} {B E e n c : Nat} {a : Option Addr} {xs : List Int} (h : OwnI w B E e (.slice a n c) xs) (hn : xs.length = n) : Ints w a n c xs := by
  obtain ⟨a', c', e', hr⟩ := h.form
  cases e'
  rw [hn] at hr
  exact hr
/-- A list of rows of integers, each of them its own; the first k of them are there. -/
def OwnLk (w : World) (B E e1 e2 : Nat) (v : Value) (L : List (List Int)) (k : Nat) : Prop :=
  ∃ us, w.ownsRow B e2 1 v L.length us ∧ (∀ q, v.ownBlock = some q → q < E) ∧ (∀ j, j < k → ∃ u, us[j]? = some u ∧ OwnI w B E e1 u (L.getD j []) ∧ Apart u v) ∧ ∀ i j, i < j → j < k → ∀ u u', us[i]? = some u → us[j]? = some u' → Apart u u'
def OwnL (w : World) (B E e1 e2 : Nat) (v : Value) (L : List (List Int)) : Prop := OwnLk w B E e1 e2 v L L.length
theorem OwnLk.stay {w w' : World} {B E e1 e2 k : Nat} {v : Value} {L : List (List Int)} (h : OwnLk w B E e1 e2 v L k) (hs : SameIn B E w w') : OwnLk w' B E e1 e2 v L k := by
  obtain ⟨us, h1, h2, h3, h4⟩ := h
  refine ⟨us, own_stable h1 fun q hq => hs.2 q (h1.lt q hq).1 (h2 q hq), h2, fun j hj => ?_, h4⟩
  obtain ⟨u, e, ho, ha⟩ := h3 j hj
  exact ⟨u, e, ho.stay hs, ha⟩
theorem OwnL.stay {w w' : World} {B E e1 e2 : Nat} {v : Value} {L : List (List Int)} (h : OwnL w B E e1 e2 v L) (hs : SameIn B E w w') : OwnL w' B E e1 e2 v L := OwnLk.stay h hs
theorem OwnLk.wide {w : World} {B E E' e1 e2 k : Nat} {v : Value} {L : List (List Int)} (h : OwnLk w B E e1 e2 v L k) (hE : E ≤ E') : OwnLk w B E' e1 e2 v L k := by
  obtain ⟨us, h1, h2, h3, h4⟩ := h
  refine ⟨us, h1, fun q hq => Nat.lt_of_lt_of_le (h2 q hq) hE, fun j hj => ?_, h4⟩
  obtain ⟨u, e, ho, ha⟩ := h3 j hj
  exact ⟨u, e, ho.wide (Nat.le_refl _) hE, ha⟩
theorem OwnL.rows {w : World} {B E e1 e2 : Nat} {v : Value} {L : List (List Int)} (h : OwnL w B E e1 e2 v L) : ∃ a c, v = .slice a L.length c ∧ Rows w a L.length c L := by
  obtain ⟨us, h1, h2, h3, h4⟩ := h
  rcases h1.2 with ⟨e1, e2⟩ | ⟨g, cap, cur, rfl, hB, hg, hn, hcap, hsz, ht⟩
  · subst e1
    have : L = [] := List.length_eq_zero_iff.1 e2
    subst this
    exact ⟨none, 0, rfl, Rows.nil _ _ _ (by unfold maxLen; omega)⟩
  · refine ⟨_, cap, rfl, rfl, hn, hcap, .inr ⟨g, 0, rfl, (Array.getElem?_eq_some_iff.1 hg).1, fun i hi => ?_⟩⟩
    obtain ⟨u, e, ho, _⟩ := h3 i hi
    obtain ⟨a, c, rfl, hi2⟩ := ho.form
    have := h1.cellAt i (by have := h1.1; omega)
    rw [Nat.zero_add, this]
    exact ⟨a, _, c, e, hi2⟩
theorem OwnL.rowsAt {w : World} {B E e1 e2 n c : Nat} {a : Option Addr} {L : List (List Int)} (h : OwnL w B E e1 e2 (.slice a n c) L) (hn : L.length = n) : Rows w a n c L := by
  obtain ⟨a', c', e, hr⟩ := h.rows
  cases e
  rw [hn] at hr
  exact hr
/-- Row k has turned. -/
theorem OwnL.put {w w' : World} {B E e1 e2 k : Nat} {v u : Value} {L M : List (List Int)} {us : List Value} (h1 : w.ownsRow B e2 1 v L.length us) (h2 : ∀ q, v.ownBlock = some q → q < E)
    (h3 : ∀ j, j < L.length → ∃ u, us[j]? = some u ∧ OwnI w B E e1 u (L.getD j []) ∧ Apart u v) (h4 : ∀ i j, i < j → j < L.length → ∀ u u', us[i]? = some u → us[j]? = some u' → Apart u u')
    (hk : k < L.length) (hu : us[k]? = some u) (hl : M.length = L.length) (hM : ∀ j, j ≠ k → M.getD j [] = L.getD j []) (ho : OwnI w' B E e1 u (M.getD k [])) (hg : w.grownBy w' u.ownBlock) : OwnL w' B E e1 e2 v M := by
  have apart : ∀ {x : Value}, Apart u x → ∀ q, x.ownBlock = some q → q < w.heap.size → w'.heap[q]? = w.heap[q]? := fun ha q hq hlt => hg.block q hlt (fun e => ha q e.symm hq)
  obtain ⟨u0, e0, _, av⟩ := h3 k hk
  rw [hu] at e0
  cases e0
  refine ⟨us, ?_, h2, fun j hj => ?_, ?_⟩
  · rw [hl]; exact own_stable h1 fun q hq => apart av q hq (h1.lt q hq).2
  · rw [hl] at hj
    by_cases e : j = k
    · subst e; exact ⟨u, hu, ho, av⟩
    · obtain ⟨u', e', ho', av'⟩ := h3 j hj
      refine ⟨u', e', ?_, av'⟩
      rw [hM j e]
      have ap : Apart u u' := by
        rcases Nat.lt_or_ge j k with h | h
        · exact (h4 j k h hk _ _ e' hu).symm
        · exact h4 k j (by omega) hj _ _ hu e'
      exact ⟨own_stable ho'.1 fun q hq => apart ap q hq (ho'.1.lt q hq).2, ho'.2⟩
  · rw [hl]; exact h4
/-- A list of rows is handed back, all of it new. -/
def RetL (e1 e2 : Nat) (w : World) (L : List (List Int)) (r : Ending) (w' : World) : Prop :=
  ∃ v, r = .returned v ∧ OwnL w' w.heap.size w'.heap.size e1 e2 v L ∧ Below w.heap.size w w'
theorem OwnI.of {w : World} {B e : Nat} {v : Value} {xs : List Int} (h : w.ownsRow B e 1 v xs.length (xs.map (Value.int .i64))) : OwnI w B w.heap.size e v xs := ⟨h, fun k hk => (h.lt k hk).2⟩
/-- How many numbers a law lets by. -/
def szL (L : List (List Int)) (left : Int) : Int := L.foldl (fun l x => if l < 0 then -1 else if l - (x.length : Int) < 0 then -1 else l - (x.length : Int)) (if left - (L.length : Int) < 0 then -1 else left - (L.length : Int))
def szTo (L : List (List Int)) (left : Int) (k : Nat) : Int := (L.take k).foldl (fun l x => if l < 0 then -1 else if l - (x.length : Int) < 0 then -1 else l - (x.length : Int)) (if left - (L.length : Int) < 0 then -1 else left - (L.length : Int))
theorem szTo_zero (L : List (List Int)) (left : Int) : szTo L left 0 = if left - (L.length : Int) < 0 then -1 else left - (L.length : Int) := rfl
theorem szTo_all (L : List (List Int)) (left : Int) : szTo L left L.length = szL L left := by rw [szTo, List.take_length]; rfl
theorem szTo_succ (L : List (List Int)) (left : Int) {k : Nat} (h : k < L.length) : szTo L left (k + 1) = if szTo L left k < 0 then -1 else if szTo L left k - ((L.getD k []).length : Int) < 0 then -1 else szTo L left k - ((L.getD k []).length : Int) := by
  have e : L.take (k + 1) = L.take k ++ [L.getD k []] := by
    rw [List.take_add_one, List.getElem?_eq_getElem h, List.getD_eq_getElem?_getD, List.getElem?_eq_getElem h]; rfl
  rw [szTo, e, List.foldl_append]; rfl
/-- How many numbers the first k rows hold. -/
def cnt (L : List (List Int)) : Nat → Nat
  | 0 => 0
  | k + 1 => cnt L k + (L.getD k []).length
theorem szTo_cnt (L : List (List Int)) (left : Int) (k : Nat) (hk : k ≤ L.length) (h : 0 ≤ szTo L left k) : szTo L left k = left - (L.length : Int) - (cnt L k : Int) ∧ ∀ j, j ≤ k → 0 ≤ szTo L left j := by
  induction k with
  | zero =>
    rw [szTo_zero] at h ⊢
    refine ⟨?_, fun j hj => by obtain rfl : j = 0 := by omega
                               rw [szTo_zero]; exact h⟩
    split at h
    · omega
    · rw [if_neg (by assumption)]; simp [cnt]
  | succ k ih =>
    rw [szTo_succ L left (by omega)] at h ⊢
    split at h
    · omega
    · split at h
      · omega
      · have := ih (by omega) (by omega)
        rw [if_neg (by assumption), if_neg (by assumption), cnt]
        refine ⟨by omega, fun j hj => ?_⟩
        by_cases e : j = k + 1
        · subst e; rw [szTo_succ L left (by omega), if_neg (by assumption), if_neg (by assumption)]; omega
        · exact this.2 j (by omega)
theorem cnt_le (L : List (List Int)) {i j : Nat} (h : i ≤ j) : cnt L i ≤ cnt L j := by
  induction j with
  | zero => obtain rfl : i = 0 := by omega
            exact Nat.le_refl _
  | succ j ih =>
    by_cases e : i = j + 1
    · subst e; exact Nat.le_refl _
    · have := ih (by omega); rw [cnt]; omega
theorem szL_facts {L : List (List Int)} {left : Int} (h : 0 ≤ szL L left) : (L.length : Int) + (cnt L L.length : Int) ≤ left ∧ ∀ j, j < L.length → (L.getD j []).length ≤ cnt L L.length := by
  rw [← szTo_all] at h
  have := szTo_cnt L left L.length (Nat.le_refl _) h
  refine ⟨by omega, fun j hj => ?_⟩
  have := cnt_le L (show j + 1 ≤ L.length by omega)
  rw [cnt] at this
  omega
theorem szL_more {L : List (List Int)} {left : Int} (h1 : left ≤ 1048576) (h : 0 ≤ szL L left) : 0 ≤ szL L 1048576 := by
  have key : ∀ k, k ≤ L.length → 0 ≤ szTo L left k → szTo L left k ≤ szTo L 1048576 k := by
    intro k
    induction k with
    | zero => intro _ h; rw [szTo_zero, szTo_zero]; rw [szTo_zero] at h; repeat' split
              all_goals (repeat' split at h) <;> omega
    | succ k ih =>
      intro hk h
      have := (szTo_cnt L left (k + 1) hk h).2 k (by omega)
      have := ih (by omega) this
      rw [szTo_succ L left (by omega), szTo_succ L 1048576 (by omega)]
      rw [szTo_succ L left (by omega)] at h
      repeat' split
      all_goals (repeat' split at h) <;> omega
  rw [← szTo_all] at h ⊢
  have := key L.length (Nat.le_refl _) h
  omega
/-- Rows whose first k are marked. -/
def mkL (L : List (List Int)) (c : Int) (k : Nat) : List (List Int) := (List.range L.length).map fun j => if j < k then marks (c + (cnt L j : Int)) (L.getD j []).length else L.getD j []
theorem mkL_length (L : List (List Int)) (c : Int) (k : Nat) : (mkL L c k).length = L.length := by simp [mkL]
theorem mkL_at (L : List (List Int)) (c : Int) (k : Nat) {j : Nat} (h : j < L.length) : (mkL L c k).getD j [] = if j < k then marks (c + (cnt L j : Int)) (L.getD j []).length else L.getD j [] := by
  rw [mkL, List.getD_eq_getElem?_getD]; simp [h]
theorem mkL_zero (L : List (List Int)) (c : Int) : mkL L c 0 = L := by
  apply List.ext_getElem?
  intro i
  by_cases hi : i < L.length
  · have := mkL_at L c 0 hi
    rw [if_neg (by omega), List.getD_eq_getElem?_getD, List.getD_eq_getElem?_getD, List.getElem?_eq_getElem (by rw [mkL_length]; exact hi), List.getElem?_eq_getElem hi] at this
    rw [List.getElem?_eq_getElem (by rw [mkL_length]; exact hi), List.getElem?_eq_getElem hi]
    simpa using this
  · rw [List.getElem?_eq_none (by rw [mkL_length]; omega), List.getElem?_eq_none (by omega)]
end Go.Proofs.Ytjbmgppgkgacpaa

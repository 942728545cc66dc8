/- Plain facts on sums of many words, on: the sum is a word, and does not hang on the order. -/
import Derived.Test.YtkphbnejnilehaaAMath3
namespace Go.Proofs.Ytkphbnejnilehaa
namespace Tm
theorem word_inj {xs ys : List Int} (hx : isW xs = true) (hy : isW ys = true) (hl : xs.length = ys.length) (hm : pow3 xs.length ∣ val xs - val ys) : xs = ys := by
  have bx := val_bd_len hx xs.length (Nat.le_refl _)
  have bY := val_bd_len hy xs.length (by omega)
  have pl := pow3_limN xs.length
  obtain ⟨q, hq⟩ := hm
  have h0 := limN_nonneg xs.length
  have hv : val xs = val ys := by
    have : q = 0 := by
      rcases Int.lt_trichotomy q 0 with h | h | h
      · have : pow3 xs.length * q ≤ pow3 xs.length * (-1) := Int.mul_le_mul_of_nonneg_left (by omega) (by omega)
        omega
      · exact h
      · have : pow3 xs.length * 1 ≤ pow3 xs.length * q := Int.mul_le_mul_of_nonneg_left (by omega) (by omega)
        omega
    subst this
    omega
  rw [← word_val hx, ← word_val hy, hv, hl]
theorem lastW_facts {k : Nat} {l : List (List Int)} (h : allW k l) (h1 : 1 ≤ l.length) (h2 : l.length ≤ 2) : isW (lastW l) = true ∧ (lastW l).length = k ∧ pow3 k ∣ val (lastW l) - sumV l := by
  match l, h1, h2 with
  | [a], _, _ =>
    have ha := h a (by simp)
    exact ⟨ha.1, ha.2, ⟨0, by simp [lastW, sumV]⟩⟩
  | [a, b], _, _ =>
    have ha := h a (by simp)
    have hb := h b (by simp)
    have ho : addOk a b 0 = true := by rw [addOk, Bool.and_eq_true, fit_iff]; exact ⟨⟨ha.1, hb.1, by rw [ha.2, hb.2]⟩, rfl⟩
    have v := add_val ho
    refine ⟨isW_add ho, by rw [lastW, addL, genL_length, ha.2], ⟨-crr a b 0 a.length, ?_⟩⟩
    rw [ha.2] at v ⊢
    simp only [lastW, sumV, List.map_cons, List.map_nil, List.sum_cons, List.sum_nil, Int.mul_neg]
    omega
theorem treeOk_iff (l : List (List Int)) : treeOk l = true ↔ 1 ≤ l.length ∧ l.length ≤ 40 ∧ allW (l.headD []).length l := by
  rw [treeOk, Bool.and_eq_true, decide_eq_true_eq, List.all_eq_true]
  constructor
  · rintro ⟨⟨h1, h2⟩, h3⟩
    exact ⟨h1, h2, fun x hx => by have := (fit_iff _ _).1 (h3 x hx); exact ⟨this.2.1, this.2.2.symm⟩⟩
  · rintro ⟨h1, h2, h3⟩
    refine ⟨⟨h1, h2⟩, fun x hx => ?_⟩
    have hh : l.headD [] ∈ l := by
      match l, h1 with
      | a :: r, _ => simp
    rw [fit_iff]
    exact ⟨(h3 _ hh).1, (h3 x hx).1, (h3 x hx).2.symm⟩
theorem tree_facts {l : List (List Int)} (h : treeOk l = true) : isW (tree l) = true ∧ (tree l).length = (l.headD []).length ∧ pow3 (l.headD []).length ∣ val (tree l) - sumV l := by
  obtain ⟨h1, h2, h3⟩ := (treeOk_iff l).1 h
  rw [tree, if_pos h]
  have f := trL_facts 40 h3 h1 (by omega)
  have g := lastW_facts f.1 f.2.2.1 f.2.2.2
  refine ⟨g.1, g.2.1, ?_⟩
  obtain ⟨u, hu⟩ := f.2.1
  obtain ⟨v, hv⟩ := g.2.2
  exact ⟨u + v, by rw [Int.mul_add, ← hu, ← hv]; omega⟩
theorem sumV_reverse (l : List (List Int)) : sumV l.reverse = sumV l := by
  have app : ∀ a b : List Int, (a ++ b).sum = a.sum + b.sum := fun a b => by
    induction a with
    | nil => simp
    | cons x a ih => simp only [List.cons_append, List.sum_cons, ih]; omega
  rw [sumV, sumV, List.map_reverse]
  induction l.map val with
  | nil => rfl
  | cons a r ih => rw [List.reverse_cons, app, ih, List.sum_cons, List.sum_cons, List.sum_nil]; omega
theorem treeOk_of {k : Nat} {l : List (List Int)} (h1 : 1 ≤ l.length) (h2 : l.length ≤ 40) (h : allW k l) : treeOk l = true ∧ (l.headD []).length = k := by
  have hh : l.headD [] ∈ l := by
    match l, h1 with
    | a :: r, _ => simp
  have e := (h _ hh).2
  exact ⟨(treeOk_iff l).2 ⟨h1, h2, by rw [e]; exact h⟩, e⟩
/-- The sum of words does not hang on their order. -/
theorem tree_reverse {k : Nat} {l : List (List Int)} (h1 : 1 ≤ l.length) (h2 : l.length ≤ 40) (h : allW k l) : treeOk l.reverse = true ∧ tree l.reverse = tree l := by
  have a := treeOk_of h1 h2 h
  have hr : allW k l.reverse := fun x hx => h x (List.mem_reverse.1 hx)
  have b := treeOk_of (l := l.reverse) (by simpa using h1) (by simpa using h2) hr
  have fa := tree_facts a.1
  have fb := tree_facts b.1
  rw [a.2] at fa
  rw [b.2] at fb
  refine ⟨b.1, word_inj fb.1 fa.1 (by rw [fb.2.1, fa.2.1]) ?_⟩
  rw [fb.2.1]
  obtain ⟨u, hu⟩ := fa.2.2
  obtain ⟨v, hv⟩ := fb.2.2
  rw [sumV_reverse] at hv
  exact ⟨v - u, by rw [Int.mul_sub, ← hu, ← hv]; omega⟩
end Tm
end Go.Proofs.Ytkphbnejnilehaa

/- Plain facts of chapter 9: words that turn forward, coin words. Plain facts of chapter 9: words of coins, outcomes, guesses. -/
import Derived.Test.YteklgngooflhlaaAMath
import Derived.Test.YteklgngooflhlaaPMath
import Derived.Test.YteklgngooflhlaaSS
namespace Go.Proofs.Yteklgngooflhlaa
set_option maxRecDepth 20000
open Go.RowKit
namespace Tm
def coinsFor (k : Int) : Int := if 2 ≤ k ∧ k ≤ 5 then lim k - 1 else 0
/-- A list turns forward. -/
def fwd : List Int → Bool
  | [] => false
  | [_] => false
  | a :: b :: l => if b = a then fwd (b :: l) else decide (b = turn a)
def turnsF (xs : List Int) : Bool := isW xs && fwd xs
def turned (xs : List Int) : List Int := xs.map turn
theorem drop_two {xs : List Int} {k : Nat} (h : k + 1 < xs.length) : xs.drop k = xs.getD k 0 :: xs.getD (k + 1) 0 :: xs.drop (k + 2) := by
  rw [List.drop_eq_getElem_cons (by omega), List.drop_eq_getElem_cons (i := k + 1) h]
  simp [List.getD_eq_getElem?_getD, List.getElem?_eq_getElem h, List.getElem?_eq_getElem (show k < xs.length by omega)]
theorem fwd_same {xs : List Int} {k : Nat} (h : k + 1 < xs.length) (e : xs.getD (k + 1) 0 = xs.getD k 0) (f : fwd xs = fwd (xs.drop k)) : fwd xs = fwd (xs.drop (k + 1)) := by
  rw [f, drop_two h, fwd, if_pos e]
  congr 1
  rw [List.drop_eq_getElem_cons (i := k + 1) h]
  simp [List.getD_eq_getElem?_getD, List.getElem?_eq_getElem h]
theorem fwd_turn {xs : List Int} {k : Nat} (h : k + 1 < xs.length) (e : xs.getD (k + 1) 0 ≠ xs.getD k 0) (f : fwd xs = fwd (xs.drop k)) : fwd xs = decide (xs.getD (k + 1) 0 = turn (xs.getD k 0)) := by
  rw [f, drop_two h, fwd, if_neg e]
theorem fwd_end {xs : List Int} {k : Nat} (h : xs.length ≤ k + 1) (f : fwd xs = fwd (xs.drop k)) : fwd xs = false := by
  rw [f]
  have : (xs.drop k).length ≤ 1 := by rw [List.length_drop]; omega
  match hh : xs.drop k, this with
  | [], _ => rfl
  | [_], _ => rfl
  | _ :: _ :: _, h => exact absurd h (by simp only [List.length_cons]; omega)
theorem turned_length (xs : List Int) : (turned xs).length = xs.length := by simp [turned]
/-- The words that are taken among the first j words of k trits. -/
def coinL (k : Nat) : Nat → List (List Int)
  | 0 => []
  | j + 1 => if fwd (wordL (-(limN k) + (j : Int)) k) then coinL k j ++ [wordL (-(limN k) + (j : Int)) k, turned (wordL (-(limN k) + (j : Int)) k), turned (turned (wordL (-(limN k) + (j : Int)) k))] else coinL k j
def coinJ (k : Nat) : Nat := 3 ^ (k - 1)
def coinOk (c k : Int) : Bool := decide (2 ≤ k ∧ k ≤ 5 ∧ 3 ≤ c ∧ c ≤ coinsFor k ∧ c % 3 = 0)
def coinW (c k : Int) : List (List Int) := if coinOk c k then (coinL k.toNat (coinJ k.toNat)).take c.toNat else []
theorem coinL_three (k j : Nat) : (coinL k j).length % 3 = 0 := by
  induction j with
  | zero => rfl
  | succ j ih =>
    rw [coinL]
    split
    · rw [List.length_append]; simp only [List.length_cons, List.length_nil]; omega
    · exact ih
theorem coinL_more (k j d : Nat) : coinL k j <+: coinL k (j + d) := by
  induction d with
  | zero => exact List.prefix_refl _
  | succ d ih =>
    refine ih.trans ?_
    rw [show j + (d + 1) = (j + d) + 1 from rfl, coinL]
    split
    · exact List.prefix_append _ _
    · exact List.prefix_refl _
theorem coinL_all : ∀ k : Fin 6, 2 ≤ k.1 → ((coinL k.1 (coinJ k.1)).length : Int) = coinsFor (k.1 : Int) := by decide +kernel
/-- There are words left. -/
theorem coin_left {k j : Nat} {c : Int} (h2 : 2 ≤ k) (h5 : k ≤ 5) (hc : c ≤ coinsFor (k : Int)) (hj : j ≤ coinJ k) (h : ((coinL k j).length : Int) < c) : j < coinJ k := by
  rcases Nat.lt_or_ge j (coinJ k) with g | g
  · exact g
  · have e : j = coinJ k := by omega
    subst e
    have := coinL_all ⟨k, by omega⟩ h2
    simp only at this
    omega
theorem coin_done {k j : Nat} {c : Int} (hj : j ≤ coinJ k) (h : ((coinL k j).length : Int) = c) : coinL k j = (coinL k (coinJ k)).take c.toNat := by
  have := coinL_more k j (coinJ k - j)
  rw [show j + (coinJ k - j) = coinJ k by omega] at this
  have e : c.toNat = (coinL k j).length := by omega
  rw [e]
  exact (List.prefix_iff_eq_take.1 this)
/-- No word is taken twice. -/
theorem coin_new : ∀ k : Fin 6, 2 ≤ k.1 → ∀ j : Fin 81, j.1 < coinJ k.1 → fwd (wordL (-(limN k.1) + (j.1 : Int)) k.1) = true → (coinL k.1 j.1).all (fun x => decide (val x ≠ val (wordL (-(limN k.1) + (j.1 : Int)) k.1))) = true := by decide +kernel
theorem turned_isW {xs : List Int} (h : isW xs = true) : isW (turned xs) = true := by
  obtain ⟨h1, h2, h3⟩ := (isW_iff _).1 h
  refine (isW_iff _).2 ⟨fun x hx => ?_, by rw [turned_length]; exact h2, by rw [turned_length]; exact h3⟩
  rw [turned, List.mem_map] at hx
  obtain ⟨y, hy, rfl⟩ := hx
  have := h1 y hy
  have : y = -1 ∨ y = 0 ∨ y = 1 := by omega
  rcases this with rfl | rfl | rfl <;> decide
theorem coinL_isW {k : Nat} (h1 : 1 ≤ k) (h2 : k ≤ 30) (j : Nat) : ∀ x ∈ coinL k j, isW x = true := by
  induction j with
  | zero => intro x hx; cases hx
  | succ j ih =>
    intro x hx
    rw [coinL] at hx
    split at hx
    · rw [List.mem_append] at hx
      rcases hx with hx | hx
      · exact ih x hx
      · have w := wordL_isW (n := -(limN k) + (j : Int)) h1 h2
        simp only [List.mem_cons, List.not_mem_nil, or_false] at hx
        rcases hx with rfl | rfl | rfl
        · exact w
        · exact turned_isW w
        · exact turned_isW (turned_isW w)
    · exact ih x hx
theorem coinL_yes {k j : Nat} (h : fwd (wordL (-(limN k) + (j : Int)) k) = true) : coinL k (j + 1) = coinL k j ++ [wordL (-(limN k) + (j : Int)) k, turned (wordL (-(limN k) + (j : Int)) k), turned (turned (wordL (-(limN k) + (j : Int)) k))] := by
  rw [coinL, if_pos h]
theorem coinL_no {k j : Nat} (h : fwd (wordL (-(limN k) + (j : Int)) k) = false) : coinL k (j + 1) = coinL k j := by
  rw [coinL, h]; rfl
theorem coin_news {k j : Nat} (h2 : 2 ≤ k) (h5 : k ≤ 5) (hj : j < coinJ k) (h : fwd (wordL (-(limN k) + (j : Int)) k) = true) : ∀ x ∈ coinL k j, val x ≠ val (wordL (-(limN k) + (j : Int)) k) := by
  have hJ : coinJ k ≤ 81 := by
    have : k = 2 ∨ k = 3 ∨ k = 4 ∨ k = 5 := by omega
    rcases this with rfl | rfl | rfl | rfl <;> decide
  have := coin_new ⟨k, by omega⟩ h2 ⟨j, by omega⟩ hj h
  rw [List.all_eq_true] at this
  intro x hx
  exact of_decide_eq_true (this x hx)
theorem coinOk_iff (c k : Int) : coinOk c k = true ↔ 2 ≤ k ∧ k ≤ 5 ∧ 3 ≤ c ∧ c ≤ coinsFor k ∧ c % 3 = 0 := by rw [coinOk, decide_eq_true_eq]
theorem coinsFor_bd (k : Int) : 0 ≤ coinsFor k ∧ coinsFor k ≤ 120 := by
  rw [coinsFor]
  split
  · have : k = 2 ∨ k = 3 ∨ k = 4 ∨ k = 5 := by omega
    rcases this with rfl | rfl | rfl | rfl <;> decide
  · omega
theorem limN_5b {k : Nat} (h : k ≤ 5) : 0 ≤ limN k ∧ limN k ≤ 121 := ⟨limN_nonneg k, by have := limN_mono h; have e : limN 5 = 121 := by decide
                                                                                        omega⟩
theorem coinJ_bd {k : Nat} (h : k ≤ 5) : coinJ k ≤ 81 := by
  rw [coinJ]
  exact Nat.pow_le_pow_right (by decide) (show k - 1 ≤ 4 by omega)
theorem coinJ_lim {k : Nat} (h2 : 2 ≤ k) (h5 : k ≤ 5) : (coinJ k : Int) ≤ 2 * limN k := by
  have : k = 2 ∨ k = 3 ∨ k = 4 ∨ k = 5 := by omega
  rcases this with rfl | rfl | rfl | rfl <;> decide
end Tm
namespace Tm
def coinsOk (L : List (List Int)) : Bool := decide (0 < L.length) && alike L
theorem coinsOk_at {L : List (List Int)} (h : coinsOk L = true) : 0 < L.length ∧ ∀ i, i < L.length → isW (L.getD i []) = true ∧ (L.getD i []).length = (L.getD 0 []).length := by
  rw [coinsOk, Bool.and_eq_true, decide_eq_true_eq] at h
  refine ⟨h.1, fun i hi => ?_⟩
  have := h.2
  rw [alike, List.all_eq_true] at this
  have := this (L.getD i []) (by rw [List.getD_eq_getElem?_getD, List.getElem?_eq_getElem hi]; exact List.getElem_mem hi)
  rw [Bool.and_eq_true, decide_eq_true_eq] at this
  exact this
theorem coinsOk_all {L : List (List Int)} (h0 : 0 < L.length) (h : AllA L L.length) : coinsOk L = true := by
  rw [coinsOk, decide_eq_true h0, alike_all h]; rfl
theorem coinsOk_no {L : List (List Int)} {k : Nat} (hk : k < L.length) (h : fit (L.getD 0 []) (L.getD k []) = false) : coinsOk L = false := by
  rw [Bool.eq_false_iff]
  intro hc
  obtain ⟨h0, ha⟩ := coinsOk_at hc
  have a0 := ha 0 h0
  have ak := ha k hk
  rw [Bool.eq_false_iff] at h
  exact h ((fit_iff _ _).2 ⟨a0.1, ak.1, ak.2.symm⟩)
def outOk (L : List (List Int)) (coin kind : Int) : Bool := coinsOk L && isT kind && (decide (kind = 0) || decide (0 ≤ coin ∧ coin < (L.length : Int)))
def mulK (kind : Int) (xs : List Int) : List Int := xs.map (fun x => x * kind)
def outc (L : List (List Int)) (coin kind : Int) : List Int := if outOk L coin kind then (if kind = 0 then List.replicate (L.getD 0 []).length 0 else mulK kind (L.getD coin.toNat [])) else []
theorem mulK_length (kind : Int) (xs : List Int) : (mulK kind xs).length = xs.length := by simp [mulK]
theorem mulK_one (xs : List Int) : mulK 1 xs = xs := by simp [mulK]
theorem mulK_neg (xs : List Int) : mulK (-1) xs = negL xs := by
  rw [mulK, negL]; congr 1; funext x; omega
def guessF : List (List Int) → List Int → Int → Int × Int × Bool
  | [], _, _ => (0, 0, false)
  | x :: t, os, i => if x = os then (i, 1, true) else if negL x = os then (i, -1, true) else guessF t os (i + 1)
def guess (L : List (List Int)) (os : List Int) : Int × Int × Bool := if coinsOk L then (if os = List.replicate (L.getD 0 []).length 0 then (-1, 0, true) else guessF L os 0) else (0, 0, false)
theorem guessF_at {L : List (List Int)} {os : List Int} {k : Nat} (hk : k < L.length) : guessF (L.drop k) os (k : Int) = if L.getD k [] = os then ((k : Int), 1, true) else if negL (L.getD k []) = os then ((k : Int), -1, true) else guessF (L.drop (k + 1)) os ((k + 1 : Nat) : Int) := by
  rw [List.drop_eq_getElem_cons hk, guessF]
  have e : L[k] = L.getD k [] := by rw [List.getD_eq_getElem?_getD, List.getElem?_eq_getElem hk]; rfl
  rw [e]; rfl
theorem guessF_none {L : List (List Int)} {os : List Int} (h : ∀ x ∈ L, x ≠ os ∧ negL x ≠ os) (i : Int) : guessF L os i = (0, 0, false) := by
  induction L generalizing i with
  | nil => rfl
  | cons x t ih =>
    rw [guessF, if_neg (h x (by simp)).1, if_neg (h x (by simp)).2]
    exact ih (fun y hy => h y (by simp [hy])) _
theorem negL_length (xs : List Int) : (negL xs).length = xs.length := by simp [negL]
theorem negL_isW {xs : List Int} (h : isW xs = true) : isW (negL xs) = true := by
  obtain ⟨h1, h2, h3⟩ := (isW_iff _).1 h
  refine (isW_iff _).2 ⟨fun x hx => ?_, by rw [negL_length]; exact h2, by rw [negL_length]; exact h3⟩
  rw [negL, List.mem_map] at hx
  obtain ⟨y, hy, rfl⟩ := hx
  have := h1 y hy
  omega
theorem negL_negL (xs : List Int) : negL (negL xs) = xs := by
  rw [negL, negL, List.map_map]
  exact (List.map_congr_left (g := id) fun x _ => by simp).trans (List.map_id _)
/-- Outcomes that are no word of the words' number of trits. -/
theorem guess_unfit {L : List (List Int)} {os : List Int} (h : fit (L.getD 0 []) os = false) : guess L os = (0, 0, false) := by
  rw [guess]
  split
  · rename_i hc
    obtain ⟨h0, ha⟩ := coinsOk_at hc
    have a0 := ha 0 h0
    have no : ¬ (isW os = true ∧ os.length = (L.getD 0 []).length) := fun ⟨h1, h2⟩ => by
      rw [Bool.eq_false_iff] at h
      exact h ((fit_iff _ _).2 ⟨a0.1, h1, h2.symm⟩)
    rw [if_neg]
    · apply guessF_none
      intro x hx
      obtain ⟨i, hi, rfl⟩ := List.mem_iff_getElem.1 hx
      have ai := ha i hi
      rw [show L.getD i [] = L[i] from by rw [List.getD_eq_getElem?_getD, List.getElem?_eq_getElem hi]; rfl] at ai
      refine ⟨fun e => no ?_, fun e => no ?_⟩
      · rw [← e]; exact ai
      · rw [← e]; exact ⟨negL_isW ai.1, by rw [negL_length]; exact ai.2⟩
    · intro e
      apply no
      rw [e]
      have := (isW_iff _).1 a0.1
      refine ⟨(isW_iff _).2 ⟨fun x hx => ?_, by simpa using this.2.1, by simpa using this.2.2⟩, by simp⟩
      rw [List.eq_of_mem_replicate hx]; omega
  · rfl
/-- A word without weight. -/
theorem sqT_zero {xs : List Int} (h : isW xs = true) (k : Nat) (hk : k ≤ xs.length) : 0 ≤ sqT xs k ∧ (sqT xs k = 0 ↔ ∀ q, q < k → xs.getD q 0 = 0) := by
  induction k with
  | zero => exact ⟨by simp [sqT], by simp [sqT]⟩
  | succ k ih =>
    obtain ⟨i1, i2⟩ := ih (by omega)
    have b := isW_at h k
    have e : xs.getD k 0 * xs.getD k 0 = 0 ∧ xs.getD k 0 = 0 ∨ xs.getD k 0 * xs.getD k 0 = 1 ∧ xs.getD k 0 ≠ 0 := by
      have : xs.getD k 0 = -1 ∨ xs.getD k 0 = 0 ∨ xs.getD k 0 = 1 := by omega
      rcases this with e | e | e <;> rw [e] <;> simp
    rw [sqT]
    rcases e with ⟨e1, e2⟩ | ⟨e1, e2⟩
    · rw [e1]
      refine ⟨by omega, ⟨fun h q hq => ?_, fun h => ?_⟩⟩
      · by_cases c : q = k
        · subst c; exact e2
        · exact i2.1 (by omega) q (by omega)
      · have := i2.2 (fun q hq => h q (by omega)); omega
    · rw [e1]
      refine ⟨by omega, ⟨fun h => ?_, fun h => ?_⟩⟩
      · omega
      · exact absurd (h k (by omega)) e2
theorem wgt_zero {xs : List Int} (h : isW xs = true) : wgtW xs = 0 ↔ xs = List.replicate xs.length 0 := by
  rw [wgtW, if_pos h, (sqT_zero h xs.length (Nat.le_refl _)).2]
  constructor
  · intro a
    apply List.ext_getElem (by simp)
    intro i h1 h2
    rw [List.getElem_replicate]
    have := a i h1
    rw [List.getD_eq_getElem?_getD, List.getElem?_eq_getElem h1] at this
    exact this
  · intro e q hq
    rw [e, List.getD_eq_getElem?_getD, List.getElem?_replicate]
    split <;> rfl
end Tm
end Go.Proofs.Yteklgngooflhlaa

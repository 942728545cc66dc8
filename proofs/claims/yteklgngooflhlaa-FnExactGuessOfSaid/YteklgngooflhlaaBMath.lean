/- Plain facts of chapter 9: words that turn forward, coin words. -/
import Derived.Test.YteklgngooflhlaaAMath
import Derived.Test.YteklgngooflhlaaPMath
namespace Go.Proofs.Yteklgngooflhlaa
set_option maxRecDepth 20000
namespace Tm
def coinsFor (k : Int) : Int := if 2 ≤ k ∧ k ≤ 5 then lim k - 1 else 0
/-- A list turns forward. -/
def fwd : List Int → Bool
  | [] => false
  | [_] => false
  | a :: b :: l => if b = a then fwd (b :: l) else decide (b = turn a)
def turnsF (xs : List Int) : Bool := isW xs && fwd xs
def turned (xs : List Int) : List Int := xs.map turn
theorem drop_two {xs : List Int} {k : Nat} (h : k + 1 < xs.length) : xs.drop k = xs.getD k 0 :: xs.getD (k + 1) 0 :: xs.drop (k + 2) := by
  rw [List.drop_eq_getElem_cons (by omega), List.drop_eq_getElem_cons (i := k + 1) h]
  simp [List.getD_eq_getElem?_getD, List.getElem?_eq_getElem h, List.getElem?_eq_getElem (show k < xs.length by omega)]
theorem fwd_same {xs : List Int} {k : Nat} (h : k + 1 < xs.length) (e : xs.getD (k + 1) 0 = xs.getD k 0) (f : fwd xs = fwd (xs.drop k)) : fwd xs = fwd (xs.drop (k + 1)) := by
  rw [f, drop_two h, fwd, if_pos e]
  congr 1
  rw [List.drop_eq_getElem_cons (i := k + 1) h]
  simp [List.getD_eq_getElem?_getD, List.getElem?_eq_getElem h]
theorem fwd_turn {xs : List Int} {k : Nat} (h : k + 1 < xs.length) (e : xs.getD (k + 1) 0 ≠ xs.getD k 0) (f : fwd xs = fwd (xs.drop k)) : fwd xs = decide (xs.getD (k + 1) 0 = turn (xs.getD k 0)) := by
  rw [f, drop_two h, fwd, if_neg e]
theorem fwd_end {xs : List Int} {k : Nat} (h : xs.length ≤ k + 1) (f : fwd xs = fwd (xs.drop k)) : fwd xs = false := by
  rw [f]
  have : (xs.drop k).length ≤ 1 := by rw [List.length_drop]; omega
  match hh : xs.drop k, this with
  | [], _ => rfl
  | [_], _ => rfl
  | _ :: _ :: _, h => exact absurd h (by simp only [List.length_cons]; omega)
theorem turned_length (xs : List Int) : (turned xs).length = xs.length := by simp [turned]
/-- The words that are taken among the first j words of k trits. -/
def coinL (k : Nat) : Nat → List (List Int)
  | 0 => []
  | j + 1 => if fwd (wordL (-(limN k) + (j : Int)) k) then coinL k j ++ [wordL (-(limN k) + (j : Int)) k, turned (wordL (-(limN k) + (j : Int)) k), turned (turned (wordL (-(limN k) + (j : Int)) k))] else coinL k j
def coinJ (k : Nat) : Nat := 3 ^ (k - 1)
def coinOk (c k : Int) : Bool := decide (2 ≤ k ∧ k ≤ 5 ∧ 3 ≤ c ∧ c ≤ coinsFor k ∧ c % 3 = 0)
def coinW (c k : Int) : List (List Int) := if coinOk c k then (coinL k.toNat (coinJ k.toNat)).take c.toNat else []
theorem coinL_three (k j : Nat) : (coinL k j).length % 3 = 0 := by
  induction j with
  | zero => rfl
  | succ j ih =>
    rw [coinL]
    split
    · rw [List.length_append]; simp only [List.length_cons, List.length_nil]; omega
    · exact ih
theorem coinL_more (k j d : Nat) : coinL k j <+: coinL k (j + d) := by
  induction d with
  | zero => exact List.prefix_refl _
  | succ d ih =>
    refine ih.trans ?_
    rw [show j + (d + 1) = (j + d) + 1 from rfl, coinL]
    split
    · exact List.prefix_append _ _
    · exact List.prefix_refl _
theorem coinL_all : ∀ k : Fin 6, 2 ≤ k.1 → ((coinL k.1 (coinJ k.1)).length : Int) = coinsFor (k.1 : Int) := by decide +kernel
/-- There are words left. -/
theorem coin_left {k j : Nat} {c : Int} (h2 : 2 ≤ k) (h5 : k ≤ 5) (hc : c ≤ coinsFor (k : Int)) (hj : j ≤ coinJ k) (h : ((coinL k j).length : Int) < c) : j < coinJ k := by
  rcases Nat.lt_or_ge j (coinJ k) with g | g
  · exact g
  · have e : j = coinJ k := by omega
    subst e
    have := coinL_all ⟨k, by omega⟩ h2
    simp only at this
    omega
theorem coin_done {k j : Nat} {c : Int} (hj : j ≤ coinJ k) (h : ((coinL k j).length : Int) = c) : coinL k j = (coinL k (coinJ k)).take c.toNat := by
  have := coinL_more k j (coinJ k - j)
  rw [show j + (coinJ k - j) = coinJ k by omega] at this
  have e : c.toNat = (coinL k j).length := by omega
  rw [e]
  exact (List.prefix_iff_eq_take.1 this)
/-- No word is taken twice. -/
theorem coin_new : ∀ k : Fin 6, 2 ≤ k.1 → ∀ j : Fin 81, j.1 < coinJ k.1 → fwd (wordL (-(limN k.1) + (j.1 : Int)) k.1) = true → (coinL k.1 j.1).all (fun x => decide (val x ≠ val (wordL (-(limN k.1) + (j.1 : Int)) k.1))) = true := by decide +kernel
theorem turned_isW {xs : List Int} (h : isW xs = true) : isW (turned xs) = true := by
  obtain ⟨h1, h2, h3⟩ := (isW_iff _).1 h
  refine (isW_iff _).2 ⟨fun x hx => ?_, by rw [turned_length]; exact h2, by rw [turned_length]; exact h3⟩
  rw [turned, List.mem_map] at hx
  obtain ⟨y, hy, rfl⟩ := hx
  have := h1 y hy
  have : y = -1 ∨ y = 0 ∨ y = 1 := by omega
  rcases this with rfl | rfl | rfl <;> decide
theorem coinL_isW {k : Nat} (h1 : 1 ≤ k) (h2 : k ≤ 30) (j : Nat) : ∀ x ∈ coinL k j, isW x = true := by
  induction j with
  | zero => intro x hx; cases hx
  | succ j ih =>
    intro x hx
    rw [coinL] at hx
    split at hx
    · rw [List.mem_append] at hx
      rcases hx with hx | hx
      · exact ih x hx
      · have w := wordL_isW (n := -(limN k) + (j : Int)) h1 h2
        simp only [List.mem_cons, List.not_mem_nil, or_false] at hx
        rcases hx with rfl | rfl | rfl
        · exact w
        · exact turned_isW w
        · exact turned_isW (turned_isW w)
    · exact ih x hx
theorem coinL_yes {k j : Nat} (h : fwd (wordL (-(limN k) + (j : Int)) k) = true) : coinL k (j + 1) = coinL k j ++ [wordL (-(limN k) + (j : Int)) k, turned (wordL (-(limN k) + (j : Int)) k), turned (turned (wordL (-(limN k) + (j : Int)) k))] := by
  rw [coinL, if_pos h]
theorem coinL_no {k j : Nat} (h : fwd (wordL (-(limN k) + (j : Int)) k) = false) : coinL k (j + 1) = coinL k j := by
  rw [coinL, h]; rfl
theorem coin_news {k j : Nat} (h2 : 2 ≤ k) (h5 : k ≤ 5) (hj : j < coinJ k) (h : fwd (wordL (-(limN k) + (j : Int)) k) = true) : ∀ x ∈ coinL k j, val x ≠ val (wordL (-(limN k) + (j : Int)) k) := by
  have hJ : coinJ k ≤ 81 := by
    have : k = 2 ∨ k = 3 ∨ k = 4 ∨ k = 5 := by omega
    rcases this with rfl | rfl | rfl | rfl <;> decide
  have := coin_new ⟨k, by omega⟩ h2 ⟨j, by omega⟩ hj h
  rw [List.all_eq_true] at this
  intro x hx
  exact of_decide_eq_true (this x hx)
theorem coinOk_iff (c k : Int) : coinOk c k = true ↔ 2 ≤ k ∧ k ≤ 5 ∧ 3 ≤ c ∧ c ≤ coinsFor k ∧ c % 3 = 0 := by rw [coinOk, decide_eq_true_eq]
theorem coinsFor_bd (k : Int) : 0 ≤ coinsFor k ∧ coinsFor k ≤ 120 := by
  rw [coinsFor]
  split
  · have : k = 2 ∨ k = 3 ∨ k = 4 ∨ k = 5 := by omega
    rcases this with rfl | rfl | rfl | rfl <;> decide
  · omega
theorem limN_5b {k : Nat} (h : k ≤ 5) : 0 ≤ limN k ∧ limN k ≤ 121 := ⟨limN_nonneg k, by have := limN_mono h; have e : limN 5 = 121 := by decide
                                                                                        omega⟩
theorem coinJ_bd {k : Nat} (h : k ≤ 5) : coinJ k ≤ 81 := by
  rw [coinJ]
  exact Nat.pow_le_pow_right (by decide) (show k - 1 ≤ 4 by omega)
theorem coinJ_lim {k : Nat} (h2 : 2 ≤ k) (h5 : k ≤ 5) : (coinJ k : Int) ≤ 2 * limN k := by
  have : k = 2 ∨ k = 3 ∨ k = 4 ∨ k = 5 := by omega
  rcases this with rfl | rfl | rfl | rfl <;> decide
end Tm
end Go.Proofs.Yteklgngooflhlaa

/- Plain facts of chapter 9: coin words find the odd coin. -/
import Derived.Test.YteklgngooflhlaaVRowS
import Derived.Test.YteklgngooflhlaaBI2
import Derived.Test.YteklgngooflhlaaLForw
namespace Go.Proofs.Yteklgngooflhlaa
set_option maxRecDepth 20000
open Go.RowKit
namespace Tm
def coinAll (k : Nat) : List (List Int) := coinL k (coinJ k)
def distinct : List (List Int) → Bool
  | [] => true
  | x :: t => t.all (fun y => decide (y ≠ x)) && distinct t
theorem distinct_at {L : List (List Int)} (h : distinct L = true) : ∀ i j, i < j → j < L.length → L.getD i [] ≠ L.getD j [] := by
  induction L with
  | nil => intro i j _ hj; simp at hj
  | cons x t ih =>
    rw [distinct, Bool.and_eq_true, List.all_eq_true] at h
    intro i j hij hj
    match i, j, hij with
    | 0, j + 1, _ =>
      have hj' : j < t.length := by simpa using hj
      intro e
      have := of_decide_eq_true (h.1 (t.getD j []) (by rw [List.getD_eq_getElem?_getD, List.getElem?_eq_getElem hj']; exact List.getElem_mem hj'))
      exact this (by simpa using e.symm)
    | i + 1, j + 1, hij =>
      have := ih h.2 i j (by omega) (by simpa using hj)
      simpa using this
theorem coin_dist : ∀ k : Fin 5, 2 ≤ k.1 → distinct (coinAll k.1) = true := by decide +kernel
theorem coin_fwd : ∀ k : Fin 5, 2 ≤ k.1 → (coinAll k.1).all (fun x => fwd x && decide (x.length = k.1)) = true := by decide +kernel
theorem coin_even : ∀ k : Fin 5, 2 ≤ k.1 → ∀ q : Fin 14, ∀ p : Fin 4, (places (colL ((coinAll k.1).take (3 * q.1)) p.1) 1).length = (places (colL ((coinAll k.1).take (3 * q.1)) p.1) (-1)).length := by decide +kernel
theorem coinsFor_small : ∀ k : Fin 5, 2 ≤ k.1 → coinsFor (k.1 : Int) ≤ 39 ∧ coinsFor (k.1 : Int) = (pow3 k.1 - 3) / 2 ∧ pow3 k.1 ≤ 81 ∧ 9 ≤ pow3 k.1 ∧ coinsFor (k.1 : Int) % 3 = 0 ∧ 3 ≤ coinsFor (k.1 : Int) := by decide +kernel
/-- The coin words of a law's draw. -/
theorem coin_facts {k : Nat} {c : Int} (k2 : 2 ≤ k) (k4 : k ≤ 4) (h : coinOk c (k : Int) = true) :
    ((coinW c (k : Int)).length : Int) = c ∧ (∀ i, i < (coinW c (k : Int)).length → isW ((coinW c (k : Int)).getD i []) = true ∧ ((coinW c (k : Int)).getD i []).length = k ∧ fwd ((coinW c (k : Int)).getD i []) = true)
    ∧ (∀ i j, i < j → j < (coinW c (k : Int)).length → (coinW c (k : Int)).getD i [] ≠ (coinW c (k : Int)).getD j []) ∧ (∀ p, p < k → (places (colL (coinW c (k : Int)) p) 1).length = (places (colL (coinW c (k : Int)) p) (-1)).length) := by
  obtain ⟨h1, h2, h3, h4, h5⟩ := (coinOk_iff _ _).1 h
  have e : coinW c (k : Int) = (coinAll k).take c.toNat := by rw [coinW, if_pos h, Int.toNat_natCast]; rfl
  have ln := coinL_all ⟨k, by omega⟩ k2
  have ln' : ((coinAll k).length : Int) = coinsFor (k : Int) := ln
  have sm := coinsFor_small ⟨k, by omega⟩ k2
  simp only at sm
  have len : (coinW c (k : Int)).length = c.toNat := by rw [e, List.length_take]; omega
  have at' : ∀ i, i < c.toNat → (coinW c (k : Int)).getD i [] = (coinAll k).getD i [] := fun i hi => by
    rw [e, List.getD_eq_getElem?_getD, List.getElem?_take, if_pos hi, ← List.getD_eq_getElem?_getD]
  refine ⟨by omega, fun i hi => ?_, fun i j hij hj => ?_, fun p hp => ?_⟩
  · have hw := coinW_isW c (k : Int) ((coinW c (k : Int)).getD i []) (by rw [List.getD_eq_getElem?_getD, List.getElem?_eq_getElem hi]; exact List.getElem_mem hi)
    have f := coin_fwd ⟨k, by omega⟩ k2
    rw [List.all_eq_true] at f
    have := f ((coinAll k).getD i []) (by rw [List.getD_eq_getElem?_getD, List.getElem?_eq_getElem (by omega)]; exact List.getElem_mem _)
    rw [Bool.and_eq_true, decide_eq_true_eq] at this
    rw [at' i (by omega)] at hw ⊢
    exact ⟨hw, this.2, this.1⟩
  · rw [at' i (by omega), at' j (by omega)]
    have d : distinct (coinAll k) = true := coin_dist ⟨k, by omega⟩ k2
    exact distinct_at d i j hij (by omega)
  · have := coin_even ⟨k, by omega⟩ k2 ⟨c.toNat / 3, by omega⟩ ⟨p, by omega⟩
    simp only at this
    rw [show 3 * (c.toNat / 3) = c.toNat from by omega, ← e] at this
    exact this
theorem coinsOk_coin {k : Nat} {c : Int} (k2 : 2 ≤ k) (k4 : k ≤ 4) (h : coinOk c (k : Int) = true) : coinsOk (coinW c (k : Int)) = true ∧ weiN (coinW c (k : Int)) = k := by
  obtain ⟨l, f, -, -⟩ := coin_facts k2 k4 h
  have c3 := ((coinOk_iff _ _).1 h).2.2.1
  have ok : coinsOk (coinW c (k : Int)) = true := coinsOk_all (by omega) (fun i hi => ⟨(f i hi).1, by rw [(f i hi).2.1, (f 0 (by omega)).2.1]⟩)
  exact ⟨ok, by rw [weiN, if_pos ok]; exact (f 0 (by omega)).2.1⟩
theorem guessF_first {L : List (List Int)} {os : List Int} (m : Nat) (hm : m ≤ L.length) (h : ∀ j, j < m → L.getD j [] ≠ os ∧ negL (L.getD j []) ≠ os) : guessF L os 0 = guessF (L.drop m) os (m : Int) := by
  induction m with
  | zero => rfl
  | succ m ih =>
    rw [ih (by omega) (fun j hj => h j (by omega)), guessF_at (by omega), if_neg (h m (by omega)).1, if_neg (h m (by omega)).2]
theorem zeros_flat (n : Nat) : fwd (List.replicate n 0) = false := fwd_flat fun q hq => by
  rw [List.length_replicate] at hq
  rw [List.getD_eq_getElem?_getD, List.getD_eq_getElem?_getD, List.getElem?_replicate, List.getElem?_replicate, if_pos hq, if_pos (by omega)]
/-- The odd coin is guessed. -/
theorem guess_odd {L : List (List Int)} {m : Nat} {kd : Int} (ok : coinsOk L = true) (hm : m < L.length) (hk : kd = 1 ∨ kd = -1) (hf : ∀ i, i < L.length → isW (L.getD i []) = true ∧ fwd (L.getD i []) = true) (hd : ∀ i j, i < j → j < L.length → L.getD i [] ≠ L.getD j []) :
    guess L (mulK kd (L.getD m [])) = ((m : Int), kd, true) := by
  have both : ∀ i, i < L.length → fwd (negL (L.getD i [])) = false := fun i hi => by
    have := (fwd_both ((isW_iff _).1 (hf i hi).1).1).2.1
    cases e : fwd (negL (L.getD i [])) with
    | false => rfl
    | true => exact absurd ⟨(hf i hi).2, e⟩ this
  have f0 := (hf m hm).2
  rcases hk with rfl | rfl
  · rw [mulK_one, guess, if_pos ok, if_neg (fun e => by rw [e, zeros_flat] at f0; cases f0)]
    have fst := guessF_first (L := L) (os := L.getD m []) m (by omega) (fun j hj => ⟨hd j m hj hm, fun e => by have := both j (by omega); rw [e, f0] at this; cases this⟩)
    rw [fst, guessF_at hm, if_pos rfl]
  · have fm := both m hm
    rw [mulK_neg, guess, if_pos ok, if_neg (fun e => by
      have : L.getD m [] = List.replicate (L.getD 0 []).length 0 := by
        rw [← negL_negL (L.getD m []), e, negL, List.map_replicate]; rfl
      rw [this, zeros_flat] at f0; cases f0)]
    have fst := guessF_first (L := L) (os := negL (L.getD m [])) m (by omega) (fun j hj => ⟨fun e => (by have := (hf j (by omega)).2; rw [e, fm] at this; cases this), fun e => hd j m hj hm (by rw [← negL_negL (L.getD j []), e, negL_negL])⟩)
    rw [fst, guessF_at hm,
      if_neg (fun e => by rw [e, fm] at f0; cases f0), if_pos rfl]
/-- The weights: one coin is odd. -/
def wts (n odd : Nat) (kd : Int) : List Int := (List.range n).map fun i => if i = odd then 10 + kd else 10
theorem wts_length (n odd : Nat) (kd : Int) : (wts n odd kd).length = n := by simp [wts]
theorem wts_at {n odd i : Nat} {kd : Int} (h : i < n) : (wts n odd kd).getD i 0 = if i = odd then 10 + kd else 10 := by
  rw [wts, List.getD_eq_getElem?_getD, List.getElem?_map, List.getElem?_range h]; rfl
theorem panF_prefix (ws ps qs : List Int) (j : Nat) (hj : j ≤ ps.length) : panF ws (ps ++ qs) j = panF ws ps j := by
  induction j with
  | zero => rfl
  | succ j ih =>
    have e : (ps ++ qs).getD j 0 = ps.getD j 0 := by rw [List.getD_eq_getElem?_getD, List.getElem?_append_left (by omega), ← List.getD_eq_getElem?_getD]
    rw [panF, panF, ih (by omega), e]
theorem panW_places {n odd : Nat} {kd : Int} (xs : List Int) (t : Int) (k : Nat) (hk : k ≤ n) : panW (wts n odd kd) (placesF xs t k) = 10 * ((placesF xs t k).length : Int) + (if odd < k ∧ xs.getD odd 0 = t then kd else 0) := by
  induction k with
  | zero => rw [if_neg (by omega)]; rfl
  | succ k ih =>
    have ih := ih (by omega)
    rw [placesF]
    by_cases c : xs.getD k 0 = t
    · have e2 : (placesF xs t k ++ [(k : Int)]).getD (placesF xs t k).length 0 = (k : Int) := by rw [List.getD_eq_getElem?_getD, List.getElem?_append_right (Nat.le_refl _)]; simp
      rw [if_pos c, panW, List.length_append, List.length_singleton, panF, panF_prefix _ _ _ _ (Nat.le_refl _), ← panW, ih, e2, Int.toNat_natCast, wts_at (by omega)]
      by_cases e : k = odd
      · subst e
        rw [if_neg (by omega), if_pos rfl, if_pos ⟨by omega, c⟩]; omega
      · rw [if_neg e]
        by_cases h : odd < k ∧ xs.getD odd 0 = t
        · rw [if_pos h, if_pos ⟨by omega, h.2⟩]; omega
        · rw [if_neg h, if_neg (fun h2 => h ⟨by omega, h2.2⟩)]; omega
    · rw [if_neg c, ih]
      by_cases h : odd < k ∧ xs.getD odd 0 = t
      · rw [if_pos h, if_pos ⟨by omega, h.2⟩]
      · rw [if_neg h, if_neg (fun h2 => h ⟨by
          have : odd ≠ k := fun e => by subst e; exact c h2.2
          omega, h2.2⟩)]
theorem weigh_odd {n odd : Nat} {kd : Int} {xs : List Int} (hx : ∀ x ∈ xs, -1 ≤ x ∧ x ≤ 1) (hl : xs.length = n) (ho : odd < n) (hk : -1 ≤ kd ∧ kd ≤ 1) (he : (places xs 1).length = (places xs (-1)).length) :
    weighC (wts n odd kd) (places xs 1) (places xs (-1)) = true ∧ weighed (wts n odd kd) (places xs 1) (places xs (-1)) = xs.getD odd 0 * kd := by
  have lo : ∀ t, linesOk ((wts n odd kd).length : Int) (places xs t) = true := fun t => linesOk_of fun i hi => by
    rw [wts_length]
    obtain ⟨q, q1, q2, -, -⟩ := placesF_at xs t xs.length i hi
    rw [places, q2]; omega
  have ci : coinsIn (wts n odd kd) = true := by
    rw [coinsIn, List.all_eq_true]
    intro x hx
    rw [wts, List.mem_map] at hx
    obtain ⟨i, -, rfl⟩ := hx
    rw [inB_iff]
    split <;> omega
  have ok : weighC (wts n odd kd) (places xs 1) (places xs (-1)) = true := by rw [weighC, ci, lo, lo]; rfl
  refine ⟨ok, ?_⟩
  have p1 := panW_places (n := n) (odd := odd) (kd := kd) xs 1 xs.length (by omega)
  have p2 := panW_places (n := n) (odd := odd) (kd := kd) xs (-1) xs.length (by omega)
  have b := hx xs[odd] (List.getElem_mem (by omega))
  rw [getD_at xs odd (by omega)] at b
  rw [weighed, if_pos ok, places, places, p1, p2]
  rw [places, places] at he
  rw [he]
  have t : xs.getD odd 0 = -1 ∨ xs.getD odd 0 = 0 ∨ xs.getD odd 0 = 1 := by omega
  have u : kd = -1 ∨ kd = 0 ∨ kd = 1 := by omega
  have ho' : odd < xs.length := by omega
  rcases t with t | t | t <;> rw [t] <;> rcases u with rfl | rfl | rfl <;> simp [sgn, ho'] <;> omega
theorem weiF_at (L : List (List Int)) (p q : Nat) (h : q < p) : (weiF L p).getD (2 * q) [] = places (colL L q) 1 ∧ (weiF L p).getD (2 * q + 1) [] = places (colL L q) (-1) := by
  induction p with
  | zero => omega
  | succ p ih =>
    have l := weiF_length L p
    rw [weiF]
    by_cases e : q = p
    · subst e
      constructor
      · rw [List.getD_eq_getElem?_getD, List.getElem?_append_right (by omega), l]; simp
      · rw [List.getD_eq_getElem?_getD, List.getElem?_append_right (by omega), l, Nat.add_sub_cancel_left]; rfl
    · have := ih (by omega)
      constructor
      · rw [List.getD_eq_getElem?_getD, List.getElem?_append_left (by omega), ← List.getD_eq_getElem?_getD]; exact this.1
      · rw [List.getD_eq_getElem?_getD, List.getElem?_append_left (by omega), ← List.getD_eq_getElem?_getD]; exact this.2
theorem mulK_zero (xs : List Int) : mulK 0 xs = List.replicate xs.length 0 := by
  rw [mulK]
  apply List.ext_getElem (by simp)
  intro i h1 h2
  simp
theorem mulK_take {kd : Int} {xs : List Int} {q : Nat} (h : q < xs.length) : (mulK kd xs).take (q + 1) = (mulK kd xs).take q ++ [xs.getD q 0 * kd] := by
  rw [List.take_succ_eq_append_getElem (by rw [mulK_length]; exact h)]
  simp only [mulK, List.getElem_map]
  rw [getD_at xs q h]
end Tm
end Go.Proofs.Yteklgngooflhlaa

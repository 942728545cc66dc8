/- Plain facts on circuits that are compared: all inputs, one after the other. -/
import Derived.Test.YtpmdkifnejkofaaGMath
import Derived.Test.YtpmdkifnejkofaaWMath
namespace Go.Proofs.Ytpmdkifnejkofaa
set_option maxRecDepth 20000
open Go.RowKit
namespace Tm
theorem low_cases (n : Int) : (low n = -1 ∧ n % 3 = 2) ∨ (low n = 0 ∧ n % 3 = 0) ∨ (low n = 1 ∧ n % 3 = 1) := by unfold low; split <;> omega
theorem word_trits (n : Int) (k : Nat) : ∀ x ∈ wordL n k, -1 ≤ x ∧ x ≤ 1 := by
  induction k generalizing n with
  | zero => intro x h; cases h
  | succ k ih =>
    intro x h
    rw [wordL] at h
    rcases List.mem_cons.1 h with h | h
    · subst h; exact low_bd n
    · exact ih _ x h
theorem word_first (k : Nat) : wordL (-limN k) k = List.replicate k (-1) := by
  induction k with
  | zero => rfl
  | succ k ih =>
    have e : low (-limN (k + 1)) = -1 := by rw [limN]; unfold low; rw [if_pos (by omega)]
    rw [wordL, e, List.replicate_succ, show (-limN (k + 1) - -1) / 3 = -limN k by rw [limN]; omega, ih]
theorem word_next (k : Nat) : ∀ (q : Nat) (n : Int), -limN k ≤ n → n ≤ limN k → q < k → (∀ i, i < q → (wordL n k).getD i 0 = 1) → (wordL n k).getD q 0 ≠ 1 →
    n < limN k ∧ wordL (n + 1) k = List.replicate q (-1) ++ ((wordL n k).getD q 0 + 1) :: (wordL n k).drop (q + 1) := by
  induction k with
  | zero => intro q n _ _ hq; omega
  | succ k ih =>
    intro q n h1 h2 hq ha hb
    rw [limN] at h1 h2 ⊢
    rw [wordL] at ha hb ⊢
    have lb := low_bd n
    have lc := low_cases n
    match q with
    | 0 =>
      simp only [List.getD_cons_zero] at hb
      have e : low (n + 1) = low n + 1 := by unfold low at *; split <;> split <;> omega
      refine ⟨by omega, ?_⟩
      rw [wordL, e, show (n + 1 - (low n + 1)) / 3 = (n - low n) / 3 by omega]
      simp
    | q + 1 =>
      have l1 : low n = 1 := by simpa using ha 0 (by omega)
      have e : low (n + 1) = -1 := by unfold low at *; split <;> omega
      have := ih q ((n - low n) / 3) (by omega) (by omega) (by omega) (fun i hi => by simpa using ha (i + 1) (by omega)) (by simpa using hb)
      refine ⟨by omega, ?_⟩
      rw [wordL, e, show (n + 1 - -1) / 3 = (n - low n) / 3 + 1 by omega, this.2]
      simp [List.replicate_succ]
theorem word_last (k : Nat) : ∀ n : Int, -limN k ≤ n → n ≤ limN k → (∀ i, i < k → (wordL n k).getD i 0 = 1) → n = limN k := by
  induction k with
  | zero => intro n h1 h2 _; rw [limN] at h1 h2 ⊢; omega
  | succ k ih =>
    intro n h1 h2 ha
    rw [limN] at h1 h2 ⊢
    rw [wordL] at ha
    have lc := low_cases n
    have l1 : low n = 1 := by simpa using ha 0 (by omega)
    have := ih ((n - low n) / 3) (by omega) (by omega) (fun i hi => by simpa using ha (i + 1) (by omega))
    omega
theorem set_step {xs : List Int} {q : Nat} (h : q < xs.length) (v : Int) : (List.replicate q (-1) ++ xs.drop q).set q v = List.replicate q (-1) ++ v :: xs.drop (q + 1) := by
  rw [List.set_append, if_neg (by simp), List.length_replicate, Nat.sub_self, List.drop_eq_getElem_cons h]; rfl
theorem rep_step (q : Nat) (l : List Int) : List.replicate q (-1 : Int) ++ (-1) :: l = List.replicate (q + 1) (-1) ++ l := by
  rw [List.replicate_succ']; simp
theorem getD_rep (xs : List Int) (q : Nat) : (List.replicate q (-1 : Int) ++ xs.drop q).getD q 0 = xs.getD q 0 := by
  rw [List.getD_eq_getElem?_getD, List.getElem?_append_right (by simp)]; simp
/-- The outputs for inputs. -/
def outsV (L : List (Nat → Int)) (o i : List Int) : List Int := o.map fun x => (lines i L).getD x.toNat 0
def agr (L M : List (Nat → Int)) (o u i : List Int) : Bool := decide (outsV L o i = outsV M u i)
def sameAll (K : Nat) (P : List Int → Bool) : Bool := (List.range (2 * (limN K).toNat + 1)).all fun t => P (wordL ((t : Int) - limN K) K)
theorem sameAll_iff (K : Nat) (P : List Int → Bool) : sameAll K P = true ↔ ∀ n, -limN K ≤ n → n ≤ limN K → P (wordL n K) = true := by
  have h0 := limN_nonneg K
  rw [sameAll, List.all_eq_true]
  constructor
  · intro h n h1 h2
    have := h (n + limN K).toNat (List.mem_range.2 (by omega))
    rwa [show (((n + limN K).toNat : Nat) : Int) - limN K = n by omega] at this
  · intro h t ht
    rw [List.mem_range] at ht
    exact h _ (by omega) (by omega)
theorem sameAll_no {K : Nat} {P : List Int → Bool} {n : Int} (h1 : -limN K ≤ n) (h2 : n ≤ limN K) (h : P (wordL n K) = false) : sameAll K P = false := by
  cases e : sameAll K P with
  | false => rfl
  | true => rw [(sameAll_iff K P).1 e n h1 h2] at h; cases h
def same (k : Int) (L : List (Nat → Int)) (o : List Int) (l : Int) (M : List (Nat → Int)) (u : List Int) : Bool :=
  isCirc k L o && isCirc l M u && decide (k = l) && decide (o.length = u.length) && decide (k ≤ 6) && sameAll k.toNat (agr L M o u)
theorem lim_small {K : Nat} (h : K ≤ 6) : lim (K : Int) = limN K ∧ limN K ≤ 364 := by
  refine ⟨?_, ?_⟩
  · rw [lim]
    by_cases c : 1 ≤ (K : Int) ∧ (K : Int) ≤ 30
    · rw [if_pos c, Int.toNat_natCast]
    · rw [if_neg c]
      obtain rfl : K = 0 := by omega
      rfl
  · have : limN 6 = 364 := by decide
    rw [← this]; exact limN_mono h
theorem word_small {K : Nat} (h : K ≤ 6) {n : Int} (h1 : -limN K ≤ n) (h2 : n ≤ limN K) : word n (K : Int) = wordL n K := by
  rw [word]
  by_cases c : 1 ≤ K
  · have e := (lim_small h).1
    rw [if_pos (by rw [wordOk, decide_eq_true_eq, e]; omega), Int.toNat_natCast]
  · obtain rfl : K = 0 := by omega
    rw [if_neg (by rw [wordOk, decide_eq_true_eq]; omega)]; rfl
theorem on_word {K : Nat} {L : List (Nat → Int)} {o : List Int} (hC : isCirc (K : Int) L o = true) (n : Int) : linesOn (K : Int) L o (wordL n K) = true ∧ outsX (K : Int) L o (wordL n K) = outsV L o (wordL n K) := by
  have e : linesOn (K : Int) L o (wordL n K) = true := by
    rw [linesOn, hC, inOk, wordL_length, decide_eq_true rfl]
    simp only [Bool.true_and, List.all_eq_true]
    exact fun x hx => (isT_iff x).2 (word_trits n K x hx)
  exact ⟨e, (linesOn_yes e).2⟩
theorem agr_of {L M : List (Nat → Int)} {o u i : List Int} (hl : o.length = u.length) (h : ∀ j, j < o.length → (outsV L o i).getD j 0 = (outsV M u i).getD j 0) : agr L M o u i = true := by
  rw [agr, decide_eq_true_eq]
  apply List.ext_getElem?
  intro j
  have l1 : (outsV L o i).length = o.length := by rw [outsV, List.length_map]
  have l2 : (outsV M u i).length = u.length := by rw [outsV, List.length_map]
  by_cases c : j < o.length
  · have := h j c
    rw [List.getD_eq_getElem?_getD, List.getD_eq_getElem?_getD, List.getElem?_eq_getElem (by omega), List.getElem?_eq_getElem (by omega)] at this
    rw [List.getElem?_eq_getElem (by omega), List.getElem?_eq_getElem (by omega)]
    simpa using this
  · rw [List.getElem?_eq_none (by omega), List.getElem?_eq_none (by omega)]
theorem agr_no {L M : List (Nat → Int)} {o u i : List Int} {j : Nat} (h : (outsV L o i).getD j 0 ≠ (outsV M u i).getD j 0) : agr L M o u i = false := by
  rw [agr, decide_eq_false_iff_not]; intro e; rw [e] at h; exact h rfl
end Tm
end Go.Proofs.Ytpmdkifnejkofaa

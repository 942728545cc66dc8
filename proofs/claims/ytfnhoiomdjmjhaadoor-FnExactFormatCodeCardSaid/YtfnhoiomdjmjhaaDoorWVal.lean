/- Plain facts on the values of words: parts, shifts, rounding. -/
import Derived.Test.YtfnhoiomdjmjhaaDoorWS4
import Derived.Test.YtfnhoiomdjmjhaaDoorLaw
namespace Go.Proofs.YtfnhoiomdjmjhaaDoor
set_option maxRecDepth 20000
namespace Tm
theorem pow3_limN (k : Nat) : pow3 k = 2 * limN k + 1 := by
  induction k with
  | zero => simp [pow3, limN]
  | succ k ih => rw [pow3_succ, ih, limN]; omega
theorem pow3_add (a b : Nat) : pow3 (a + b) = pow3 a * pow3 b := by
  unfold pow3; rw [Int.pow_add]
theorem val_append (xs ys : List Int) : val (xs ++ ys) = val xs + pow3 xs.length * val ys := by
  induction xs with
  | nil => simp [val, pow3]
  | cons a l ih =>
    rw [List.cons_append, val, val, ih, List.length_cons, pow3_succ, Int.mul_add, Int.mul_assoc]; omega
theorem val_take_drop (xs : List Int) (k : Nat) (h : k ≤ xs.length) : val xs = val (xs.take k) + pow3 k * val (xs.drop k) := by
  have := val_append (xs.take k) (xs.drop k)
  rw [List.take_append_drop, List.length_take, Nat.min_eq_left h] at this
  exact this
theorem val_zeros (m : Nat) : val (List.replicate m 0) = 0 := by
  induction m with
  | zero => rfl
  | succ m ih => rw [List.replicate_succ, val, ih]; rfl
theorem val_shift (m : Nat) (xs : List Int) : val (List.replicate m 0 ++ xs) = pow3 m * val xs := by
  rw [val_append, val_zeros, List.length_replicate]; omega
theorem rndL_eq (xs : List Int) (k : Nat) (h : k ≤ xs.length) : rndL xs k = List.replicate k 0 ++ xs.drop k := by
  apply List.ext_getElem?
  intro i
  by_cases hi : i < xs.length
  · simp only [rndL, List.getElem?_map, List.getElem?_range hi, Option.map_some]
    by_cases h2 : i < k
    · rw [if_pos h2, List.getElem?_append_left (by simp; omega)]; simp [h2]
    · rw [if_neg h2, List.getElem?_append_right (by simp; omega)]
      simp [show k + (i - k) = i by omega, List.getD_eq_getElem?_getD, hi]
  · rw [List.getElem?_eq_none (by rw [rndL_length]; omega), List.getElem?_eq_none (by simp; omega)]
theorem val_rnd (xs : List Int) (k : Nat) (h : k ≤ xs.length) : val (rndL xs k) = pow3 k * val (xs.drop k) := by
  rw [rndL_eq xs k h, val_shift]
theorem trits_take {xs : List Int} (h : ∀ x ∈ xs, -1 ≤ x ∧ x ≤ 1) (k : Nat) : ∀ x ∈ xs.take k, -1 ≤ x ∧ x ≤ 1 := fun x hx => h x (List.mem_of_mem_take hx)
theorem trits_drop {xs : List Int} (h : ∀ x ∈ xs, -1 ≤ x ∧ x ≤ 1) (k : Nat) : ∀ x ∈ xs.drop k, -1 ≤ x ∧ x ≤ 1 := fun x hx => h x (List.mem_of_mem_drop hx)
theorem isW_trits {xs : List Int} (h : isW xs = true) : ∀ x ∈ xs, -1 ≤ x ∧ x ≤ 1 := ((isW_iff xs).1 h).1
theorem isW_pos {xs : List Int} (h : isW xs = true) : 1 ≤ xs.length := ((isW_iff xs).1 h).2.1
theorem isW_mk {xs : List Int} (h : ∀ x ∈ xs, -1 ≤ x ∧ x ≤ 1) (h1 : 1 ≤ xs.length) (h2 : xs.length ≤ 30) : isW xs = true := (isW_iff xs).2 ⟨h, h1, h2⟩
theorem val_bd_len {xs : List Int} (h : isW xs = true) (k : Nat) (hk : xs.length ≤ k) : -limN k ≤ val xs ∧ val xs ≤ limN k := by
  have := val_bd xs (isW_trits h)
  have := limN_mono hk
  omega
theorem value_eq {xs : List Int} (h : isW xs = true) : value xs = val xs := if_pos h
/-- Words with trits have their value alone. -/
theorem low_val (a : Int) (v : Int) (h : -1 ≤ a ∧ a ≤ 1) : low (a + 3 * v) = a := by unfold low; split <;> omega
theorem wordL_val {xs : List Int} (h : ∀ x ∈ xs, -1 ≤ x ∧ x ≤ 1) : wordL (val xs) xs.length = xs := by
  induction xs with
  | nil => rfl
  | cons a l ih =>
    have ha := h a (by simp)
    rw [List.length_cons, wordL, val, low_val a _ ha, show (a + 3 * val l - a) / 3 = val l from by omega, ih (fun x hx => h x (by simp [hx]))]
theorem val_wordL (n : Int) (k : Nat) (h : -limN k ≤ n ∧ n ≤ limN k) : val (wordL n k) = n := by
  induction k generalizing n with
  | zero => simp only [limN] at h; simp only [wordL, val]; omega
  | succ k ih =>
    have b := low_bd n
    have m := low_mod n
    simp only [limN] at h
    rw [wordL, val, ih _ (by omega)]
    omega
theorem wordL_trits (n : Int) (k : Nat) : ∀ x ∈ wordL n k, -1 ≤ x ∧ x ≤ 1 := by
  induction k generalizing n with
  | zero => simp [wordL]
  | succ k ih =>
    intro x hx
    rw [wordL] at hx
    rcases List.mem_cons.1 hx with h | h
    · rw [h]; exact low_bd n
    · exact ih _ x h
theorem lim_nat {k : Nat} (h1 : 1 ≤ k) (h2 : k ≤ 30) : lim k = limN k := by rw [lim, if_pos (by omega), Int.toNat_natCast]
theorem wordOk_val {xs : List Int} (h : isW xs = true) : wordOk (val xs) xs.length = true := by
  obtain ⟨h1, h2, h3⟩ := (isW_iff xs).1 h
  have := val_bd xs h1
  simp only [wordOk, decide_eq_true_eq, lim_nat h2 h3]
  omega
theorem word_val {xs : List Int} (h : isW xs = true) : word (val xs) xs.length = xs := by
  rw [word, if_pos (wordOk_val h), Int.toNat_natCast, wordL_val (isW_trits h)]
theorem word_isW {n k : Int} (h : wordOk n k = true) : isW (word n k) = true := by
  rw [word, if_pos h]
  simp only [wordOk, decide_eq_true_eq] at h
  exact isW_mk (wordL_trits _ _) (by rw [wordL_length]; omega) (by rw [wordL_length]; omega)
theorem word_length {n k : Int} (h : wordOk n k = true) : ((word n k).length : Int) = k := by
  rw [word, if_pos h, wordL_length]
  simp only [wordOk, decide_eq_true_eq] at h
  omega
theorem val_word {n k : Int} (h : wordOk n k = true) : val (word n k) = n := by
  rw [word, if_pos h]
  simp only [wordOk, decide_eq_true_eq] at h
  obtain ⟨h1, h2, h3, h4⟩ := h
  obtain ⟨m, rfl⟩ := Int.eq_ofNat_of_zero_le (show 0 ≤ k by omega)
  have e := lim_nat (show 1 ≤ m by omega) (show m ≤ 30 by omega)
  rw [e] at h3 h4
  rw [Int.toNat_natCast]
  exact val_wordL _ _ ⟨h3, h4⟩
theorem absI_abs (x : Int) : (absI x = x ∨ absI x = -x) ∧ 0 ≤ absI x := by unfold absI; split <;> omega
theorem mul_tmod (p v : Int) : (p * v).tmod p = 0 := by rw [Int.mul_tmod_right]
end Tm
end Go.Proofs.YtfnhoiomdjmjhaaDoor

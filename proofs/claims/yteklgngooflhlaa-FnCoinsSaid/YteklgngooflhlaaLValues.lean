/- Walks of laws: FnValues. -/
import Derived.Test.YteklgngooflhlaaWVal
import Derived.Test.YteklgngooflhlaaWI4
import Derived.Test.YteklgngooflhlaaWI3
namespace Go.Proofs.Yteklgngooflhlaa
set_option maxRecDepth 20000
open Go.RowKit
namespace Tm
theorem inB_lim_mono {n : Int} {a b : Int} (h1 : 1 ≤ a) (h : a ≤ b) (h2 : b ≤ 30) (hi : inB n (-lim a) (lim a) = true) : inB n (-lim b) (lim b) = true := by
  obtain ⟨a, rfl⟩ := Int.eq_ofNat_of_zero_le (show 0 ≤ a by omega)
  obtain ⟨b, rfl⟩ := Int.eq_ofNat_of_zero_le (show 0 ≤ b by omega)
  rw [inB_iff] at *
  rw [lim_nat (by omega) (by omega)] at *
  have := limN_mono (show a ≤ b by omega)
  omega
/-- The least length, searched from k on. -/
theorem lenFrom_least (n : Int) (f : Nat) (k m : Int) (hk : 1 ≤ k) (hf : k + f = 31) (hkm : k ≤ m) (hm : m ≤ 30) (hok : inB n (-lim m) (lim m) = true) (hno : ∀ j, 1 ≤ j → j < k → inB n (-lim j) (lim j) = false) :
    k ≤ lenFrom n f k ∧ lenFrom n f k ≤ m ∧ inB n (-lim (lenFrom n f k)) (lim (lenFrom n f k)) = true ∧ ∀ j, 1 ≤ j → j < lenFrom n f k → inB n (-lim j) (lim j) = false := by
  induction f generalizing k with
  | zero => omega
  | succ f ih =>
    rw [lenFrom]
    by_cases h : inB n (-lim k) (lim k) = true
    · rw [if_pos h]; exact ⟨by omega, hkm, h, hno⟩
    · rw [if_neg h]
      have hne : k ≠ m := by intro e; subst e; exact h hok
      simp only [Bool.not_eq_true] at h
      have := ih (k + 1) (by omega) (by omega) (by omega) (fun j h1 h2 => by
        by_cases e : j = k
        · subst e; exact h
        · exact hno j h1 (by omega))
      exact ⟨by omega, this.2.1, this.2.2⟩
theorem lenOf_least {n k : Int} (h : wordOk n k = true) : 1 ≤ lenOf n ∧ lenOf n ≤ k ∧ wordOk n (lenOf n) = true ∧ wordOk n (lenOf n - 1) = false := by
  have h' := h
  simp only [wordOk, decide_eq_true_eq] at h'
  obtain ⟨k1, k2, k3, k4⟩ := h'
  have := lenFrom_least n 30 1 k (by omega) (by omega) (by omega) (by omega) ((inB_iff _ _ _).2 ⟨k3, k4⟩) (fun j h1 h2 => by omega)
  obtain ⟨h1, h2, h3, h4⟩ := this
  change 1 ≤ lenOf n at h1
  change lenOf n ≤ k at h2
  change inB n (-lim (lenOf n)) (lim (lenOf n)) = true at h3
  change ∀ j, 1 ≤ j → j < lenOf n → _ at h4
  refine ⟨h1, h2, ?_, ?_⟩
  · have := (inB_iff _ _ _).1 h3
    simp only [wordOk, decide_eq_true_eq]
    omega
  · rw [wordOk, decide_eq_false_iff_not]
    intro hh
    have := h4 (lenOf n - 1) hh.1 (by omega)
    rw [inB_no] at this
    omega
theorem rd_sg {a : Int} (h : isT a = true) : rd ((sg a).toNat : Int) = a := by
  rcases isT_cases h with rfl | rfl | rfl <;> decide
theorem bt_txt (l : List UInt8) (i : Nat) (h : i < l.length) : bt ⟨l.toArray⟩ i = (l[i].toNat : Int) := by
  rw [bt_at _ _ (by simpa [ByteArray.size] using h)]
  rfl
theorem sgn_take {xs : List Int} (h : isW xs = true) {j : Nat} (hj : j < xs.length) : sgn (val (xs.take (j + 1))) = if xs.getD j 0 = 0 then sgn (val (xs.take j)) else xs.getD j 0 := by
  have e : val (xs.take (j + 1)) = val (xs.take j) + pow3 j * xs.getD j 0 := by
    rw [List.take_succ_eq_append_getElem hj, val_append, List.length_take, Nat.min_eq_left (by omega), ← getD_at xs j hj]
    simp [val]
  have hb := val_bd _ (trits_take (isW_trits h) j)
  rw [List.length_take, Nat.min_eq_left (by omega)] at hb
  have pl := pow3_limN j
  have ht := isW_at h j
  rw [e]
  generalize xs.getD j 0 = x at *
  rcases (show x = -1 ∨ x = 0 ∨ x = 1 by omega) with rfl | rfl | rfl
  · rw [if_neg (by omega)]; unfold sgn; split
    · rfl
    · split <;> omega
  · simp
  · rw [if_neg (by omega)]; unfold sgn; split
    · omega
    · split
      · rfl
      · omega
theorem val_neg (xs : List Int) : val (negL xs) = -val xs := by
  induction xs with
  | nil => rfl
  | cons a l ih => rw [negL, List.map_cons, val, val]; rw [negL] at ih; rw [ih]; omega
theorem neg_word {xs : List Int} (h : isW xs = true) : isW (negL xs) = true ∧ val (negL xs) = -val xs := by
  obtain ⟨h1, h2, h3⟩ := (isW_iff xs).1 h
  refine ⟨isW_mk (fun x hx => ?_) (by simp [negL]; omega) (by simp [negL]; omega), val_neg xs⟩
  obtain ⟨y, hy, rfl⟩ := List.mem_map.1 hx
  have := h1 y hy
  omega
theorem rev_word {xs : List Int} (h : isW xs = true) : isW xs.reverse = true := by
  obtain ⟨h1, h2, h3⟩ := (isW_iff xs).1 h
  exact isW_mk (fun x hx => h1 x (List.mem_reverse.1 hx)) (by simp; omega) (by simp; omega)
theorem pow3_odd (k : Nat) : pow3 k % 2 = 1 := by rw [pow3_limN]; omega
theorem sumT_val (xs : List Int) (k : Nat) (h : k ≤ xs.length) : (sumT xs k - val (xs.take k)) % 2 = 0 := by
  induction k with
  | zero => rfl
  | succ k ih =>
    have e : val (xs.take (k + 1)) = val (xs.take k) + pow3 k * xs.getD k 0 := by
      rw [List.take_succ_eq_append_getElem (by omega), val_append, List.length_take, Nat.min_eq_left (by omega), ← getD_at xs k (by omega)]
      simp [val]
    have i := ih (by omega)
    rw [sumT, e]
    have o := pow3_odd k
    obtain ⟨q, hq⟩ : ∃ q, pow3 k = 2 * q + 1 := ⟨pow3 k / 2, by omega⟩
    rw [hq, Int.add_mul, Int.mul_assoc]
    generalize q * xs.getD k 0 = r
    omega
theorem sum_val (xs : List Int) : (sumT xs xs.length - val xs).tmod 2 = 0 := by
  have := sumT_val xs xs.length (Nat.le_refl _)
  rw [List.take_of_length_le (Nat.le_refl _)] at this
  exact Int.tmod_eq_zero_of_dvd (Int.dvd_of_emod_eq_zero this)
theorem abs_sum {xs : List Int} (h : isW xs = true) (k : Nat) : absI (sumT xs k) ≤ sqT xs k := by
  have : -sqT xs k ≤ sumT xs k ∧ sumT xs k ≤ sqT xs k := by
    induction k with
    | zero => simp [sumT, sqT]
    | succ k ih =>
      have ht := isW_at h k
      rw [sumT, sqT]
      generalize xs.getD k 0 = x at *
      rcases (show x = -1 ∨ x = 0 ∨ x = 1 by omega) with rfl | rfl | rfl <;> omega
  have := absI_abs (sumT xs k)
  omega
end Tm
theorem prs_fmt {xs : List Int} (h : Tm.isW xs = true) : Tm.prsOk ⟨(Tm.fmtW xs).toArray⟩ = true ∧ Tm.prs ⟨(Tm.fmtW xs).toArray⟩ = xs := by
  obtain ⟨h1, h2, h3⟩ := (Tm.isW_iff xs).1 h
  have hs : (⟨(Tm.txt xs).toArray⟩ : ByteArray).size = xs.length := by simp [ByteArray.size, Tm.txt_len]
  have e : Tm.prsL ⟨(Tm.txt xs).toArray⟩ = xs := by
    apply List.ext_getElem (by rw [Tm.prsL_length, hs])
    intro i hi1 hi2
    rw [getD_at _ i hi1, Tm.prsL_get _ _ (by rw [hs]; exact hi2), hs, Tm.bt_txt _ _ (by rw [Tm.txt_len]; omega)]
    have : (Tm.txt xs)[xs.length - 1 - i]'(by rw [Tm.txt_len]; omega) = Tm.sg xs[i] := by
      simp only [Tm.txt, List.getElem_reverse, List.getElem_map, List.length_map]
      congr 2; omega
    rw [this, Tm.rd_sg (Tm.isT_at h i hi2)]
  rw [Tm.fmtW, if_pos h]
  have ok : Tm.prsOk ⟨(Tm.txt xs).toArray⟩ = true := by
    rw [Tm.prsOk, e, h, hs, Bool.and_true, Tm.inB_iff]; omega
  exact ⟨ok, by rw [Tm.prs, if_pos ok, e]⟩
end Go.Proofs.Yteklgngooflhlaa

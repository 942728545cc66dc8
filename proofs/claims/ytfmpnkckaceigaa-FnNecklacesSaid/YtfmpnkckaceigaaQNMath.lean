/- Plain facts of chapter 10: the least rotation is that of all rotations; Lyndon words. -/
import Derived.Test.YtfmpnkckaceigaaQMath2
import Derived.Test.YtfmpnkckaceigaaWVal
namespace Go.Proofs.Ytfmpnkckaceigaa
set_option maxRecDepth 20000
open Go.RowKit
namespace Tm
theorem lexC_zero {xs ys : List Int} (h : lexC xs ys = 0) : xs = ys := by
  induction xs generalizing ys with
  | nil => cases ys with
    | nil => rfl
    | cons b m => simp [lexC] at h
  | cons a l ih =>
    cases ys with
    | nil => simp [lexC] at h
    | cons b m =>
      rw [lexC] at h
      split at h
      · omega
      · split at h
        · omega
        · rw [show a = b from by omega, ih h]
theorem lexC_flip (xs ys : List Int) : lexC ys xs = - lexC xs ys := by
  induction xs generalizing ys with
  | nil => cases ys <;> simp [lexC]
  | cons a l ih =>
    cases ys with
    | nil => simp [lexC]
    | cons b m =>
      rw [lexC, lexC, ih m]
      by_cases h1 : a < b
      · rw [if_neg (by omega), if_pos h1, if_pos h1]; rfl
      · by_cases h2 : b < a
        · rw [if_pos h2, if_neg h1, if_pos h2]
        · rw [if_neg h2, if_neg h1, if_neg h1, if_neg h2]
theorem lexC_trans {xs ys zs : List Int} (h1 : lexC xs ys ≤ 0) (h2 : lexC ys zs ≤ 0) : lexC xs zs ≤ 0 := by
  induction xs generalizing ys zs with
  | nil => cases zs <;> simp [lexC]
  | cons a l ih =>
    cases ys with
    | nil => simp [lexC] at h1
    | cons b m =>
      cases zs with
      | nil => simp [lexC] at h2
      | cons c n =>
        rw [lexC] at h1 h2 ⊢
        by_cases e1 : a < c
        · rw [if_pos e1]; omega
        · rw [if_neg e1]
          by_cases e2 : c < a
          · exfalso
            split at h1
            · split at h2
              · omega
              · split at h2 <;> omega
            · split at h1
              · omega
              · split at h2
                · omega
                · split at h2 <;> omega
          · rw [if_neg e2]
            split at h1
            · split at h2
              · omega
              · split at h2 <;> omega
            · split at h1
              · omega
              · split at h2
                · omega
                · split at h2
                  · omega
                  · exact ih h1 h2
theorem rot_get {xs : List Int} {m i : Nat} (hm : m ≤ xs.length) (hi : i < xs.length) : (rot xs m).getD i 0 = xs.getD ((i + m) % xs.length) 0 := by
  rw [rot, List.getD_eq_getElem?_getD, List.getD_eq_getElem?_getD]
  by_cases h : i < xs.length - m
  · rw [List.getElem?_append_left (by rw [List.length_drop]; exact h), List.getElem?_drop, Nat.mod_eq_of_lt (by omega), Nat.add_comm]
  · rw [List.getElem?_append_right (by rw [List.length_drop]; omega), List.length_drop, List.getElem?_take, if_pos (by omega)]
    have e : (i + m) % xs.length = i + m - xs.length := by
      rw [Nat.mod_eq_sub_mod (by omega), Nat.mod_eq_of_lt (by omega)]
    rw [e]; congr 2; omega
theorem list_ext {xs ys : List Int} (h : xs.length = ys.length) (hg : ∀ i, i < xs.length → xs.getD i 0 = ys.getD i 0) : xs = ys := by
  apply List.ext_getElem h
  intro i h1 h2
  rw [getD_at _ _ h1, getD_at _ _ h2]; exact hg i h1
theorem rot_rot {xs : List Int} {m j : Nat} (hm : m < xs.length) (hj : j < xs.length) : rot (rot xs m) j = rot xs ((m + j) % xs.length) := by
  have hl : (m + j) % xs.length < xs.length := Nat.mod_lt _ (by omega)
  refine list_ext (by rw [rot_length, rot_length, rot_length]) (fun i hi => ?_)
  rw [rot_length, rot_length] at hi
  rw [rot_get (by rw [rot_length]; omega) (by rw [rot_length]; exact hi), rot_length, rot_get (by omega) (Nat.mod_lt _ (by omega)), rot_get (by omega) hi]
  congr 1
  rw [Nat.mod_add_mod, Nat.add_mod_mod, Nat.add_assoc, Nat.add_comm j m]
theorem isW_rot {xs : List Int} (h : isW xs = true) (m : Nat) : isW (rot xs m) = true := by
  have hl := (isW_iff xs).1 h
  refine isW_mk (fun x hx => ?_) (by rw [rot_length]; exact hl.2.1) (by rw [rot_length]; exact hl.2.2)
  rw [rot, List.mem_append] at hx
  rcases hx with hx | hx
  · exact hl.1 x (List.mem_of_mem_drop hx)
  · exact hl.1 x (List.mem_of_mem_take hx)
theorem nkN_least (xs : List Int) (m : Nat) : ∀ j, j < m → lexC (nkN xs m) (rot xs j) ≤ 0 := by
  induction m with
  | zero => intro j hj; omega
  | succ m ih =>
    intro j hj
    rw [nkN]
    by_cases h : lexC (rot xs m) (nkN xs m) < 0
    · rw [if_pos h]
      by_cases e : j = m
      · subst e; rw [lexC_same]; omega
      · exact lexC_trans (by omega) (ih j (by omega))
    · rw [if_neg h]
      by_cases e : j = m
      · subst e; rw [lexC_flip]; omega
      · exact ih j (by omega)
theorem nkN_is {xs : List Int} (h : 1 ≤ xs.length) (m : Nat) (hm : m ≤ xs.length) : ∃ j, j < xs.length ∧ nkN xs m = rot xs j := by
  induction m with
  | zero => exact ⟨0, by omega, by rw [nkN, rot_zero]⟩
  | succ m ih =>
    rw [nkN]
    split
    · exact ⟨m, by omega, rfl⟩
    · exact ih (by omega)
theorem nk_uniq {xs ys : List Int} (h : isW xs = true) (hy : ∃ j, j < xs.length ∧ ys = rot xs j) (hl : ∀ j, j < xs.length → lexC ys (rot xs j) ≤ 0) : nk xs = ys := by
  have hw := (isW_iff xs).1 h
  obtain ⟨j1, h1, e1⟩ := nkN_is hw.2.1 xs.length (Nat.le_refl _)
  obtain ⟨j2, h2, e2⟩ := hy
  rw [nk, if_pos h]
  apply lexC_zero
  have a := nkN_least xs xs.length j2 h2
  rw [← e2] at a
  have b := hl j1 h1
  rw [← e1, lexC_flip] at b
  omega
theorem nk_rot {xs : List Int} (h : isW xs = true) {m : Nat} (hm : m < xs.length) : nk (rot xs m) = nk xs := by
  have hw := (isW_iff xs).1 h
  obtain ⟨j1, h1, e1⟩ := nkN_is hw.2.1 xs.length (Nat.le_refl _)
  have L := rot_length xs m
  have en : nk xs = nkN xs xs.length := by rw [nk, if_pos h]
  refine nk_uniq (isW_rot h m) ⟨(j1 + (xs.length - m)) % xs.length, by rw [L]; exact Nat.mod_lt _ (by omega), ?_⟩ (fun j hj => ?_)
  · rw [rot_rot hm (Nat.mod_lt _ (by omega)), en, e1]
    congr 1
    rw [Nat.add_mod_mod, show m + (j1 + (xs.length - m)) = j1 + xs.length from by omega, Nat.add_mod_right, Nat.mod_eq_of_lt h1]
  · rw [L] at hj
    rw [rot_rot hm hj, en]
    exact nkN_least xs xs.length _ (Nat.mod_lt _ (by omega))
theorem nk_length {xs : List Int} (h : isW xs = true) : (nk xs).length = xs.length := by rw [nk, if_pos h, nkN_length]
theorem nk_isW {xs : List Int} (h : isW xs = true) : isW (nk xs) = true := by
  obtain ⟨j, h1, e⟩ := nkN_is ((isW_iff xs).1 h).2.1 xs.length (Nat.le_refl _)
  rw [nk, if_pos h, e]; exact isW_rot h j
theorem nk_nk {xs : List Int} (h : isW xs = true) : nk (nk xs) = nk xs := by
  obtain ⟨j, h1, e⟩ := nkN_is ((isW_iff xs).1 h).2.1 xs.length (Nat.le_refl _)
  have en : nk xs = rot xs j := by rw [nk, if_pos h, e]
  rw [en, nk_rot h h1, en]
theorem rotM_lt {xs : List Int} (h : 1 ≤ xs.length) (b : Int) : rotM xs b < xs.length := by
  have h1 := Int.emod_nonneg b (show (xs.length : Int) ≠ 0 by omega)
  have h2 := Int.emod_lt_of_pos b (show (0 : Int) < (xs.length : Int) by omega)
  rw [rotM]; omega
theorem rot_back {xs : List Int} (h : isW xs = true) (b : Int) : rotW (rotW xs b) (-b) = xs := by
  have hw := ((isW_iff xs).1 h).2.1
  have h0 := rotM_lt hw b
  have e : rotW xs b = rot xs (rotM xs b) := by rw [rotW, if_pos h]
  have hw2 : isW (rot xs (rotM xs b)) = true := isW_rot h _
  have L := rot_length xs (rotM xs b)
  have h1 := rotM_lt (xs := rot xs (rotM xs b)) (by rw [L]; exact hw) (-b)
  rw [e, rotW, if_pos hw2, rot_rot h0 (by rw [← L]; exact h1)]
  have z : (rotM xs b + rotM (rot xs (rotM xs b)) (-b)) % xs.length = 0 := by
    rw [rotM, rotM, rot_length]
    have a1 := Int.emod_nonneg b (show (xs.length : Int) ≠ 0 by omega)
    have a2 := Int.emod_nonneg (-b) (show (xs.length : Int) ≠ 0 by omega)
    have s : (b % (xs.length : Int) + (-b) % (xs.length : Int)) % (xs.length : Int) = 0 := by
      rw [← Int.add_emod, Int.add_right_neg, Int.zero_emod]
    have c : (((b % (xs.length : Int)).toNat + ((-b) % (xs.length : Int)).toNat : Nat) : Int) = b % (xs.length : Int) + (-b) % (xs.length : Int) := by omega
    rw [← c] at s
    have d := Int.natCast_emod ((b % (xs.length : Int)).toNat + ((-b) % (xs.length : Int)).toNat) xs.length
    rw [s] at d
    omega
  rw [z, rot_zero]
theorem lynN_at {xs : List Int} {m j : Nat} (h : lynN xs m = true) (h1 : 1 ≤ j) (hj : j < m) : lexC xs (rot xs j) < 0 := by
  induction m with
  | zero => omega
  | succ m ih =>
    rw [lynN, Bool.and_eq_true] at h
    by_cases e : j = m
    · subst e
      have := h.2
      simp at this
      omega
    · exact ih h.1 (by omega)
theorem lyn_nk {xs : List Int} (h : lyn xs = true) : nk xs = xs := by
  rw [lyn, Bool.and_eq_true] at h
  have hw := (isW_iff xs).1 h.1
  refine nk_uniq h.1 ⟨0, by omega, (rot_zero xs).symm⟩ (fun j hj => ?_)
  by_cases e : j = 0
  · subst e; rw [rot_zero, lexC_same]; omega
  · have := lynN_at h.2 (show 1 ≤ j by omega) hj; omega
theorem lyn_double {xs : List Int} (h : 1 ≤ xs.length) : lyn (xs ++ xs) = false := by
  cases e : lyn (xs ++ xs) with
  | false => rfl
  | true =>
    rw [lyn, Bool.and_eq_true] at e
    have := lynN_at e.2 h (show xs.length < (xs ++ xs).length by rw [List.length_append]; omega)
    rw [show rot (xs ++ xs) xs.length = xs ++ xs from by simp [rot], lexC_same] at this
    omega
/-- Where two lists of which the first comes before the second first differ. -/
theorem lexC_same_to {xs ys : List Int} {p : Nat} (h1 : p ≤ xs.length) (h2 : p ≤ ys.length) (h : ∀ q, q < p → xs.getD q 0 = ys.getD q 0) : lexC xs ys = lexC (xs.drop p) (ys.drop p) := by
  induction p with
  | zero => rfl
  | succ p ih =>
    rw [ih (by omega) (by omega) (fun q hq => h q (by omega)), lexC_at (by omega) (by omega)]
    have := h p (by omega)
    rw [if_neg (by omega), if_neg (by omega)]
theorem lex_first {xs ys : List Int} {p : Nat} (hlt : lexC xs ys < 0) (h1 : p ≤ xs.length) (h2 : p ≤ ys.length) (h : ∀ q, q < p → xs.getD q 0 = ys.getD q 0) (he : p < xs.length → p < ys.length → xs.getD p 0 ≠ ys.getD p 0) :
    p < ys.length ∧ (p < xs.length → xs.getD p 0 < ys.getD p 0) := by
  rw [lexC_same_to h1 h2 h] at hlt
  have a : p < ys.length := by
    rcases Nat.lt_or_ge p ys.length with c | c
    · exact c
    · exfalso
      by_cases d : p < xs.length
      · rw [lexC_out d c] at hlt; omega
      · rw [lexC_end (by omega), if_neg (by omega)] at hlt; omega
  refine ⟨a, fun d => ?_⟩
  rw [lexC_at d a] at hlt
  have := he d a
  split at hlt
  · assumption
  · split at hlt <;> omega
end Tm
end Go.Proofs.Ytfmpnkckaceigaa

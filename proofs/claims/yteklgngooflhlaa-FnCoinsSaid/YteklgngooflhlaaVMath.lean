/- Plain facts of chapter 9: weights and pans. -/
import Derived.Test.YteklgngooflhlaaFMath
import Derived.Test.YteklgngooflhlaaGMath
namespace Go.Proofs.Yteklgngooflhlaa
set_option maxRecDepth 20000
open Go.RowKit
namespace Tm
/-- The first k places that hold t. -/
def placesF (xs : List Int) (t : Int) : Nat → List Int
  | 0 => []
  | k + 1 => if xs.getD k 0 = t then placesF xs t k ++ [(k : Int)] else placesF xs t k
def places (xs : List Int) (t : Int) : List Int := placesF xs t xs.length
theorem placesF_len (xs : List Int) (t : Int) (k : Nat) : (placesF xs t k).length ≤ k := by
  induction k with
  | zero => exact Nat.le_refl _
  | succ k ih =>
    rw [placesF]
    split
    · rw [List.length_append]; simp only [List.length_cons, List.length_nil]; omega
    · omega
theorem places_len (xs : List Int) (t : Int) : (places xs t).length ≤ xs.length := placesF_len _ _ _
theorem placesF_more {xs ys : List Int} {t : Int} (h : ∀ q, q < xs.length → ys.getD q 0 = xs.getD q 0) (k : Nat) (hk : k ≤ xs.length) : placesF ys t k = placesF xs t k := by
  induction k with
  | zero => rfl
  | succ k ih => rw [placesF, placesF, h k (by omega), ih (by omega)]
theorem placesF_zeros {xs : List Int} {t : Int} (ht : t ≠ 0) (m : Nat) : placesF (xs ++ List.replicate m 0) t (xs.length + m) = places xs t := by
  induction m with
  | zero => simp [places]
  | succ m ih =>
    have e : (xs ++ List.replicate (m + 1) (0 : Int)).getD (xs.length + m) 0 = 0 := by
      rw [List.getD_eq_getElem?_getD, List.getElem?_append_right (by omega), List.getElem?_replicate]
      split <;> rfl
    rw [show xs.length + (m + 1) = (xs.length + m) + 1 from rfl, placesF, e, if_neg (fun h => ht h.symm)]
    rw [← ih]
    have g : ∀ q, q < (xs ++ List.replicate m (0 : Int)).length → (xs ++ List.replicate (m + 1) (0 : Int)).getD q 0 = (xs ++ List.replicate m (0 : Int)).getD q 0 := fun q hq => by
      rw [List.length_append, List.length_replicate] at hq
      rw [List.getD_eq_getElem?_getD, List.getD_eq_getElem?_getD]
      by_cases c : q < xs.length
      · rw [List.getElem?_append_left c, List.getElem?_append_left c]
      · rw [List.getElem?_append_right (by omega), List.getElem?_append_right (by omega), List.getElem?_replicate, List.getElem?_replicate]
        rw [if_pos (by omega), if_pos (by omega)]
    exact placesF_more (xs := xs ++ List.replicate m (0 : Int)) g _ (by simp)
/-- A word of more trits begins with the word. -/
theorem wordL_more {n : Int} {k m : Nat} (h1 : 1 ≤ k) (h2 : k + m ≤ 30) (h : -limN k ≤ n ∧ n ≤ limN k) : wordL n (k + m) = wordL n k ++ List.replicate m 0 := by
  have w1 := wordL_isW (n := n) (k := k + m) (by omega) h2
  have w2 := wordL_isW (n := n) (k := k) h1 (by omega)
  have l := limN_mono (show k ≤ k + m by omega)
  refine same_val w1 ?_ (by rw [wordL_length, List.length_append, wordL_length, List.length_replicate]) ?_
  · obtain ⟨b1, b2, b3⟩ := (isW_iff _).1 w2
    refine (isW_iff _).2 ⟨fun x hx => ?_, by rw [List.length_append, wordL_length]; omega, by rw [List.length_append, wordL_length, List.length_replicate]; exact h2⟩
    rw [List.mem_append] at hx
    rcases hx with hx | hx
    · exact b1 x hx
    · rw [List.eq_of_mem_replicate hx]; omega
  · rw [val_append, val_zeros, val_wordL _ _ ⟨by omega, by omega⟩, val_wordL _ _ h]; omega
/-- The places of a thing's word. -/
def weighOk (n : Int) : Bool := decide (0 ≤ n ∧ n ≤ 102945566047324)
def weighL (n t : Int) : List Int := if weighOk n then places (wordL n 30) t else []
theorem weigh_word {n t : Int} (h : weighOk n = true) (ht : t ≠ 0) : weighL n t = places (wordL n (lenN n)) t := by
  have h' := h
  rw [weighOk, decide_eq_true_eq] at h'
  obtain ⟨-, s1, s2, s3, -⟩ := lenN_spec (n := n) ⟨by omega, by omega⟩
  rw [weighL, if_pos h]
  obtain ⟨m, hm⟩ : ∃ m, 30 = lenN n + m := ⟨30 - lenN n, by omega⟩
  rw [hm, wordL_more s1 (by omega) s3]
  have := placesF_zeros (xs := wordL n (lenN n)) ht m
  rw [places, List.length_append, List.length_replicate]
  exact this
theorem weighL_len (n t : Int) : (weighL n t).length ≤ 30 := by
  rw [weighL]
  split
  · have := places_len (wordL n 30) t; rw [wordL_length] at this; exact this
  · simp
/-- A trit is laid at each of some places, if they are free. -/
def putF (t : Int) : List Int → (Nat → Int) → Bool × (Nat → Int)
  | [], g => (true, g)
  | p :: ps, g => if 0 ≤ p ∧ p < 30 ∧ g p.toNat = 0 then putF t ps (upd g p.toNat t) else (false, g)
theorem putF_yes {t : Int} {ps : List Int} {g : Nat → Int} {k : Nat} (hk : k < ps.length) (h : 0 ≤ ps.getD k 0 ∧ ps.getD k 0 < 30 ∧ g (ps.getD k 0).toNat = 0) : putF t (ps.drop k) g = putF t (ps.drop (k + 1)) (upd g (ps.getD k 0).toNat t) := by
  rw [List.drop_eq_getElem_cons hk, putF]
  have e : ps[k] = ps.getD k 0 := getD_at ps k hk
  rw [e, if_pos h]
theorem putF_no {t : Int} {ps : List Int} {g : Nat → Int} {k : Nat} (hk : k < ps.length) (h : ¬ (0 ≤ ps.getD k 0 ∧ ps.getD k 0 < 30 ∧ g (ps.getD k 0).toNat = 0)) : putF t (ps.drop k) g = (false, g) := by
  rw [List.drop_eq_getElem_cons hk, putF]
  have e : ps[k] = ps.getD k 0 := getD_at ps k hk
  rw [e, if_neg h]
theorem putF_end {t : Int} {ps : List Int} {g : Nat → Int} {k : Nat} (hk : ps.length ≤ k) : putF t (ps.drop k) g = (true, g) := by
  rw [List.drop_of_length_le hk]; rfl
theorem putF_bd {t : Int} (ht : -1 ≤ t ∧ t ≤ 1) (ps : List Int) (g : Nat → Int) (h : ∀ j, -1 ≤ g j ∧ g j ≤ 1) : ∀ j, -1 ≤ (putF t ps g).2 j ∧ (putF t ps g).2 j ≤ 1 := by
  induction ps generalizing g with
  | nil => exact h
  | cons p ps ih =>
    rw [putF]
    split
    · refine ih _ fun j => ?_
      rw [upd]; split
      · exact ht
      · exact h j
    · exact h
def g00 : Nat → Int := fun _ => 0
def pan1 (xs : List Int) : Bool × (Nat → Int) := putF 1 xs g00
def pan2 (xs ys : List Int) : Bool × (Nat → Int) := putF (-1) ys (pan1 xs).2
def pans (xs ys : List Int) : List Int := genL 30 (pan2 xs ys).2
def balOk (xs ys : List Int) (n : Int) : Bool := wordOk n 30 && (pan1 xs).1 && (pan2 xs ys).1
def bal (xs ys : List Int) (n : Int) : Int := if balOk xs ys n then sgn (n + val (pans xs ys)) else 0
theorem genL_isW {g : Nat → Int} (h : ∀ j, -1 ≤ g j ∧ g j ≤ 1) : isW (genL 30 g) = true := by
  refine (isW_iff _).2 ⟨fun x hx => ?_, by simp [genL], by simp [genL]⟩
  rw [genL, List.mem_map] at hx
  obtain ⟨i, -, rfl⟩ := hx
  exact h i
theorem pans_isW (xs ys : List Int) : isW (pans xs ys) = true :=
  genL_isW (putF_bd (by decide) _ _ (putF_bd (by decide) _ _ (fun _ => by unfold g00; omega)))
theorem val30 {xs : List Int} (h : isW xs = true) : -102945566047324 ≤ val xs ∧ val xs ≤ 102945566047324 := by
  have := val_bd_len h 30 (isW_len h)
  rw [limN_30] at this
  exact this
/-- What a pan weighs. -/
def panF (ws : List Int) (ps : List Int) : Nat → Int
  | 0 => 0
  | k + 1 => panF ws ps k + ws.getD (ps.getD k 0).toNat 0
def panW (ws ps : List Int) : Int := panF ws ps ps.length
def coinsIn (ws : List Int) : Bool := ws.all fun x => inB x 0 1000000
def weighC (ws xs ys : List Int) : Bool := coinsIn ws && linesOk (ws.length : Int) xs && linesOk (ws.length : Int) ys
def weighed (ws xs ys : List Int) : Int := if weighC ws xs ys then sgn (panW ws xs - panW ws ys) else 0
theorem coinsIn_at {ws : List Int} (h : coinsIn ws = true) (i : Nat) : 0 ≤ ws.getD i 0 ∧ ws.getD i 0 ≤ 1000000 := by
  rw [List.getD_eq_getElem?_getD]
  by_cases c : i < ws.length
  · rw [List.getElem?_eq_getElem c]
    rw [coinsIn, List.all_eq_true] at h
    exact (inB_iff _ _ _).1 (h _ (List.getElem_mem c))
  · rw [List.getElem?_eq_none (by omega)]; simp
theorem panF_bd {ws : List Int} (h : coinsIn ws = true) (ps : List Int) (k : Nat) : 0 ≤ panF ws ps k ∧ panF ws ps k ≤ 1000000 * (k : Int) := by
  induction k with
  | zero => exact ⟨Int.le_refl _, Int.le_refl _⟩
  | succ k ih =>
    have := coinsIn_at h (ps.getD k 0).toNat
    rw [panF]; omega
end Tm
end Go.Proofs.Yteklgngooflhlaa

/- Plain facts of chapter 10: the sequence of words, ranks, rotations. -/
import Derived.Test.YtfmpnkckaceigaaLaw
import Derived.Test.YtfmpnkckaceigaaWMath
namespace Go.Proofs.Ytfmpnkckaceigaa
set_option maxRecDepth 20000
open Go.RowKit
namespace Tm
theorem div_at {P c r : Int} (h0 : 0 ≤ r) (h1 : r < P) : (P * c + r) / P = c ∧ (P * c + r) % P = r := by
  have hP : P ≠ 0 := by omega
  constructor
  · rw [Int.add_comm, Int.add_mul_ediv_left _ _ hP, Int.ediv_eq_zero_of_lt h0 h1]; omega
  · rw [Int.add_comm, Int.add_mul_emod_self_left, Int.emod_eq_of_lt h0 h1]
/-- An index in a third of the sequence, with the highest trit h, and n words. -/
def inThird (i h n : Int) : Int := if h = 0 then n - 1 - i else i
theorem inThird_bd {i h n : Int} (h0 : 0 ≤ i) (h1 : i < n) : 0 ≤ inThird i h n ∧ inThird i h n < n := by unfold inThird; split <;> omega
def grayL : Nat → Int → List Int
  | 0, _ => []
  | k + 1, i => grayL k (inThird (i % pow3 k) (i / pow3 k - 1) (pow3 k)) ++ [i / pow3 k - 1]
theorem grayL_length (k : Nat) (i : Int) : (grayL k i).length = k := by
  induction k generalizing i with
  | zero => rfl
  | succ k ih => rw [grayL, List.length_append, ih]; rfl
def grayOk (i k : Int) : Bool := decide (1 ≤ k ∧ k ≤ 30 ∧ 0 ≤ i ∧ i < pow3 k.toNat)
def gray (i k : Int) : List Int := if grayOk i k then grayL k.toNat i else []
theorem third_bd {k : Nat} {i : Int} (h0 : 0 ≤ i) (h1 : i < pow3 (k + 1)) : 0 ≤ i / pow3 k ∧ i / pow3 k ≤ 2 ∧ 0 ≤ i % pow3 k ∧ i % pow3 k < pow3 k := by
  have hp := pow3_pos k
  rw [pow3_succ] at h1
  refine ⟨Int.ediv_nonneg h0 (by omega), ?_, Int.emod_nonneg _ (by omega), Int.emod_lt_of_pos _ hp⟩
  have : i / pow3 k < 3 := Int.ediv_lt_of_lt_mul hp (by omega)
  omega
theorem grayL_isT (k : Nat) (i : Int) (h0 : 0 ≤ i) (h1 : i < pow3 k) : ∀ x ∈ grayL k i, -1 ≤ x ∧ x ≤ 1 := by
  induction k generalizing i with
  | zero => intro x hx; cases hx
  | succ k ih =>
    obtain ⟨b1, b2, b3, b4⟩ := third_bd h0 h1
    obtain ⟨c1, c2⟩ := inThird_bd (h := i / pow3 k - 1) b3 b4
    intro x hx
    rw [grayL, List.mem_append] at hx
    rcases hx with hx | hx
    · exact ih _ c1 c2 x hx
    · simp at hx; omega
/-- The walk down the places: what is left, and the places that are done. -/
def GrayAt (k : Nat) (i0 : Int) (p : Nat) (i : Int) (g : Nat → Int) : Prop :=
  p ≤ k ∧ 0 ≤ i ∧ i < pow3 p ∧ (∃ U : List Int, grayL k i0 = grayL p i ++ U) ∧ ∀ j, p ≤ j → j < k → g j = (grayL k i0).getD j 0
theorem GrayAt.start {k : Nat} {i0 : Int} (h0 : 0 ≤ i0) (h1 : i0 < pow3 k) (g : Nat → Int) : GrayAt k i0 k i0 g := ⟨Nat.le_refl _, h0, h1, ⟨[], by simp⟩, fun j a b => by omega⟩
theorem GrayAt.step {k p : Nat} {i0 i : Int} {g g' : Nat → Int} (h : GrayAt k i0 (p + 1) i g) (h1 : g' p = i / pow3 p - 1) (h2 : ∀ j, p < j → g' j = g j) :
    GrayAt k i0 p (inThird (i % pow3 p) (i / pow3 p - 1) (pow3 p)) g' := by
  obtain ⟨a1, a2, a3, ⟨U, a4⟩, a5⟩ := h
  obtain ⟨b1, b2, b3, b4⟩ := third_bd a2 a3
  obtain ⟨c1, c2⟩ := inThird_bd (h := i / pow3 p - 1) b3 b4
  refine ⟨by omega, c1, c2, ⟨[i / pow3 p - 1] ++ U, ?_⟩, fun j hj hk => ?_⟩
  · rw [a4, grayL, List.append_assoc]
  · by_cases e : j = p
    · subst e
      rw [h1, a4, grayL, List.append_assoc, List.getD_eq_getElem?_getD, List.getElem?_append_right (by rw [grayL_length]; exact Nat.le_refl _), grayL_length]
      simp
    · rw [h2 j (by omega)]; exact a5 j (by omega) hk
theorem GrayAt.done {k : Nat} {i0 i : Int} {g : Nat → Int} (h : GrayAt k i0 0 i g) : ∀ j, j < k → g j = (grayL k i0).getD j 0 := fun j hj => h.2.2.2.2 j (Nat.zero_le _) hj
/-- The model's way down: the digits of the index, turned round where they are. -/
def back (i0 : Int) (p : Nat) (b : Bool) : Int := if b then pow3 p - 1 - i0 % pow3 p else i0 % pow3 p
theorem mod_succ (i0 : Int) (p : Nat) : i0 % pow3 (p + 1) = pow3 p * (i0 / pow3 p % 3) + i0 % pow3 p ∧ 0 ≤ i0 / pow3 p % 3 ∧ i0 / pow3 p % 3 ≤ 2 ∧ 0 ≤ i0 % pow3 p ∧ i0 % pow3 p < pow3 p := by
  have hp := pow3_pos p
  have d0 := Int.emod_nonneg (i0 / pow3 p) (show (3 : Int) ≠ 0 by decide)
  have d1 := Int.emod_lt_of_pos (i0 / pow3 p) (show (0 : Int) < 3 by decide)
  have r0 := Int.emod_nonneg i0 (show pow3 p ≠ 0 by omega)
  have r1 := Int.emod_lt_of_pos i0 hp
  refine ⟨?_, d0, by omega, r0, r1⟩
  have e1 : i0 = pow3 p * (i0 / pow3 p) + i0 % pow3 p := (Int.mul_ediv_add_emod i0 (pow3 p)).symm
  have e2 : i0 / pow3 p = 3 * (i0 / pow3 p / 3) + i0 / pow3 p % 3 := (Int.mul_ediv_add_emod _ 3).symm
  rw [pow3_succ]
  generalize hq : i0 / pow3 p = q at *
  generalize hr : i0 % pow3 p = r at *
  generalize hd : q % 3 = d at *
  generalize hs : q / 3 = s at *
  generalize pow3 p = P at *
  subst e2
  rw [e1, show P * (3 * s + d) + r = (P * d + r) + (3 * P) * s from by rw [Int.mul_add, Int.mul_comm 3 P, Int.mul_assoc]; omega, Int.add_mul_emod_self_left]
  apply Int.emod_eq_of_lt
  · have : 0 ≤ P * d := Int.mul_nonneg (by omega) d0
    omega
  · have : d = 0 ∨ d = 1 ∨ d = 2 := by omega
    rcases this with rfl | rfl | rfl <;> omega
theorem back_step (i0 : Int) (p : Nat) (b : Bool) : back i0 (p + 1) b / pow3 p = (if b then 2 - i0 / pow3 p % 3 else i0 / pow3 p % 3)
    ∧ inThird (back i0 (p + 1) b % pow3 p) (back i0 (p + 1) b / pow3 p - 1) (pow3 p) = back i0 p (b != decide (i0 / pow3 p % 3 = 1)) := by
  obtain ⟨e, d0, d1, r0, r1⟩ := mod_succ i0 p
  unfold back inThird
  rw [e, pow3_succ]
  generalize i0 / pow3 p % 3 = d at *
  generalize i0 % pow3 p = r at *
  generalize pow3 p = P at *
  have D : d = 0 ∨ d = 1 ∨ d = 2 := by omega
  cases b with
  | false =>
    obtain ⟨f1, f2⟩ := div_at (P := P) (c := d) r0 r1
    rcases D with rfl | rfl | rfl <;> simp_all
  | true =>
    obtain ⟨f1, f2⟩ := div_at (P := P) (c := 2 - d) (r := P - 1 - r) (by omega) (by omega)
    have g : 3 * P - 1 - (P * d + r) = P * (2 - d) + (P - 1 - r) := by rcases D with rfl | rfl | rfl <;> omega
    simp only [if_true, g, f1, f2]
    refine ⟨trivial, ?_⟩
    rcases D with rfl | rfl | rfl <;> simp <;> omega
theorem back_start (i0 : Int) (k : Nat) (h0 : 0 ≤ i0) (h1 : i0 < pow3 k) : back i0 k false = i0 := by
  unfold back; simp only [Bool.false_eq_true, if_false]; exact Int.emod_eq_of_lt h0 h1
/-! Ranks -/
def rkN (xs : List Int) : Nat → Int
  | 0 => 0
  | p + 1 => (xs.getD p 0 + 1) * pow3 p + inThird (rkN xs p) (xs.getD p 0) (pow3 p)
def rank (xs : List Int) : Int := if isW xs then rkN xs xs.length else 0
theorem rkN_bd {xs : List Int} (h : ∀ i, -1 ≤ xs.getD i 0 ∧ xs.getD i 0 ≤ 1) (p : Nat) : 0 ≤ rkN xs p ∧ rkN xs p < pow3 p := by
  induction p with
  | zero => simp [rkN, pow3]
  | succ p ih =>
    obtain ⟨c1, c2⟩ := inThird_bd (h := xs.getD p 0) ih.1 ih.2
    obtain ⟨t1, t2⟩ := h p
    rw [rkN, pow3_succ]
    generalize inThird _ _ _ = r at *
    generalize xs.getD p 0 = t at *
    generalize pow3 p = P at *
    have : t = -1 ∨ t = 0 ∨ t = 1 := by omega
    rcases this with rfl | rfl | rfl <;> omega
theorem rkN_congr {xs ys : List Int} {p : Nat} (h : ∀ i, i < p → xs.getD i 0 = ys.getD i 0) : rkN xs p = rkN ys p := by
  induction p with
  | zero => rfl
  | succ p ih => rw [rkN, rkN, ih (fun i hi => h i (by omega)), h p (by omega)]
/-- What the model has at place p, from the top: n, and whether it goes backwards. -/
def rkAt (xs : List Int) (p : Nat) (n : Int) (b : Bool) : Prop := 0 ≤ n ∧ rkN xs xs.length = n * pow3 p + (if b then pow3 p - 1 - rkN xs p else rkN xs p)
theorem rkAt_step {xs : List Int} {p : Nat} {n : Int} {b : Bool} (hw : ∀ i, -1 ≤ xs.getD i 0 ∧ xs.getD i 0 ≤ 1) (h : rkAt xs (p + 1) n b) :
    rkAt xs p (3 * n + (if b then 2 - (xs.getD p 0 + 1) else xs.getD p 0 + 1)) (b != decide ((if b then 2 - (xs.getD p 0 + 1) else xs.getD p 0 + 1) = 1)) := by
  obtain ⟨h0, h1⟩ := h
  have b0 := rkN_bd hw p
  obtain ⟨t1, t2⟩ := hw p
  rw [rkN, pow3_succ, inThird] at h1
  unfold rkAt
  rw [h1]
  generalize rkN xs p = r at *
  generalize xs.getD p 0 = t at *
  generalize pow3 p = P at *
  have e : n * (3 * P) = 3 * (n * P) := by rw [Int.mul_left_comm]
  have : t = -1 ∨ t = 0 ∨ t = 1 := by omega
  cases b <;> rcases this with rfl | rfl | rfl <;> simp [Int.add_mul, e, Int.mul_assoc] <;> omega
theorem rkAt_bd {xs : List Int} (hw : isW xs = true) {p : Nat} {n : Int} {b : Bool} (h : rkAt xs p n b) : 0 ≤ n ∧ n < 205891132094649 := by
  obtain ⟨h0, h1⟩ := h
  have hl := ((isW_iff xs).1 hw).2.2
  have b0 := rkN_bd (isW_at hw) p
  have b1 := rkN_bd (isW_at hw) xs.length
  have b2 := pow3_le hl
  rw [pow3_30] at b2
  have hp := pow3_pos p
  have : n * 1 ≤ n * pow3 p := Int.mul_le_mul_of_nonneg_left (by omega) h0
  refine ⟨h0, ?_⟩
  cases b <;> simp at h1 <;> omega
theorem rkAt_start (xs : List Int) : rkAt xs xs.length 0 false := ⟨by omega, by simp⟩
theorem rkAt_end {xs : List Int} {n : Int} {b : Bool} (h : rkAt xs 0 n b) : rkN xs xs.length = n := by
  obtain ⟨h0, h1⟩ := h
  cases b <;> simpa [pow3, rkN] using h1
/-- The rank of a word of the sequence, and the word of a rank. -/
theorem getD_left {xs : List Int} {t : Int} {i : Nat} (h : i < xs.length) : (xs ++ [t]).getD i 0 = xs.getD i 0 := by
  rw [List.getD_eq_getElem?_getD, List.getElem?_append_left h, ← List.getD_eq_getElem?_getD]
theorem getD_last (xs : List Int) (t : Int) : (xs ++ [t]).getD xs.length 0 = t := by
  rw [List.getD_eq_getElem?_getD, List.getElem?_append_right (Nat.le_refl _)]; simp
theorem inThird_twice (i h n : Int) : inThird (inThird i h n) h n = i := by unfold inThird; split <;> omega
theorem rk_gray (k : Nat) (i : Int) (h0 : 0 ≤ i) (h1 : i < pow3 k) : rkN (grayL k i) k = i := by
  induction k generalizing i with
  | zero => simp [pow3] at h1; simp [rkN]; omega
  | succ k ih =>
    obtain ⟨b1, b2, b3, b4⟩ := third_bd h0 h1
    obtain ⟨c1, c2⟩ := inThird_bd (h := i / pow3 k - 1) b3 b4
    have L := grayL_length k (inThird (i % pow3 k) (i / pow3 k - 1) (pow3 k))
    have e1 : (grayL (k + 1) i).getD k 0 = i / pow3 k - 1 := by
      rw [grayL]
      have := getD_last (grayL k (inThird (i % pow3 k) (i / pow3 k - 1) (pow3 k))) (i / pow3 k - 1)
      rwa [L] at this
    have e2 : rkN (grayL (k + 1) i) k = inThird (i % pow3 k) (i / pow3 k - 1) (pow3 k) := by
      rw [← ih _ c1 c2]
      apply rkN_congr
      intro j hj
      rw [grayL]
      exact getD_left (by rw [L]; exact hj)
    rw [rkN, e1, e2, inThird_twice, Int.mul_comm, show i / pow3 k - 1 + 1 = i / pow3 k from by omega]
    exact Int.mul_ediv_add_emod i (pow3 k)
theorem gray_rk0 (n : Nat) (xs : List Int) (hn : xs.length = n) (hw : ∀ x ∈ xs, -1 ≤ x ∧ x ≤ 1) : grayL n (rkN xs n) = xs := by
  induction n generalizing xs with
  | zero => cases xs with
    | nil => rfl
    | cons a l => simp at hn
  | succ n ih =>
    obtain ⟨ys, t, rfl⟩ : ∃ ys t, xs = ys ++ [t] := ⟨xs.dropLast, xs.getLast (by intro e; subst e; simp at hn), (List.dropLast_concat_getLast _).symm⟩
    have hl : ys.length = n := by simpa using hn
    have ih := ih ys hl (fun x hx => hw x (by simp [hx]))
    have W : ∀ i, -1 ≤ ys.getD i 0 ∧ ys.getD i 0 ≤ 1 := by
      intro i
      rw [List.getD_eq_getElem?_getD]
      by_cases hi : i < ys.length
      · rw [List.getElem?_eq_getElem hi]; exact hw _ (by simp)
      · rw [List.getElem?_eq_none (by omega)]; simp
    have b := rkN_bd W n
    have t12 := hw t (by simp)
    have e0 : rkN (ys ++ [t]) n = rkN ys n := rkN_congr (fun i hi => getD_left (by omega))
    have e1 : (ys ++ [t]).getD n 0 = t := by rw [← hl]; exact getD_last ys t
    rw [rkN, e1, e0]
    obtain ⟨c1, c2⟩ := inThird_bd (h := t) b.1 b.2
    obtain ⟨f1, f2⟩ := div_at (P := pow3 n) (c := t + 1) c1 c2
    rw [Int.mul_comm] at f1 f2
    rw [grayL, f1, f2, show t + 1 - 1 = t from by omega, inThird_twice, ih]
theorem gray_rk {xs : List Int} (hw : ∀ x ∈ xs, -1 ≤ x ∧ x ≤ 1) : grayL xs.length (rkN xs xs.length) = xs := gray_rk0 _ xs rfl hw
end Tm
end Go.Proofs.Ytfmpnkckaceigaa

/- Plain facts: floating numbers, what the laws ask. -/
import Derived.Test.YtkphbnejnilehaaFMath
namespace Go.Proofs.Ytkphbnejnilehaa
open Go.RowKit
namespace Tm
theorem ofE_val {n : Int} (e : Int) (h0 : n ≠ 0) : ofE n e = e + (lenN n : Int) - 6 := by rw [ofE, if_neg h0]
/-- Few trits: nothing is left out. -/
theorem of_low {n : Int} (h : fits n) (h6 : lenN n ≤ 6) : val (ofD n) = n * pow3 (6 - lenN n) := by
  by_cases h0 : n = 0
  · subst h0; rw [ofD, if_pos rfl, zero6.2, Int.zero_mul]
  · obtain ⟨-, -, -, s3, -⟩ := lenN_spec h
    rw [ofD, if_neg h0, top6_val_low _ h6 s3, Int.mul_comm]
theorem of_high {n : Int} (h : fits n) (h0 : n ≠ 0) (h6 : 6 ≤ lenN n) : 2 * absI (n - val (ofD n) * pow3 (lenN n - 6)) < pow3 (lenN n - 6) := by
  obtain ⟨-, s1, s2, s3, -⟩ := lenN_spec h
  rw [ofD, if_neg h0, top6_high _ h6]
  have := drop_near (zs := wordL n (lenN n)) (wordL_isW s1 s2) (k := lenN n - 6) (by rw [wordL_length]; omega)
  rw [val_wordL _ _ s3] at this
  exact this
theorem of_near {n : Int} (h : fits n) : (ofE n 0 < 0 → val (ofD n) = n * pow3 (-ofE n 0).toNat) ∧ (0 ≤ ofE n 0 → 2 * absI (n - val (ofD n) * pow3 (ofE n 0).toNat) < pow3 (ofE n 0).toNat ∧ (6 < lenOf n ∨ val (ofD n) * pow3 (ofE n 0).toNat = n)) := by
  by_cases h0 : n = 0
  · subst h0
    rw [ofD, ofE, if_pos rfl, if_pos rfl, zero6.2]
    exact ⟨fun h => absurd h (by omega), fun _ => ⟨by decide, .inr rfl⟩⟩
  · obtain ⟨s0, s1, s2, s3, s4⟩ := lenN_spec h
    rw [ofE_val 0 h0, s0]
    constructor
    · intro c
      rw [of_low h (by omega), show (-(0 + (lenN n : Int) - 6)).toNat = 6 - lenN n by omega]
    · intro c
      rw [show (0 + (lenN n : Int) - 6).toNat = lenN n - 6 by omega]
      refine ⟨of_high h h0 (by omega), ?_⟩
      by_cases c6 : lenN n = 6
      · right
        have := of_low h (by omega)
        rw [c6] at this ⊢
        simpa [pow3] using this
      · left; omega
/-- A number of at most six trits: exact, over an exponent that is not above 0. -/
theorem of_exact {n : Int} (h : -364 ≤ n ∧ n ≤ 364) : ∃ i : Nat, i ≤ 5 ∧ val (ofD n) = n * pow3 i ∧ ofE n 0 = -(i : Int) ∧ val ((ofD n).drop i) = n ∧ (n = 0 → i = 0) := by
  have f : fits n := ⟨by omega, by omega⟩
  by_cases h0 : n = 0
  · subst h0; exact ⟨0, by omega, by decide, by decide, by decide, fun _ => rfl⟩
  · obtain ⟨s0, s1, s2, s3, s4⟩ := lenN_spec f
    have s5 := s4 h0
    have a := absI_abs n
    have k6 : lenN n ≤ 6 := by
      rcases Nat.lt_or_ge 6 (lenN n) with c | c
      · have := limN_mono (show 6 ≤ lenN n - 1 by omega)
        rw [show limN 6 = 364 from by decide] at this
        omega
      · exact c
    refine ⟨6 - lenN n, by omega, of_low f k6, by rw [ofE_val 0 h0]; omega, ?_, fun h => absurd h h0⟩
    rw [ofD, if_neg h0, top6, show lenN n - 6 = 0 by omega, List.drop_zero, List.drop_left' (by simp)]
    exact val_wordL _ _ s3
/-- Sums. -/
theorem sumN_swap (xs ys : List Int) (a b : Int) : sumN xs a ys b = sumN ys b xs a := by unfold sumN; omega
theorem val_negL (xs : List Int) : val (negL xs) = -val xs := by
  induction xs with
  | nil => rfl
  | cons a l ih => rw [negL, List.map_cons, val, val, ← negL, ih]; omega
theorem isF_neg {ds : List Int} {e : Int} (h : isF ds e = true) : isF (negL ds) e = true := by
  obtain ⟨h1, h2, h3, h4⟩ := (isF_iff _ _).1 h
  have n := negW_word h1
  rw [negW, if_pos h1] at n
  refine (isF_iff _ _).2 ⟨n.1, by rw [n.2.2, h2], h3, ?_⟩
  rcases h4 with h4 | h4
  · left; rw [negL_get]; omega
  · right; exact ⟨h4.1, by rw [n.2.1, h4.2]; rfl⟩
theorem negL_negL (xs : List Int) : negL (negL xs) = xs := by
  rw [negL, negL, List.map_map]
  conv => rhs; rw [← List.map_id xs]
  exact List.map_congr_left fun x _ => by simp
theorem nearX_neg (x y a b : Int) : nearX (-x) (-y) a b = -nearX x y a b := by
  unfold nearX
  rw [Int.neg_mul]
  repeat' split
  all_goals omega
theorem nearE_neg (x y a b : Int) : nearE (-x) (-y) a b = nearE x y a b := by
  unfold nearE
  repeat' split
  all_goals omega
theorem sum_neg (xs ys : List Int) (a b : Int) : sumN (negL xs) a (negL ys) b = -sumN xs a ys b ∧ sumE (negL xs) a (negL ys) b = sumE xs a ys b := by
  rw [sumN, sumN, sumE, sumE, val_negL, val_negL, nearX_neg, nearX_neg, nearE_neg]
  exact ⟨by omega, rfl⟩
theorem sumN_fits {xs ys : List Int} {a b : Int} (h : isF xs a = true) (k : isF ys b = true) : fits (sumN xs a ys b) := by
  have := sum_bd h k
  exact ⟨by omega, by omega⟩
theorem sum_swap (xs ys : List Int) (a b : Int) : ofD (sumN xs a ys b) = ofD (sumN ys b xs a) ∧ ofE (sumN xs a ys b) (sumE xs a ys b) = ofE (sumN ys b xs a) (sumE ys b xs a) := by
  rw [sumN_swap xs ys]
  refine ⟨rfl, ?_⟩
  by_cases c : val xs ≠ 0 ∨ val ys ≠ 0
  · rw [sumE, sumE, nearE_swap _ _ _ _ c]
  · have c1 : val xs = 0 := by omega
    have c2 : val ys = 0 := by omega
    have z : sumN ys b xs a = 0 := by simp [sumN, nearX, c1, c2]
    rw [ofE, ofE, if_pos z, if_pos z]
theorem ad_swap (xs : List Int) (a : Int) (ys : List Int) (b : Int) : adOk xs a ys b = adOk ys b xs a ∧ adD xs a ys b = adD ys b xs a ∧ adE xs a ys b = adE ys b xs a := by
  cases h : isF xs a with
  | false => simp [adOk, adD, adE, h]
  | true =>
    cases k : isF ys b with
    | false => simp [adOk, adD, adE, k]
    | true =>
      have s := sum_swap xs ys a b
      have e : adOk xs a ys b = adOk ys b xs a := by simp only [adOk, h, k, ofOk, s.2]
      refine ⟨e, ?_, ?_⟩
      · rw [adD, adD, e, s.1]
      · rw [adE, adE, e, s.2]
theorem ad_neg {xs ys : List Int} {a b : Int} (h : isF xs a = true) (k : isF ys b = true) : adOk (negL xs) a (negL ys) b = adOk xs a ys b ∧ adD (negL xs) a (negL ys) b = negL (adD xs a ys b) ∧ adE (negL xs) a (negL ys) b = adE xs a ys b := by
  have s := sum_neg xs ys a b
  have f := of_neg (sumE xs a ys b) (sumN_fits h k)
  have e : adOk (negL xs) a (negL ys) b = adOk xs a ys b := by
    simp only [adOk, h, k, isF_neg h, isF_neg k, ofOk, s.1, s.2, f.2]
  refine ⟨e, ?_, ?_⟩
  · rw [adD, adD, e, s.1, f.1]
    split
    · rfl
    · rfl
  · rw [adE, adE, e, s.1, s.2, f.2]
theorem ad_self {xs : List Int} {a : Int} (h : isF xs a = true) : adOk xs a (negL xs) a = true ∧ adD xs a (negL xs) a = List.replicate 6 0 ∧ adE xs a (negL xs) a = 0 := by
  have z : sumN xs a (negL xs) a = 0 := by
    have p : pow3 0 = 1 := rfl
    rw [sumN, val_negL]
    unfold nearX
    rw [show (a - a).toNat = 0 by omega, p]
    repeat' split
    all_goals omega
  have e : adOk xs a (negL xs) a = true := by
    rw [adOk, h, isF_neg h, z, ofOk, ofE, if_pos rfl]; rfl
  rw [adD, adE, e, z]
  exact ⟨rfl, rfl, rfl⟩
theorem isF_zero : isF (List.replicate 6 0) 0 = true := by decide
theorem ad_zero {xs : List Int} {a : Int} (h : isF xs a = true) : adOk xs a (List.replicate 6 0) 0 = true ∧ adD xs a (List.replicate 6 0) 0 = xs ∧ adE xs a (List.replicate 6 0) 0 = a := by
  have s := of_self h
  have z : sumN xs a (List.replicate 6 0) 0 = val xs := by
    rw [sumN, zero6.2]
    unfold nearX
    repeat' split
    all_goals omega
  have e2 : ofE (val xs) (sumE xs a (List.replicate 6 0) 0) = a := by
    rw [sumE, zero6.2, nearE]
    by_cases c : val xs = 0
    · rcases isF_big h with ⟨-, -, e⟩ | ⟨e, -⟩
      · rw [if_pos c, ofE, if_pos c, e]
      · exact absurd c e
    · rw [if_neg c, if_pos rfl]; exact s.2
  have b := ((isF_iff _ _).1 h).2.2.1
  have e : adOk xs a (List.replicate 6 0) 0 = true := by
    rw [adOk, h, isF_zero, z, ofOk, e2, (inB_iff ..).2 b]; rfl
  rw [adD, adE, e, z, e2]
  exact ⟨rfl, s.1, rfl⟩
/-- Whole numbers of at most six trits: sums, products, shifts are exact. -/
theorem near_exact {n m : Int} {i j : Nat} (hi : i ≤ 5) (hj : j ≤ 5) (z : n = 0 → i = 0) (y : m = 0 → j = 0) : ∃ t : Nat, t ≤ 5 ∧ nearX (n * pow3 i) (m * pow3 j) (-(i : Int)) (-(j : Int)) = n * pow3 t ∧ nearX (m * pow3 j) (n * pow3 i) (-(j : Int)) (-(i : Int)) = m * pow3 t ∧ nearE (n * pow3 i) (m * pow3 j) (-(i : Int)) (-(j : Int)) = -(t : Int) := by
  have p1 := pow3_pos i
  have p2 := pow3_pos j
  have up : ∀ (x : Int) (a b : Nat), a ≤ b → x * pow3 a * pow3 (b - a) = x * pow3 b := fun x a b h => by
    rw [Int.mul_assoc, ← pow3_add, Nat.add_sub_cancel' h]
  by_cases n0 : n = 0
  · subst n0
    have := z rfl
    subst this
    rw [Int.zero_mul]
    refine ⟨j, hj, by rw [nearX, if_pos rfl, Int.zero_mul], ?_, by rw [nearE, if_pos rfl]⟩
    rw [nearX, if_pos rfl]
    split
    · rename_i h; exact h.symm
    · rfl
  · have nz : n * pow3 i ≠ 0 := fun h => by
      rcases Int.mul_eq_zero.1 h with h | h
      · exact n0 h
      · omega
    by_cases m0 : m = 0
    · subst m0
      have := y rfl
      subst this
      rw [Int.zero_mul]
      exact ⟨i, hi, by rw [nearX, if_neg nz, if_pos rfl], by rw [nearX, if_pos rfl, Int.zero_mul], by rw [nearE, if_neg nz, if_pos rfl]⟩
    · have mz : m * pow3 j ≠ 0 := fun h => by
        rcases Int.mul_eq_zero.1 h with h | h
        · exact m0 h
        · omega
      rcases Nat.le_total i j with c | c
      · refine ⟨j, hj, ?_, ?_, ?_⟩
        · rw [nearX, if_neg nz, if_neg mz, if_neg (by omega), if_neg (by omega), show (-(i : Int) - -(j : Int)).toNat = j - i by omega, up _ _ _ c]
        · rw [nearX, if_neg mz, if_neg nz, if_neg (by omega), if_neg (by omega), show (-(j : Int) - -(i : Int)).toNat = 0 by omega, show pow3 0 = 1 from rfl, Int.mul_one]
        · rw [nearE, if_neg nz, if_neg mz, if_neg (by omega), if_neg (by omega)]; omega
      · refine ⟨i, hi, ?_, ?_, ?_⟩
        · rw [nearX, if_neg nz, if_neg mz, if_neg (by omega), if_neg (by omega), show (-(i : Int) - -(j : Int)).toNat = 0 by omega, show pow3 0 = 1 from rfl, Int.mul_one]
        · rw [nearX, if_neg mz, if_neg nz, if_neg (by omega), if_neg (by omega), show (-(j : Int) - -(i : Int)).toNat = i - j by omega, up _ _ _ c]
        · rw [nearE, if_neg nz, if_neg mz, if_neg (by omega), if_neg (by omega)]; omega
theorem p3_5 {t : Nat} (h : t ≤ 5) : 1 ≤ pow3 t ∧ pow3 t ≤ 243 := by
  have := pow3_le h
  rw [show pow3 5 = 243 from by decide] at this
  exact ⟨pow3_one t, this⟩
theorem of_shift0 {n : Int} (t : Nat) (h : fits (n * pow3 t)) : ofD (n * pow3 t) = ofD n ∧ ofE (n * pow3 t) (-(t : Int)) = ofE n 0 := by
  have := of_shift 0 t h
  rwa [Int.zero_sub] at this
theorem sgn_scale (x : Int) {p : Int} (h : 1 ≤ p) : sgn (x * p) = sgn x := by
  unfold sgn
  rcases Int.lt_trichotomy x 0 with c | c | c
  · have : x * p < 0 := Int.mul_neg_of_neg_of_pos c (by omega)
    rw [if_pos this, if_pos c]
  · subst c; rw [Int.zero_mul]
  · have : 0 < x * p := Int.mul_pos c (by omega)
    rw [if_neg (by omega), if_pos this, if_neg (by omega), if_pos c]
theorem sum_exact {n m : Int} (hn : -364 ≤ n ∧ n ≤ 364) (hm : -364 ≤ m ∧ m ≤ 364) :
    ofD (sumN (ofD n) (ofE n 0) (ofD m) (ofE m 0)) = ofD (n + m) ∧ ofE (sumN (ofD n) (ofE n 0) (ofD m) (ofE m 0)) (sumE (ofD n) (ofE n 0) (ofD m) (ofE m 0)) = ofE (n + m) 0 ∧
    sgn (nearX (val (ofD n)) (val (ofD m)) (ofE n 0) (ofE m 0) - nearX (val (ofD m)) (val (ofD n)) (ofE m 0) (ofE n 0)) = sgn (n - m) := by
  obtain ⟨i, i1, i2, i3, -, i5⟩ := of_exact hn
  obtain ⟨j, j1, j2, j3, -, j5⟩ := of_exact hm
  obtain ⟨t, t1, t2, t3, t4⟩ := near_exact i1 j1 i5 j5
  have p := p3_5 t1
  rw [sumN, sumE, i2, j2, i3, j3, t2, t3, t4, ← Int.add_mul, ← Int.sub_mul]
  have b := mul_bd (a := n + m) (b := pow3 t) (A := 728) (B := 243) ⟨by omega, by omega⟩ ⟨by omega, by omega⟩
  have s := of_shift0 (n := n + m) t ⟨by omega, by omega⟩
  exact ⟨s.1, s.2, sgn_scale _ p.1⟩
theorem mul_exact {n m : Int} (hn : -364 ≤ n ∧ n ≤ 364) (hm : -364 ≤ m ∧ m ≤ 364) : ofD (val (ofD n) * val (ofD m)) = ofD (n * m) ∧ ofE (val (ofD n) * val (ofD m)) (ofE n 0 + ofE m 0) = ofE (n * m) 0 := by
  obtain ⟨i, i1, i2, i3, -, i5⟩ := of_exact hn
  obtain ⟨j, j1, j2, j3, -, j5⟩ := of_exact hm
  have e : n * pow3 i * (m * pow3 j) = n * m * pow3 (i + j) := by rw [pow3_add]; grind
  rw [i2, j2, i3, j3, e, show -(i : Int) + -(j : Int) = -((i + j : Nat) : Int) by omega]
  have p1 := p3_5 i1
  have p2 := p3_5 j1
  have b1 := mul_bd (a := n * pow3 i) (b := m * pow3 j) (A := 364 * 243) (B := 364 * 243) (mul_bd (A := 364) (B := 243) hn ⟨by omega, by omega⟩) (mul_bd (A := 364) (B := 243) hm ⟨by omega, by omega⟩)
  rw [e] at b1
  exact of_shift0 (i + j) ⟨by omega, by omega⟩
theorem scl_exact {n : Int} (hn : -364 ≤ n ∧ n ≤ 364) (by_ : Int) : ofD (val (ofD n)) = ofD n ∧ ofE (val (ofD n)) (ofE n 0 + by_) = ofE n by_ := by
  obtain ⟨i, i1, i2, i3, -, i5⟩ := of_exact hn
  have p1 := p3_5 i1
  have b1 := mul_bd (A := 364) (B := 243) hn (show -243 ≤ pow3 i ∧ pow3 i ≤ 243 by omega)
  have s := of_shift (n := n) by_ i ⟨by omega, by omega⟩
  rw [i2, i3, s.1, show -(i : Int) + by_ = by_ - i by omega]
  exact ⟨rfl, s.2⟩
theorem flr_exact {n : Int} (hn : -364 ≤ n ∧ n ≤ 364) : flrV (ofD n) (ofE n 0) = n := by
  obtain ⟨i, i1, i2, i3, i4, i5⟩ := of_exact hn
  have f : fits n := ⟨by omega, by omega⟩
  have ok : isF (ofD n) (ofE n 0) = true := by
    rw [of_isF 0 f, ofOk, inB_iff]; omega
  rw [flrV, if_pos ok, i3]
  by_cases c : i = 0
  · subst c; rw [if_pos (by omega), i2]; simp [pow3]
  · rw [if_neg (by omega), show (- -(i : Int)).toNat = i by omega, i4]
theorem exact_ok {n : Int} (hn : -364 ≤ n ∧ n ≤ 364) : frmOk n 0 = true ∧ isF (ofD n) (ofE n 0) = true := by
  obtain ⟨i, i1, i2, i3, i4, i5⟩ := of_exact hn
  have f : fits n := ⟨by omega, by omega⟩
  have o : ofOk n 0 = true := by rw [ofOk, inB_iff]; omega
  refine ⟨?_, by rw [of_isF 0 f, o]⟩
  rw [frmOk, okF, o, decide_eq_true (show -102945566047324 ≤ n ∧ n ≤ 102945566047324 from f)]; rfl
/-- Quotients of products. -/
theorem quo_exact {n m : Int} (hn : 1 ≤ n ∧ n ≤ 13) (hm : -12 ≤ m ∧ m ≤ 12) : ofD (dvN (ofD (n * m)) (ofD n)) = ofD m ∧ ofE (dvN (ofD (n * m)) (ofD n)) (ofE (n * m) 0 - ofE n 0 - 9) = ofE m 0 ∧ val (ofD n) ≠ 0 := by
  have nm := mul_bd (a := n) (b := m) (A := 13) (B := 12) ⟨by omega, by omega⟩ hm
  obtain ⟨i, i1, i2, i3, -, i5⟩ := of_exact (n := n * m) ⟨by omega, by omega⟩
  obtain ⟨j, j1, j2, j3, -, j5⟩ := of_exact (n := n) ⟨by omega, by omega⟩
  have pj := p3_5 j1
  have pi := p3_5 i1
  have nz : n * pow3 j ≠ 0 := by have := Int.mul_pos (show 0 < n by omega) (show 0 < pow3 j by omega); omega
  have e : n * m * pow3 i * 19683 = m * pow3 (i + 9 - j) * (n * pow3 j) := by
    rw [show (19683 : Int) = pow3 9 from by decide, Int.mul_assoc (n * m), ← pow3_add, show i + 9 = (i + 9 - j) + j by omega, pow3_add, show i + 9 - j + j - j = i + 9 - j by omega]
    grind
  have q := quo_mul (m * pow3 (i + 9 - j)) nz
  rw [dvN, i2, j2, i3, j3, e, q.1, show -(i : Int) - -(j : Int) - 9 = -((i + 9 - j : Nat) : Int) by omega]
  have p := pow3_le (show i + 9 - j ≤ 14 by omega)
  rw [show pow3 14 = 4782969 from by decide] at p
  have p1 := pow3_one (i + 9 - j)
  have b := mul_bd (a := m) (b := pow3 (i + 9 - j)) (A := 12) (B := 4782969) hm ⟨by omega, by omega⟩
  have s := of_shift0 (n := m) (i + 9 - j) ⟨by omega, by omega⟩
  exact ⟨s.1, s.2, nz⟩
end Tm
end Go.Proofs.Ytkphbnejnilehaa

/- Plain facts: floating numbers. Plain facts: floating numbers, what the laws ask. Plain facts: floating numbers, order. -/
import Derived.Test.YteklgngooflhlaaPMath
import Derived.Test.YteklgngooflhlaaLValues
namespace Go.Proofs.Yteklgngooflhlaa
set_option maxRecDepth 20000
open Go.RowKit
namespace Tm
/-- A number that a word of 30 trits has; its number of trits. -/
def fits (n : Int) : Prop := -102945566047324 ≤ n ∧ n ≤ 102945566047324
def lenN (n : Int) : Nat := (lenOf n).toNat
theorem lenN_spec {n : Int} (h : fits n) : lenOf n = (lenN n : Int) ∧ 1 ≤ lenN n ∧ lenN n ≤ 30 ∧ (-limN (lenN n) ≤ n ∧ n ≤ limN (lenN n)) ∧ (n ≠ 0 → limN (lenN n - 1) < absI n) := by
  obtain ⟨f1, f2⟩ := h
  have e30 : lim 30 = 102945566047324 := by decide
  obtain ⟨h1, h2, h3, h4⟩ := lenOf_least (n := n) (k := 30) (by rw [wordOk, decide_eq_true_eq, e30]; omega)
  have e : lenOf n = (lenN n : Int) := by rw [lenN]; omega
  rw [e] at h1 h2 h3 h4
  have a := absI_abs n
  rw [wordOk, decide_eq_true_eq, lim_nat (by omega) (by omega)] at h3
  refine ⟨e, by omega, by omega, ⟨h3.2.2.1, h3.2.2.2⟩, fun h0 => ?_⟩
  rw [wordOk, decide_eq_false_iff_not] at h4
  by_cases c : lenN n = 1
  · rw [c]; show (0 : Int) < _; omega
  · rw [show ((lenN n : Int) - 1) = ((lenN n - 1 : Nat) : Int) by omega, lim_nat (by omega) (by omega)] at h4
    omega
theorem lenFrom_none {n : Int} (h : ¬ fits n) (f : Nat) (k : Int) (hk : 1 ≤ k) (hf : k + f ≤ 31) : lenFrom n f k = 0 := by
  induction f generalizing k with
  | zero => rfl
  | succ f ih =>
    rw [lenFrom, if_neg, ih (k + 1) (by omega) (by omega)]
    intro hb
    have b := (inB_iff _ _ _).1 hb
    obtain ⟨m, rfl⟩ := Int.eq_ofNat_of_zero_le (show 0 ≤ k by omega)
    rw [lim_nat (by omega) (by omega)] at b
    have := limN_le (show m ≤ 30 by omega)
    exact h ⟨by omega, by omega⟩
theorem lenOf_none {n : Int} (h : ¬ fits n) : lenOf n = 0 := lenFrom_none h 30 1 (by omega) (by omega)
theorem lenN_eq {n : Int} {k : Nat} (h1 : 1 ≤ k) (h2 : k ≤ 30) (h3 : absI n ≤ limN k) (h4 : limN (k - 1) < absI n) : lenN n = k := by
  have a := absI_abs n
  have l30 := limN_le h2
  have s := lenN_spec (n := n) ⟨by omega, by omega⟩
  obtain ⟨-, s1, s2, s3, s4⟩ := s
  have l0 := limN_nonneg (k - 1)
  have s5 := s4 (by omega)
  rcases Nat.lt_trichotomy (lenN n) k with c | c | c
  · have := limN_mono (show lenN n ≤ k - 1 by omega); omega
  · exact c
  · have := limN_mono (show k ≤ lenN n - 1 by omega); omega
theorem lenN_three {n : Int} (h0 : n ≠ 0) (h : fits (3 * n)) : lenN (3 * n) = lenN n + 1 := by
  obtain ⟨f1, f2⟩ := h
  have f : fits n := ⟨by omega, by omega⟩
  obtain ⟨-, s1, s2, s3, s4⟩ := lenN_spec f
  have s5 := s4 h0
  have a := absI_abs n
  have b := absI_abs (3 * n)
  obtain ⟨m, hm⟩ : ∃ m, lenN n = m + 1 := ⟨lenN n - 1, by omega⟩
  rw [hm] at s1 s2 s3 s5 ⊢
  rw [Nat.add_sub_cancel] at s5
  have e1 : limN (m + 1 + 1) = 3 * limN (m + 1) + 1 := rfl
  have e2 : limN (m + 1) = 3 * limN m + 1 := rfl
  have k30 : m + 1 + 1 ≤ 30 := by
    rcases Nat.lt_or_ge 30 (m + 1 + 1) with c | c
    · have : m = 29 := by omega
      subst this
      have : limN 29 = 34315188682441 := by decide
      omega
    · exact c
  exact lenN_eq (by omega) k30 (by omega) (by rw [Nat.add_sub_cancel]; omega)
/-- Its six highest trits, and the exponent over them. -/
def top6 (n : Int) (k : Nat) : List Int := (List.replicate (6 - k) 0 ++ wordL n k).drop (k - 6)
def ofD (n : Int) : List Int := if n = 0 then List.replicate 6 0 else top6 n (lenN n)
def ofE (n e : Int) : Int := if n = 0 then 0 else e + lenN n - 6
def ofOk (n e : Int) : Bool := inB (ofE n e) (-20) 20
theorem wordL_three (n : Int) (k : Nat) : wordL (3 * n) (k + 1) = 0 :: wordL n k := by
  have l : low (3 * n) = 0 := by unfold low; split <;> omega
  rw [wordL, l, show (3 * n - 0) / 3 = n by omega]
theorem top6_length (n : Int) (k : Nat) : (top6 n k).length = 6 := by
  rw [top6, List.length_drop, List.length_append, List.length_replicate, wordL_length]; omega
theorem top6_trits (n : Int) (k : Nat) : ∀ x ∈ top6 n k, -1 ≤ x ∧ x ≤ 1 := fun x hx => by
  have := List.mem_of_mem_drop hx
  rcases List.mem_append.1 this with h | h
  · obtain ⟨-, rfl⟩ := List.mem_replicate.1 h; omega
  · exact wordL_trits _ _ x h
theorem top6_three (n : Int) (k : Nat) : top6 (3 * n) (k + 1) = top6 n k := by
  rw [top6, top6, wordL_three]
  rcases Nat.lt_or_ge k 6 with c | c
  · obtain ⟨m, hm⟩ : ∃ m, 6 - k = m + 1 := ⟨5 - k, by omega⟩
    rw [show 6 - (k + 1) = m by omega, hm, show k + 1 - 6 = 0 by omega, show k - 6 = 0 by omega, List.drop_zero, List.drop_zero, List.replicate_succ', List.append_assoc]; rfl
  · rw [show 6 - (k + 1) = 0 by omega, show 6 - k = 0 by omega, show k + 1 - 6 = (k - 6) + 1 by omega]; rfl
theorem top6_val_low (n : Int) {k : Nat} (h : k ≤ 6) (hn : -limN k ≤ n ∧ n ≤ limN k) : val (top6 n k) = pow3 (6 - k) * n := by
  rw [top6, show k - 6 = 0 by omega, List.drop_zero, val_shift, val_wordL _ _ hn]
theorem top6_high (n : Int) {k : Nat} (h : 6 ≤ k) : top6 n k = (wordL n k).drop (k - 6) := by
  rw [top6, show 6 - k = 0 by omega]; rfl
theorem val_top0 {xs : List Int} (h : ∀ x ∈ xs, -1 ≤ x ∧ x ≤ 1) {k : Nat} (hl : xs.length = k + 1) (h0 : xs.getD k 0 = 0) : -limN k ≤ val xs ∧ val xs ≤ limN k := by
  have e := val_take_drop xs k (by omega)
  have d : val (xs.drop k) = 0 := by
    rw [val_drop xs k (by omega), h0, List.drop_of_length_le (by omega)]; simp [val]
  have b := val_bd (xs.take k) (trits_take h k)
  rw [List.length_take, Nat.min_eq_left (by omega)] at b
  rw [d] at e
  omega
theorem wordL_top {n : Int} {k : Nat} (hn : -limN (k + 1) ≤ n ∧ n ≤ limN (k + 1)) (h : limN k < absI n) : (wordL n (k + 1)).getD k 0 ≠ 0 := fun h0 => by
  have b := val_top0 (wordL_trits n (k + 1)) (wordL_length _ _) h0
  rw [val_wordL _ _ hn] at b
  have := absI_abs n
  omega
theorem top6_top {n : Int} (h : fits n) (h0 : n ≠ 0) : (top6 n (lenN n)).getD 5 0 ≠ 0 := by
  obtain ⟨-, s1, s2, s3, s4⟩ := lenN_spec h
  have s5 := s4 h0
  obtain ⟨m, hm⟩ : ∃ m, lenN n = m + 1 := ⟨lenN n - 1, by omega⟩
  rw [hm] at s3 s5 ⊢
  rw [Nat.add_sub_cancel] at s5
  have t := wordL_top s3 s5
  rcases Nat.lt_or_ge m 6 with c | c
  · rw [top6, show m + 1 - 6 = 0 by omega, List.drop_zero, List.getD_eq_getElem?_getD, List.getElem?_append_right (by simp <;> omega), List.length_replicate, show 5 - (6 - (m + 1)) = m by omega, ← List.getD_eq_getElem?_getD]
    exact t
  · rw [top6_high _ (by omega), List.getD_eq_getElem?_getD, List.getElem?_drop, show m + 1 - 6 + 5 = m by omega, ← List.getD_eq_getElem?_getD]
    exact t
/-- Valid floats. -/
def isF (ds : List Int) (e : Int) : Bool := isW ds && decide (ds.length = 6) && inB e (-20) 20 && (decide (ds.getD 5 0 ≠ 0) || (decide (e = 0) && decide (val ds = 0)))
theorem isF_iff (ds : List Int) (e : Int) : isF ds e = true ↔ isW ds = true ∧ ds.length = 6 ∧ (-20 ≤ e ∧ e ≤ 20) ∧ (ds.getD 5 0 ≠ 0 ∨ (e = 0 ∧ val ds = 0)) := by simp [isF, inB, and_assoc]
theorem zero6 : isW (List.replicate 6 (0 : Int)) = true ∧ val (List.replicate 6 (0 : Int)) = 0 := by decide
theorem ofD_facts {n : Int} (h : fits n) : isW (ofD n) = true ∧ (ofD n).length = 6 ∧ (n ≠ 0 → (ofD n).getD 5 0 ≠ 0) := by
  by_cases h0 : n = 0
  · rw [ofD, if_pos h0]; exact ⟨zero6.1, rfl, fun h => absurd h0 h⟩
  · rw [ofD, if_neg h0]
    have l := top6_length n (lenN n)
    exact ⟨isW_mk (top6_trits _ _) (by omega) (by omega), l, fun _ => top6_top h h0⟩
theorem of_isF {n : Int} (e : Int) (h : fits n) : isF (ofD n) (ofE n e) = ofOk n e := by
  obtain ⟨f1, f2, f3⟩ := ofD_facts h
  rw [Bool.eq_iff_iff, isF_iff, ofOk, inB_iff]
  constructor
  · rintro ⟨-, -, a, -⟩; exact a
  · intro a
    refine ⟨f1, f2, a, ?_⟩
    by_cases h0 : n = 0
    · right; rw [ofE, ofD, if_pos h0, if_pos h0]; exact ⟨rfl, zero6.2⟩
    · left; exact f3 h0
/-- A valid float's digits are those of their value. -/
theorem isF_big {ds : List Int} {e : Int} (h : isF ds e = true) : (val ds = 0 ∧ ds = List.replicate 6 0 ∧ e = 0) ∨ (val ds ≠ 0 ∧ 121 < absI (val ds) ∧ absI (val ds) ≤ 364) := by
  obtain ⟨h1, h2, h3, h4⟩ := (isF_iff _ _).1 h
  have b := val_bd_len h1 6 (by omega)
  rw [show limN 6 = 364 from by decide] at b
  have a := absI_abs (val ds)
  by_cases h0 : val ds = 0
  · left
    have z : ds = List.replicate 6 0 := same_val h1 zero6.1 (by rw [h2]; rfl) (by rw [h0, zero6.2])
    refine ⟨h0, z, ?_⟩
    rcases h4 with h4 | h4
    · rw [z] at h4; exact absurd rfl h4
    · exact h4.1
  · right
    refine ⟨h0, ?_, by omega⟩
    have ht : ds.getD 5 0 ≠ 0 := by
      rcases h4 with h4 | h4
      · exact h4
      · exact absurd h4.2 h0
    have e1 := val_take_drop ds 5 (by omega)
    have e2 : val (ds.drop 5) = ds.getD 5 0 := by
      rw [val_drop ds 5 (by omega), List.drop_of_length_le (by omega)]; simp [val]
    have e3 := val_bd (ds.take 5) (trits_take (isW_trits h1) 5)
    rw [List.length_take, Nat.min_eq_left (by omega), show limN 5 = 121 from by decide] at e3
    rw [show pow3 5 = 243 from by decide, e2] at e1
    have e4 := isW_at h1 5
    generalize ds.getD 5 0 = t at *
    omega
theorem of_self {ds : List Int} {e : Int} (h : isF ds e = true) : ofD (val ds) = ds ∧ ofE (val ds) e = e := by
  obtain ⟨h1, h2, h3, h4⟩ := (isF_iff _ _).1 h
  rcases isF_big h with ⟨a, b, c⟩ | ⟨a, b, c⟩
  · rw [ofD, ofE, if_pos a, if_pos a]; exact ⟨b.symm, c.symm⟩
  · have k : lenN (val ds) = 6 := lenN_eq (by omega) (by omega) (by rw [show limN 6 = 364 from by decide]; exact c) (by rw [show limN (6 - 1) = 121 from by decide]; exact b)
    rw [ofD, ofE, if_neg a, if_neg a, k]
    refine ⟨?_, by omega⟩
    have e := wordL_val (isW_trits h1)
    rw [h2] at e
    rw [top6_high _ (by omega)]
    exact e
theorem of_three {n : Int} (e : Int) (h0 : n ≠ 0) (h : fits (3 * n)) : ofD (3 * n) = ofD n ∧ ofE (3 * n) (e - 1) = ofE n e := by
  rw [ofD, ofD, ofE, ofE, if_neg h0, if_neg h0, if_neg (by omega), if_neg (by omega), lenN_three h0 h, top6_three]
  exact ⟨rfl, by omega⟩
theorem of_shift {n : Int} (e : Int) (j : Nat) (h : fits (n * pow3 j)) : ofD (n * pow3 j) = ofD n ∧ ofE (n * pow3 j) (e - j) = ofE n e := by
  by_cases h0 : n = 0
  · subst h0; rw [Int.zero_mul]; exact ⟨rfl, rfl⟩
  · induction j generalizing e with
    | zero => rw [show pow3 0 = 1 from rfl, Int.mul_one]; exact ⟨rfl, by simp⟩
    | succ j ih =>
      have e1 : n * pow3 (j + 1) = 3 * (n * pow3 j) := by rw [pow3_succ]; grind
      rw [e1] at h ⊢
      have f : fits (n * pow3 j) := ⟨by have := h.1; omega, by have := h.2; omega⟩
      have nz : n * pow3 j ≠ 0 := by
        intro z
        rcases Int.mul_eq_zero.1 z with z | z
        · exact h0 z
        · have := pow3_pos j; omega
      have t := of_three (e - j) nz h
      have i := ih e f
      rw [show e - ((j + 1 : Nat) : Int) = e - j - 1 by omega, t.1, t.2]
      exact i
theorem of_neg {n : Int} (e : Int) (h : fits n) : ofD (-n) = negL (ofD n) ∧ ofE (-n) e = ofE n e := by
  by_cases h0 : n = 0
  · subst h0; exact ⟨by decide, rfl⟩
  · obtain ⟨-, s1, s2, s3, s4⟩ := lenN_spec h
    have s5 := s4 h0
    have a := absI_abs n
    have b := absI_abs (-n)
    have k : lenN (-n) = lenN n := lenN_eq s1 s2 (by omega) (by omega)
    have w : ∀ (m : Int) (k : Nat), wordL (-m) k = negL (wordL m k) := by
      intro m k
      induction k generalizing m with
      | zero => rfl
      | succ k ih =>
        have l : low (-m) = -low m := by unfold low; split <;> split <;> omega
        have l2 := low_mod m
        rw [wordL, wordL, l, show (-m - -low m) / 3 = -((m - low m) / 3) by omega, ih]; rfl
    rw [ofD, ofD, ofE, ofE, if_neg h0, if_neg h0, if_neg (by omega), if_neg (by omega), k, top6, top6, w]
    refine ⟨?_, rfl⟩
    rw [negL, negL, List.map_drop, List.map_append, List.map_replicate]; rfl
/-- Two floats over one exponent; one all of whose trits are below the other's counts as 0. -/
def nearX (x y ea eb : Int) : Int := if x = 0 then 0 else if y = 0 then x else if 6 ≤ ea - eb then x else if 6 ≤ eb - ea then 0 else x * pow3 (ea - eb).toNat
def nearE (x y ea eb : Int) : Int := if x = 0 then eb else if y = 0 then ea else if 6 ≤ ea - eb then ea else if 6 ≤ eb - ea then eb else min ea eb
theorem nearE_swap (x y ea eb : Int) (h : x ≠ 0 ∨ y ≠ 0) : nearE x y ea eb = nearE y x eb ea := by
  unfold nearE
  repeat' split
  all_goals omega
theorem near_bd {x ea eb : Int} (y : Int) (hx : -364 ≤ x ∧ x ≤ 364) : -88452 ≤ nearX x y ea eb ∧ nearX x y ea eb ≤ 88452 := by
  unfold nearX
  repeat' split
  all_goals try omega
  have p := pow3_le (show (ea - eb).toNat ≤ 5 by omega)
  rw [show pow3 5 = 243 from by decide] at p
  have q := pow3_one (ea - eb).toNat
  have := mul_bd (A := 364) (B := 243) hx (show -243 ≤ pow3 (ea - eb).toNat ∧ pow3 (ea - eb).toNat ≤ 243 by omega)
  omega
/-- The sum: what is cut, and its exponent. -/
def sumN (xs : List Int) (a : Int) (ys : List Int) (b : Int) : Int := nearX (val xs) (val ys) a b + nearX (val ys) (val xs) b a
def sumE (xs : List Int) (a : Int) (ys : List Int) (b : Int) : Int := nearE (val xs) (val ys) a b
def cmpF (xs : List Int) (a : Int) (ys : List Int) (b : Int) : Int := if isF xs a && isF ys b then sgn (nearX (val xs) (val ys) a b - nearX (val ys) (val xs) b a) else 0
theorem isF_val {ds : List Int} {e : Int} (h : isF ds e = true) : -364 ≤ val ds ∧ val ds ≤ 364 := by
  rcases isF_big h with ⟨a, -⟩ | ⟨-, -, a⟩
  · omega
  · exact abs_in a
theorem sum_bd {xs ys : List Int} {a b : Int} (h : isF xs a = true) (k : isF ys b = true) : -176904 ≤ sumN xs a ys b ∧ sumN xs a ys b ≤ 176904 := by
  have h1 := near_bd (ea := a) (eb := b) (val ys) (isF_val h)
  have h2 := near_bd (ea := b) (eb := a) (val xs) (isF_val k)
  unfold sumN; omega
/-- What is handed back: a float, if there is one. -/
def fD (n e : Int) : List Int := if ofOk n e then ofD n else []
def fE (n e : Int) : Int := if ofOk n e then ofE n e else 0
def okF (n e : Int) : Bool := decide (-102945566047324 ≤ n ∧ n ≤ 102945566047324) && inB e (-100) 100
def frmD (n e : Int) : List Int := if okF n e then fD n e else []
def frmE (n e : Int) : Int := if okF n e then fE n e else 0
def frmOk (n e : Int) : Bool := okF n e && ofOk n e
def ngD (ds : List Int) (e : Int) : List Int := if isF ds e then negL ds else []
def ngE (ds : List Int) (e : Int) : Int := if isF ds e then e else 0
def sclOk (ds : List Int) (e by_ : Int) : Bool := isF ds e && inB by_ (-100) 100 && ofOk (val ds) (e + by_)
def sclD (ds : List Int) (e by_ : Int) : List Int := if sclOk ds e by_ then ofD (val ds) else []
def sclE (ds : List Int) (e by_ : Int) : Int := if sclOk ds e by_ then ofE (val ds) (e + by_) else 0
def adOk (xs : List Int) (a : Int) (ys : List Int) (b : Int) : Bool := isF xs a && isF ys b && ofOk (sumN xs a ys b) (sumE xs a ys b)
def adD (xs : List Int) (a : Int) (ys : List Int) (b : Int) : List Int := if adOk xs a ys b then ofD (sumN xs a ys b) else []
def adE (xs : List Int) (a : Int) (ys : List Int) (b : Int) : Int := if adOk xs a ys b then ofE (sumN xs a ys b) (sumE xs a ys b) else 0
def mlOk (xs : List Int) (a : Int) (ys : List Int) (b : Int) : Bool := isF xs a && isF ys b && ofOk (val xs * val ys) (a + b)
def mlD (xs : List Int) (a : Int) (ys : List Int) (b : Int) : List Int := if mlOk xs a ys b then ofD (val xs * val ys) else []
def mlE (xs : List Int) (a : Int) (ys : List Int) (b : Int) : Int := if mlOk xs a ys b then ofE (val xs * val ys) (a + b) else 0
def dvN (xs ys : List Int) : Int := quo (val xs * 19683) (val ys)
def dvOk (xs : List Int) (a : Int) (ys : List Int) (b : Int) : Bool := isF xs a && isF ys b && decide (val ys ≠ 0) && ofOk (dvN xs ys) (a - b - 9)
def dvD (xs : List Int) (a : Int) (ys : List Int) (b : Int) : List Int := if dvOk xs a ys b then ofD (dvN xs ys) else []
def dvE (xs : List Int) (a : Int) (ys : List Int) (b : Int) : Int := if dvOk xs a ys b then ofE (dvN xs ys) (a - b - 9) else 0
def flrV (ds : List Int) (e : Int) : Int := if isF ds e then (if 0 ≤ e then val ds * pow3 e.toNat else val (ds.drop (-e).toNat)) else 0
/-- Decimal digits. -/
def decN : Nat → Nat → List UInt8
  | 0, _ => []
  | f + 1, n => if n < 10 then [UInt8.ofNat (48 + n)] else decN f (n / 10) ++ [UInt8.ofNat (48 + n % 10)]
def decZ (n : Int) : List UInt8 := if n < 0 then 45 :: decN 20 (-n).toNat else decN 20 n.toNat
def fmtF (ds : List Int) (e : Int) : List UInt8 := if isF ds e then fmtW ds ++ [120] ++ decZ e else []
end Tm
namespace Tm
theorem ofE_val {n : Int} (e : Int) (h0 : n ≠ 0) : ofE n e = e + (lenN n : Int) - 6 := by rw [ofE, if_neg h0]
/-- Few trits: nothing is left out. -/
theorem of_low {n : Int} (h : fits n) (h6 : lenN n ≤ 6) : val (ofD n) = n * pow3 (6 - lenN n) := by
  by_cases h0 : n = 0
  · subst h0; rw [ofD, if_pos rfl, zero6.2, Int.zero_mul]
  · obtain ⟨-, -, -, s3, -⟩ := lenN_spec h
    rw [ofD, if_neg h0, top6_val_low _ h6 s3, Int.mul_comm]
theorem of_high {n : Int} (h : fits n) (h0 : n ≠ 0) (h6 : 6 ≤ lenN n) : 2 * absI (n - val (ofD n) * pow3 (lenN n - 6)) < pow3 (lenN n - 6) := by
  obtain ⟨-, s1, s2, s3, -⟩ := lenN_spec h
  rw [ofD, if_neg h0, top6_high _ h6]
  have := drop_near (zs := wordL n (lenN n)) (wordL_isW s1 s2) (k := lenN n - 6) (by rw [wordL_length]; omega)
  rw [val_wordL _ _ s3] at this
  exact this
theorem of_near {n : Int} (h : fits n) : (ofE n 0 < 0 → val (ofD n) = n * pow3 (-ofE n 0).toNat) ∧ (0 ≤ ofE n 0 → 2 * absI (n - val (ofD n) * pow3 (ofE n 0).toNat) < pow3 (ofE n 0).toNat ∧ (6 < lenOf n ∨ val (ofD n) * pow3 (ofE n 0).toNat = n)) := by
  by_cases h0 : n = 0
  · subst h0
    rw [ofD, ofE, if_pos rfl, if_pos rfl, zero6.2]
    exact ⟨fun h => absurd h (by omega), fun _ => ⟨by decide, .inr rfl⟩⟩
  · obtain ⟨s0, s1, s2, s3, s4⟩ := lenN_spec h
    rw [ofE_val 0 h0, s0]
    constructor
    · intro c
      rw [of_low h (by omega), show (-(0 + (lenN n : Int) - 6)).toNat = 6 - lenN n by omega]
    · intro c
      rw [show (0 + (lenN n : Int) - 6).toNat = lenN n - 6 by omega]
      refine ⟨of_high h h0 (by omega), ?_⟩
      by_cases c6 : lenN n = 6
      · right
        have := of_low h (by omega)
        rw [c6] at this ⊢
        simpa [pow3] using this
      · left; omega
/-- A number of at most six trits: exact, over an exponent that is not above 0. -/
theorem of_exact {n : Int} (h : -364 ≤ n ∧ n ≤ 364) : ∃ i : Nat, i ≤ 5 ∧ val (ofD n) = n * pow3 i ∧ ofE n 0 = -(i : Int) ∧ val ((ofD n).drop i) = n ∧ (n = 0 → i = 0) := by
  have f : fits n := ⟨by omega, by omega⟩
  by_cases h0 : n = 0
  · subst h0; exact ⟨0, by omega, by decide, by decide, by decide, fun _ => rfl⟩
  · obtain ⟨s0, s1, s2, s3, s4⟩ := lenN_spec f
    have s5 := s4 h0
    have a := absI_abs n
    have k6 : lenN n ≤ 6 := by
      rcases Nat.lt_or_ge 6 (lenN n) with c | c
      · have := limN_mono (show 6 ≤ lenN n - 1 by omega)
        rw [show limN 6 = 364 from by decide] at this
        omega
      · exact c
    refine ⟨6 - lenN n, by omega, of_low f k6, by rw [ofE_val 0 h0]; omega, ?_, fun h => absurd h h0⟩
    rw [ofD, if_neg h0, top6, show lenN n - 6 = 0 by omega, List.drop_zero, List.drop_left' (by simp)]
    exact val_wordL _ _ s3
/-- Sums. -/
theorem sumN_swap (xs ys : List Int) (a b : Int) : sumN xs a ys b = sumN ys b xs a := by unfold sumN; omega
theorem val_negL (xs : List Int) : val (negL xs) = -val xs := by
  induction xs with
  | nil => rfl
  | cons a l ih => rw [negL, List.map_cons, val, val, ← negL, ih]; omega
theorem isF_neg {ds : List Int} {e : Int} (h : isF ds e = true) : isF (negL ds) e = true := by
  obtain ⟨h1, h2, h3, h4⟩ := (isF_iff _ _).1 h
  have n := negW_word h1
  rw [negW, if_pos h1] at n
  refine (isF_iff _ _).2 ⟨n.1, by rw [n.2.2, h2], h3, ?_⟩
  rcases h4 with h4 | h4
  · left; rw [negL_get]; omega
  · right; exact ⟨h4.1, by rw [n.2.1, h4.2]; rfl⟩
theorem negL_negL (xs : List Int) : negL (negL xs) = xs := by
  rw [negL, negL, List.map_map]
  conv => rhs; rw [← List.map_id xs]
  exact List.map_congr_left fun x _ => by simp
theorem nearX_neg (x y a b : Int) : nearX (-x) (-y) a b = -nearX x y a b := by
  unfold nearX
  rw [Int.neg_mul]
  repeat' split
  all_goals omega
theorem nearE_neg (x y a b : Int) : nearE (-x) (-y) a b = nearE x y a b := by
  unfold nearE
  repeat' split
  all_goals omega
theorem sum_neg (xs ys : List Int) (a b : Int) : sumN (negL xs) a (negL ys) b = -sumN xs a ys b ∧ sumE (negL xs) a (negL ys) b = sumE xs a ys b := by
  rw [sumN, sumN, sumE, sumE, val_negL, val_negL, nearX_neg, nearX_neg, nearE_neg]
  exact ⟨by omega, rfl⟩
theorem sumN_fits {xs ys : List Int} {a b : Int} (h : isF xs a = true) (k : isF ys b = true) : fits (sumN xs a ys b) := by
  have := sum_bd h k
  exact ⟨by omega, by omega⟩
theorem sum_swap (xs ys : List Int) (a b : Int) : ofD (sumN xs a ys b) = ofD (sumN ys b xs a) ∧ ofE (sumN xs a ys b) (sumE xs a ys b) = ofE (sumN ys b xs a) (sumE ys b xs a) := by
  rw [sumN_swap xs ys]
  refine ⟨rfl, ?_⟩
  by_cases c : val xs ≠ 0 ∨ val ys ≠ 0
  · rw [sumE, sumE, nearE_swap _ _ _ _ c]
  · have c1 : val xs = 0 := by omega
    have c2 : val ys = 0 := by omega
    have z : sumN ys b xs a = 0 := by simp [sumN, nearX, c1, c2]
    rw [ofE, ofE, if_pos z, if_pos z]
theorem ad_swap (xs : List Int) (a : Int) (ys : List Int) (b : Int) : adOk xs a ys b = adOk ys b xs a ∧ adD xs a ys b = adD ys b xs a ∧ adE xs a ys b = adE ys b xs a := by
  cases h : isF xs a with
  | false => simp [adOk, adD, adE, h]
  | true =>
    cases k : isF ys b with
    | false => simp [adOk, adD, adE, k]
    | true =>
      have s := sum_swap xs ys a b
      have e : adOk xs a ys b = adOk ys b xs a := by simp only [adOk, h, k, ofOk, s.2]
      refine ⟨e, ?_, ?_⟩
      · rw [adD, adD, e, s.1]
      · rw [adE, adE, e, s.2]
theorem ad_neg {xs ys : List Int} {a b : Int} (h : isF xs a = true) (k : isF ys b = true) : adOk (negL xs) a (negL ys) b = adOk xs a ys b ∧ adD (negL xs) a (negL ys) b = negL (adD xs a ys b) ∧ adE (negL xs) a (negL ys) b = adE xs a ys b := by
  have s := sum_neg xs ys a b
  have f := of_neg (sumE xs a ys b) (sumN_fits h k)
  have e : adOk (negL xs) a (negL ys) b = adOk xs a ys b := by
    simp only [adOk, h, k, isF_neg h, isF_neg k, ofOk, s.1, s.2, f.2]
  refine ⟨e, ?_, ?_⟩
  · rw [adD, adD, e, s.1, f.1]
    split
    · rfl
    · rfl
  · rw [adE, adE, e, s.1, s.2, f.2]
theorem ad_self {xs : List Int} {a : Int} (h : isF xs a = true) : adOk xs a (negL xs) a = true ∧ adD xs a (negL xs) a = List.replicate 6 0 ∧ adE xs a (negL xs) a = 0 := by
  have z : sumN xs a (negL xs) a = 0 := by
    have p : pow3 0 = 1 := rfl
    rw [sumN, val_negL]
    unfold nearX
    rw [show (a - a).toNat = 0 by omega, p]
    repeat' split
    all_goals omega
  have e : adOk xs a (negL xs) a = true := by
    rw [adOk, h, isF_neg h, z, ofOk, ofE, if_pos rfl]; rfl
  rw [adD, adE, e, z]
  exact ⟨rfl, rfl, rfl⟩
theorem isF_zero : isF (List.replicate 6 0) 0 = true := by decide
theorem ad_zero {xs : List Int} {a : Int} (h : isF xs a = true) : adOk xs a (List.replicate 6 0) 0 = true ∧ adD xs a (List.replicate 6 0) 0 = xs ∧ adE xs a (List.replicate 6 0) 0 = a := by
  have s := of_self h
  have z : sumN xs a (List.replicate 6 0) 0 = val xs := by
    rw [sumN, zero6.2]
    unfold nearX
    repeat' split
    all_goals omega
  have e2 : ofE (val xs) (sumE xs a (List.replicate 6 0) 0) = a := by
    rw [sumE, zero6.2, nearE]
    by_cases c : val xs = 0
    · rcases isF_big h with ⟨-, -, e⟩ | ⟨e, -⟩
      · rw [if_pos c, ofE, if_pos c, e]
      · exact absurd c e
    · rw [if_neg c, if_pos rfl]; exact s.2
  have b := ((isF_iff _ _).1 h).2.2.1
  have e : adOk xs a (List.replicate 6 0) 0 = true := by
    rw [adOk, h, isF_zero, z, ofOk, e2, (inB_iff ..).2 b]; rfl
  rw [adD, adE, e, z, e2]
  exact ⟨rfl, s.1, rfl⟩
/-- Whole numbers of at most six trits: sums, products, shifts are exact. -/
theorem near_exact {n m : Int} {i j : Nat} (hi : i ≤ 5) (hj : j ≤ 5) (z : n = 0 → i = 0) (y : m = 0 → j = 0) : ∃ t : Nat, t ≤ 5 ∧ nearX (n * pow3 i) (m * pow3 j) (-(i : Int)) (-(j : Int)) = n * pow3 t ∧ nearX (m * pow3 j) (n * pow3 i) (-(j : Int)) (-(i : Int)) = m * pow3 t ∧ nearE (n * pow3 i) (m * pow3 j) (-(i : Int)) (-(j : Int)) = -(t : Int) := by
  have p1 := pow3_pos i
  have p2 := pow3_pos j
  have up : ∀ (x : Int) (a b : Nat), a ≤ b → x * pow3 a * pow3 (b - a) = x * pow3 b := fun x a b h => by
    rw [Int.mul_assoc, ← pow3_add, Nat.add_sub_cancel' h]
  by_cases n0 : n = 0
  · subst n0
    have := z rfl
    subst this
    rw [Int.zero_mul]
    refine ⟨j, hj, by rw [nearX, if_pos rfl, Int.zero_mul], ?_, by rw [nearE, if_pos rfl]⟩
    rw [nearX, if_pos rfl]
    split
    · rename_i h; exact h.symm
    · rfl
  · have nz : n * pow3 i ≠ 0 := fun h => by
      rcases Int.mul_eq_zero.1 h with h | h
      · exact n0 h
      · omega
    by_cases m0 : m = 0
    · subst m0
      have := y rfl
      subst this
      rw [Int.zero_mul]
      exact ⟨i, hi, by rw [nearX, if_neg nz, if_pos rfl], by rw [nearX, if_pos rfl, Int.zero_mul], by rw [nearE, if_neg nz, if_pos rfl]⟩
    · have mz : m * pow3 j ≠ 0 := fun h => by
        rcases Int.mul_eq_zero.1 h with h | h
        · exact m0 h
        · omega
      rcases Nat.le_total i j with c | c
      · refine ⟨j, hj, ?_, ?_, ?_⟩
        · rw [nearX, if_neg nz, if_neg mz, if_neg (by omega), if_neg (by omega), show (-(i : Int) - -(j : Int)).toNat = j - i by omega, up _ _ _ c]
        · rw [nearX, if_neg mz, if_neg nz, if_neg (by omega), if_neg (by omega), show (-(j : Int) - -(i : Int)).toNat = 0 by omega, show pow3 0 = 1 from rfl, Int.mul_one]
        · rw [nearE, if_neg nz, if_neg mz, if_neg (by omega), if_neg (by omega)]; omega
      · refine ⟨i, hi, ?_, ?_, ?_⟩
        · rw [nearX, if_neg nz, if_neg mz, if_neg (by omega), if_neg (by omega), show (-(i : Int) - -(j : Int)).toNat = 0 by omega, show pow3 0 = 1 from rfl, Int.mul_one]
        · rw [nearX, if_neg mz, if_neg nz, if_neg (by omega), if_neg (by omega), show (-(j : Int) - -(i : Int)).toNat = i - j by omega, up _ _ _ c]
        · rw [nearE, if_neg nz, if_neg mz, if_neg (by omega), if_neg (by omega)]; omega
theorem p3_5 {t : Nat} (h : t ≤ 5) : 1 ≤ pow3 t ∧ pow3 t ≤ 243 := by
  have := pow3_le h
  rw [show pow3 5 = 243 from by decide] at this
  exact ⟨pow3_one t, this⟩
theorem of_shift0 {n : Int} (t : Nat) (h : fits (n * pow3 t)) : ofD (n * pow3 t) = ofD n ∧ ofE (n * pow3 t) (-(t : Int)) = ofE n 0 := by
  have := of_shift 0 t h
  rwa [Int.zero_sub] at this
theorem sgn_scale (x : Int) {p : Int} (h : 1 ≤ p) : sgn (x * p) = sgn x := by
  unfold sgn
  rcases Int.lt_trichotomy x 0 with c | c | c
  · have : x * p < 0 := Int.mul_neg_of_neg_of_pos c (by omega)
    rw [if_pos this, if_pos c]
  · subst c; rw [Int.zero_mul]
  · have : 0 < x * p := Int.mul_pos c (by omega)
    rw [if_neg (by omega), if_pos this, if_neg (by omega), if_pos c]
theorem sum_exact {n m : Int} (hn : -364 ≤ n ∧ n ≤ 364) (hm : -364 ≤ m ∧ m ≤ 364) :
    ofD (sumN (ofD n) (ofE n 0) (ofD m) (ofE m 0)) = ofD (n + m) ∧ ofE (sumN (ofD n) (ofE n 0) (ofD m) (ofE m 0)) (sumE (ofD n) (ofE n 0) (ofD m) (ofE m 0)) = ofE (n + m) 0 ∧
    sgn (nearX (val (ofD n)) (val (ofD m)) (ofE n 0) (ofE m 0) - nearX (val (ofD m)) (val (ofD n)) (ofE m 0) (ofE n 0)) = sgn (n - m) := by
  obtain ⟨i, i1, i2, i3, -, i5⟩ := of_exact hn
  obtain ⟨j, j1, j2, j3, -, j5⟩ := of_exact hm
  obtain ⟨t, t1, t2, t3, t4⟩ := near_exact i1 j1 i5 j5
  have p := p3_5 t1
  rw [sumN, sumE, i2, j2, i3, j3, t2, t3, t4, ← Int.add_mul, ← Int.sub_mul]
  have b := mul_bd (a := n + m) (b := pow3 t) (A := 728) (B := 243) ⟨by omega, by omega⟩ ⟨by omega, by omega⟩
  have s := of_shift0 (n := n + m) t ⟨by omega, by omega⟩
  exact ⟨s.1, s.2, sgn_scale _ p.1⟩
theorem mul_exact {n m : Int} (hn : -364 ≤ n ∧ n ≤ 364) (hm : -364 ≤ m ∧ m ≤ 364) : ofD (val (ofD n) * val (ofD m)) = ofD (n * m) ∧ ofE (val (ofD n) * val (ofD m)) (ofE n 0 + ofE m 0) = ofE (n * m) 0 := by
  obtain ⟨i, i1, i2, i3, -, i5⟩ := of_exact hn
  obtain ⟨j, j1, j2, j3, -, j5⟩ := of_exact hm
  have e : n * pow3 i * (m * pow3 j) = n * m * pow3 (i + j) := by rw [pow3_add]; grind
  rw [i2, j2, i3, j3, e, show -(i : Int) + -(j : Int) = -((i + j : Nat) : Int) by omega]
  have p1 := p3_5 i1
  have p2 := p3_5 j1
  have b1 := mul_bd (a := n * pow3 i) (b := m * pow3 j) (A := 364 * 243) (B := 364 * 243) (mul_bd (A := 364) (B := 243) hn ⟨by omega, by omega⟩) (mul_bd (A := 364) (B := 243) hm ⟨by omega, by omega⟩)
  rw [e] at b1
  exact of_shift0 (i + j) ⟨by omega, by omega⟩
theorem scl_exact {n : Int} (hn : -364 ≤ n ∧ n ≤ 364) (by_ : Int) : ofD (val (ofD n)) = ofD n ∧ ofE (val (ofD n)) (ofE n 0 + by_) = ofE n by_ := by
  obtain ⟨i, i1, i2, i3, -, i5⟩ := of_exact hn
  have p1 := p3_5 i1
  have b1 := mul_bd (A := 364) (B := 243) hn (show -243 ≤ pow3 i ∧ pow3 i ≤ 243 by omega)
  have s := of_shift (n := n) by_ i ⟨by omega, by omega⟩
  rw [i2, i3, s.1, show -(i : Int) + by_ = by_ - i by omega]
  exact ⟨rfl, s.2⟩
theorem flr_exact {n : Int} (hn : -364 ≤ n ∧ n ≤ 364) : flrV (ofD n) (ofE n 0) = n := by
  obtain ⟨i, i1, i2, i3, i4, i5⟩ := of_exact hn
  have f : fits n := ⟨by omega, by omega⟩
  have ok : isF (ofD n) (ofE n 0) = true := by
    rw [of_isF 0 f, ofOk, inB_iff]; omega
  rw [flrV, if_pos ok, i3]
  by_cases c : i = 0
  · subst c; rw [if_pos (by omega), i2]; simp [pow3]
  · rw [if_neg (by omega), show (- -(i : Int)).toNat = i by omega, i4]
theorem exact_ok {n : Int} (hn : -364 ≤ n ∧ n ≤ 364) : frmOk n 0 = true ∧ isF (ofD n) (ofE n 0) = true := by
  obtain ⟨i, i1, i2, i3, i4, i5⟩ := of_exact hn
  have f : fits n := ⟨by omega, by omega⟩
  have o : ofOk n 0 = true := by rw [ofOk, inB_iff]; omega
  refine ⟨?_, by rw [of_isF 0 f, o]⟩
  rw [frmOk, okF, o, decide_eq_true (show -102945566047324 ≤ n ∧ n ≤ 102945566047324 from f)]; rfl
/-- Quotients of products. -/
theorem quo_exact {n m : Int} (hn : 1 ≤ n ∧ n ≤ 13) (hm : -12 ≤ m ∧ m ≤ 12) : ofD (dvN (ofD (n * m)) (ofD n)) = ofD m ∧ ofE (dvN (ofD (n * m)) (ofD n)) (ofE (n * m) 0 - ofE n 0 - 9) = ofE m 0 ∧ val (ofD n) ≠ 0 := by
  have nm := mul_bd (a := n) (b := m) (A := 13) (B := 12) ⟨by omega, by omega⟩ hm
  obtain ⟨i, i1, i2, i3, -, i5⟩ := of_exact (n := n * m) ⟨by omega, by omega⟩
  obtain ⟨j, j1, j2, j3, -, j5⟩ := of_exact (n := n) ⟨by omega, by omega⟩
  have pj := p3_5 j1
  have pi := p3_5 i1
  have nz : n * pow3 j ≠ 0 := by have := Int.mul_pos (show 0 < n by omega) (show 0 < pow3 j by omega); omega
  have e : n * m * pow3 i * 19683 = m * pow3 (i + 9 - j) * (n * pow3 j) := by
    rw [show (19683 : Int) = pow3 9 from by decide, Int.mul_assoc (n * m), ← pow3_add, show i + 9 = (i + 9 - j) + j by omega, pow3_add, show i + 9 - j + j - j = i + 9 - j by omega]
    grind
  have q := quo_mul (m * pow3 (i + 9 - j)) nz
  rw [dvN, i2, j2, i3, j3, e, q.1, show -(i : Int) - -(j : Int) - 9 = -((i + 9 - j : Nat) : Int) by omega]
  have p := pow3_le (show i + 9 - j ≤ 14 by omega)
  rw [show pow3 14 = 4782969 from by decide] at p
  have p1 := pow3_one (i + 9 - j)
  have b := mul_bd (a := m) (b := pow3 (i + 9 - j)) (A := 12) (B := 4782969) hm ⟨by omega, by omega⟩
  have s := of_shift0 (n := m) (i + 9 - j) ⟨by omega, by omega⟩
  exact ⟨s.1, s.2, nz⟩
end Tm
namespace Tm
/-- What a float stands for, times 3 to the power of 20. -/
def fv (ds : List Int) (e : Int) : Int := val ds * pow3 (e + 20).toNat
theorem sgn_of_lt {a b : Int} (h : a < b) : sgn (a - b) = -1 := by unfold sgn; rw [if_pos (by omega)]
theorem sgn_of_gt {a b : Int} (h : b < a) : sgn (a - b) = 1 := by unfold sgn; rw [if_neg (by omega), if_pos (by omega)]
theorem pow3_split {a b : Int} (ha : -20 ≤ a) (h : a ≤ b) : pow3 (b + 20).toNat = pow3 (b - a).toNat * pow3 (a + 20).toNat := by
  rw [← pow3_add]; congr 1; omega
/-- A float with the greater exponent by six or more is the one that counts. -/
theorem far_sgn {x y p : Int} (hx : 121 < absI x) (hy : absI y ≤ 364) (hp : 729 ≤ p) : sgn (x * p - y) = sgn x := by
  have ax := absI_abs x
  have ay := absI_abs y
  unfold sgn
  rcases Int.lt_or_le x 0 with c | c
  · have := Int.mul_le_mul_of_nonneg_right (show x ≤ -122 by omega) (show 0 ≤ p by omega)
    rw [if_pos (by omega), if_pos c]
  · have := Int.mul_le_mul_of_nonneg_right (show 122 ≤ x by omega) (show 0 ≤ p by omega)
    rw [if_neg (by omega), if_pos (by omega), if_neg (by omega), if_pos (by omega)]
theorem sgn_neg (x : Int) : sgn (-x) = -sgn x := by
  unfold sgn
  repeat' split
  all_goals omega
theorem near_sgn {xs ys : List Int} {a b : Int} (h : isF xs a = true) (k : isF ys b = true) : sgn (nearX (val xs) (val ys) a b - nearX (val ys) (val xs) b a) = sgn (fv xs a - fv ys b) := by
  have ha := ((isF_iff _ _).1 h).2.2.1
  have hb := ((isF_iff _ _).1 k).2.2.1
  have pa := pow3_one (a + 20).toNat
  have pb := pow3_one (b + 20).toNat
  rcases isF_big h with ⟨x0, -, -⟩ | ⟨x0, x1, x2⟩
  · rw [fv, fv, x0, Int.zero_mul, Int.zero_sub, ← Int.neg_mul, sgn_scale _ pb]
    congr 1
    rw [nearX, if_pos rfl, nearX, if_pos rfl]
    split
    · rename_i e; omega
    · omega
  rcases isF_big k with ⟨y0, -, -⟩ | ⟨y0, y1, y2⟩
  · rw [fv, fv, y0, Int.zero_mul, Int.sub_zero, sgn_scale _ pa]
    congr 1
    rw [nearX, if_neg x0, if_pos rfl, nearX, if_pos rfl, Int.sub_zero]
  by_cases c1 : 6 ≤ a - b
  · have e : fv xs a - fv ys b = (val xs * pow3 (a - b).toNat - val ys) * pow3 (b + 20).toNat := by
      rw [fv, fv, pow3_split hb.1 (show b ≤ a by omega), Int.sub_mul, Int.mul_assoc]
    have p := pow3_le (show 6 ≤ (a - b).toNat by omega)
    rw [show pow3 6 = 729 from by decide] at p
    rw [e, sgn_scale _ pb, far_sgn x1 y2 p, nearX, if_neg x0, if_neg y0, if_pos c1, nearX, if_neg y0, if_neg x0, if_neg (by omega), if_pos c1, Int.sub_zero]
  · by_cases c2 : 6 ≤ b - a
    · have e : fv xs a - fv ys b = -(val ys * pow3 (b - a).toNat - val xs) * pow3 (a + 20).toNat := by
        rw [fv, fv, pow3_split ha.1 (show a ≤ b by omega), Int.neg_sub, Int.sub_mul, Int.mul_assoc]
      have p := pow3_le (show 6 ≤ (b - a).toNat by omega)
      rw [show pow3 6 = 729 from by decide] at p
      rw [e, sgn_scale _ pa, sgn_neg, far_sgn y1 x2 p, nearX, if_neg x0, if_neg y0, if_neg c1, if_pos c2, nearX, if_neg y0, if_neg x0, if_pos c2, Int.zero_sub, sgn_neg]
    · rw [nearX, if_neg x0, if_neg y0, if_neg c1, if_neg c2, nearX, if_neg y0, if_neg x0, if_neg c2, if_neg c1]
      rcases Int.le_total a b with c | c
      · rw [show (a - b).toNat = 0 by omega, show pow3 0 = 1 from rfl, Int.mul_one]
        have e : fv xs a - fv ys b = (val xs - val ys * pow3 (b - a).toNat) * pow3 (a + 20).toNat := by
          rw [fv, fv, pow3_split ha.1 c, Int.sub_mul, Int.mul_assoc]
        rw [e, sgn_scale _ pa]
      · rw [show (b - a).toNat = 0 by omega, show pow3 0 = 1 from rfl, Int.mul_one]
        have e : fv xs a - fv ys b = (val xs * pow3 (a - b).toNat - val ys) * pow3 (b + 20).toNat := by
          rw [fv, fv, pow3_split hb.1 c, Int.sub_mul, Int.mul_assoc]
        rw [e, sgn_scale _ pb]
theorem cmpF_eq {xs ys : List Int} {a b : Int} (h : isF xs a = true) (k : isF ys b = true) : cmpF xs a ys b = sgn (fv xs a - fv ys b) := by
  rw [cmpF, h, k, ← near_sgn h k]; rfl
theorem cmpF_swap (xs ys : List Int) (a b : Int) : cmpF ys b xs a = -cmpF xs a ys b := by
  cases h : isF xs a with
  | false => simp [cmpF, h]
  | true =>
    cases k : isF ys b with
    | false => simp [cmpF, k]
    | true => rw [cmpF_eq h k, cmpF_eq k h, ← sgn_neg]; congr 1; omega
theorem cmpF_self (xs : List Int) (a : Int) : cmpF xs a xs a = 0 := by
  unfold cmpF
  split
  · rw [Int.sub_self]; rfl
  · rfl
/-- Rounding keeps the order. -/
def cutV (n : Int) : Int := val (ofD n) * pow3 (lenN n - 6)
theorem cut_neg {n : Int} (h : fits n) : lenN (-n) = lenN n := by
  by_cases h0 : n = 0
  · subst h0; rfl
  · obtain ⟨-, s1, s2, s3, s4⟩ := lenN_spec h
    have s5 := s4 h0
    have a := absI_abs n
    have b := absI_abs (-n)
    exact lenN_eq s1 s2 (by omega) (by omega)
/-- What a number of k trits is rounded to: near it; its size. -/
theorem cut_size {n : Int} (h : fits n) (h0 : 0 < n) (h6 : 6 ≤ lenN n) : 122 ≤ val (ofD n) ∧ val (ofD n) ≤ 364 ∧ 2 * absI (n - val (ofD n) * pow3 (lenN n - 6)) < pow3 (lenN n - 6) := by
  have ne := of_high h (by omega) h6
  obtain ⟨f1, f2, f3⟩ := ofD_facts h
  obtain ⟨-, s1, s2, s3, s4⟩ := lenN_spec h
  have s5 := s4 (by omega)
  have p := pow3_one (lenN n - 6)
  have b := val_bd_len f1 6 (by omega)
  rw [show limN 6 = 364 from by decide] at b
  refine ⟨?_, b.2, ne⟩
  have a1 := absI_abs n
  have a2 := absI_abs (n - val (ofD n) * pow3 (lenN n - 6))
  -- n > limN (k - 1) = (3 ^ (k - 1) - 1) / 2 = (243 p - 1) / 2
  have e : pow3 (lenN n - 1) = 243 * pow3 (lenN n - 6) := by
    rw [show lenN n - 1 = 5 + (lenN n - 6) by omega, pow3_add]; rfl
  have e2 := pow3_limN (lenN n - 1)
  rcases Int.lt_or_le (val (ofD n)) 122 with c | c
  · exfalso
    have := Int.mul_le_mul_of_nonneg_right (show val (ofD n) ≤ 121 by omega) (show 0 ≤ pow3 (lenN n - 6) by omega)
    omega
  · exact c
theorem fv_cut {n : Int} (h : fits n) : fv (ofD n) (ofE n 0) = val (ofD n) * pow3 (lenN n + 14) := by

  by_cases h0 : n = 0
  · subst h0; rw [fv, ofD, if_pos rfl, zero6.2, Int.zero_mul, Int.zero_mul]
  · obtain ⟨-, s1, -⟩ := lenN_spec h
    rw [fv, ofE_val 0 h0]; congr 2; omega
theorem fv_low {n : Int} (h : fits n) (h6 : lenN n ≤ 6) : fv (ofD n) (ofE n 0) = n * pow3 20 := by
  rw [fv_cut h, of_low h h6, Int.mul_assoc, ← pow3_add, show 6 - lenN n + (lenN n + 14) = 20 by omega]
theorem lenN_mono {a b : Int} (h0 : 0 < a) (hab : a ≤ b) (hb : fits b) : lenN a ≤ lenN b := by
  have ha : fits a := ⟨by omega, by have := hb.2; omega⟩
  obtain ⟨-, s1, s2, s3, s4⟩ := lenN_spec ha
  obtain ⟨-, t1, t2, t3, t4⟩ := lenN_spec hb
  have s5 := s4 (by omega)
  have a1 := absI_abs a
  rcases Nat.lt_or_ge (lenN b) (lenN a) with c | c
  · have := limN_mono (show lenN b ≤ lenN a - 1 by omega); omega
  · exact c
theorem fv_pos {n : Int} (h : fits n) (h0 : 0 < n) : 0 < fv (ofD n) (ofE n 0) := by
  rcases Nat.lt_or_ge (lenN n) 6 with c | c
  · rw [fv_low h (by omega)]; exact Int.mul_pos h0 (pow3_pos 20)
  · rw [fv_cut h]
    have := cut_size h h0 c
    exact Int.mul_pos (by omega) (pow3_pos _)
theorem fv_up {a b : Int} (h0 : 0 < a) (hab : a ≤ b) (hb : fits b) : fv (ofD a) (ofE a 0) ≤ fv (ofD b) (ofE b 0) := by
  have ha : fits a := ⟨by omega, by have := hb.2; omega⟩
  have l := lenN_mono h0 hab hb
  rcases Nat.lt_or_ge 6 (lenN b) with c | c
  · have sb := cut_size hb (by omega) (by omega)
    have p20 := pow3_pos 20
    rw [fv_cut hb]
    rcases Nat.lt_or_ge 6 (lenN a) with d | d
    · have sa := cut_size ha h0 (by omega)
      rw [fv_cut ha]
      rcases Nat.lt_or_ge (lenN a) (lenN b) with e | e
      · have p := pow3_pos (lenN a + 14)
        have q := pow3_le (show lenN a + 14 + 1 ≤ lenN b + 14 by omega)
        rw [pow3_succ] at q
        have h1 := Int.mul_le_mul_of_nonneg_right sa.2.1 (show 0 ≤ pow3 (lenN a + 14) by omega)
        have h2 := Int.mul_le_mul_of_nonneg_left q (show (0 : Int) ≤ 122 by omega)
        have h3 := Int.mul_le_mul_of_nonneg_right sb.1 (show 0 ≤ pow3 (lenN b + 14) by have := pow3_pos (lenN b + 14); omega)
        omega
      · have e' : lenN b = lenN a := by omega
        rw [e'] at sb ⊢
        refine Int.mul_le_mul_of_nonneg_right ?_ (by have := pow3_pos (lenN a + 14); omega)
        rcases Int.lt_or_le (val (ofD b)) (val (ofD a)) with f | f
        · exfalso
          have p := pow3_pos (lenN a - 6)
          have h1 := Int.mul_le_mul_of_nonneg_right (show val (ofD b) + 1 ≤ val (ofD a) by omega) (show 0 ≤ pow3 (lenN a - 6) by omega)
          rw [Int.add_mul] at h1
          have a1 := absI_abs (a - val (ofD a) * pow3 (lenN a - 6))
          have a2 := absI_abs (b - val (ofD b) * pow3 (lenN a - 6))
          have := sa.2.2
          have := sb.2.2
          omega
        · exact f
    · rw [fv_low ha d]
      have q := pow3_le (show 20 + 1 ≤ lenN b + 14 by omega)
      rw [pow3_succ] at q
      have b6 : a ≤ 364 := by
        obtain ⟨-, -, -, s3, -⟩ := lenN_spec ha
        have := limN_mono d
        rw [show limN 6 = 364 from by decide] at this
        omega
      have h1 := Int.mul_le_mul_of_nonneg_right b6 (show 0 ≤ pow3 20 by omega)
      have h2 := Int.mul_le_mul_of_nonneg_left q (show (0 : Int) ≤ 122 by omega)
      have h3 := Int.mul_le_mul_of_nonneg_right sb.1 (show 0 ≤ pow3 (lenN b + 14) by have := pow3_pos (lenN b + 14); omega)
      omega
  · rw [fv_low hb c, fv_low ha (by omega)]
    exact Int.mul_le_mul_of_nonneg_right hab (by have := pow3_pos 20; omega)
theorem fv_neg {n : Int} (h : fits n) : fv (ofD (-n)) (ofE (-n) 0) = -fv (ofD n) (ofE n 0) := by
  have f := of_neg 0 h
  rw [fv, fv, f.1, f.2, val_negL, Int.neg_mul]
theorem fv_mono {a b : Int} (ha : fits a) (hb : fits b) (hab : a ≤ b) : fv (ofD a) (ofE a 0) ≤ fv (ofD b) (ofE b 0) := by
  have z : fv (ofD 0) (ofE 0 0) = 0 := by decide
  have pos : ∀ {n : Int}, fits n → 0 ≤ n → 0 ≤ fv (ofD n) (ofE n 0) := fun {n} h h0 => by
    by_cases c : n = 0
    · subst c; omega
    · have := fv_pos h (by omega); omega
  rcases Int.lt_or_le 0 a with c | c
  · exact fv_up c hab hb
  · have fa : fits (-a) := ⟨by have := ha.2; omega, by have := ha.1; omega⟩
    have ea := fv_neg fa
    rw [Int.neg_neg] at ea
    rcases Int.lt_or_le b 0 with d | d
    · have fb : fits (-b) := ⟨by have := hb.2; omega, by have := hb.1; omega⟩
      have eb := fv_neg fb
      rw [Int.neg_neg] at eb
      have := fv_up (a := -b) (b := -a) (by omega) (by omega) fa
      omega
    · have := pos hb d
      have := pos fa (by omega)
      omega
theorem cmp_order {a b : Int} (ha : fits a) (hb : fits b) (oa : ofOk a 0 = true) (ob : ofOk b 0 = true) : cmpF (ofD a) (ofE a 0) (ofD b) (ofE b 0) = sgn (a - b) ∨ cmpF (ofD a) (ofE a 0) (ofD b) (ofE b 0) = 0 := by
  rw [cmpF_eq (by rw [of_isF 0 ha, oa]) (by rw [of_isF 0 hb, ob])]
  rcases Int.lt_trichotomy a b with c | c | c
  · have m := fv_mono ha hb (by omega)
    rw [sgn_of_lt c]
    unfold sgn; split
    · left; rfl
    · right; rw [if_neg (by omega)]
  · subst c; right; rw [Int.sub_self]; rfl
  · have m := fv_mono hb ha (by omega)
    rw [sgn_of_gt c]
    unfold sgn; split
    · omega
    · split
      · left; rfl
      · right; rfl
end Tm
end Go.Proofs.Yteklgngooflhlaa

/- Plain facts: floating numbers. -/
import Derived.Test.YtkphbnejnilehaaPMath
import Derived.Test.YtkphbnejnilehaaLValues
namespace Go.Proofs.Ytkphbnejnilehaa
open Go.RowKit
namespace Tm
/-- A number that a word of 30 trits has; its number of trits. -/
def fits (n : Int) : Prop := -102945566047324 ≤ n ∧ n ≤ 102945566047324
def lenN (n : Int) : Nat := (lenOf n).toNat
theorem lenN_spec {n : Int} (h : fits n) : lenOf n = (lenN n : Int) ∧ 1 ≤ lenN n ∧ lenN n ≤ 30 ∧ (-limN (lenN n) ≤ n ∧ n ≤ limN (lenN n)) ∧ (n ≠ 0 → limN (lenN n - 1) < absI n) := by
  obtain ⟨f1, f2⟩ := h
  have e30 : lim 30 = 102945566047324 := by decide
  obtain ⟨h1, h2, h3, h4⟩ := lenOf_least (n := n) (k := 30) (by rw [wordOk, decide_eq_true_eq, e30]; omega)
  have e : lenOf n = (lenN n : Int) := by rw [lenN]; omega
  rw [e] at h1 h2 h3 h4
  have a := absI_abs n
  rw [wordOk, decide_eq_true_eq, lim_nat (by omega) (by omega)] at h3
  refine ⟨e, by omega, by omega, ⟨h3.2.2.1, h3.2.2.2⟩, fun h0 => ?_⟩
  rw [wordOk, decide_eq_false_iff_not] at h4
  by_cases c : lenN n = 1
  · rw [c]; show (0 : Int) < _; omega
  · rw [show ((lenN n : Int) - 1) = ((lenN n - 1 : Nat) : Int) by omega, lim_nat (by omega) (by omega)] at h4
    omega
theorem lenN_eq {n : Int} {k : Nat} (h1 : 1 ≤ k) (h2 : k ≤ 30) (h3 : absI n ≤ limN k) (h4 : limN (k - 1) < absI n) : lenN n = k := by
  have a := absI_abs n
  have l30 := limN_le h2
  have s := lenN_spec (n := n) ⟨by omega, by omega⟩
  obtain ⟨-, s1, s2, s3, s4⟩ := s
  have l0 := limN_nonneg (k - 1)
  have s5 := s4 (by omega)
  rcases Nat.lt_trichotomy (lenN n) k with c | c | c
  · have := limN_mono (show lenN n ≤ k - 1 by omega); omega
  · exact c
  · have := limN_mono (show k ≤ lenN n - 1 by omega); omega
theorem lenN_three {n : Int} (h0 : n ≠ 0) (h : fits (3 * n)) : lenN (3 * n) = lenN n + 1 := by
  obtain ⟨f1, f2⟩ := h
  have f : fits n := ⟨by omega, by omega⟩
  obtain ⟨-, s1, s2, s3, s4⟩ := lenN_spec f
  have s5 := s4 h0
  have a := absI_abs n
  have b := absI_abs (3 * n)
  obtain ⟨m, hm⟩ : ∃ m, lenN n = m + 1 := ⟨lenN n - 1, by omega⟩
  rw [hm] at s1 s2 s3 s5 ⊢
  rw [Nat.add_sub_cancel] at s5
  have e1 : limN (m + 1 + 1) = 3 * limN (m + 1) + 1 := rfl
  have e2 : limN (m + 1) = 3 * limN m + 1 := rfl
  have k30 : m + 1 + 1 ≤ 30 := by
    rcases Nat.lt_or_ge 30 (m + 1 + 1) with c | c
    · have : m = 29 := by omega
      subst this
      have : limN 29 = 34315188682441 := by decide
      omega
    · exact c
  exact lenN_eq (by omega) k30 (by omega) (by rw [Nat.add_sub_cancel]; omega)
/-- Its six highest trits, and the exponent over them. -/
def top6 (n : Int) (k : Nat) : List Int := (List.replicate (6 - k) 0 ++ wordL n k).drop (k - 6)
def ofD (n : Int) : List Int := if n = 0 then List.replicate 6 0 else top6 n (lenN n)
def ofE (n e : Int) : Int := if n = 0 then 0 else e + lenN n - 6
def ofOk (n e : Int) : Bool := inB (ofE n e) (-20) 20
theorem wordL_three (n : Int) (k : Nat) : wordL (3 * n) (k + 1) = 0 :: wordL n k := by
  have l : low (3 * n) = 0 := by unfold low; split <;> omega
  rw [wordL, l, show (3 * n - 0) / 3 = n by omega]
theorem top6_length (n : Int) (k : Nat) : (top6 n k).length = 6 := by
  rw [top6, List.length_drop, List.length_append, List.length_replicate, wordL_length]; omega
theorem top6_trits (n : Int) (k : Nat) : ∀ x ∈ top6 n k, -1 ≤ x ∧ x ≤ 1 := fun x hx => by
  have := List.mem_of_mem_drop hx
  rcases List.mem_append.1 this with h | h
  · obtain ⟨-, rfl⟩ := List.mem_replicate.1 h; omega
  · exact wordL_trits _ _ x h
theorem top6_three (n : Int) (k : Nat) : top6 (3 * n) (k + 1) = top6 n k := by
  rw [top6, top6, wordL_three]
  rcases Nat.lt_or_ge k 6 with c | c
  · obtain ⟨m, hm⟩ : ∃ m, 6 - k = m + 1 := ⟨5 - k, by omega⟩
    rw [show 6 - (k + 1) = m by omega, hm, show k + 1 - 6 = 0 by omega, show k - 6 = 0 by omega, List.drop_zero, List.drop_zero, List.replicate_succ', List.append_assoc]; rfl
  · rw [show 6 - (k + 1) = 0 by omega, show 6 - k = 0 by omega, show k + 1 - 6 = (k - 6) + 1 by omega]; rfl
theorem top6_val_low (n : Int) {k : Nat} (h : k ≤ 6) (hn : -limN k ≤ n ∧ n ≤ limN k) : val (top6 n k) = pow3 (6 - k) * n := by
  rw [top6, show k - 6 = 0 by omega, List.drop_zero, val_shift, val_wordL _ _ hn]
theorem top6_high (n : Int) {k : Nat} (h : 6 ≤ k) : top6 n k = (wordL n k).drop (k - 6) := by
  rw [top6, show 6 - k = 0 by omega]; rfl
theorem val_top0 {xs : List Int} (h : ∀ x ∈ xs, -1 ≤ x ∧ x ≤ 1) {k : Nat} (hl : xs.length = k + 1) (h0 : xs.getD k 0 = 0) : -limN k ≤ val xs ∧ val xs ≤ limN k := by
  have e := val_take_drop xs k (by omega)
  have d : val (xs.drop k) = 0 := by
    rw [val_drop xs k (by omega), h0, List.drop_of_length_le (by omega)]; simp [val]
  have b := val_bd (xs.take k) (trits_take h k)
  rw [List.length_take, Nat.min_eq_left (by omega)] at b
  rw [d] at e
  omega
theorem wordL_top {n : Int} {k : Nat} (hn : -limN (k + 1) ≤ n ∧ n ≤ limN (k + 1)) (h : limN k < absI n) : (wordL n (k + 1)).getD k 0 ≠ 0 := fun h0 => by
  have b := val_top0 (wordL_trits n (k + 1)) (wordL_length _ _) h0
  rw [val_wordL _ _ hn] at b
  have := absI_abs n
  omega
theorem top6_top {n : Int} (h : fits n) (h0 : n ≠ 0) : (top6 n (lenN n)).getD 5 0 ≠ 0 := by
  obtain ⟨-, s1, s2, s3, s4⟩ := lenN_spec h
  have s5 := s4 h0
  obtain ⟨m, hm⟩ : ∃ m, lenN n = m + 1 := ⟨lenN n - 1, by omega⟩
  rw [hm] at s3 s5 ⊢
  rw [Nat.add_sub_cancel] at s5
  have t := wordL_top s3 s5
  rcases Nat.lt_or_ge m 6 with c | c
  · rw [top6, show m + 1 - 6 = 0 by omega, List.drop_zero, List.getD_eq_getElem?_getD, List.getElem?_append_right (by simp <;> omega), List.length_replicate, show 5 - (6 - (m + 1)) = m by omega, ← List.getD_eq_getElem?_getD]
    exact t
  · rw [top6_high _ (by omega), List.getD_eq_getElem?_getD, List.getElem?_drop, show m + 1 - 6 + 5 = m by omega, ← List.getD_eq_getElem?_getD]
    exact t
/-- Valid floats. -/
def isF (ds : List Int) (e : Int) : Bool := isW ds && decide (ds.length = 6) && inB e (-20) 20 && (decide (ds.getD 5 0 ≠ 0) || (decide (e = 0) && decide (val ds = 0)))
theorem isF_iff (ds : List Int) (e : Int) : isF ds e = true ↔ isW ds = true ∧ ds.length = 6 ∧ (-20 ≤ e ∧ e ≤ 20) ∧ (ds.getD 5 0 ≠ 0 ∨ (e = 0 ∧ val ds = 0)) := by simp [isF, inB, and_assoc]
theorem zero6 : isW (List.replicate 6 (0 : Int)) = true ∧ val (List.replicate 6 (0 : Int)) = 0 := by decide
theorem ofD_facts {n : Int} (h : fits n) : isW (ofD n) = true ∧ (ofD n).length = 6 ∧ (n ≠ 0 → (ofD n).getD 5 0 ≠ 0) := by
  by_cases h0 : n = 0
  · rw [ofD, if_pos h0]; exact ⟨zero6.1, rfl, fun h => absurd h0 h⟩
  · rw [ofD, if_neg h0]
    have l := top6_length n (lenN n)
    exact ⟨isW_mk (top6_trits _ _) (by omega) (by omega), l, fun _ => top6_top h h0⟩
theorem of_isF {n : Int} (e : Int) (h : fits n) : isF (ofD n) (ofE n e) = ofOk n e := by
  obtain ⟨f1, f2, f3⟩ := ofD_facts h
  rw [Bool.eq_iff_iff, isF_iff, ofOk, inB_iff]
  constructor
  · rintro ⟨-, -, a, -⟩; exact a
  · intro a
    refine ⟨f1, f2, a, ?_⟩
    by_cases h0 : n = 0
    · right; rw [ofE, ofD, if_pos h0, if_pos h0]; exact ⟨rfl, zero6.2⟩
    · left; exact f3 h0
/-- A valid float's digits are those of their value. -/
theorem isF_big {ds : List Int} {e : Int} (h : isF ds e = true) : (val ds = 0 ∧ ds = List.replicate 6 0 ∧ e = 0) ∨ (val ds ≠ 0 ∧ 121 < absI (val ds) ∧ absI (val ds) ≤ 364) := by
  obtain ⟨h1, h2, h3, h4⟩ := (isF_iff _ _).1 h
  have b := val_bd_len h1 6 (by omega)
  rw [show limN 6 = 364 from by decide] at b
  have a := absI_abs (val ds)
  by_cases h0 : val ds = 0
  · left
    have z : ds = List.replicate 6 0 := same_val h1 zero6.1 (by rw [h2]; rfl) (by rw [h0, zero6.2])
    refine ⟨h0, z, ?_⟩
    rcases h4 with h4 | h4
    · rw [z] at h4; exact absurd rfl h4
    · exact h4.1
  · right
    refine ⟨h0, ?_, by omega⟩
    have ht : ds.getD 5 0 ≠ 0 := by
      rcases h4 with h4 | h4
      · exact h4
      · exact absurd h4.2 h0
    have e1 := val_take_drop ds 5 (by omega)
    have e2 : val (ds.drop 5) = ds.getD 5 0 := by
      rw [val_drop ds 5 (by omega), List.drop_of_length_le (by omega)]; simp [val]
    have e3 := val_bd (ds.take 5) (trits_take (isW_trits h1) 5)
    rw [List.length_take, Nat.min_eq_left (by omega), show limN 5 = 121 from by decide] at e3
    rw [show pow3 5 = 243 from by decide, e2] at e1
    have e4 := isW_at h1 5
    generalize ds.getD 5 0 = t at *
    omega
theorem of_self {ds : List Int} {e : Int} (h : isF ds e = true) : ofD (val ds) = ds ∧ ofE (val ds) e = e := by
  obtain ⟨h1, h2, h3, h4⟩ := (isF_iff _ _).1 h
  rcases isF_big h with ⟨a, b, c⟩ | ⟨a, b, c⟩
  · rw [ofD, ofE, if_pos a, if_pos a]; exact ⟨b.symm, c.symm⟩
  · have k : lenN (val ds) = 6 := lenN_eq (by omega) (by omega) (by rw [show limN 6 = 364 from by decide]; exact c) (by rw [show limN (6 - 1) = 121 from by decide]; exact b)
    rw [ofD, ofE, if_neg a, if_neg a, k]
    refine ⟨?_, by omega⟩
    have e := wordL_val (isW_trits h1)
    rw [h2] at e
    rw [top6_high _ (by omega)]
    exact e
theorem of_three {n : Int} (e : Int) (h0 : n ≠ 0) (h : fits (3 * n)) : ofD (3 * n) = ofD n ∧ ofE (3 * n) (e - 1) = ofE n e := by
  rw [ofD, ofD, ofE, ofE, if_neg h0, if_neg h0, if_neg (by omega), if_neg (by omega), lenN_three h0 h, top6_three]
  exact ⟨rfl, by omega⟩
theorem of_shift {n : Int} (e : Int) (j : Nat) (h : fits (n * pow3 j)) : ofD (n * pow3 j) = ofD n ∧ ofE (n * pow3 j) (e - j) = ofE n e := by
  by_cases h0 : n = 0
  · subst h0; rw [Int.zero_mul]; exact ⟨rfl, rfl⟩
  · induction j generalizing e with
    | zero => rw [show pow3 0 = 1 from rfl, Int.mul_one]; exact ⟨rfl, by simp⟩
    | succ j ih =>
      have e1 : n * pow3 (j + 1) = 3 * (n * pow3 j) := by rw [pow3_succ]; grind
      rw [e1] at h ⊢
      have f : fits (n * pow3 j) := ⟨by have := h.1; omega, by have := h.2; omega⟩
      have nz : n * pow3 j ≠ 0 := by
        intro z
        rcases Int.mul_eq_zero.1 z with z | z
        · exact h0 z
        · have := pow3_pos j; omega
      have t := of_three (e - j) nz h
      have i := ih e f
      rw [show e - ((j + 1 : Nat) : Int) = e - j - 1 by omega, t.1, t.2]
      exact i
theorem of_neg {n : Int} (e : Int) (h : fits n) : ofD (-n) = negL (ofD n) ∧ ofE (-n) e = ofE n e := by
  by_cases h0 : n = 0
  · subst h0; exact ⟨by decide, rfl⟩
  · obtain ⟨-, s1, s2, s3, s4⟩ := lenN_spec h
    have s5 := s4 h0
    have a := absI_abs n
    have b := absI_abs (-n)
    have k : lenN (-n) = lenN n := lenN_eq s1 s2 (by omega) (by omega)
    have w : ∀ (m : Int) (k : Nat), wordL (-m) k = negL (wordL m k) := by
      intro m k
      induction k generalizing m with
      | zero => rfl
      | succ k ih =>
        have l : low (-m) = -low m := by unfold low; split <;> split <;> omega
        have l2 := low_mod m
        rw [wordL, wordL, l, show (-m - -low m) / 3 = -((m - low m) / 3) by omega, ih]; rfl
    rw [ofD, ofD, ofE, ofE, if_neg h0, if_neg h0, if_neg (by omega), if_neg (by omega), k, top6, top6, w]
    refine ⟨?_, rfl⟩
    rw [negL, negL, List.map_drop, List.map_append, List.map_replicate]; rfl
/-- Two floats over one exponent; one all of whose trits are below the other's counts as 0. -/
def nearX (x y ea eb : Int) : Int := if x = 0 then 0 else if y = 0 then x else if 6 ≤ ea - eb then x else if 6 ≤ eb - ea then 0 else x * pow3 (ea - eb).toNat
def nearE (x y ea eb : Int) : Int := if x = 0 then eb else if y = 0 then ea else if 6 ≤ ea - eb then ea else if 6 ≤ eb - ea then eb else min ea eb
theorem nearE_swap (x y ea eb : Int) (h : x ≠ 0 ∨ y ≠ 0) : nearE x y ea eb = nearE y x eb ea := by
  unfold nearE
  repeat' split
  all_goals omega
theorem near_bd {x ea eb : Int} (y : Int) (hx : -364 ≤ x ∧ x ≤ 364) : -88452 ≤ nearX x y ea eb ∧ nearX x y ea eb ≤ 88452 := by
  unfold nearX
  repeat' split
  all_goals try omega
  have p := pow3_le (show (ea - eb).toNat ≤ 5 by omega)
  rw [show pow3 5 = 243 from by decide] at p
  have q := pow3_one (ea - eb).toNat
  have := mul_bd (A := 364) (B := 243) hx (show -243 ≤ pow3 (ea - eb).toNat ∧ pow3 (ea - eb).toNat ≤ 243 by omega)
  omega
/-- The sum: what is cut, and its exponent. -/
def sumN (xs : List Int) (a : Int) (ys : List Int) (b : Int) : Int := nearX (val xs) (val ys) a b + nearX (val ys) (val xs) b a
def sumE (xs : List Int) (a : Int) (ys : List Int) (b : Int) : Int := nearE (val xs) (val ys) a b
def cmpF (xs : List Int) (a : Int) (ys : List Int) (b : Int) : Int := if isF xs a && isF ys b then sgn (nearX (val xs) (val ys) a b - nearX (val ys) (val xs) b a) else 0
theorem isF_val {ds : List Int} {e : Int} (h : isF ds e = true) : -364 ≤ val ds ∧ val ds ≤ 364 := by
  rcases isF_big h with ⟨a, -⟩ | ⟨-, -, a⟩
  · omega
  · exact abs_in a
theorem sum_bd {xs ys : List Int} {a b : Int} (h : isF xs a = true) (k : isF ys b = true) : -176904 ≤ sumN xs a ys b ∧ sumN xs a ys b ≤ 176904 := by
  have h1 := near_bd (ea := a) (eb := b) (val ys) (isF_val h)
  have h2 := near_bd (ea := b) (eb := a) (val xs) (isF_val k)
  unfold sumN; omega
/-- What is handed back: a float, if there is one. -/
def fD (n e : Int) : List Int := if ofOk n e then ofD n else []
def fE (n e : Int) : Int := if ofOk n e then ofE n e else 0
def okF (n e : Int) : Bool := decide (-102945566047324 ≤ n ∧ n ≤ 102945566047324) && inB e (-100) 100
def frmD (n e : Int) : List Int := if okF n e then fD n e else []
def frmE (n e : Int) : Int := if okF n e then fE n e else 0
def frmOk (n e : Int) : Bool := okF n e && ofOk n e
def ngD (ds : List Int) (e : Int) : List Int := if isF ds e then negL ds else []
def ngE (ds : List Int) (e : Int) : Int := if isF ds e then e else 0
def sclOk (ds : List Int) (e by_ : Int) : Bool := isF ds e && inB by_ (-100) 100 && ofOk (val ds) (e + by_)
def sclD (ds : List Int) (e by_ : Int) : List Int := if sclOk ds e by_ then ofD (val ds) else []
def sclE (ds : List Int) (e by_ : Int) : Int := if sclOk ds e by_ then ofE (val ds) (e + by_) else 0
def adOk (xs : List Int) (a : Int) (ys : List Int) (b : Int) : Bool := isF xs a && isF ys b && ofOk (sumN xs a ys b) (sumE xs a ys b)
def adD (xs : List Int) (a : Int) (ys : List Int) (b : Int) : List Int := if adOk xs a ys b then ofD (sumN xs a ys b) else []
def adE (xs : List Int) (a : Int) (ys : List Int) (b : Int) : Int := if adOk xs a ys b then ofE (sumN xs a ys b) (sumE xs a ys b) else 0
def mlOk (xs : List Int) (a : Int) (ys : List Int) (b : Int) : Bool := isF xs a && isF ys b && ofOk (val xs * val ys) (a + b)
def mlD (xs : List Int) (a : Int) (ys : List Int) (b : Int) : List Int := if mlOk xs a ys b then ofD (val xs * val ys) else []
def mlE (xs : List Int) (a : Int) (ys : List Int) (b : Int) : Int := if mlOk xs a ys b then ofE (val xs * val ys) (a + b) else 0
def dvN (xs ys : List Int) : Int := quo (val xs * 19683) (val ys)
def dvOk (xs : List Int) (a : Int) (ys : List Int) (b : Int) : Bool := isF xs a && isF ys b && decide (val ys ≠ 0) && ofOk (dvN xs ys) (a - b - 9)
def dvD (xs : List Int) (a : Int) (ys : List Int) (b : Int) : List Int := if dvOk xs a ys b then ofD (dvN xs ys) else []
def dvE (xs : List Int) (a : Int) (ys : List Int) (b : Int) : Int := if dvOk xs a ys b then ofE (dvN xs ys) (a - b - 9) else 0
def flrV (ds : List Int) (e : Int) : Int := if isF ds e then (if 0 ≤ e then val ds * pow3 e.toNat else val (ds.drop (-e).toNat)) else 0
/-- Decimal digits. -/
def decN : Nat → Nat → List UInt8
  | 0, _ => []
  | f + 1, n => if n < 10 then [UInt8.ofNat (48 + n)] else decN f (n / 10) ++ [UInt8.ofNat (48 + n % 10)]
def decZ (n : Int) : List UInt8 := if n < 0 then 45 :: decN 20 (-n).toNat else decN 20 n.toNat
def fmtF (ds : List Int) (e : Int) : List UInt8 := if isF ds e then fmtW ds ++ [120] ++ decZ e else []
end Tm
end Go.Proofs.Ytkphbnejnilehaa

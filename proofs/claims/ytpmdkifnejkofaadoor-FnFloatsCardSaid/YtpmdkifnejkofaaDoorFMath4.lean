/- Plain facts: how the program takes sums of floats together. -/
import Derived.Test.YtpmdkifnejkofaaDoorFMath
import Derived.Test.YtpmdkifnejkofaaDoorFS2
namespace Go.Proofs.YtpmdkifnejkofaaDoor
set_option maxRecDepth 20000
open Go.RowKit
namespace Tm
/-- The program's word of the float of a number: the shortest word, shifted to six trits. -/
theorem shf_top6 {n : Int} (h : fits n) : shfOk (wordL n (lenN n)) (6 - (lenN n : Int)) = true ∧ shf (wordL n (lenN n)) (6 - (lenN n : Int)) = top6 n (lenN n) := by
  obtain ⟨-, s1, s2, -⟩ := lenN_spec h
  have w := wordL_isW (n := n) s1 s2
  have l := wordL_length n (lenN n)
  have ok : shfOk (wordL n (lenN n)) (6 - (lenN n : Int)) = true := by
    rw [shfOk, w, l, Bool.true_and, decide_eq_true_eq]; omega
  refine ⟨ok, ?_⟩
  rw [shf, if_pos ok, top6]
  split
  · rename_i c
    rw [show (6 - (lenN n : Int)).toNat = 6 - lenN n by omega, show lenN n - 6 = 0 by omega, List.drop_zero]
  · rename_i c
    rw [if_neg (by rw [l]; omega), show (-(6 - (lenN n : Int))).toNat = lenN n - 6 by omega, show 6 - lenN n = 0 by omega]; rfl
/-- What the program cuts for a sum, a's exponent not below b's. -/
def trmP (ea eb : Int) : Nat := (min (ea - eb) 24).toNat
def trmN (x y ea eb : Int) : Int := x * pow3 (trmP ea eb) + y
def trmE (ea eb : Int) : Int := ea - trmP ea eb
theorem wordL_join {x y : Int} {p k : Nat} (hy : -limN p ≤ y ∧ y ≤ limN p) (hx : -limN k ≤ x ∧ x ≤ limN k) (h1 : 1 ≤ p + k) (h2 : p + k ≤ 30) : wordL (x * pow3 p + y) (p + k) = wordL y p ++ wordL x k := by
  have ly := wordL_length y p
  have lx := wordL_length x k
  have t : ∀ z ∈ wordL y p ++ wordL x k, -1 ≤ z ∧ z ≤ 1 := fun z hz => by
    rcases List.mem_append.1 hz with h | h
    · exact wordL_trits _ _ z h
    · exact wordL_trits _ _ z h
  have v : val (wordL y p ++ wordL x k) = x * pow3 p + y := by
    rw [val_append, ly, val_wordL _ _ hy, val_wordL _ _ hx, Int.mul_comm]; omega
  have W : isW (wordL y p ++ wordL x k) = true := isW_mk t (by rw [List.length_append]; omega) (by rw [List.length_append]; omega)
  have b := val_bd_len W (p + k) (by rw [List.length_append]; omega)
  rw [v] at b
  exact same_val (wordL_isW h1 h2) W (by rw [wordL_length, List.length_append, ly, lx]) (by rw [val_wordL _ _ b, v])
theorem limN_6 : limN 6 = 364 := by decide
theorem limN_5 : limN 5 = 121 := by decide
theorem pow3_24 : pow3 24 = 282429536481 := by decide
theorem pow3_6 : pow3 6 = 729 := by decide
/-- A number of six trits far above another one. -/
theorem far_of {x y : Int} {p : Nat} (hp : 6 ≤ p) (hp2 : p ≤ 24) (hx : 121 < absI x ∧ absI x ≤ 364) (hy : -364 ≤ y ∧ y ≤ 364) (e : Int) :
    fits (x * pow3 p + y) ∧ ofD (x * pow3 p + y) = ofD x ∧ ofE (x * pow3 p + y) (e - p) = ofE x e ∧ (0 < x → 0 < x * pow3 p + y) ∧ (x < 0 → x * pow3 p + y < 0) := by
  have ax := absI_abs x
  have P := pow3_limN p
  have P1 := pow3_le hp
  have P2 := pow3_le hp2
  rw [pow3_6] at P1
  rw [pow3_24] at P2
  have m6 := limN_mono hp
  rw [limN_6] at m6
  have b : -364 ≤ x ∧ x ≤ 364 := by omega
  have bb := mul_bd (A := 364) (B := 282429536481) b (show -282429536481 ≤ pow3 p ∧ pow3 p ≤ 282429536481 by omega)
  have f : fits (x * pow3 p + y) := ⟨by omega, by omega⟩
  have x0 : x ≠ 0 := by omega
  have fx : fits x := ⟨by omega, by omega⟩
  have k6 : lenN x = 6 := lenN_eq (by omega) (by omega) (by rw [limN_6]; exact hx.2) (by rw [show 6 - 1 = 5 from rfl, limN_5]; exact hx.1)
  obtain ⟨q, hq⟩ : ∃ q, q = pow3 p := ⟨_, rfl⟩
  have sgnP : 0 < x → 122 * q ≤ x * q := fun h => Int.mul_le_mul_of_nonneg_right (by omega) (by omega)
  have sgnN : x < 0 → x * q ≤ (-122) * q := fun h => Int.mul_le_mul_of_nonneg_right (by omega) (by omega)
  have j := wordL_join (x := x) (y := y) (p := p) (k := 6) (by omega) (by rw [limN_6]; omega) (by omega) (by omega)
  have vb := val_bd (wordL y p ++ wordL x 6) (fun z hz => by
    rcases List.mem_append.1 hz with h | h
    · exact wordL_trits _ _ z h
    · exact wordL_trits _ _ z h)
  rw [val_append, wordL_length, val_wordL _ _ (by omega), val_wordL _ _ (by rw [limN_6]; omega), List.length_append, wordL_length, wordL_length, Int.mul_comm (pow3 p) x] at vb
  have e5 : limN (p + 5) = limN p + 121 * pow3 p := by
    have h1 := pow3_limN (p + 5)
    rw [pow3_add, show pow3 5 = 243 from by decide] at h1
    omega
  have am := absI_abs (x * pow3 p + y)
  rw [← hq] at vb am e5 P P1 P2 bb f j ⊢
  have sP : 0 < x → 0 < x * q + y := fun h => by have := sgnP h; omega
  have sN : x < 0 → x * q + y < 0 := fun h => by have := sgnN h; omega
  have k : lenN (x * q + y) = p + 6 := by
    refine lenN_eq (by omega) (by omega) (by omega) ?_
    rw [show p + 6 - 1 = p + 5 by omega, e5]
    rcases Int.lt_or_le 0 x with c | c
    · have := sgnP c; omega
    · have := sgnN (by omega); omega
  refine ⟨f, ?_, ?_, sP, sN⟩
  · rw [ofD, ofD, if_neg (by rcases Int.lt_or_le 0 x with c | c
                             · have := sP c; omega
                             · have := sN (by omega); omega), if_neg x0, k, k6, top6_high _ (by omega), top6_high _ (Nat.le_refl _), j, show p + 6 - 6 = (wordL y p).length by rw [wordL_length]; omega, List.drop_left]
    rfl
  · rw [ofE, ofE, if_neg (by rcases Int.lt_or_le 0 x with c | c
                             · have := sP c; omega
                             · have := sN (by omega); omega), if_neg x0, k, k6]; omega
theorem sgnP {n : Int} (h : 0 < n) : sgn n = 1 := by rw [sgn, if_neg (by omega), if_pos h]
theorem sgnN {n : Int} (h : n < 0) : sgn n = -1 := by rw [sgn, if_pos h]
theorem sgnZ : sgn 0 = 0 := rfl
theorem sgn_mul_pos (x : Int) {q : Int} (h : 0 < q) : sgn (x * q) = sgn x := by
  rcases Int.lt_trichotomy x 0 with c | c | c
  · rw [sgnN c, sgnN (Int.mul_neg_of_neg_of_pos c h)]
  · subst c; rw [Int.zero_mul]
  · rw [sgnP c, sgnP (Int.mul_pos c h)]
/-- The program's sum is cut as the model's. -/
theorem trm_of {xs ys : List Int} {a b : Int} (h : isF xs a = true) (k : isF ys b = true) (hab : b ≤ a) :
    fits (trmN (val xs) (val ys) a b) ∧ ofD (trmN (val xs) (val ys) a b) = ofD (sumN xs a ys b) ∧ ofE (trmN (val xs) (val ys) a b) (trmE a b) = ofE (sumN xs a ys b) (sumE xs a ys b) ∧ sgn (trmN (val xs) (val ys) a b) = sgn (sumN xs a ys b) := by
  have ha := ((isF_iff _ _).1 h).2.2.1
  have hb := ((isF_iff _ _).1 k).2.2.1
  have bx := isF_val h
  have byy := isF_val k
  have B := isF_big h
  have B2 := isF_big k
  unfold sumN sumE trmN trmE
  obtain ⟨x, hx⟩ : ∃ x, x = val xs := ⟨_, rfl⟩
  obtain ⟨y, hy⟩ : ∃ y, y = val ys := ⟨_, rfl⟩
  rw [← hx] at bx B ⊢
  rw [← hy] at byy B2 ⊢
  clear hx hy h k
  by_cases x0 : x = 0
  · obtain ⟨-, -, rfl⟩ := (B.resolve_right (fun h => h.1 x0))
    subst x0
    have e1 : nearX 0 y 0 b = 0 := by rw [nearX, if_pos rfl]
    have e2 : nearX y 0 b 0 = y := by
      rw [nearX]; split
      · rename_i h; exact h.symm
      · rw [if_pos rfl]
    have e3 : nearE 0 y 0 b = b := by rw [nearE, if_pos rfl]
    have e4 : ((trmP 0 b : Nat) : Int) = -b := by unfold trmP; omega
    rw [e1, e2, e3, e4, Int.zero_mul, Int.zero_add, show (0 : Int) - -b = b by omega]
    exact ⟨⟨by omega, by omega⟩, rfl, rfl, rfl⟩
  obtain ⟨-, B⟩ := B.resolve_left (fun h => x0 h.1)
  by_cases y0 : y = 0
  · obtain ⟨-, -, rfl⟩ := (B2.resolve_right (fun h => h.1 y0))
    subst y0
    have e1 : nearX x 0 a 0 = x := by rw [nearX, if_neg x0, if_pos rfl]
    have e2 : nearX 0 x 0 a = 0 := by rw [nearX, if_pos rfl]
    have e3 : nearE x 0 a 0 = a := by rw [nearE, if_neg x0, if_pos rfl]
    obtain ⟨p, hp⟩ : ∃ p, p = trmP a 0 := ⟨_, rfl⟩
    have hp2 : p ≤ 20 := by rw [hp]; unfold trmP; omega
    rw [e1, e2, e3, ← hp, Int.add_zero, Int.add_zero]
    have q := pow3_le hp2
    rw [show pow3 20 = 3486784401 from by decide] at q
    have q1 := pow3_one p
    have bb := mul_bd (A := 364) (B := 3486784401) bx (show -3486784401 ≤ pow3 p ∧ pow3 p ≤ 3486784401 by omega)
    have f : fits (x * pow3 p) := ⟨by omega, by omega⟩
    obtain ⟨s1, s2⟩ := of_shift a p f
    exact ⟨f, s1, s2, sgn_mul_pos x (by omega)⟩
  obtain ⟨-, B2⟩ := B2.resolve_left (fun h => y0 h.1)
  by_cases c1 : 6 ≤ a - b
  · have e1 : nearX x y a b = x := by rw [nearX, if_neg x0, if_neg y0, if_pos c1]
    have e2 : nearX y x b a = 0 := by rw [nearX, if_neg y0, if_neg x0, if_neg (by omega), if_pos c1]
    have e3 : nearE x y a b = a := by rw [nearE, if_neg x0, if_neg y0, if_pos c1]
    obtain ⟨p, hp⟩ : ∃ p, p = trmP a b := ⟨_, rfl⟩
    have hp1 : 6 ≤ p ∧ p ≤ 24 := by rw [hp]; unfold trmP; omega
    rw [e1, e2, e3, ← hp, Int.add_zero]
    obtain ⟨f1, f2, f3, f4, f5⟩ := far_of hp1.1 hp1.2 B byy a
    refine ⟨f1, f2, f3, ?_⟩
    rcases Int.lt_or_le 0 x with c | c
    · rw [sgnP c, sgnP (f4 c)]
    · rw [sgnN (show x < 0 by omega), sgnN (f5 (by omega))]
  · have e1 : nearX x y a b = x * pow3 (a - b).toNat := by rw [nearX, if_neg x0, if_neg y0, if_neg c1, if_neg (by omega)]
    have e2 : nearX y x b a = y := by rw [nearX, if_neg y0, if_neg x0, if_neg (by omega), if_neg c1, show (b - a).toNat = 0 by omega, show pow3 0 = 1 from rfl, Int.mul_one]
    have e3 : nearE x y a b = b := by rw [nearE, if_neg x0, if_neg y0, if_neg c1, if_neg (by omega)]; omega
    have e4 : trmP a b = (a - b).toNat := by unfold trmP; omega
    rw [e1, e2, e3, e4, show a - ((a - b).toNat : Int) = b by omega]
    have q := pow3_le (show (a - b).toNat ≤ 5 by omega)
    rw [show pow3 5 = 243 from by decide] at q
    have q1 := pow3_one (a - b).toNat
    have bb := mul_bd (A := 364) (B := 243) bx (show -243 ≤ pow3 (a - b).toNat ∧ pow3 (a - b).toNat ≤ 243 by omega)
    exact ⟨⟨by omega, by omega⟩, rfl, rfl, rfl⟩
theorem sumF_swap (xs : List Int) (a : Int) (ys : List Int) (b : Int) : sumN xs a ys b = sumN ys b xs a ∧ ofE (sumN xs a ys b) (sumE xs a ys b) = ofE (sumN ys b xs a) (sumE ys b xs a) := by
  have e : sumN xs a ys b = sumN ys b xs a := by rw [sumN, sumN, Int.add_comm]
  refine ⟨e, ?_⟩
  by_cases h : val xs ≠ 0 ∨ val ys ≠ 0
  · rw [e, sumE, sumE, nearE_swap _ _ _ _ h]
  · have h1 : val xs = 0 := by omega
    have h2 : val ys = 0 := by omega
    have z : sumN xs a ys b = 0 := by rw [sumN, h1, h2, nearX, nearX, if_pos rfl, if_pos rfl]; rfl
    rw [← e, z, ofE, ofE, if_pos rfl, if_pos rfl]
/-- What sumTerms hands back. -/
def stN (xs : List Int) (a : Int) (ys : List Int) (b : Int) : Int := if a < b then trmN (val ys) (val xs) b a else trmN (val xs) (val ys) a b
def stE (a b : Int) : Int := if a < b then trmE b a else trmE a b
theorem st_of {xs ys : List Int} {a b : Int} (h : isF xs a = true) (k : isF ys b = true) :
    fits (stN xs a ys b) ∧ ofD (stN xs a ys b) = ofD (sumN xs a ys b) ∧ ofE (stN xs a ys b) (stE a b) = ofE (sumN xs a ys b) (sumE xs a ys b) ∧ sgn (stN xs a ys b) = sgn (sumN xs a ys b) ∧ -100 ≤ stE a b ∧ stE a b ≤ 100 := by
  have ha := ((isF_iff _ _).1 h).2.2.1
  have hb := ((isF_iff _ _).1 k).2.2.1
  unfold stN stE
  split
  · rename_i c
    obtain ⟨s1, s2⟩ := sumF_swap xs a ys b
    rw [s2, s1]
    obtain ⟨h1, h2, h3, h4⟩ := trm_of k h (by omega)
    exact ⟨h1, h2, h3, h4, by unfold trmE trmP; omega, by unfold trmE trmP; omega⟩
  · rename_i c
    obtain ⟨h1, h2, h3, h4⟩ := trm_of h k (by omega)
    exact ⟨h1, h2, h3, h4, by unfold trmE trmP; omega, by unfold trmE trmP; omega⟩
theorem frm_of {n e m f : Int} (hn : fits n) (he : -100 ≤ e ∧ e ≤ 100) (h2 : ofD n = ofD m) (h3 : ofE n e = ofE m f) : frmOk n e = ofOk m f ∧ frmD n e = fD m f ∧ frmE n e = fE m f := by
  have ok : okF n e = true := by rw [okF, (inB_iff _ _ _).2 he, decide_eq_true (show -102945566047324 ≤ n ∧ n ≤ 102945566047324 from hn)]; rfl
  have o : ofOk n e = ofOk m f := by rw [ofOk, ofOk, h3]
  rw [frmOk, frmD, frmE, ok, Bool.true_and, if_pos rfl, if_pos rfl, fD, fD, fE, fE, o, h2, h3]
  exact ⟨rfl, rfl, rfl⟩
theorem near_neg (x y a b : Int) : nearX x (-y) a b = nearX x y a b ∧ nearX (-y) x b a = -nearX y x b a := by
  unfold nearX
  constructor
  · repeat' split
    all_goals first | rfl | omega
  · repeat' split
    all_goals first | rfl | omega | skip
    all_goals exact Int.neg_mul _ _
theorem cmp_of {xs ys : List Int} {a b : Int} (h : isF xs a = true) (k : isF ys b = true) : sgn (stN xs a (negL ys) b) = cmpF xs a ys b := by
  obtain ⟨-, -, -, h4, -⟩ := st_of h (isF_neg k)
  rw [h4, cmpF, h, k, sumN, val_negL, (near_neg _ _ _ _).1, (near_neg _ _ _ _).2]; rfl
end Tm
end Go.Proofs.YtpmdkifnejkofaaDoor

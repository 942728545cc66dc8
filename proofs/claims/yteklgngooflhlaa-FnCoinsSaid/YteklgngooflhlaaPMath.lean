/- Plain facts: products, quotients, roots, powers, divisors, thirds. -/
import Derived.Test.YteklgngooflhlaaAMath
import Derived.Test.YteklgngooflhlaaLAm
import Derived.Test.YteklgngooflhlaaWVal
namespace Go.Proofs.Yteklgngooflhlaa
set_option maxRecDepth 20000
open Go.RowKit
namespace Tm
theorem wordL_isW {n : Int} {k : Nat} (h1 : 1 ≤ k) (h2 : k ≤ 30) : isW (wordL n k) = true := isW_mk (wordL_trits n k) (by rw [wordL_length]; exact h1) (by rw [wordL_length]; exact h2)
theorem wordOk_nat {n : Int} {k : Nat} (h1 : 1 ≤ k) (h2 : k ≤ 30) (h : -limN k ≤ n ∧ n ≤ limN k) : wordOk n k = true := by
  rw [wordOk, lim_nat h1 h2, decide_eq_true_eq]; omega
theorem word_nat {n : Int} {k : Nat} (h1 : 1 ≤ k) (h2 : k ≤ 30) (h : -limN k ≤ n ∧ n ≤ limN k) : word n k = wordL n k := by
  rw [word, if_pos (wordOk_nat h1 h2 h), Int.toNat_natCast]
theorem same_val {xs ys : List Int} (hx : isW xs = true) (hy : isW ys = true) (hl : xs.length = ys.length) (hv : val xs = val ys) : xs = ys := by
  rw [← wordL_val (isW_trits hx), hl, hv, wordL_val (isW_trits hy)]
theorem mul_bd {a b A B : Int} (h : -A ≤ a ∧ a ≤ A) (k : -B ≤ b ∧ b ≤ B) : -(A * B) ≤ a * b ∧ a * b ≤ A * B := by
  have h1 := Int.mul_nonneg (show 0 ≤ A - a by omega) (show 0 ≤ B - b by omega)
  have h2 := Int.mul_nonneg (show 0 ≤ A + a by omega) (show 0 ≤ B + b by omega)
  have h3 := Int.mul_nonneg (show 0 ≤ A - a by omega) (show 0 ≤ B + b by omega)
  have h4 := Int.mul_nonneg (show 0 ≤ A + a by omega) (show 0 ≤ B - b by omega)
  constructor <;> grind
theorem limN_mul (a b : Nat) : limN a * limN b ≤ limN (a + b) := by
  have h := pow3_add a b
  rw [pow3_limN, pow3_limN, pow3_limN] at h
  have h1 := Int.mul_nonneg (limN_nonneg a) (limN_nonneg b)
  have h2 := limN_nonneg a
  have h3 := limN_nonneg b
  grind
/-- The product of two words. -/
def mulOk (xs ys : List Int) : Bool := isW xs && isW ys && decide (xs.length + ys.length ≤ 30)
def mulW (xs ys : List Int) : List Int := if mulOk xs ys then wordL (val xs * val ys) (xs.length + ys.length) else []
theorem mulOk_iff (xs ys : List Int) : mulOk xs ys = true ↔ isW xs = true ∧ isW ys = true ∧ xs.length + ys.length ≤ 30 := by simp [mulOk, and_assoc]
theorem mulOk_swap (xs ys : List Int) : mulOk xs ys = mulOk ys xs := by
  rw [Bool.eq_iff_iff, mulOk_iff, mulOk_iff]
  constructor <;> rintro ⟨a, b, c⟩ <;> exact ⟨b, a, by omega⟩
theorem mulW_swap (xs ys : List Int) : mulW xs ys = mulW ys xs := by
  rw [mulW, mulW, mulOk_swap, Int.mul_comm, Nat.add_comm]
theorem prod_bd {xs ys : List Int} (h : mulOk xs ys = true) : -limN (xs.length + ys.length) ≤ val xs * val ys ∧ val xs * val ys ≤ limN (xs.length + ys.length) := by
  obtain ⟨hx, hy, hl⟩ := (mulOk_iff _ _).1 h
  have b1 := val_bd_len hx xs.length (Nat.le_refl _)
  have b2 := val_bd_len hy ys.length (Nat.le_refl _)
  have b3 := mul_bd b1 b2
  have b4 := limN_mul xs.length ys.length
  omega
theorem mul_facts {xs ys : List Int} (h : mulOk xs ys = true) : isW (mulW xs ys) = true ∧ val (mulW xs ys) = val xs * val ys ∧ (mulW xs ys).length = xs.length + ys.length := by
  obtain ⟨hx, hy, hl⟩ := (mulOk_iff _ _).1 h
  have p1 := isW_pos hx
  rw [mulW, if_pos h]
  exact ⟨wordL_isW (by omega) hl, val_wordL _ _ (prod_bd h), wordL_length _ _⟩
theorem mulOk_neg (xs ys : List Int) (h : mulOk xs ys = true) : mulOk (negW xs) ys = true := by
  obtain ⟨hx, hy, hl⟩ := (mulOk_iff _ _).1 h
  have n := negW_word hx
  exact (mulOk_iff _ _).2 ⟨n.1, hy, by omega⟩
theorem mulW_neg {xs ys : List Int} (h : mulOk xs ys = true) : mulW (negW xs) ys = negW (mulW xs ys) := by
  obtain ⟨hx, hy, hl⟩ := (mulOk_iff _ _).1 h
  have n := negW_word hx
  have m := mul_facts h
  have m2 := mul_facts (mulOk_neg _ _ h)
  have n2 := negW_word m.1
  refine same_val m2.1 n2.1 (by omega) ?_
  rw [m2.2.1, n2.2.1, m.2.1, n.2.1, Int.neg_mul]
/-- The partial products. -/
def partF (xs ys : List Int) (i j : Nat) : Int := if i ≤ j then xs.getD (j - i) 0 * ys.getD i 0 else 0
def partR (xs ys : List Int) (i : Nat) : List Int := genL (xs.length + ys.length) (partF xs ys i)
def partL (xs ys : List Int) (m : Nat) : List (List Int) := (List.range m).map (partR xs ys)
def parts (xs ys : List Int) : List (List Int) := if mulOk xs ys then partL xs ys ys.length else []
theorem partL_length (xs ys : List Int) (m : Nat) : (partL xs ys m).length = m := by simp [partL]
theorem partL_succ (xs ys : List Int) (m : Nat) : partL xs ys (m + 1) = partL xs ys m ++ [partR xs ys m] := by simp [partL, List.range_succ]
theorem partF_bd {xs ys : List Int} (hx : isW xs = true) (hy : isW ys = true) (i j : Nat) : -1 ≤ partF xs ys i j ∧ partF xs ys i j ≤ 1 := by
  unfold partF
  split
  · exact mul_bd (isW_at hx _) (isW_at hy _)
  · omega
theorem partR_word {xs ys : List Int} (h : mulOk xs ys = true) (i : Nat) : isW (partR xs ys i) = true ∧ (partR xs ys i).length = xs.length + ys.length := by
  obtain ⟨hx, hy, hl⟩ := (mulOk_iff _ _).1 h
  have p1 := isW_pos hx
  exact ⟨isW_gen (by omega) hl (partF_bd hx hy i), genL_length _ _⟩
theorem val_gen_zero (g : Nat → Int) (n : Nat) (h : ∀ j, j < n → g j = 0) : val (genL n g) = 0 := by
  induction n with
  | zero => rfl
  | succ n ih => rw [val_gen, ih (fun j hj => h j (by omega)), h n (by omega)]; simp
theorem getD_beyond (xs : List Int) (j : Nat) (h : xs.length ≤ j) : xs.getD j 0 = 0 := by simp [List.getD_eq_getElem?_getD, List.getElem?_eq_none h]
theorem val_gen_more (xs : List Int) (k : Nat) : val (genL (xs.length + k) fun j => xs.getD j 0) = val xs := by
  induction k with
  | zero => rw [Nat.add_zero, genL_self]
  | succ k ih => rw [← Nat.add_assoc, val_gen, ih, getD_beyond xs _ (by omega)]; simp
theorem val_partF (xs ys : List Int) (i m : Nat) : val (genL (i + m) (partF xs ys i)) = pow3 i * (val (genL m fun j => xs.getD j 0) * ys.getD i 0) := by
  induction m with
  | zero =>
    rw [Nat.add_zero, val_gen_zero _ _ (fun j hj => by rw [partF, if_neg (by omega)]), val_gen0]; simp
  | succ m ih =>
    rw [← Nat.add_assoc, val_gen, ih, val_gen, partF, if_pos (by omega), Nat.add_sub_cancel_left, pow3_add]
    grind
theorem val_partR (xs ys : List Int) (i : Nat) (hi : i < ys.length) : val (partR xs ys i) = pow3 i * (val xs * ys.getD i 0) := by
  rw [partR, show xs.length + ys.length = i + (xs.length + (ys.length - i)) by omega, val_partF, val_gen_more]
theorem sumV_part (xs ys : List Int) (m : Nat) (hm : m ≤ ys.length) : sumV (partL xs ys m) = val xs * val (genL m fun j => ys.getD j 0) := by
  have snoc : ∀ (L : List (List Int)) (zs : List Int), sumV (L ++ [zs]) = sumV L + val zs := fun L zs => by
    have app : ∀ a b : List Int, (a ++ b).sum = a.sum + b.sum := fun a b => by
      induction a with
      | nil => simp
      | cons x a ih => simp only [List.cons_append, List.sum_cons, ih]; omega
    rw [sumV, sumV, List.map_append, app]; simp
  induction m with
  | zero => simp [partL, sumV, val_gen0]
  | succ m ih =>
    rw [partL_succ, snoc, ih (by omega), val_partR _ _ _ (by omega), val_gen]
    grind
theorem part_facts {xs ys : List Int} (h : mulOk xs ys = true) : (parts xs ys).length = ys.length ∧ allW (xs.length + ys.length) (parts xs ys) ∧ sumV (parts xs ys) = val xs * val ys := by
  rw [parts, if_pos h]
  refine ⟨partL_length _ _ _, fun x hx => ?_, ?_⟩
  · obtain ⟨i, -, rfl⟩ := List.mem_map.1 hx
    exact partR_word h i
  · rw [sumV_part _ _ _ (Nat.le_refl _), genL_self]
theorem part_sum {xs ys : List Int} (h : mulOk xs ys = true) : treeOk (parts xs ys) = true ∧ tree (parts xs ys) = mulW xs ys := by
  obtain ⟨hx, hy, hl⟩ := (mulOk_iff _ _).1 h
  have f := part_facts h
  have p1 := isW_pos hy
  have t := treeOk_of (by omega) (by omega) f.2.1
  have tf := tree_facts t.1
  rw [t.2, f.2.2] at tf
  have m := mul_facts h
  refine ⟨t.1, word_inj tf.1 m.1 (by omega) ?_⟩
  rw [tf.2.1, m.2.1]
  exact tf.2.2
/-- The product without its lowest trits. -/
def cutOk (xs ys : List Int) (k : Int) : Bool := mulOk xs ys && decide (0 ≤ k ∧ k ≤ (xs.length : Int) + ys.length - 1)
def cutW (xs ys : List Int) (k : Int) : List Int := if cutOk xs ys k then (mulW xs ys).drop k.toNat else []
theorem drop_near {zs : List Int} (h : isW zs = true) {k : Nat} (hk : k ≤ zs.length) : 2 * absI (val zs - val (zs.drop k) * pow3 k) < pow3 k := by
  have e := val_take_drop zs k hk
  have b := val_bd (zs.take k) (trits_take (isW_trits h) k)
  rw [List.length_take, Nat.min_eq_left hk] at b
  have := absI_abs (val zs - val (zs.drop k) * pow3 k)
  have e2 : val zs - val (zs.drop k) * pow3 k = val (zs.take k) := by rw [Int.mul_comm (val (zs.drop k))]; omega
  rw [e2] at this ⊢
  rw [pow3_limN]
  omega
/-- Division to the nearest. -/
def IsDiv (n d q r : Int) : Prop := n = q * d + r ∧ -absI d < 2 * r ∧ 2 * r ≤ absI d
def rem (n d : Int) : Int := if absI d < 2 * (n % d) then n % d - absI d else n % d
def quo (n d : Int) : Int := if absI d < 2 * (n % d) then n / d + sgn d else n / d
theorem sgn_abs (d : Int) : sgn d * d = absI d := by
  unfold sgn absI
  split <;> (try split) <;> (try split) <;> omega
theorem quo_spec (n : Int) {d : Int} (hd : d ≠ 0) : IsDiv n d (quo n d) (rem n d) := by
  have h1 := Int.mul_ediv_add_emod n d
  have h2 := Int.emod_nonneg n hd
  have h3 := Int.emod_lt n hd
  have h4 : (d.natAbs : Int) = absI d := by unfold absI; split <;> omega
  have h5 := absI_abs d
  have h6 := sgn_abs d
  rw [h4] at h3
  unfold IsDiv quo rem
  rw [Int.mul_comm] at h1
  split
  · rw [Int.add_mul, h6]; omega
  · omega
theorem abs_mul (a b : Int) : absI (a * b) = absI a * absI b := by
  have e : ∀ x : Int, absI x = x.natAbs := fun x => by unfold absI; split <;> omega
  rw [e, e, e, Int.natAbs_mul, Int.natCast_mul]
theorem abs_zero {x : Int} (h : absI x < 1) : x = 0 := by have := absI_abs x; omega
theorem quo_eq {n d q r : Int} (hd : d ≠ 0) (h : IsDiv n d q r) : q = quo n d ∧ r = rem n d := by
  have s := quo_spec n hd
  obtain ⟨h1, h2, h3⟩ := h
  obtain ⟨s1, s2, s3⟩ := s
  have e : (q - quo n d) * d = rem n d - r := by rw [Int.sub_mul]; omega
  have a : absI (rem n d - r) < absI d := by have := absI_abs (rem n d - r); omega
  have b := abs_mul (q - quo n d) d
  rw [e] at b
  have c := absI_abs (q - quo n d)
  have d0 := (absI_abs d).2
  have z : absI (q - quo n d) < 1 := by
    rcases Int.lt_or_le (absI (q - quo n d)) 1 with h | h
    · exact h
    · have := Int.mul_le_mul_of_nonneg_right h d0
      omega
  have z0 := abs_zero z
  rw [z0, Int.zero_mul] at e
  omega
theorem quo_mul (a : Int) {d : Int} (hd : d ≠ 0) : quo (a * d) d = a ∧ rem (a * d) d = 0 := by
  have h := absI_abs d
  have := quo_eq (n := a * d) (q := a) (r := 0) hd ⟨by omega, by omega, by omega⟩
  omega
theorem quo_bd (n : Int) {d : Int} (hd : d ≠ 0) : absI (quo n d) ≤ absI n := by
  obtain ⟨s1, s2, s3⟩ := quo_spec n hd
  have b := abs_mul (quo n d) d
  have e : quo n d * d = n - rem n d := by omega
  rw [e] at b
  have c := absI_abs (n - rem n d)
  have d1 := absI_abs d
  have c2 := absI_abs n
  have c3 := absI_abs (quo n d)
  rcases Int.lt_or_le (absI n) (absI (quo n d)) with h | h
  · have h2 := Int.mul_le_mul_of_nonneg_right (show absI n + 1 ≤ absI (quo n d) by omega) d1.2
    have h3 := Int.mul_le_mul_of_nonneg_left (show 1 ≤ absI d by omega) c2.2
    rw [Int.add_mul] at h2
    omega
  · exact h
theorem rem_bd (n : Int) {d : Int} (hd : d ≠ 0) : absI (rem n d) ≤ absI d := by
  obtain ⟨s1, s2, s3⟩ := quo_spec n hd
  have := absI_abs (rem n d)
  have := absI_abs d
  omega
theorem abs_in {x b : Int} (h : absI x ≤ b) : -b ≤ x ∧ x ≤ b := by have := absI_abs x; omega
theorem abs_of {x b : Int} (h : -b ≤ x ∧ x ≤ b) : absI x ≤ b := by have := absI_abs x; omega
def divOk (xs ds : List Int) : Bool := isW xs && isW ds && decide (val ds ≠ 0)
def divQ (xs ds : List Int) : List Int := if divOk xs ds then wordL (quo (val xs) (val ds)) xs.length else []
def divR (xs ds : List Int) : List Int := if divOk xs ds then wordL (rem (val xs) (val ds)) ds.length else []
theorem divOk_iff (xs ds : List Int) : divOk xs ds = true ↔ isW xs = true ∧ isW ds = true ∧ val ds ≠ 0 := by simp [divOk, and_assoc]
theorem div_bd {xs ds : List Int} (h : divOk xs ds = true) : (-limN xs.length ≤ quo (val xs) (val ds) ∧ quo (val xs) (val ds) ≤ limN xs.length) ∧ (-limN ds.length ≤ rem (val xs) (val ds) ∧ rem (val xs) (val ds) ≤ limN ds.length) := by
  obtain ⟨hx, hd, h0⟩ := (divOk_iff _ _).1 h
  have b1 := abs_of (val_bd_len hx xs.length (Nat.le_refl _))
  have b2 := abs_of (val_bd_len hd ds.length (Nat.le_refl _))
  have b3 := quo_bd (val xs) h0
  have b4 := rem_bd (val xs) h0
  exact ⟨abs_in (by omega), abs_in (by omega)⟩
theorem div_facts {xs ds : List Int} (h : divOk xs ds = true) : (isW (divQ xs ds) = true ∧ val (divQ xs ds) = quo (val xs) (val ds) ∧ (divQ xs ds).length = xs.length) ∧ (isW (divR xs ds) = true ∧ val (divR xs ds) = rem (val xs) (val ds) ∧ (divR xs ds).length = ds.length) := by
  obtain ⟨hx, hd, h0⟩ := (divOk_iff _ _).1 h
  have b := div_bd h
  have p1 := isW_pos hx
  have p2 := isW_pos hd
  have q1 := isW_len hx
  have q2 := isW_len hd
  rw [divQ, divR, if_pos h, if_pos h]
  exact ⟨⟨wordL_isW p1 q1, val_wordL _ _ b.1, wordL_length _ _⟩, wordL_isW p2 q2, val_wordL _ _ b.2, wordL_length _ _⟩
/-- The nearest whole root. -/
def IsRoot (n r : Int) : Prop := 0 ≤ r ∧ (n = 0 ∧ r = 0 ∨ 1 ≤ n ∧ r * r - r < n ∧ n ≤ r * r + r)
theorem root_le {n r s : Int} (h : IsRoot n r) (k : IsRoot n s) : r ≤ s := by
  rcases Int.lt_or_le s r with hlt | hle
  · exfalso
    obtain ⟨h0, ⟨h1, h2⟩ | ⟨h1, h2, h3⟩⟩ := h
    · obtain ⟨k0, -⟩ := k; omega
    · obtain ⟨k0, ⟨k1, k2⟩ | ⟨k1, k2, k3⟩⟩ := k
      · omega
      · have m := Int.mul_nonneg (show 0 ≤ r - s - 1 by omega) (show 0 ≤ r + s by omega)
        grind
  · exact hle
theorem root_one {n r s : Int} (h : IsRoot n r) (k : IsRoot n s) : r = s := Int.le_antisymm (root_le h k) (root_le k h)
theorem root_is (n : Nat) : ∃ r, IsRoot n r := by
  induction n with
  | zero => exact ⟨0, by omega, .inl ⟨rfl, rfl⟩⟩
  | succ n ih =>
    obtain ⟨r, h0, ⟨h1, h2⟩ | ⟨h1, h2, h3⟩⟩ := ih
    · exact ⟨1, by omega, .inr ⟨by omega, by omega, by omega⟩⟩
    · by_cases h : ((n + 1 : Nat) : Int) ≤ r * r + r
      · exact ⟨r, h0, .inr ⟨by omega, by omega, h⟩⟩
      · refine ⟨r + 1, by omega, .inr ⟨by omega, ?_, ?_⟩⟩
        · grind
        · grind
theorem root_ex {n : Int} (h : 0 ≤ n) : ∃ r, IsRoot n r := by
  obtain ⟨r, hr⟩ := root_is n.toNat
  rw [Int.toNat_of_nonneg h] at hr
  exact ⟨r, hr⟩
open Classical in
noncomputable def root (n : Int) : Int := if h : ∃ r, IsRoot n r then Classical.choose h else 0
theorem root_spec {n : Int} (h : 0 ≤ n) : IsRoot n (root n) := by
  rw [root, dif_pos (root_ex h)]
  exact Classical.choose_spec (root_ex h)
theorem root_eq {n r : Int} (h : IsRoot n r) : root n = r := by
  have h0 : 0 ≤ n := by obtain ⟨-, ⟨h1, -⟩ | ⟨h1, -⟩⟩ := h <;> omega
  exact root_one (root_spec h0) h
theorem root_bd {n r : Int} (h : IsRoot n r) : 0 ≤ r ∧ r ≤ n ∧ -n ≤ n - r * r ∧ n - r * r ≤ n ∧ n - r * r ≤ r ∧ (0 < n → -r < n - r * r) := by
  obtain ⟨h0, ⟨h1, h2⟩ | ⟨h1, h2, h3⟩⟩ := h
  · subst h1 h2; simp
  · have a := Int.mul_nonneg h0 h0
    have b : r ≤ n := by
      rcases Int.lt_or_le n r with k | k
      · have := Int.mul_nonneg (show 0 ≤ r - n - 1 by omega) (show 0 ≤ r by omega)
        have := Int.mul_nonneg (show 0 ≤ r - 2 by omega) (show 0 ≤ r by omega)
        grind
      · exact k
    refine ⟨h0, b, by omega, by omega, by omega, fun _ => by omega⟩
def rootOk (xs : List Int) : Bool := isW xs && decide (0 ≤ val xs)
noncomputable def rootW (xs : List Int) : List Int := if rootOk xs then wordL (root (val xs)) xs.length else []
noncomputable def rootT (xs : List Int) : List Int := if rootOk xs then wordL (val xs - root (val xs) * root (val xs)) xs.length else []
theorem rootOk_iff (xs : List Int) : rootOk xs = true ↔ isW xs = true ∧ 0 ≤ val xs := by simp [rootOk]
theorem root_facts {xs : List Int} (h : rootOk xs = true) : (isW (rootW xs) = true ∧ val (rootW xs) = root (val xs) ∧ (rootW xs).length = xs.length) ∧ (isW (rootT xs) = true ∧ val (rootT xs) = val xs - root (val xs) * root (val xs) ∧ (rootT xs).length = xs.length) ∧ IsRoot (val xs) (root (val xs)) := by
  obtain ⟨hx, h0⟩ := (rootOk_iff _).1 h
  have s := root_spec h0
  have b := root_bd s
  have p1 := isW_pos hx
  have q1 := isW_len hx
  have v := val_bd_len hx xs.length (Nat.le_refl _)
  rw [rootW, rootT, if_pos h, if_pos h]
  exact ⟨⟨wordL_isW p1 q1, val_wordL _ _ (by omega), wordL_length _ _⟩, ⟨wordL_isW p1 q1, val_wordL _ _ (by omega), wordL_length _ _⟩, s⟩
theorem root_square (v : Int) : root (v * v) = absI v := by
  apply root_eq
  have a := absI_abs v
  have e : v * v = absI v * absI v := by
    rcases a.1 with h | h
    · rw [h]
    · rw [h, Int.neg_mul_neg]
  have m := Int.mul_nonneg a.2 a.2
  refine ⟨a.2, ?_⟩
  rw [e]
  rcases Int.lt_or_le (absI v) 1 with h | h
  · have : absI v = 0 := by omega
    rw [this]; exact .inl ⟨rfl, rfl⟩
  · have m2 := Int.mul_le_mul_of_nonneg_right h a.2
    exact .inr ⟨by omega, by omega, by omega⟩
/-- Powers. -/
def powOk (xs : List Int) (n : Int) : Bool := isW xs && decide (0 ≤ n) && decide (-102945566047324 ≤ val xs ^ n.toNat ∧ val xs ^ n.toNat ≤ 102945566047324)
def powW (xs : List Int) (n : Int) : List Int := if powOk xs n then wordL (val xs ^ n.toNat) 30 else []
theorem powOk_iff (xs : List Int) (n : Int) : powOk xs n = true ↔ isW xs = true ∧ 0 ≤ n ∧ -102945566047324 ≤ val xs ^ n.toNat ∧ val xs ^ n.toNat ≤ 102945566047324 := by simp [powOk, and_assoc]
theorem pow_facts {xs : List Int} {n : Int} (h : powOk xs n = true) : isW (powW xs n) = true ∧ val (powW xs n) = val xs ^ n.toNat ∧ (powW xs n).length = 30 := by
  obtain ⟨hx, h0, b⟩ := (powOk_iff _ _).1 h
  rw [← limN_30] at b
  rw [powW, if_pos h]
  exact ⟨wordL_isW (by omega) (by omega), val_wordL _ _ b, wordL_length _ _⟩
/-- Common divisors. -/
def gcdV (a b : Int) : Int := (Int.gcd a b : Nat)
def gcdOk (xs ys : List Int) : Bool := isW xs && isW ys
def gcdW (xs ys : List Int) : List Int := if gcdOk xs ys then wordL (gcdV (val xs) (val ys)) (max xs.length ys.length) else []
theorem gcdOk_iff (xs ys : List Int) : gcdOk xs ys = true ↔ isW xs = true ∧ isW ys = true := by simp [gcdOk]
theorem gcd_swap (a b : Int) : gcdV a b = gcdV b a := by rw [gcdV, gcdV, Int.gcd_comm]
theorem gcd_nonneg (a b : Int) : 0 ≤ gcdV a b := by unfold gcdV; omega
theorem gcd_bd {a b A : Int} (h : absI a ≤ A) (k : absI b ≤ A) : gcdV a b ≤ A := by
  have a1 := absI_abs a
  have a2 := absI_abs b
  by_cases h0 : a = 0
  · subst h0
    rw [gcdV, Int.gcd_zero_left]; omega
  · have d : Int.gcd a b ∣ a.natAbs := Int.gcd_dvd_natAbs_left a b
    have := Nat.le_of_dvd (by omega) d
    unfold gcdV; omega
theorem gcd_step {x y : Int} (hx : 0 ≤ x) (hy : 0 < y) : gcdV y (x.tmod y) = gcdV x y := by
  obtain ⟨a, rfl⟩ := Int.eq_ofNat_of_zero_le hx
  obtain ⟨b, rfl⟩ := Int.eq_ofNat_of_zero_le (show 0 ≤ y by omega)
  rw [← Int.ofNat_tmod, gcdV, gcdV, Int.gcd_natCast_natCast, Int.gcd_natCast_natCast, Nat.gcd_comm a b, Nat.gcd_rec b a, Nat.gcd_comm]
theorem gcd_end {x : Int} (hx : 0 ≤ x) : gcdV x 0 = x := by rw [gcdV, Int.gcd_zero_right]; omega
theorem gcd_abs (a b : Int) : gcdV (absI a) (absI b) = gcdV a b := by
  have e : ∀ x : Int, absI x = x.natAbs := fun x => by unfold absI; split <;> omega
  rw [e, e, gcdV, gcdV, Int.gcd, Int.gcd]; simp
theorem gcd_facts {xs ys : List Int} (h : gcdOk xs ys = true) : isW (gcdW xs ys) = true ∧ val (gcdW xs ys) = gcdV (val xs) (val ys) ∧ (gcdW xs ys).length = max xs.length ys.length := by
  obtain ⟨hx, hy⟩ := (gcdOk_iff _ _).1 h
  have p1 := isW_pos hx
  have q1 := isW_len hx
  have q2 := isW_len hy
  have b1 := abs_of (val_bd_len hx (max xs.length ys.length) (by omega))
  have b2 := abs_of (val_bd_len hy (max xs.length ys.length) (by omega))
  have b3 := gcd_bd b1 b2
  have b4 := gcd_nonneg (val xs) (val ys)
  rw [gcdW, if_pos h]
  exact ⟨wordL_isW (by omega) (by omega), val_wordL _ _ (by omega), wordL_length _ _⟩
theorem gcd_mul (a b c : Int) : gcdV (a * c) (b * c) = gcdV a b * absI c := by
  have e : absI c = c.natAbs := by unfold absI; split <;> omega
  rw [gcdV, gcdV, Int.gcd_mul_right, e, Int.natCast_mul]
theorem gcd_div (a b : Int) : a.tmod (gcdV a b) = 0 ∧ b.tmod (gcdV a b) = 0 :=
  ⟨Int.tmod_eq_zero_of_dvd (Int.gcd_dvd_left ..), Int.tmod_eq_zero_of_dvd (Int.gcd_dvd_right ..)⟩
/-- Fractions in trits. -/
def thOk (n d k : Int) : Bool := decide (1 ≤ d ∧ d ≤ 1000000 ∧ 1 ≤ k ∧ k ≤ 20 ∧ 2 * absI n < d)
def thW (n d k : Int) : List Int := if thOk n d k then wordL (quo (n * pow3 k.toNat) d) k.toNat else []
theorem pow3_one (k : Nat) : 1 ≤ pow3 k := by have := limN_nonneg k; rw [pow3_limN]; omega
theorem th_bd {n d : Int} (k : Nat) (hd : 1 ≤ d) (hn : 2 * absI n < d) : -limN k ≤ quo (n * pow3 k) d ∧ quo (n * pow3 k) d ≤ limN k := by
  obtain ⟨s1, s2, s3⟩ := quo_spec (n * pow3 k) (show d ≠ 0 by omega)
  have e : absI d = d := by unfold absI; split <;> omega
  have p := pow3_one k
  have b := abs_mul (quo (n * pow3 k) d) d
  rw [show quo (n * pow3 k) d * d = n * pow3 k - rem (n * pow3 k) d by omega, e] at b
  have c := abs_mul n (pow3 k)
  rw [show absI (pow3 k) = pow3 k by unfold absI; split <;> omega] at c
  have c1 := absI_abs (n * pow3 k - rem (n * pow3 k) d)
  have c2 := absI_abs (n * pow3 k)
  have h1 := Int.mul_le_mul_of_nonneg_right (show 2 * absI n + 1 ≤ d by omega) (show 0 ≤ pow3 k by omega)
  apply abs_in
  rcases Int.lt_or_le (limN k) (absI (quo (n * pow3 k) d)) with h | h
  · exfalso
    have h2 := Int.mul_le_mul_of_nonneg_right (show limN k + 1 ≤ absI (quo (n * pow3 k) d) by omega) (show 0 ≤ d by omega)
    have h3 := pow3_limN k
    have h4 : d * pow3 k = 2 * (limN k * d) + d := by rw [h3, Int.mul_add, Int.mul_comm d (2 * limN k), Int.mul_assoc]; omega
    rw [Int.add_mul, Int.mul_assoc] at h1
    rw [Int.add_mul] at h2
    omega
  · exact h
theorem th_facts {n d k : Int} (h : thOk n d k = true) : isW (thW n d k) = true ∧ val (thW n d k) = quo (n * pow3 k.toNat) d ∧ ((thW n d k).length : Int) = k := by
  have o := h
  rw [thOk, decide_eq_true_eq] at o
  obtain ⟨h1, h2, h3, h4, h5⟩ := o
  rw [thW, if_pos h]
  exact ⟨wordL_isW (by omega) (by omega), val_wordL _ _ (th_bd _ h1 h5), by rw [wordL_length]; omega⟩
theorem th_near {n d : Int} (k : Nat) (hd : 1 ≤ d) : 2 * absI (n * pow3 k - quo (n * pow3 k) d * d) ≤ d := by
  obtain ⟨s1, s2, s3⟩ := quo_spec (n * pow3 k) (show d ≠ 0 by omega)
  have e : absI d = d := by unfold absI; split <;> omega
  have := absI_abs (n * pow3 k - quo (n * pow3 k) d * d)
  omega
theorem th_on {n d : Int} (k : Nat) (hd : 1 ≤ d) : absI (quo (n * pow3 (k + 3)) d - 27 * quo (n * pow3 k) d) ≤ 14 := by
  obtain ⟨s1, s2, s3⟩ := quo_spec (n * pow3 k) (show d ≠ 0 by omega)
  obtain ⟨t1, t2, t3⟩ := quo_spec (n * pow3 (k + 3)) (show d ≠ 0 by omega)
  have e : absI d = d := by unfold absI; split <;> omega
  have p : n * pow3 (k + 3) = 27 * (n * pow3 k) := by rw [pow3_add, show pow3 3 = 27 from by decide]; grind
  have b := abs_mul (quo (n * pow3 (k + 3)) d - 27 * quo (n * pow3 k) d) d
  rw [e, Int.sub_mul, Int.mul_assoc] at b
  have c := absI_abs (quo (n * pow3 (k + 3)) d * d - 27 * (quo (n * pow3 k) d * d))
  rcases Int.lt_or_le 14 (absI (quo (n * pow3 (k + 3)) d - 27 * quo (n * pow3 k) d)) with h | h
  · exfalso
    have h2 := Int.mul_le_mul_of_nonneg_right (show 15 ≤ absI (quo (n * pow3 (k + 3)) d - 27 * quo (n * pow3 k) d) by omega) (show 0 ≤ d by omega)
    omega
  · exact h
end Tm
end Go.Proofs.Yteklgngooflhlaa

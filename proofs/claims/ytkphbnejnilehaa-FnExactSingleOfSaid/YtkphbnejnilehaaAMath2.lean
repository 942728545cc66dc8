/- Plain facts on carry maps and redundant sums: no program, no world. -/
import Derived.Test.YtkphbnejnilehaaAMath
namespace Go.Proofs.Ytkphbnejnilehaa
abbrev mapV (f : Nat → Int) : Value := .agg #[.int .i64 (f 0), .int .i64 (f 1), .int .i64 (f 2)]
theorem mapV_eq {f g : Nat → Int} (h0 : f 0 = g 0) (h1 : f 1 = g 1) (h2 : f 2 = g 2) : mapV f = mapV g := by rw [mapV, mapV, h0, h1, h2]
namespace Tm
def t3 (f : Nat → Int) : Bool := isT (f 0) && isT (f 1) && isT (f 2)
def mp (a b : Int) (i : Nat) : Int := full2 a b ((i : Int) - 1)
def thn (f g : Nat → Int) (i : Nat) : Int := if t3 f && t3 g then g (f i + 1).toNat else 0
theorem t3_iff (f : Nat → Int) : t3 f = true ↔ (-1 ≤ f 0 ∧ f 0 ≤ 1) ∧ (-1 ≤ f 1 ∧ f 1 ≤ 1) ∧ (-1 ≤ f 2 ∧ f 2 ≤ 1) := by simp [t3, isT, and_assoc]
theorem t3_at {f : Nat → Int} (h : t3 f = true) {i : Nat} (hi : i < 3) : -1 ≤ f i ∧ f i ≤ 1 := by
  obtain ⟨h0, h1, h2⟩ := (t3_iff f).1 h
  match i, hi with
  | 0, _ => exact h0
  | 1, _ => exact h1
  | 2, _ => exact h2
theorem mp_t3 (a b : Int) : t3 (mp a b) = true := by
  have h : ∀ c, -1 ≤ full2 a b c ∧ full2 a b c ≤ 1 := by
    intro c
    rw [full2]
    split
    · unfold sp2; repeat' split
      all_goals omega
    · omega
  rw [t3_iff]
  exact ⟨h _, h _, h _⟩
theorem mp_at (a b c : Int) (hc : -1 ≤ c) : mp a b (c + 1).toNat = full2 a b c := by
  rw [mp]; congr 1; omega
theorem thn_t3 {f g : Nat → Int} (hf : t3 f = true) (hg : t3 g = true) : t3 (thn f g) = true := by
  rw [t3_iff]
  have h : ∀ i, i < 3 → -1 ≤ thn f g i ∧ thn f g i ≤ 1 := by
    intro i hi
    have b := t3_at hf hi
    rw [thn, hf, hg]
    exact t3_at hg (by omega)
  exact ⟨h 0 (by omega), h 1 (by omega), h 2 (by omega)⟩
theorem thn_at {f g : Nat → Int} (hf : t3 f = true) (hg : t3 g = true) (i : Nat) : thn f g i = g (f i + 1).toNat := by rw [thn, hf, hg]; rfl
theorem thn_assoc {f g h : Nat → Int} (hf : t3 f = true) (hg : t3 g = true) (hh : t3 h = true) (i : Nat) : thn (thn f g) h i = thn f (thn g h) i := by
  rw [thn_at (thn_t3 hf hg) hh, thn_at hf (thn_t3 hg hh), thn_at hf hg, thn_at hg hh]
/-- The map of the lower i + 1 places. -/
def maps (xs ys : List Int) : Nat → Nat → Int
  | 0 => mp (xs.getD 0 0) (ys.getD 0 0)
  | i + 1 => thn (maps xs ys i) (mp (xs.getD (i + 1) 0) (ys.getD (i + 1) 0))
theorem maps_t3 (xs ys : List Int) (i : Nat) : t3 (maps xs ys i) = true := by
  induction i with
  | zero => exact mp_t3 _ _
  | succ i ih => exact thn_t3 ih (mp_t3 _ _)
theorem maps_crr {xs ys : List Int} (hx : isW xs = true) (hy : isW ys = true) {c : Int} (hc : -1 ≤ c ∧ c ≤ 1) (i : Nat) : maps xs ys i (c + 1).toNat = crr xs ys c (i + 1) := by
  induction i with
  | zero => rw [maps, mp_at _ _ _ hc.1]; rfl
  | succ i ih => rw [maps, thn_at (maps_t3 xs ys i) (mp_t3 _ _), ih, mp_at _ _ _ (crr_bd hx hy hc (i + 1)).1]; rfl
/-- Redundant sums. -/
theorem trs_bd {xs ys : List Int} (hx : ∀ x ∈ xs, -2 ≤ x ∧ x ≤ 2) (hy : ∀ x ∈ ys, -2 ≤ x ∧ x ≤ 2) (i : Nat) : -1 ≤ trs xs ys i ∧ trs xs ys i ≤ 1 ∧ -1 ≤ xs.getD i 0 + ys.getD i 0 - 3 * trs xs ys i ∧ xs.getD i 0 + ys.getD i 0 - 3 * trs xs ys i ≤ 1 := by
  have a := dig_at hx i
  have b := dig_at hy i
  unfold trs
  repeat' split
  all_goals omega
theorem blw_bd {xs ys : List Int} (hx : ∀ x ∈ xs, -2 ≤ x ∧ x ≤ 2) (hy : ∀ x ∈ ys, -2 ≤ x ∧ x ≤ 2) (i : Nat) : -1 ≤ blw xs ys i ∧ blw xs ys i ≤ 1 := by
  cases i with
  | zero => simp [blw]
  | succ i => have := trs_bd hx hy i; exact ⟨this.1, this.2.1⟩
theorem dgt_bd {xs ys : List Int} (hx : ∀ x ∈ xs, -2 ≤ x ∧ x ≤ 2) (hy : ∀ x ∈ ys, -2 ≤ x ∧ x ≤ 2) (i : Nat) : -2 ≤ dgt xs ys i ∧ dgt xs ys i ≤ 2 := by
  have a := trs_bd hx hy i
  have b := blw_bd hx hy i
  unfold dgt
  omega
theorem dgt_val (xs ys : List Int) (i : Nat) : val (genL i (dgt xs ys)) + pow3 i * blw xs ys i = val (genL i fun j => xs.getD j 0) + val (genL i fun j => ys.getD j 0) := by
  induction i with
  | zero => simp [val_gen0, blw]
  | succ i ih =>
    rw [val_gen, val_gen, val_gen, pow3_succ, blw, dgt]
    have e : pow3 i * (xs.getD i 0 + ys.getD i 0 - 3 * trs xs ys i + blw xs ys i) = pow3 i * xs.getD i 0 + pow3 i * ys.getD i 0 - 3 * pow3 i * trs xs ys i + pow3 i * blw xs ys i := by
      rw [Int.mul_add, Int.mul_sub, Int.mul_add, Int.mul_comm 3 (pow3 i), Int.mul_assoc]
    omega
theorem rad_val {xs ys : List Int} (h : xs.length = ys.length) : val (genL (xs.length + 1) (dgt xs ys)) = val xs + val ys := by
  have := dgt_val xs ys (xs.length + 1)
  have z : blw xs ys (xs.length + 1) = 0 := by simp [blw, trs, h]
  have ex : ∀ zs : List Int, val (genL (zs.length + 1) fun j => zs.getD j 0) = val zs := by
    intro zs
    rw [val_gen, genL_self]; simp
  have ex1 := ex xs
  have ex2 := ex ys
  rw [← h] at ex2
  rw [z, ex1, ex2] at this
  omega
theorem isR_gen {n : Nat} {g : Nat → Int} (h1 : 1 ≤ n) (h2 : n ≤ 30) (h : ∀ i, -2 ≤ g i ∧ g i ≤ 2) : isR (genL n g) = true := by
  rw [isR_iff]
  refine ⟨fun x hx => ?_, by rw [genL_length]; exact h1, by rw [genL_length]; exact h2⟩
  obtain ⟨i, _, rfl⟩ := List.mem_map.1 hx
  exact h i
theorem isR_rad {xs ys : List Int} (h : radOk xs ys = true) : isR (rad xs ys) = true ∧ (rad xs ys).length = xs.length + 1 := by
  rw [rad, if_pos h]
  rw [radOk, Bool.and_eq_true, Bool.and_eq_true, isR_iff, isR_iff, decide_eq_true_eq] at h
  exact ⟨isR_gen (by omega) (by omega) (dgt_bd h.1.1.1 h.1.2.1), genL_length _ _⟩
/-- A digit depends on two places alone. -/
theorem dgt_local {xs zs ys : List Int} {j : Nat} (h1 : xs.getD j 0 = zs.getD j 0) (h2 : ∀ i, j = i + 1 → xs.getD i 0 = zs.getD i 0) : dgt xs ys j = dgt zs ys j := by
  rw [dgt, dgt, h1, trs, trs, h1]
  cases j with
  | zero => rfl
  | succ i => rw [blw, blw, trs, trs, h2 i rfl]
end Tm
end Go.Proofs.Ytkphbnejnilehaa

/- Plain facts on carries found ahead, in rounds that double their reach: no program, no world. -/
import Derived.Test.YtlbhekfjcbcpaaaAMath
namespace Go.Proofs.Ytlbhekfjcbcpaaa
set_option maxRecDepth 20000
namespace Tm
/-- The carry behind m places from lo on. -/
def run (xs ys : List Int) (lo : Nat) (c : Int) : Nat → Int
  | 0 => c
  | m + 1 => full2 (xs.getD (lo + m) 0) (ys.getD (lo + m) 0) (run xs ys lo c m)
theorem run_bd {xs ys : List Int} (hx : isW xs = true) (hy : isW ys = true) (lo : Nat) {c : Int} (hc : -1 ≤ c ∧ c ≤ 1) (m : Nat) : -1 ≤ run xs ys lo c m ∧ run xs ys lo c m ≤ 1 := by
  induction m with
  | zero => exact hc
  | succ m ih => have := full_spec (isW_at hx (lo + m)) (isW_at hy (lo + m)) ih; exact ⟨this.2.2.1, this.2.2.2.1⟩
theorem run_add (xs ys : List Int) (lo : Nat) (c : Int) (j k : Nat) : run xs ys lo c (j + k) = run xs ys (lo + j) (run xs ys lo c j) k := by
  induction k with
  | zero => rfl
  | succ k ih => rw [← Nat.add_assoc, run, run, ih, Nat.add_assoc]
theorem run_crr (xs ys : List Int) (c : Int) (m : Nat) : run xs ys 0 c m = crr xs ys c m := by
  induction m with
  | zero => rfl
  | succ m ih => rw [run, crr, ih, Nat.zero_add]
/-- The map of place i and of at most r - 1 places below it. -/
def ahd (xs ys : List Int) (r i j : Nat) : Int := run xs ys (i + 1 - min r (i + 1)) ((j : Int) - 1) (min r (i + 1))
theorem ahd_one (xs ys : List Int) (i j : Nat) : ahd xs ys 1 i j = mp (xs.getD i 0) (ys.getD i 0) j := by
  rw [ahd, show min 1 (i + 1) = 0 + 1 from by omega, run, run, mp]; rfl
theorem ahd_t3 {xs ys : List Int} (hx : isW xs = true) (hy : isW ys = true) (r i : Nat) : t3 (ahd xs ys r i) = true := by
  rw [t3_iff]
  exact ⟨run_bd hx hy _ (by omega) _, run_bd hx hy _ (by omega) _, run_bd hx hy _ (by omega) _⟩
theorem ahd_twice {xs ys : List Int} (hx : isW xs = true) (hy : isW ys = true) {r i : Nat} (h : r ≤ i) {j : Nat} (hj : j < 3) : thn (ahd xs ys r (i - r)) (ahd xs ys r i) j = ahd xs ys (2 * r) i j := by
  rw [thn_at (ahd_t3 hx hy _ _) (ahd_t3 hx hy _ _)]
  have b : -1 ≤ ahd xs ys r (i - r) j ∧ ahd xs ys r (i - r) j ≤ 1 := run_bd hx hy _ (by omega) _
  obtain ⟨c, hc⟩ : ∃ c, c = ahd xs ys r (i - r) j := ⟨_, rfl⟩
  rw [← hc] at b ⊢
  rw [ahd, show (((c + 1).toNat : Nat) : Int) - 1 = c from by omega, hc]
  have m1 : min r (i + 1) = r := by omega
  have m2 : min (2 * r) (i + 1) = min r (i - r + 1) + r := by omega
  rw [ahd, ahd, m1, m2, run_add]
  congr 1
  · omega
  · congr 1; omega
theorem ahd_low (xs ys : List Int) {r i : Nat} (h : i < r) (j : Nat) : ahd xs ys (2 * r) i j = ahd xs ys r i j := by
  rw [ahd, ahd, show min (2 * r) (i + 1) = i + 1 from by omega, show min r (i + 1) = i + 1 from by omega]
theorem ahd_all (xs ys : List Int) {r i : Nat} (h : i < r) {c : Int} (hc : -1 ≤ c) : ahd xs ys r i (c + 1).toNat = crr xs ys c (i + 1) := by
  rw [ahd, show min r (i + 1) = i + 1 from by omega, show (((c + 1).toNat : Nat) : Int) - 1 = c from by omega, Nat.sub_self, run_crr]
theorem ahd_top (xs ys : List Int) {m k q : Nat} (h : q < k) (h2 : k ≤ m) (j : Nat) : ahd xs ys m q j = ahd xs ys k q j := by
  rw [ahd, ahd, show min m (q + 1) = q + 1 from by omega, show min k (q + 1) = q + 1 from by omega]
theorem thn_congr {f g f' g' : Nat → Int} (hf : ∀ j, j < 3 → f j = f' j) (hg : ∀ j, j < 3 → g j = g' j) (h1 : t3 f' = true) (h2 : t3 g' = true) : t3 f = true ∧ t3 g = true ∧ ∀ j, j < 3 → thn f g j = thn f' g' j := by
  have a : t3 f = true := by rw [t3, hf 0 (by omega), hf 1 (by omega), hf 2 (by omega)]; exact h1
  have b : t3 g = true := by rw [t3, hg 0 (by omega), hg 1 (by omega), hg 2 (by omega)]; exact h2
  refine ⟨a, b, fun j hj => ?_⟩
  have := t3_at h1 hj
  rw [thn_at a b, thn_at h1 h2, hf j hj]
  exact hg _ (by omega)
end Tm
/-- Maps laid one behind another. -/
def catM (F : Nat → Nat → Int) (q : Nat) : Int := F (q / 3) (q % 3)
def updM (F : Nat → Nat → Int) (k : Nat) (f : Nat → Int) : Nat → Nat → Int := fun i => if i = k then f else F i
theorem updM_at (F : Nat → Nat → Int) (k : Nat) (f : Nat → Int) : updM F k f k = f := if_pos rfl
theorem updM_ne (F : Nat → Nat → Int) (k : Nat) (f : Nat → Int) {i : Nat} (h : i ≠ k) : updM F k f i = F i := if_neg h
theorem catM_upd (F : Nat → Nat → Int) (k : Nat) (f : Nat → Int) : upd (upd (upd (catM F) (k * 3) (f 0)) (k * 3 + 1) (f 1)) (k * 3 + 2) (f 2) = catM (updM F k f) := by
  funext q
  simp only [upd, catM, updM]
  by_cases h : q / 3 = k
  · rw [if_pos h]
    rcases (show q = k * 3 ∨ q = k * 3 + 1 ∨ q = k * 3 + 2 by omega) with e | e | e
    · rw [if_neg (by omega), if_neg (by omega), if_pos e, show q % 3 = 0 from by omega]
    · rw [if_neg (by omega), if_pos e, show q % 3 = 1 from by omega]
    · rw [if_pos e, show q % 3 = 2 from by omega]
  · rw [if_neg h, if_neg (by omega), if_neg (by omega), if_neg (by omega)]
theorem catM_at (F : Nat → Nat → Int) (k j : Nat) (h : j < 3) : catM F (k * 3 + j) = F k j := by
  rw [catM, show (k * 3 + j) / 3 = k from by omega, show (k * 3 + j) % 3 = j from by omega]
end Go.Proofs.Ytlbhekfjcbcpaaa

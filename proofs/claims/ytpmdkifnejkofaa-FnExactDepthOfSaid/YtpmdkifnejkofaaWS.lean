/- Contracts of the model's functions of words. -/
import Derived.Test.YtpmdkifnejkofaaTr
import Derived.Test.YtpmdkifnejkofaaRow
import Derived.Test.YtpmdkifnejkofaaWMath
namespace Go.Proofs.Ytpmdkifnejkofaa
set_option maxRecDepth 20000
open Go.RowKit
namespace Tm
/-- The first k are trits. -/
def AllT (xs : List Int) (k : Nat) : Prop := ∀ j, j < k → isT (xs.getD j 0) = true
theorem AllT_zero (xs : List Int) : AllT xs 0 := fun j h => by omega
theorem AllT_succ {xs : List Int} {k : Nat} (h : AllT xs k) (hk : k < xs.length) (ht : (!isT xs[k]) = false) : AllT xs (k + 1) := by
  intro j hj
  by_cases e : j = k
  · subst e; rw [← getD_at xs j hk]; simpa using ht
  · exact h j (by omega)
theorem isW_no {xs : List Int} {k : Nat} (hk : k < xs.length) (ht : (!isT xs[k]) = true) : isW xs = false := by
  simp only [Bool.not_eq_true'] at ht
  cases e : isW xs with
  | false => rfl
  | true =>
    have := isW_at e k
    rw [← getD_at xs k hk] at this
    rw [(isT_iff _).2 this] at ht
    cases ht
theorem isW_all {xs : List Int} (h : AllT xs xs.length) : isW xs = decide (1 ≤ xs.length ∧ xs.length ≤ 30) := by
  have : xs.all isT = true := by
    rw [List.all_eq_true]
    intro x hx
    obtain ⟨j, hj, rfl⟩ := List.getElem_of_mem hx
    have := h j hj
    rwa [← getD_at xs j hj] at this
  rw [isW, this, Bool.true_and]
end Tm
namespace Tm
/-- What is left of n behind i trits. -/
def remN (n : Int) : Nat → Int
  | 0 => n
  | i + 1 => remN ((n - low n) / 3) i
theorem remN_succ (n : Int) (i : Nat) : remN n (i + 1) = (remN n i - low (remN n i)) / 3 := by
  induction i generalizing n with
  | zero => rfl
  | succ i ih => rw [remN, ih, remN]
theorem remN_bd (n : Int) (h : -102945566047324 ≤ n ∧ n ≤ 102945566047324) (i : Nat) : -102945566047324 ≤ remN n i ∧ remN n i ≤ 102945566047324 := by
  induction i with
  | zero => exact h
  | succ i ih => rw [remN_succ]; have := low_bd (remN n i); omega
theorem wordL_take (n : Int) (k i : Nat) (h : i < k) : (wordL n k).take (i + 1) = (wordL n k).take i ++ [low (remN n i)] := by
  induction i generalizing n k with
  | zero => cases k with
    | zero => omega
    | succ k => rfl
  | succ i ih => cases k with
    | zero => omega
    | succ k => rw [wordL, List.take_succ_cons, ih _ _ (by omega), List.take_succ_cons, remN]; rfl
def preW (n : Int) (k i : Nat) : List Value := ((wordL n k).take i).map (Value.int .i64)
theorem preW_succ (n : Int) (k i : Nat) (h : i < k) : preW n k i ++ [Value.int .i64 (low (remN n i))] = preW n k (i + 1) := by
  rw [preW, preW, wordL_take _ _ _ h, List.map_append]; rfl
theorem preW_all (n : Int) (k : Nat) : preW n k k = (wordL n k).map (Value.int .i64) := by
  rw [preW, List.take_of_length_le (by rw [wordL_length]; exact Nat.le_refl _)]
theorem div3 (m : Int) (h : m % 3 = 0) : m.tdiv 3 = m / 3 := by
  obtain ⟨q, rfl⟩ := Int.dvd_of_emod_eq_zero h
  rw [Int.mul_tdiv_cancel_left _ (by decide), Int.mul_ediv_cancel_left _ (by decide)]
end Tm
namespace Tm
def lenFrom (n : Int) : Nat → Int → Int
  | 0, _ => 0
  | f + 1, k => if inB n (-lim k) (lim k) then k else lenFrom n f (k + 1)
/-- The least number of trits. -/
def lenOf (n : Int) : Int := lenFrom n 30 1
end Tm
end Go.Proofs.Ytpmdkifnejkofaa

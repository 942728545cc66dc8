/- The model's divisors, powers, fractions. -/
import Derived.Test.YtgfgndfklonhfaaPS
namespace Go.Proofs.Ytgfgndfklonhfaa
set_option maxRecDepth 20000
open Go.RowKit
namespace Tm
theorem pow_word {xs : List Int} {n : Int} (hx : isW xs = true) (h0 : 0 ≤ n) : powW xs n = word (val xs ^ n.toNat) 30 ∧ powOk xs n = wordOk (val xs ^ n.toNat) 30 := by
  have e : powOk xs n = wordOk (val xs ^ n.toNat) 30 := by
    rw [Bool.eq_iff_iff, powOk_iff, wordOk, decide_eq_true_eq, show lim 30 = 102945566047324 from by decide]
    constructor
    · rintro ⟨-, -, a, b⟩; exact ⟨by omega, by omega, by omega, b⟩
    · rintro ⟨-, -, a, b⟩; exact ⟨hx, h0, by omega, b⟩
  refine ⟨?_, e⟩
  rw [powW, word, e]
  rfl
theorem one_pow (n : Nat) : (1 : Int) ^ n = 1 := Int.one_pow
theorem zero_pow {n : Nat} (h : 0 < n) : (0 : Int) ^ n = 0 := by
  obtain ⟨m, rfl⟩ : ∃ m, n = m + 1 := ⟨n - 1, by omega⟩
  rw [Int.pow_succ, Int.mul_zero]
theorem neg_pow (n : Nat) : (-1 : Int) ^ n = 1 - 2 * ((n : Int).tmod 2) := by
  induction n with
  | zero => rfl
  | succ n ih =>
    rw [Int.pow_succ, ih, Int.tmod_eq_emod_of_nonneg (by omega), Int.tmod_eq_emod_of_nonneg (by omega)]; omega
theorem pow_up {x : Int} (h : 2 ≤ absI x) (k m : Nat) : absI (x ^ k) ≤ absI (x ^ (k + m)) := by
  induction m with
  | zero => exact Int.le_refl _
  | succ m ih =>
    rw [← Nat.add_assoc, Int.pow_succ, abs_mul]
    have a := absI_abs (x ^ (k + m))
    have := Int.mul_le_mul_of_nonneg_left (show 1 ≤ absI x by omega) a.2
    omega
theorem pow_least {x : Int} (h : 2 ≤ absI x) (i : Nat) : (i : Int) + 1 ≤ absI (x ^ i) := by
  induction i with
  | zero => rw [Int.pow_zero]; decide
  | succ i ih =>
    rw [Int.pow_succ, abs_mul]
    have := Int.mul_le_mul_of_nonneg_left h (absI_abs (x ^ i)).2
    omega
end Tm
end Go.Proofs.Ytgfgndfklonhfaa

/- Plain facts: all numbers of single precision that floats are made to. -/
import Derived.Test.YtkphbnejnilehaaFSing
namespace Go.Proofs.Ytkphbnejnilehaa
open Go.RowKit
namespace Tm
def posOk (i : Nat) : Bool := chk mulT 20 (floatOfInt .f64 ((122 + i : Nat) : Int)) && chk divT 20 (floatOfInt .f64 ((122 + i : Nat) : Int))
set_option maxRecDepth 100000 in
theorem pos_all : (List.range 243).all posOk = true := by decide +kernel
theorem pos_ok {n : Nat} (h1 : 122 ≤ n) (h2 : n ≤ 364) : chk mulT 20 (floatOfInt .f64 (n : Int)) = true ∧ chk divT 20 (floatOfInt .f64 (n : Int)) = true := by
  have := List.all_eq_true.1 pos_all (n - 122) (by simp; omega)
  rw [posOk, show 122 + (n - 122) = n by omega, Bool.and_eq_true] at this
  exact this
theorem zero_ok : chk mulT 0 (floatOfInt .f64 0) = true ∧ chk divT 0 (floatOfInt .f64 0) = true := by decide +kernel
theorem chk_less {f : Nat → Option Nat} {k x : Nat} (h : chk f k x = true) (j : Nat) (hj : j ≤ k) : chk f j x = true := by
  induction k generalizing x j with
  | zero => obtain rfl : j = 0 := by omega
            exact h
  | succ k ih =>
    rw [chk, Bool.and_eq_true] at h
    cases j with
    | zero => exact h.1
    | succ j =>
      rw [chk, Bool.and_eq_true]
      refine ⟨h.1, ?_⟩
      have h2 := h.2
      split at h2
      · cases h2
      · exact ih h2 j (by omega)
/-- Of each valid float. -/
theorem float_ok {xs : List Int} {e : Int} (h : isF xs e = true) : (0 ≤ e → chk mulT e.toNat (floatOfInt .f64 (val xs)) = true) ∧ (e ≤ 0 → chk divT (-e).toNat (floatOfInt .f64 (val xs)) = true) := by
  have hb := ((isF_iff _ _).1 h).2.2.1
  rcases isF_big h with ⟨v0, -, e0⟩ | ⟨-, v1, v2⟩
  · subst e0
    rw [v0]
    exact ⟨fun _ => zero_ok.1, fun _ => zero_ok.2⟩
  · have a := absI_abs (val xs)
    obtain ⟨n, hn⟩ : ∃ n : Nat, absI (val xs) = n := ⟨(absI (val xs)).toNat, by omega⟩
    have p := pos_ok (n := n) (by omega) (by omega)
    rcases a.1 with c | c
    · rw [show val xs = (n : Int) by omega]
      exact ⟨fun _ => chk_less p.1 _ (by omega), fun _ => chk_less p.2 _ (by omega)⟩
    · have q := int_neg (n := n) (by omega)
      rw [show val xs = -(n : Int) by omega, q.1]
      exact ⟨fun _ => chk_less (chk_neg odd_mul 20 q.2 p.1).1 _ (by omega), fun _ => chk_less (chk_neg odd_div 20 q.2 p.2).1 _ (by omega)⟩
end Tm
end Go.Proofs.Ytkphbnejnilehaa

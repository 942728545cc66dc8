/- The laws' own small functions, and what they draw. -/
import Derived.Test.YtlpdeeaebgclpaaDoorDraw
import Derived.Test.YtlpdeeaebgclpaaDoorRow
namespace Go.Proofs.YtlpdeeaebgclpaaDoor
set_option maxRecDepth 20000
open Go.RowKit
namespace Tm
def absI (x : Int) : Int := if 0 ≤ x then x else -x
end Tm
/-- A new word. -/
def NewW (p : List Int → Prop) (w : World) (e : Ending) (w' : World) : Prop :=
  ∃ (xs : List Int) (b : Option Addr) (c : Nat), e = .returned (.slice b xs.length c) ∧ Tm.isW xs = true ∧ p xs ∧ w'.ownsRow w.heap.size 3 1 (.slice b xs.length c) xs.length (xs.map (Value.int .i64)) ∧ Below w.heap.size w w'
namespace Tm
def pow3 (k : Nat) : Int := 3 ^ k
theorem pow3_succ (k : Nat) : pow3 (k + 1) = 3 * pow3 k := by simp [pow3, Int.pow_succ]; omega
theorem pow3_pos (k : Nat) : 0 < pow3 k := by induction k with
  | zero => simp [pow3]
  | succ k ih => rw [pow3_succ]; omega
theorem pow3_le {a b : Nat} (h : a ≤ b) : pow3 a ≤ pow3 b := by
  induction b with
  | zero => have : a = 0 := by omega
            subst this; exact Int.le_refl _
  | succ b ih =>
    by_cases e : a = b + 1
    · subst e; exact Int.le_refl _
    · have := ih (by omega); have := pow3_pos b; rw [pow3_succ]; omega
theorem pow3_30 : pow3 30 = 205891132094649 := by rfl
end Tm
namespace Tm
theorem tri_at {k : Nat} (h : k < 3) : isT (([-1, 0, 1] : List Int).getD k 0) = true := by
  match k, h with
  | 0, _ | 1, _ | 2, _ => rfl
end Tm
end Go.Proofs.YtlpdeeaebgclpaaDoor

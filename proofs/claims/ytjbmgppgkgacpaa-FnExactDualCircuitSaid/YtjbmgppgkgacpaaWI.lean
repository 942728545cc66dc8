/- Contracts of the program's functions of words. -/
import Derived.Test.YtjbmgppgkgacpaaWS4
import Derived.Test.YtjbmgppgkgacpaaFill
namespace Go.Proofs.Ytjbmgppgkgacpaa
set_option maxRecDepth 20000
open Go.RowKit
namespace Tm
theorem sp1_low (n : Int) : sp1 (n.tmod 3) = low n := by rw [low_tmod]; rfl
theorem sp2_low (n : Int) : n.tdiv 3 + sp2 (n.tmod 3) = (n - low n) / 3 := by
  have h := Int.tmod_add_mul_tdiv n 3
  have b := tmod3_bd n
  rw [low_tmod]
  simp only [sp2]
  generalize n.tmod 3 = t at *
  generalize n.tdiv 3 = q at *
  split
  · omega
  · split <;> omega
theorem wordL_get (n : Int) (k i : Nat) (h : i < k) : (wordL n k).getD i 0 = low (remN n i) := by
  induction i generalizing n k with
  | zero => cases k with
    | zero => omega
    | succ k => rfl
  | succ i ih => cases k with
    | zero => omega
    | succ k => rw [wordL, remN, ← ih _ k (by omega)]; rfl
end Tm
end Go.Proofs.Ytjbmgppgkgacpaa

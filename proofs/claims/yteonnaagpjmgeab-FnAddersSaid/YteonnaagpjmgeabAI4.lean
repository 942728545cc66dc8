/- The program's next word; its redundant numbers. -/
import Derived.Test.YteonnaagpjmgeabAI1
import Derived.Deep.QuietTactic
import Derived.Test.YteonnaagpjmgeabAS3
namespace Go.Proofs.Yteonnaagpjmgeab
open Go.RowKit
namespace Tm
theorem sp_trs (xs ys : List Int) (i : Nat) (s : Int) (hs : s = xs.getD i 0 + ys.getD i 0) : sp2 s = trs xs ys i ∧ sp1 s = s - 3 * trs xs ys i := by
  subst hs
  rw [sp1, sp2, trs]
  repeat' split
  all_goals first | omega | exact ⟨rfl, by omega⟩
theorem dgt_end {xs ys : List Int} (h : xs.length = ys.length) : dgt xs ys xs.length = blw xs ys xs.length := by
  simp [dgt, trs, h]
end Tm
end Go.Proofs.Yteonnaagpjmgeab

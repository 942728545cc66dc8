/- The model's adders, on. -/
import Derived.Test.YtehdmecehpacgaaAS
import Derived.Test.YtehdmecehpacgaaDraw
namespace Go.Proofs.Ytehdmecehpacgaa
open Go.RowKit
theorem own_shape {w : World} {B e n : Nat} {v : Value} {xs : List Value} (h : w.ownsRow B e 1 v (n + 1) xs) : ∃ g cap, v = .slice (some ⟨g, 0, none⟩) (n + 1) cap ∧ n + 1 ≤ cap ∧ cap ≤ maxLen := by
  rcases h.2 with ⟨_, e2⟩ | ⟨g, cap, cur, e1, _, _, h4, h5, _⟩
  · omega
  · exact ⟨g, cap, e1, h4, h5⟩
end Go.Proofs.Ytehdmecehpacgaa

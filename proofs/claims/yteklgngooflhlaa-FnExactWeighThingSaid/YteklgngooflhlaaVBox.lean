/- Variables of two cells that lie in memory. -/
import Derived.Test.YteklgngooflhlaaGBox
namespace Go.Proofs.Yteklgngooflhlaa
set_option maxRecDepth 20000
open Go.RowKit
/-- Block p holds two cells. -/
def Box2 (w : World) (p : Nat) (v0 v1 : Value) : Prop := p < w.heap.size ∧ w.cell? ⟨p, 0, none⟩ = some v0 ∧ w.cell? ⟨p, 1, none⟩ = some v1
theorem Box2.same {w w' : World} {p : Nat} {v0 v1 : Value} (h : Box2 w p v0 v1) (hs : w.heap.size ≤ w'.heap.size) (hb : w'.heap[p]? = w.heap[p]?) : Box2 w' p v0 v1 :=
  ⟨Nat.lt_of_lt_of_le h.1 hs, by rw [← h.2.1]; exact World.cell?_of_block (a := ⟨p, 0, none⟩) hb, by rw [← h.2.2]; exact World.cell?_of_block (a := ⟨p, 1, none⟩) hb⟩
theorem Box2.below {w w' : World} {p : Nat} {v0 v1 : Value} (h : Box2 w p v0 v1) (hb : Below w.heap.size w w') : Box2 w' p v0 v1 := h.same hb.size (hb.block p h.1)
theorem Box2.turn {w w' : World} {p B E : Nat} {v0 v1 : Value} (h : Box2 w p v0 v1) (ht : TurnF B E w w') (hd : p < B ∨ E ≤ p) : Box2 w' p v0 v1 := h.same ht.size (ht.block p h.1 (by omega))
theorem box2_new (w : World) (v0 v1 : Value) (t : TypeId) : Box2 (w.alloc (.cells #[v0, v1] t)) w.heap.size v0 v1 := by
  refine ⟨by simp, ?_, ?_⟩ <;> simp
/-- A variable's box, just made. -/
theorem box2_of {w W' : World} {v0 v1 : Value} {t : TypeId} (h : w.alloc (.cells #[v0, v1] t) = W') : Box2 W' w.heap.size v0 v1 ∧ Below w.heap.size w W' := by
  subst h; exact ⟨box2_new _ _ _ _, (Below.refl _ _).alloc (Nat.le_refl _) _⟩
end Go.Proofs.Yteklgngooflhlaa

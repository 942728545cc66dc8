/- Variables that lie in memory: boxes of three cells; how they stay. -/
import Derived.Test.YteklgngooflhlaaGen
namespace Go.Proofs.Yteklgngooflhlaa
set_option maxRecDepth 20000
open Go.RowKit
/-- Block p holds three cells. -/
def Box3 (w : World) (p : Nat) (v0 v1 v2 : Value) : Prop := p < w.heap.size ∧ w.cell? ⟨p, 0, none⟩ = some v0 ∧ w.cell? ⟨p, 1, none⟩ = some v1 ∧ w.cell? ⟨p, 2, none⟩ = some v2
theorem Box3.same {w w' : World} {p : Nat} {v0 v1 v2 : Value} (h : Box3 w p v0 v1 v2) (hs : w.heap.size ≤ w'.heap.size) (hb : w'.heap[p]? = w.heap[p]?) : Box3 w' p v0 v1 v2 :=
  ⟨Nat.lt_of_lt_of_le h.1 hs, by rw [← h.2.1]; exact World.cell?_of_block (a := ⟨p, 0, none⟩) hb, by rw [← h.2.2.1]; exact World.cell?_of_block (a := ⟨p, 1, none⟩) hb, by rw [← h.2.2.2]; exact World.cell?_of_block (a := ⟨p, 2, none⟩) hb⟩
theorem Box3.below {w w' : World} {p : Nat} {v0 v1 v2 : Value} (h : Box3 w p v0 v1 v2) (hb : Below w.heap.size w w') : Box3 w' p v0 v1 v2 := h.same hb.size (hb.block p h.1)
theorem Box3.turn {w w' : World} {p B E : Nat} {v0 v1 v2 : Value} (h : Box3 w p v0 v1 v2) (ht : TurnF B E w w') (hd : p < B ∨ E ≤ p) : Box3 w' p v0 v1 v2 := h.same ht.size (ht.block p h.1 (by omega))
theorem box3_new (w : World) (v0 v1 v2 : Value) (t : TypeId) : Box3 (w.alloc (.cells #[v0, v1, v2] t)) w.heap.size v0 v1 v2 := by
  refine ⟨by simp, ?_, ?_, ?_⟩ <;> simp
/-- A variable's box, just made. -/
theorem box3_of {w W' : World} {v0 v1 v2 : Value} {t : TypeId} (h : w.alloc (.cells #[v0, v1, v2] t) = W') : Box3 W' w.heap.size v0 v1 v2 ∧ Below w.heap.size w W' := by
  subst h; exact ⟨box3_new _ _ _ _ _, (Below.refl _ _).alloc (Nat.le_refl _) _⟩
/-- What a marking of numbers leaves. -/
theorem OwnI.marked {w w' : World} {B E e n : Nat} {a : Option Addr} {c : Nat} {xs : List Int} {x : Int} (h : OwnI w B E e (.slice a n c) xs) (ho : w'.ownsRow B e 1 (.slice a n c) n ((marks x n).map (Value.int .i64))) (hg : w.grownBy w' (Value.slice a n c).ownBlock) : OwnI w' B E e (.slice a n c) (marks x n) ∧ TurnF B E w w' :=
  ⟨⟨by rw [marks_length]; exact ho, h.2⟩, TurnF.of_grown (Below.refl _ _) hg fun k hk => h.lt k hk⟩
end Go.Proofs.Yteklgngooflhlaa

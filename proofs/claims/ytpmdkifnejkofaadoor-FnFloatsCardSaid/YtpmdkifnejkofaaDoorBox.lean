/- Variables that lie in memory: boxes of two cells; how they stay. -/
import Derived.Test.YtpmdkifnejkofaaDoorRowF
namespace Go.Proofs.YtpmdkifnejkofaaDoor
set_option maxRecDepth 20000
open Go.RowKit
/-- Block p holds two cells. -/
def Box (w : World) (p : Nat) (v0 v1 : Value) : Prop := p < w.heap.size ∧ w.cell? ⟨p, 0, none⟩ = some v0 ∧ w.cell? ⟨p, 1, none⟩ = some v1
theorem Box.same {w w' : World} {p : Nat} {v0 v1 : Value} (h : Box w p v0 v1) (hs : w.heap.size ≤ w'.heap.size) (hb : w'.heap[p]? = w.heap[p]?) : Box w' p v0 v1 :=
  ⟨Nat.lt_of_lt_of_le h.1 hs, by rw [← h.2.1]; exact World.cell?_of_block (a := ⟨p, 0, none⟩) hb, by rw [← h.2.2]; exact World.cell?_of_block (a := ⟨p, 1, none⟩) hb⟩
theorem Box.below {w w' : World} {p : Nat} {v0 v1 : Value} (h : Box w p v0 v1) (hb : Below w.heap.size w w') : Box w' p v0 v1 := h.same hb.size (hb.block p h.1)
theorem Box.turn {w w' : World} {p B E : Nat} {v0 v1 : Value} (h : Box w p v0 v1) (ht : TurnF B E w w') (hd : p < B ∨ E ≤ p) : Box w' p v0 v1 := h.same ht.size (ht.block p h.1 (by omega))
theorem box_new (w : World) (v0 v1 : Value) (t : TypeId) : Box (w.alloc (.cells #[v0, v1] t)) w.heap.size v0 v1 := by
  refine ⟨by simp, ?_, ?_⟩ <;> simp
theorem box_gw {w : World} {p : Nat} {v0 v1 : Value} (h : Box w p v0 v1) (q : Regrown) : Box (gw w q) p v0 v1 := h.below (below_gw (Below.refl _ _) (Nat.le_refl _) q)
/-- A variable's box, just made. -/
theorem box_of {w W' : World} {v0 v1 : Value} {t : TypeId} (h : w.alloc (.cells #[v0, v1] t) = W') : Box W' w.heap.size v0 v1 ∧ Below w.heap.size w W' := by
  subst h; exact ⟨box_new _ _ _ _, (Below.refl _ _).alloc (Nat.le_refl _) _⟩
/-- What a region leaves that calls for a float and lays it into a variable's box. -/
def Laid (a W : World) (pb e : Nat) (v : Value) (xs : List Int) (x : Int) : Prop :=
  ∃ B E, Box W pb v (.int .i64 x) ∧ OwnI W B E e v xs ∧ Below a.heap.size a W ∧ a.heap.size ≤ pb ∧ a.heap.size ≤ B ∧ B ≤ E ∧ E ≤ W.heap.size ∧ (pb < B ∨ E ≤ pb)
theorem laid_after {a A W' : World} {B e : Nat} {v : Value} {xs : List Int} {x : Int} {t : TypeId} (h : A.alloc (.cells #[v, .int .i64 x] t) = W') (o : A.ownsRow B e 1 v xs.length (xs.map (Value.int .i64)))
    (hb : Below a.heap.size a A) (h1 : a.heap.size ≤ B) (h2 : B ≤ A.heap.size) : Laid a W' A.heap.size e v xs x := by
  obtain ⟨bx, hc⟩ := box_of h
  have hs := hb.size
  have hz : W'.heap.size = A.heap.size + 1 := by rw [← h, World.size_alloc]
  exact ⟨B, A.heap.size, bx, (OwnI.of o).later hc (Nat.le_refl _), hb.trans (hc.mono hs), hs, h1, h2, by omega, .inr (Nat.le_refl _)⟩
theorem laid_before {a A W' : World} {o1 : Obj} {Q : Regrown} {B e : Nat} {v : Value} {xs : List Int} {x : Int} {t : TypeId} (h : gw (A.alloc (.cells #[v, .int .i64 x] t)) Q = W') (o : (gw (A.alloc o1) Q).ownsRow B e 1 v xs.length (xs.map (Value.int .i64)))
    (hb : Below a.heap.size a A) (h1 : A.heap.size + 1 ≤ B) (h2 : B ≤ (gw (A.alloc o1) Q).heap.size) : Laid a W' A.heap.size e v xs x := by
  subst h
  have hs := hb.size
  have hz : (gw (A.alloc (.cells #[v, .int .i64 x] t)) Q).heap.size = (gw (A.alloc o1) Q).heap.size := by rw [gw_size, gw_size, World.size_alloc, World.size_alloc]
  exact ⟨B, _, box_gw (box_new _ _ _ _) _, OwnI.of (own_gw o h1), below_gw (hb.alloc hs _) (by rw [World.size_alloc]; omega) _, hs, by omega, by omega, Nat.le_refl _, .inl (by omega)⟩
end Go.Proofs.YtpmdkifnejkofaaDoor

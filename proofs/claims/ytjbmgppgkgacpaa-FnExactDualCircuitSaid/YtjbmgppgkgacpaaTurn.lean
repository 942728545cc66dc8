/- How worlds stay, on: what a turn of some blocks leaves; what lies behind a world. -/
import Derived.Test.YtjbmgppgkgacpaaOwn2
import Derived.Test.YtjbmgppgkgacpaaRowL
namespace Go.Proofs.Ytjbmgppgkgacpaa
set_option maxRecDepth 20000
open Go.RowKit
/-- No blocks below but those from B to E - 1 have turned; there may be new ones. -/
structure TurnF (B E : Nat) (w w' : World) : Prop where
  os : w'.os = w.os
  tape : w'.tape = w.tape
  output : w'.output = w.output
  size : w.heap.size ≤ w'.heap.size
  block : ∀ k, k < w.heap.size → ¬ (B ≤ k ∧ k < E) → w'.heap[k]? = w.heap[k]?
theorem SameIn.of_turnF {B E B' E' : Nat} {w w' : World} (h : TurnF B' E' w w') (hE : E ≤ w.heap.size) (hd : E ≤ B' ∨ E' ≤ B) : SameIn B E w w' := ⟨h.size, fun k h1 h2 => h.block k (by omega) (by omega)⟩
theorem TurnF.below {B E C : Nat} {a w w' : World} (h : Below C a w) (k : TurnF B E w w') (hC : C ≤ B) (hs : C ≤ w.heap.size) : Below C a w' :=
  ⟨k.os.trans h.os, k.tape.trans h.tape, k.output.trans h.output, Nat.le_trans h.size k.size, fun j hj => (k.block j (by omega) (by omega)).trans (h.block j hj)⟩
theorem TurnF.of_grown {B E : Nat} {w w1 w' : World} {row : Option Nat} (hb : Below w.heap.size w w1) (h : w1.grownBy w' row) (hr : ∀ k, row = some k → B ≤ k ∧ k < E) : TurnF B E w w' :=
  ⟨h.os.trans hb.os, h.tape.trans hb.tape, h.output.trans hb.output, Nat.le_trans hb.size h.size, fun k h1 h2 => (h.block k (by have := hb.size; omega) (fun e => h2 (hr k e.symm))).trans (hb.block k h1)⟩
/-- Blocks that a world has behind another one: the one makes no difference to them. -/
theorem own_gwG {W1 W2 : World} {p : Regrown} {B e s n : Nat} {v : Value} {xs : List Value} (hs : W1.heap.size = W2.heap.size) (h : (gw W1 p).ownsRow B e s v n xs) (hB : W1.heap.size ≤ B) : (gw W2 p).ownsRow B e s v n xs :=
  own_stable h fun k hk => by
    have e : ∀ W : World, (gw W p).heap = W.heap ++ p.os := fun W => rfl
    have := (h.lt k hk).1
    rw [e, e, Array.getElem?_append_right (by omega), Array.getElem?_append_right (by omega), hs]
/-- A cell of the call's own that holds the result: what it holds makes no difference to the blocks behind it. -/
theorem gw_alloc_heap (w : World) (o1 o2 : Obj) (p : Regrown) (k : Nat) (h : k ≠ w.heap.size) : (gw (w.alloc o2) p).heap[k]? = (gw (w.alloc o1) p).heap[k]? := by
  have e : ∀ o : Obj, (gw (w.alloc o) p).heap = (w.heap.push o) ++ p.os := fun o => rfl
  rw [e, e]
  rcases Nat.lt_or_ge k w.heap.size with c | c
  · rw [Array.getElem?_append_left (by simp; omega), Array.getElem?_append_left (by simp; omega), Array.getElem?_push_lt c, Array.getElem?_push_lt c]
  · rw [Array.getElem?_append_right (by simp; omega), Array.getElem?_append_right (by simp; omega)]; simp
theorem own_gw {w : World} {o1 o2 : Obj} {p : Regrown} {B e s n : Nat} {v : Value} {xs : List Value} (h : (gw (w.alloc o1) p).ownsRow B e s v n xs) (hB : w.heap.size + 1 ≤ B) : (gw (w.alloc o2) p).ownsRow B e s v n xs :=
  own_stable h fun k hk => gw_alloc_heap w o1 o2 p k (by have := (h.lt k hk).1; omega)
theorem OwnI.later {w w' : World} {B E e : Nat} {v : Value} {xs : List Int} (h : OwnI w B E e v xs) (hb : Below w.heap.size w w') (hE : E ≤ w.heap.size) : OwnI w' B E e v xs := h.stay (SameIn.of_below hb hE)
theorem below_gc {B : Nat} {a W : World} {p : Regrown} (h : Below B a (gw W p)) (hB : B ≤ (gw W p).heap.size) (q : Regrown) : Below B a (gw W (gcat p q)) := by
  rw [← gw_gw]; exact below_gw h hB q
theorem below_gd {B : Nat} {a W : World} {p : Regrown} (h : Below B a (gw W p)) (n : Nat) : Below B a (gw W (gdraw p n)) := by
  rw [← gw_drewN]; exact below_drewN h n
theorem le_gc {n : Nat} {W : World} {p : Regrown} (h : n ≤ (gw W p).heap.size) (q : Regrown) : n ≤ (gw W (gcat p q)).heap.size := by
  rw [← gw_gw]; exact le_gw h q
theorem le_gd {n : Nat} {W : World} {p : Regrown} (h : n ≤ (gw W p).heap.size) (k : Nat) : n ≤ (gw W (gdraw p k)).heap.size := by
  rw [← gw_drewN]; exact h
theorem later_key {G Q : Prop} (main : Hid G → Q) (pf : G) : Q := main (Lib.hid pf)
end Go.Proofs.Ytjbmgppgkgacpaa

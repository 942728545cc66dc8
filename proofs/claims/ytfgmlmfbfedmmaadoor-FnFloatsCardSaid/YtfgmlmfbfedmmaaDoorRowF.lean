/- Floats as arguments and results: the contracts of the laws' own functions on them. -/
import Derived.Test.YtfgmlmfbfedmmaaDoorFS
import Derived.Test.YtfgmlmfbfedmmaaDoorOwn2
import Derived.Test.YtfgmlmfbfedmmaaDoorRowL
namespace Go.Proofs.YtfgmlmfbfedmmaaDoor
set_option maxRecDepth 20000
open Go.RowKit
/-- No blocks below but those from B to E - 1 have turned; there may be new ones. -/
structure TurnF (B E : Nat) (w w' : World) : Prop where
  os : w'.os = w.os
  tape : w'.tape = w.tape
  output : w'.output = w.output
  size : w.heap.size ≤ w'.heap.size
  block : ∀ k, k < w.heap.size → ¬ (B ≤ k ∧ k < E) → w'.heap[k]? = w.heap[k]?
theorem SameIn.of_turnF {B E B' E' : Nat} {w w' : World} (h : TurnF B' E' w w') (hE : E ≤ w.heap.size) (hd : E ≤ B' ∨ E' ≤ B) : SameIn B E w w' := ⟨h.size, fun k h1 h2 => h.block k (by omega) (by omega)⟩
theorem TurnF.below {B E C : Nat} {a w w' : World} (h : Below C a w) (k : TurnF B E w w') (hC : C ≤ B) (hs : C ≤ w.heap.size) : Below C a w' :=
  ⟨k.os.trans h.os, k.tape.trans h.tape, k.output.trans h.output, Nat.le_trans h.size k.size, fun j hj => (k.block j (by omega) (by omega)).trans (h.block j hj)⟩
theorem TurnF.of_grown {B E : Nat} {w w1 w' : World} {row : Option Nat} (hb : Below w.heap.size w w1) (h : w1.grownBy w' row) (hr : ∀ k, row = some k → B ≤ k ∧ k < E) : TurnF B E w w' :=
  ⟨h.os.trans hb.os, h.tape.trans hb.tape, h.output.trans hb.output, Nat.le_trans hb.size h.size, fun k h1 h2 => (h.block k (by have := hb.size; omega) (fun e => h2 (hr k e.symm))).trans (hb.block k h1)⟩
/-- Blocks that a world has behind another one: the one makes no difference to them. -/
theorem own_gwG {W1 W2 : World} {p : Regrown} {B e s n : Nat} {v : Value} {xs : List Value} (hs : W1.heap.size = W2.heap.size) (h : (gw W1 p).ownsRow B e s v n xs) (hB : W1.heap.size ≤ B) : (gw W2 p).ownsRow B e s v n xs :=
  own_stable h fun k hk => by
    have e : ∀ W : World, (gw W p).heap = W.heap ++ p.os := fun W => rfl
    have := (h.lt k hk).1
    rw [e, e, Array.getElem?_append_right (by omega), Array.getElem?_append_right (by omega), hs]
end Go.Proofs.YtfgmlmfbfedmmaaDoor

/- What the laws draw: worlds that grow but for the cursor; a number of a list. -/
import Derived.Test.YtfnhoiomdjmjhaaDoorDraw
import Derived.Test.YtfnhoiomdjmjhaaDoorCopy
namespace Go.Proofs.YtfnhoiomdjmjhaaDoor
set_option maxRecDepth 20000
open Go.RowKit
theorem grown_refl (w : World) (r : Option Nat) : w.grownBy w r := ⟨rfl, rfl, rfl, Nat.le_refl _, fun _ _ _ => rfl⟩
theorem grown_alloc {w W : World} {r : Option Nat} (h : w.grownBy W r) (o : Obj) : w.grownBy (W.alloc o) r :=
  ⟨h.os, h.tape, h.output, by have := h.size; simp; omega, fun k hk hne => (Below.heap_alloc _ _ _ (by have := h.size; omega)).trans (h.block k hk hne)⟩
theorem grown_drew {w W : World} {r : Option Nat} (h : w.grownBy W r) : w.grownBy W.drew r := ⟨h.os, h.tape, h.output, h.size, h.block⟩
theorem grown_turned {w W : World} {p : Nat} (h : Turned p w W) : w.grownBy W (some p) := h.grown
/-- The cursor behind new memory. -/
theorem Cur.moved {w w' : World} {q p : Nat} {a : Option Addr} {n cap : Nat} (h : Cur w q p a n cap) (hb : Below w.heap.size w w') : Cur w' q p a n cap := h.below hb
theorem Cur.qp {w : World} {q p : Nat} {a : Option Addr} {n cap : Nat} (h : Cur w q p a n cap) : q ≤ p := by obtain ⟨_, _, _, _, _, h4, _⟩ := h; exact h4
/-- One number of a list that is made for the draw. -/
theorem sPickNew (q p : Nat) (a : Option Addr) (n cap : Nat) (xs : List Int) (arr : Array Value) (W : World) (g : Nat) (hgz : g = W.heap.size) (l : Nat) (hll : l = xs.length) (ha : arr = (xs.map (Value.int .i64)).toArray) (hc : Cur W q p a n cap) (h1 : 1 ≤ xs.length) (hm : xs.length ≤ 100) :
    Calls Tryd.prog 38 #[.pointer (some ⟨p, 0, none⟩), .slice (some ⟨g, 0, none⟩) l l] (W.alloc (.cells arr 3)) fun e w' => ∃ x : Int, e = .returned (.int .i64 x) ∧ x ∈ xs ∧ Cur w' q p a n cap ∧ W.grownBy w' (some p) := by
  subst ha
  subst hgz
  subst hll
  have hl := hc.lt
  have I : Ints (W.alloc (.cells (xs.map (Value.int .i64)).toArray 3)) (some ⟨W.heap.size, 0, none⟩) xs.length xs.length xs :=
    Ints.of_own (B := W.heap.size) (e := 3) (xs := xs) (by
      have := World.ownsRow_lit (e := 3) (size := 1) W (xs.map (Value.int .i64)).toArray xs.length (Nat.le_refl _) (by unfold maxLen; omega) (by simp)
      simpa using this)
  refine (sPickInt q p a n cap _ xs.length xs.length _ _ (hc.below ((Below.refl _ _).alloc (Nat.le_refl _) _)) I h1 (by omega) (by intro b' o e; cases e; omega)).mono ?_
  rintro e w' ⟨x, rfl, hx, hc2, ht⟩
  exact ⟨x, rfl, hx, hc2, grown_trans (grown_alloc (grown_refl W (some p)) _) ht.grown⟩
end Go.Proofs.YtfnhoiomdjmjhaaDoor

/- Two rows of integers: what is told of two that are read, of two that are a callee's own. -/
import Derived.Test.YteklgngooflhlaaGBox
namespace Go.Proofs.Yteklgngooflhlaa
set_option maxRecDepth 20000
open Go.RowKit
/-- What reads as a machine. -/
def Ms (w : World) (a : Option Addr) (n c : Nat) (s : List Int) (b : Option Addr) (m c2 : Nat) (o : List Int) : Prop := Ints w a n c s ∧ Ints w b m c2 o
theorem Ms.below {w w' : World} {a b : Option Addr} {n c m c2 : Nat} {s o : List Int} (h : Ms w a n c s b m c2 o) (hb : Below w.heap.size w w') : Ms w' a n c s b m c2 o := ⟨h.1.below hb, h.2.below hb⟩
theorem Ms.alloc {w : World} {a b : Option Addr} {n c m c2 : Nat} {s o : List Int} (h : Ms w a n c s b m c2 o) (ob : Obj) : Ms (w.alloc ob) a n c s b m c2 o := ⟨h.1.alloc ob, h.2.alloc ob⟩
/-- A machine of the call's own, by its numbers. -/
structure OwnM (w : World) (B E : Nat) (a : Option Addr) (n c : Nat) (s : List Int) (b : Option Addr) (m c2 : Nat) (o : List Int) : Prop where
  g : OwnI w B E 3 (.slice a n c) s
  i : OwnI w B E 3 (.slice b m c2) o
  ap : Apart (.slice a n c) (.slice b m c2)
  ls : s.length = n
  lo : o.length = m
theorem OwnM.stay {w w' : World} {B E : Nat} {a b : Option Addr} {n c m c2 : Nat} {s o : List Int} (h : OwnM w B E a n c s b m c2 o) (hs : SameIn B E w w') : OwnM w' B E a n c s b m c2 o := ⟨h.g.stay hs, h.i.stay hs, h.ap, h.ls, h.lo⟩
theorem OwnM.later {w w' : World} {B E : Nat} {a b : Option Addr} {n c m c2 : Nat} {s o : List Int} (h : OwnM w B E a n c s b m c2 o) (hb : Below w.heap.size w w') (hE : E ≤ w.heap.size) : OwnM w' B E a n c s b m c2 o := h.stay (SameIn.of_below hb hE)
theorem OwnM.wide {w : World} {B E B' E' : Nat} {a b : Option Addr} {n c m c2 : Nat} {s o : List Int} (h : OwnM w B E a n c s b m c2 o) (h1 : B' ≤ B) (h2 : E ≤ E') : OwnM w B' E' a n c s b m c2 o := ⟨h.g.wide h1 h2, h.i.wide h1 h2, h.ap, h.ls, h.lo⟩
theorem OwnM.ms {w : World} {B E : Nat} {a b : Option Addr} {n c m c2 : Nat} {s o : List Int} (h : OwnM w B E a n c s b m c2 o) : Ms w a n c s b m c2 o := ⟨h.g.intsAt h.ls, h.i.intsAt h.lo⟩
theorem ownM_nil (w : World) (B E : Nat) : OwnM w B E none 0 0 [] none 0 0 [] :=
  ⟨⟨World.ownsRow_nil _ _ _ _, fun k hk => (by cases hk)⟩, ⟨World.ownsRow_nil _ _ _ _, fun k hk => (by cases hk)⟩, fun k hk _ => (by cases hk), rfl, rfl⟩
/-- Two rows made one after the other, and cells of the call's own that have turned meanwhile. -/
theorem ownM_two {X W1 W2 : World} {p q : Regrown} {B0 n c m c2 : Nat} {a b : Option Addr} {xs ys : List Int} (e1 : W1.heap.size = X.heap.size) (e2 : W2.heap.size = X.heap.size) (h0 : B0 ≤ X.heap.size)
    (o1 : (gw W1 p).ownsRow W1.heap.size 3 1 (.slice a n c) n (xs.map (Value.int .i64))) (o2 : (gw W2 (gcat p q)).ownsRow (gw W2 p).heap.size 3 1 (.slice b m c2) m (ys.map (Value.int .i64))) (hx : xs.length = n) (hl : ys.length = m) :
    OwnM (gw X (gcat p q)) B0 (gw X (gcat p q)).heap.size a n c xs b m c2 ys := by
  subst hl
  subst hx
  have g1 := own_gc (own_gwG (W2 := X) e1 o1 (Nat.le_refl _)) q
  have g2 := own_gwG (W2 := X) e2 o2 (by rw [gw_size]; omega)
  refine ⟨⟨own_weak2 g1 (by omega), fun k hk => (g1.lt k hk).2⟩, ⟨own_weak2 g2 (by rw [gw_size]; omega), fun k hk => (g2.lt k hk).2⟩, fun k h1 h2 => ?_, rfl, rfl⟩
  have x1 := (o1.lt k h1).2
  have x2 := (o2.lt k h2).1
  rw [gw_size] at x1 x2
  omega
end Go.Proofs.Yteklgngooflhlaa

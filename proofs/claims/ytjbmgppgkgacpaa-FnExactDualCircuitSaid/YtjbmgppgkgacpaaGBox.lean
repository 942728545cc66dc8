/- Variables that lie in memory: boxes of three cells; how they stay. Two rows of integers: what is told of two that are read, of two that are a callee's own. Variables of two cells that lie in memory. A block of two cells that is written to; what stays beside it. Weighings: two rows of integers. The contracts of the laws' own functions on them. -/
import Derived.Test.YtjbmgppgkgacpaaGen
namespace Go.Proofs.Ytjbmgppgkgacpaa
set_option maxRecDepth 20000
open Go.RowKit
/-- Block p holds three cells. -/
def Box3 (w : World) (p : Nat) (v0 v1 v2 : Value) : Prop := p < w.heap.size ∧ w.cell? ⟨p, 0, none⟩ = some v0 ∧ w.cell? ⟨p, 1, none⟩ = some v1 ∧ w.cell? ⟨p, 2, none⟩ = some v2
theorem Box3.same {w w' : World} {p : Nat} {v0 v1 v2 : Value} (h : Box3 w p v0 v1 v2) (hs : w.heap.size ≤ w'.heap.size) (hb : w'.heap[p]? = w.heap[p]?) : Box3 w' p v0 v1 v2 :=
  ⟨Nat.lt_of_lt_of_le h.1 hs, by rw [← h.2.1]; exact World.cell?_of_block (a := ⟨p, 0, none⟩) hb, by rw [← h.2.2.1]; exact World.cell?_of_block (a := ⟨p, 1, none⟩) hb, by rw [← h.2.2.2]; exact World.cell?_of_block (a := ⟨p, 2, none⟩) hb⟩
theorem Box3.below {w w' : World} {p : Nat} {v0 v1 v2 : Value} (h : Box3 w p v0 v1 v2) (hb : Below w.heap.size w w') : Box3 w' p v0 v1 v2 := h.same hb.size (hb.block p h.1)
theorem Box3.turn {w w' : World} {p B E : Nat} {v0 v1 v2 : Value} (h : Box3 w p v0 v1 v2) (ht : TurnF B E w w') (hd : p < B ∨ E ≤ p) : Box3 w' p v0 v1 v2 := h.same ht.size (ht.block p h.1 (by omega))
theorem box3_new (w : World) (v0 v1 v2 : Value) (t : TypeId) : Box3 (w.alloc (.cells #[v0, v1, v2] t)) w.heap.size v0 v1 v2 := by
  refine ⟨by simp, ?_, ?_, ?_⟩ <;> simp
/-- A variable's box, just made. -/
theorem box3_of {w W' : World} {v0 v1 v2 : Value} {t : TypeId} (h : w.alloc (.cells #[v0, v1, v2] t) = W') : Box3 W' w.heap.size v0 v1 v2 ∧ Below w.heap.size w W' := by
  subst h; exact ⟨box3_new _ _ _ _ _, (Below.refl _ _).alloc (Nat.le_refl _) _⟩
/-- What a marking of numbers leaves. -/
theorem OwnI.marked {w w' : World} {B E e n : Nat} {a : Option Addr} {c : Nat} {xs : List Int} {x : Int} (h : OwnI w B E e (.slice a n c) xs) (ho : w'.ownsRow B e 1 (.slice a n c) n ((marks x n).map (Value.int .i64))) (hg : w.grownBy w' (Value.slice a n c).ownBlock) : OwnI w' B E e (.slice a n c) (marks x n) ∧ TurnF B E w w' :=
  ⟨⟨by rw [marks_length]; exact ho, h.2⟩, TurnF.of_grown (Below.refl _ _) hg fun k hk => h.lt k hk⟩
/-- What reads as a machine. -/
def Ms (w : World) (a : Option Addr) (n c : Nat) (s : List Int) (b : Option Addr) (m c2 : Nat) (o : List Int) : Prop := Ints w a n c s ∧ Ints w b m c2 o
theorem Ms.below {w w' : World} {a b : Option Addr} {n c m c2 : Nat} {s o : List Int} (h : Ms w a n c s b m c2 o) (hb : Below w.heap.size w w') : Ms w' a n c s b m c2 o := ⟨h.1.below hb, h.2.below hb⟩
theorem Ms.alloc {w : World} {a b : Option Addr} {n c m c2 : Nat} {s o : List Int} (h : Ms w a n c s b m c2 o) (ob : Obj) : Ms (w.alloc ob) a n c s b m c2 o := ⟨h.1.alloc ob, h.2.alloc ob⟩
/-- A machine of the call's own, by its numbers. -/
structure OwnM (w : World) (B E : Nat) (a : Option Addr) (n c : Nat) (s : List Int) (b : Option Addr) (m c2 : Nat) (o : List Int) : Prop where
  g : OwnI w B E 3 (.slice a n c) s
  i : OwnI w B E 3 (.slice b m c2) o
  ap : Apart (.slice a n c) (.slice b m c2)
  ls : s.length = n
  lo : o.length = m
theorem OwnM.stay {w w' : World} {B E : Nat} {a b : Option Addr} {n c m c2 : Nat} {s o : List Int} (h : OwnM w B E a n c s b m c2 o) (hs : SameIn B E w w') : OwnM w' B E a n c s b m c2 o := ⟨h.g.stay hs, h.i.stay hs, h.ap, h.ls, h.lo⟩
theorem OwnM.later {w w' : World} {B E : Nat} {a b : Option Addr} {n c m c2 : Nat} {s o : List Int} (h : OwnM w B E a n c s b m c2 o) (hb : Below w.heap.size w w') (hE : E ≤ w.heap.size) : OwnM w' B E a n c s b m c2 o := h.stay (SameIn.of_below hb hE)
theorem OwnM.wide {w : World} {B E B' E' : Nat} {a b : Option Addr} {n c m c2 : Nat} {s o : List Int} (h : OwnM w B E a n c s b m c2 o) (h1 : B' ≤ B) (h2 : E ≤ E') : OwnM w B' E' a n c s b m c2 o := ⟨h.g.wide h1 h2, h.i.wide h1 h2, h.ap, h.ls, h.lo⟩
theorem OwnM.ms {w : World} {B E : Nat} {a b : Option Addr} {n c m c2 : Nat} {s o : List Int} (h : OwnM w B E a n c s b m c2 o) : Ms w a n c s b m c2 o := ⟨h.g.intsAt h.ls, h.i.intsAt h.lo⟩
theorem ownM_nil (w : World) (B E : Nat) : OwnM w B E none 0 0 [] none 0 0 [] :=
  ⟨⟨World.ownsRow_nil _ _ _ _, fun k hk => (by cases hk)⟩, ⟨World.ownsRow_nil _ _ _ _, fun k hk => (by cases hk)⟩, fun k hk _ => (by cases hk), rfl, rfl⟩
/-- Two rows made one after the other, and cells of the call's own that have turned meanwhile. -/
theorem ownM_two {X W1 W2 : World} {p q : Regrown} {B0 n c m c2 : Nat} {a b : Option Addr} {xs ys : List Int} (e1 : W1.heap.size = X.heap.size) (e2 : W2.heap.size = X.heap.size) (h0 : B0 ≤ X.heap.size)
    (o1 : (gw W1 p).ownsRow W1.heap.size 3 1 (.slice a n c) n (xs.map (Value.int .i64))) (o2 : (gw W2 (gcat p q)).ownsRow (gw W2 p).heap.size 3 1 (.slice b m c2) m (ys.map (Value.int .i64))) (hx : xs.length = n) (hl : ys.length = m) :
    OwnM (gw X (gcat p q)) B0 (gw X (gcat p q)).heap.size a n c xs b m c2 ys := by
  subst hl
  subst hx
  have g1 := own_gc (own_gwG (W2 := X) e1 o1 (Nat.le_refl _)) q
  have g2 := own_gwG (W2 := X) e2 o2 (by rw [gw_size]; omega)
  refine ⟨⟨own_weak2 g1 (by omega), fun k hk => (g1.lt k hk).2⟩, ⟨own_weak2 g2 (by rw [gw_size]; omega), fun k hk => (g2.lt k hk).2⟩, fun k h1 h2 => ?_, rfl, rfl⟩
  have x1 := (o1.lt k h1).2
  have x2 := (o2.lt k h2).1
  rw [gw_size] at x1 x2
  omega
/-- Block p holds two cells. -/
def Box2 (w : World) (p : Nat) (v0 v1 : Value) : Prop := p < w.heap.size ∧ w.cell? ⟨p, 0, none⟩ = some v0 ∧ w.cell? ⟨p, 1, none⟩ = some v1
theorem Box2.same {w w' : World} {p : Nat} {v0 v1 : Value} (h : Box2 w p v0 v1) (hs : w.heap.size ≤ w'.heap.size) (hb : w'.heap[p]? = w.heap[p]?) : Box2 w' p v0 v1 :=
  ⟨Nat.lt_of_lt_of_le h.1 hs, by rw [← h.2.1]; exact World.cell?_of_block (a := ⟨p, 0, none⟩) hb, by rw [← h.2.2]; exact World.cell?_of_block (a := ⟨p, 1, none⟩) hb⟩
theorem Box2.below {w w' : World} {p : Nat} {v0 v1 : Value} (h : Box2 w p v0 v1) (hb : Below w.heap.size w w') : Box2 w' p v0 v1 := h.same hb.size (hb.block p h.1)
theorem Box2.turn {w w' : World} {p B E : Nat} {v0 v1 : Value} (h : Box2 w p v0 v1) (ht : TurnF B E w w') (hd : p < B ∨ E ≤ p) : Box2 w' p v0 v1 := h.same ht.size (ht.block p h.1 (by omega))
theorem box2_new (w : World) (v0 v1 : Value) (t : TypeId) : Box2 (w.alloc (.cells #[v0, v1] t)) w.heap.size v0 v1 := by
  refine ⟨by simp, ?_, ?_⟩ <;> simp
/-- A variable's box, just made. -/
theorem box2_of {w W' : World} {v0 v1 : Value} {t : TypeId} (h : w.alloc (.cells #[v0, v1] t) = W') : Box2 W' w.heap.size v0 v1 ∧ Below w.heap.size w W' := by
  subst h; exact ⟨box2_new _ _ _ _, (Below.refl _ _).alloc (Nat.le_refl _) _⟩
theorem heap_set_same {w : World} {p : Nat} {cs : Array Value} {t : TypeId} (h : w.heap[p]? = some (.cells cs t (0, 0))) (o : Nat) (v : Value) : (w.setCell ⟨p, o, none⟩ v).heap[p]? = some (.cells (cs.setIfInBounds o v) t (0, 0)) := by
  simp [World.setCell, Array.getElem?_modify, h]
/-- Nothing has turned but block p, the row v, and what is new. -/
structure TurnV (p : Nat) (v : Value) (w w' : World) : Prop where
  os : w'.os = w.os
  tape : w'.tape = w.tape
  output : w'.output = w.output
  size : w.heap.size ≤ w'.heap.size
  block : ∀ q, q < w.heap.size → q ≠ p → v.ownBlock ≠ some q → w'.heap[q]? = w.heap[q]?
theorem TurnV.refl (p : Nat) (v : Value) (w : World) : TurnV p v w w := ⟨rfl, rfl, rfl, Nat.le_refl _, fun _ _ _ _ => rfl⟩
theorem TurnV.of_below {p : Nat} {v : Value} {w w1 w2 : World} (h : TurnV p v w w1) (hb : Below w1.heap.size w1 w2) : TurnV p v w w2 :=
  ⟨hb.os.trans h.os, hb.tape.trans h.tape, hb.output.trans h.output, Nat.le_trans h.size hb.size, fun q h1 h2 h3 => (hb.block q (Nat.lt_of_lt_of_le h1 h.size)).trans (h.block q h1 h2 h3)⟩
theorem TurnV.set {p : Nat} {v : Value} {w w1 : World} (h : TurnV p v w w1) (o : Nat) (u : Value) : TurnV p v w (w1.setCell ⟨p, o, none⟩ u) :=
  ⟨h.os, h.tape, h.output, by rw [World.size_setCell]; exact h.size, fun q h1 h2 h3 => (heap_setCell_other w1 ⟨p, o, none⟩ q u h2).trans (h.block q h1 h2 h3)⟩
theorem TurnV.grown {p : Nat} {v v1 : Value} {w w1 w2 : World} (h : TurnV p v w w1) (hg : w1.grownBy w2 v1.ownBlock) (hv : v1.ownBlock = v.ownBlock) : TurnV p v w w2 :=
  ⟨hg.os.trans h.os, hg.tape.trans h.tape, hg.output.trans h.output, Nat.le_trans h.size hg.size, fun q h1 h2 h3 => (hg.block q (Nat.lt_of_lt_of_le h1 h.size) (fun e => h3 (by rw [← hv]; exact e.symm))).trans (h.block q h1 h2 h3)⟩
theorem TurnV.below {p B n : Nat} {v : Value} {w w' : World} {e : TypeId} {xs : List Value} (h : TurnV p v w w') (hB : B ≤ p) (ho : w.ownsRow B e 1 v n xs) (hs : B ≤ w.heap.size) : Below B w w' :=
  ⟨h.os, h.tape, h.output, h.size, fun q hq => h.block q (by omega) (by omega) (fun e => by have := (ho.lt q e).1; omega)⟩
/-- Block p holds two cells, none of them frozen. -/
def Blk2 (w : World) (p : Nat) (v0 v1 : Value) (t : TypeId) : Prop := w.heap[p]? = some (.cells #[v0, v1] t (0, 0))
theorem Blk2.lt {w : World} {p : Nat} {v0 v1 : Value} {t : TypeId} (h : Blk2 w p v0 v1 t) : p < w.heap.size := (Array.getElem?_eq_some_iff.1 h).1
theorem Blk2.cells {w : World} {p : Nat} {v0 v1 : Value} {t : TypeId} (h : Blk2 w p v0 v1 t) : w.cell? ⟨p, 0, none⟩ = some v0 ∧ w.cell? ⟨p, 1, none⟩ = some v1 := by
  unfold Blk2 at h
  refine ⟨?_, ?_⟩ <;> simp [World.cell?, h]
theorem Blk2.frozen {w : World} {p : Nat} {v0 v1 : Value} {t : TypeId} (h : Blk2 w p v0 v1 t) (o : Nat) : w.frozen? ⟨p, o, none⟩ = false := by
  unfold Blk2 at h
  simp [World.frozen?, h]
theorem Blk2.keep {w w' : World} {p : Nat} {v0 v1 : Value} {t : TypeId} (h : Blk2 w p v0 v1 t) (hb : w'.heap[p]? = w.heap[p]?) : Blk2 w' p v0 v1 t := by
  unfold Blk2 at h ⊢
  rw [hb]; exact h
theorem Blk2.later {w w' : World} {p : Nat} {v0 v1 : Value} {t : TypeId} (h : Blk2 w p v0 v1 t) (hb : Below w.heap.size w w') : Blk2 w' p v0 v1 t := h.keep (hb.block p h.lt)
theorem blk2_new (w : World) (v0 v1 : Value) (t : TypeId) : Blk2 (w.alloc (.cells #[v0, v1] t)) w.heap.size v0 v1 t := heap_alloc_new w _
theorem Blk2.set0 {w : World} {p : Nat} {v0 v1 : Value} {t : TypeId} (h : Blk2 w p v0 v1 t) (v : Value) : Blk2 (w.setCell ⟨p, 0, none⟩ v) p v v1 t := by
  have := heap_set_same h 0 v
  simpa [Blk2] using this
theorem Blk2.set1 {w : World} {p : Nat} {v0 v1 : Value} {t : TypeId} (h : Blk2 w p v0 v1 t) (v : Value) : Blk2 (w.setCell ⟨p, 1, none⟩ v) p v0 v t := by
  have := heap_set_same h 1 v
  simpa [Blk2] using this
/-- Below B nothing has turned but block p. -/
structure KeepB (p B : Nat) (w w' : World) : Prop where
  os : w'.os = w.os
  tape : w'.tape = w.tape
  output : w'.output = w.output
  size : w.heap.size ≤ w'.heap.size
  block : ∀ q, q < B → q ≠ p → w'.heap[q]? = w.heap[q]?
theorem KeepB.refl (p B : Nat) (w : World) : KeepB p B w w := ⟨rfl, rfl, rfl, Nat.le_refl _, fun _ _ _ => rfl⟩
theorem KeepB.trans {p B : Nat} {a b c : World} (h : KeepB p B a b) (k : KeepB p B b c) : KeepB p B a c :=
  ⟨k.os.trans h.os, k.tape.trans h.tape, k.output.trans h.output, Nat.le_trans h.size k.size, fun q h1 h2 => (k.block q h1 h2).trans (h.block q h1 h2)⟩
theorem KeepB.of_below {p B : Nat} {a b : World} (h : Below B a b) : KeepB p B a b := ⟨h.os, h.tape, h.output, h.size, fun q h1 _ => h.block q h1⟩
theorem TurnV.keepB {p B n : Nat} {v : Value} {w w' : World} {e : TypeId} {xs : List Value} (h : TurnV p v w w') (ho : w.ownsRow B e 1 v n xs) (hB : B ≤ w.heap.size) : KeepB p B w w' :=
  ⟨h.os, h.tape, h.output, h.size, fun q hq hp => h.block q (by omega) hp (fun e => by have := (ho.lt q e).1; omega)⟩
/-- Behind a block that turns all stays that lay before. -/
theorem KeepB.below {p B C : Nat} {a b c : World} (h : Below C a b) (k : KeepB p B b c) (hC : C ≤ B) (hp : C ≤ p) : Below C a c :=
  ⟨k.os.trans h.os, k.tape.trans h.tape, k.output.trans h.output, Nat.le_trans h.size k.size, fun q hq => (k.block q (by omega) (by omega)).trans (h.block q hq)⟩
theorem Ints.keepB {p B : Nat} {w w' : World} {a : Option Addr} {n c : Nat} {xs : List Int} (h : Ints w a n c xs) (k : KeepB p B w w') (hB : ∀ b o, a = some ⟨b, o, none⟩ → b < B ∧ b ≠ p) : Ints w' a n c xs :=
  h.of_blocks k.size fun b o e _ => k.block b (hB b o e).1 (hB b o e).2
/-- A weighing lies at block p; its rows are the call's own. -/
structure WSt (w : World) (B p : Nat) (v : Value) (s : List Int) (u : Value) (o : List Int) : Prop where
  blk : Blk2 w p v u 0
  sv : w.ownsRow B 3 1 v s.length (s.map (Value.int .i64))
  ou : w.ownsRow B 3 1 u o.length (o.map (Value.int .i64))
  ap : Apart v u
  vp : v.ownBlock ≠ some p
  up : u.ownBlock ≠ some p
theorem WSt.later {w w' : World} {B p : Nat} {v u : Value} {s o : List Int} (h : WSt w B p v s u o) (hb : Below w.heap.size w w') : WSt w' B p v s u o :=
  ⟨h.blk.keep (hb.block p h.blk.lt), own_below h.sv hb, own_below h.ou hb, h.ap, h.vp, h.up⟩
/-- A number has been appended to the left row. -/
theorem WSt.left {w W w1 : World} {B p : Nat} {v u v' : Value} {s o s' : List Int} (h : WSt w B p v s u o) (hB : B ≤ w.heap.size) (hw : Below w.heap.size w W)
    (ho : w1.ownsRow B 3 1 v' s'.length (s'.map (Value.int .i64))) (hg : W.grownBy w1 v.ownBlock) (hat : v'.ownBlock = v.ownBlock ∨ v'.ownBlock = some W.heap.size) :
    Blk2 w1 p v u 0 ∧ WSt (w1.setCell ⟨p, 0, none⟩ v') B p v' s' u o ∧ KeepB p B w (w1.setCell ⟨p, 0, none⟩ v') := by
  have lp := h.blk.lt
  have hs := hw.size
  have b1 : Blk2 w1 p v u 0 := (h.blk.later hw).keep (hg.block p (by omega) (fun e => h.vp e.symm))
  have tv : TurnV p v w w1 := ((TurnV.refl p v w).of_below hw).grown hg rfl
  have nv : v'.ownBlock ≠ some p := fun e => by
    rcases hat with e1 | e1
    · rw [e1] at e; exact h.vp e
    · rw [e1] at e; cases e; omega
  have ts := tv.set 0 v'
  refine ⟨b1, ⟨b1.set0 v', own_stable ho fun q hq => heap_setCell_other w1 ⟨p, 0, none⟩ q v' (fun e => nv (by rw [hq, e])), own_stable h.ou fun q hq => ts.block q (h.ou.lt q hq).2 (fun e => h.up (e ▸ hq)) (fun e => h.ap q e hq), fun q h1 h2 => ?_, nv, h.up⟩, ts.keepB h.sv hB⟩
  rcases hat with e | e
  · rw [e] at h1; exact h.ap q h1 h2
  · rw [e] at h1; cases h1; have := (h.ou.lt _ h2).2; omega
/-- A number has been appended to the right row. -/
theorem WSt.right {w W w1 : World} {B p : Nat} {v u u' : Value} {s o o' : List Int} (h : WSt w B p v s u o) (hB : B ≤ w.heap.size) (hw : Below w.heap.size w W)
    (ho : w1.ownsRow B 3 1 u' o'.length (o'.map (Value.int .i64))) (hg : W.grownBy w1 u.ownBlock) (hat : u'.ownBlock = u.ownBlock ∨ u'.ownBlock = some W.heap.size) :
    Blk2 w1 p v u 0 ∧ WSt (w1.setCell ⟨p, 1, none⟩ u') B p v s u' o' ∧ KeepB p B w (w1.setCell ⟨p, 1, none⟩ u') := by
  have lp := h.blk.lt
  have hs := hw.size
  have b1 : Blk2 w1 p v u 0 := (h.blk.later hw).keep (hg.block p (by omega) (fun e => h.up e.symm))
  have tv : TurnV p u w w1 := ((TurnV.refl p u w).of_below hw).grown hg rfl
  have nv : u'.ownBlock ≠ some p := fun e => by
    rcases hat with e1 | e1
    · rw [e1] at e; exact h.up e
    · rw [e1] at e; cases e; omega
  have ts := tv.set 1 u'
  refine ⟨b1, ⟨b1.set1 u', own_stable h.sv fun q hq => ts.block q (h.sv.lt q hq).2 (fun e => h.vp (e ▸ hq)) (fun e => h.ap q hq e), own_stable ho fun q hq => heap_setCell_other w1 ⟨p, 1, none⟩ q u' (fun e => nv (by rw [hq, e])), fun q h1 h2 => ?_, h.vp, nv⟩, ts.keepB h.ou hB⟩
  rcases hat with e | e
  · rw [e] at h2; exact h.ap q h1 h2
  · rw [e] at h2; cases h2; have := (h.sv.lt _ h1).2; omega
/-- What lies there is the call's own. -/
theorem WSt.own {w : World} {B p : Nat} {a b : Option Addr} {n c m d : Nat} {s o : List Int} (h : WSt w B p (.slice a n c) s (.slice b m d) o) (hs : s.length = n) (ho : o.length = m) : OwnM w B w.heap.size a n c s b m d o :=
  ⟨⟨by have := h.sv; exact this, fun k hk => (h.sv.lt k hk).2⟩, ⟨h.ou, fun k hk => (h.ou.lt k hk).2⟩, h.ap, hs, ho⟩
abbrev weigV (a : Option Addr) (n c : Nat) (b : Option Addr) (m c2 : Nat) : Value := .agg #[.slice a n c, .slice b m c2]
/-- A weighing is handed back, all of it new. -/
def RetW (w : World) (s o : List Int) (r : Ending) (w' : World) : Prop :=
  ∃ a c b c2, r = .returned (weigV a s.length c b o.length c2) ∧ OwnM w' w.heap.size w'.heap.size a s.length c s b o.length c2 o ∧ Below w.heap.size w w' ∧ s.length ≤ 1048576 ∧ o.length ≤ 1048576
def RetWB (w : World) (s o : List Int) (x : Bool) (r : Ending) (w' : World) : Prop :=
  ∃ a c b c2, r = .returned (.tuple #[weigV a s.length c b o.length c2, .bool x]) ∧ OwnM w' w.heap.size w'.heap.size a s.length c s b o.length c2 o ∧ Below w.heap.size w w' ∧ s.length ≤ 1048576 ∧ o.length ≤ 1048576
end Go.Proofs.Ytjbmgppgkgacpaa

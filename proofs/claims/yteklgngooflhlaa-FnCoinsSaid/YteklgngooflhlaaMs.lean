/- Two rows of integers: what is told of two that are read, of two that are a callee's own. Variables of two cells that lie in memory. A block of two cells that is written to; what stays beside it. Weighings: two rows of integers. The contracts of the laws' own functions on them. -/
import Derived.Test.YteklgngooflhlaaGBox
namespace Go.Proofs.Yteklgngooflhlaa
set_option maxRecDepth 20000
open Go.RowKit
/-- What reads as a machine. -/
def Ms (w : World) (a : Option Addr) (n c : Nat) (s : List Int) (b : Option Addr) (m c2 : Nat) (o : List Int) : Prop := Ints w a n c s ∧ Ints w b m c2 o
theorem Ms.below {w w' : World} {a b : Option Addr} {n c m c2 : Nat} {s o : List Int} (h : Ms w a n c s b m c2 o) (hb : Below w.heap.size w w') : Ms w' a n c s b m c2 o := ⟨h.1.below hb, h.2.below hb⟩
theorem Ms.alloc {w : World} {a b : Option Addr} {n c m c2 : Nat} {s o : List Int} (h : Ms w a n c s b m c2 o) (ob : Obj) : Ms (w.alloc ob) a n c s b m c2 o := ⟨h.1.alloc ob, h.2.alloc ob⟩
/-- A machine of the call's own, by its numbers. -/
structure OwnM (w : World) (B E : Nat) (a : Option Addr) (n c : Nat) (s : List Int) (b : Option Addr) (m c2 : Nat) (o : List Int) : Prop where
  g : OwnI w B E 3 (.slice a n c) s
  i : OwnI w B E 3 (.slice b m c2) o
  ap : Apart (.slice a n c) (.slice b m c2)
  ls : s.length = n
  lo : o.length = m
theorem OwnM.stay {w w' : World} {B E : Nat} {a b : Option Addr} {n c m c2 : Nat} {s o : List Int} (h : OwnM w B E a n c s b m c2 o) (hs : SameIn B E w w') : OwnM w' B E a n c s b m c2 o := ⟨h.g.stay hs, h.i.stay hs, h.ap, h.ls, h.lo⟩
theorem OwnM.later {w w' : World} {B E : Nat} {a b : Option Addr} {n c m c2 : Nat} {s o : List Int} (h : OwnM w B E a n c s b m c2 o) (hb : Below w.heap.size w w') (hE : E ≤ w.heap.size) : OwnM w' B E a n c s b m c2 o := h.stay (SameIn.of_below hb hE)
theorem OwnM.wide {w : World} {B E B' E' : Nat} {a b : Option Addr} {n c m c2 : Nat} {s o : List Int} (h : OwnM w B E a n c s b m c2 o) (h1 : B' ≤ B) (h2 : E ≤ E') : OwnM w B' E' a n c s b m c2 o := ⟨h.g.wide h1 h2, h.i.wide h1 h2, h.ap, h.ls, h.lo⟩
theorem OwnM.ms {w : World} {B E : Nat} {a b : Option Addr} {n c m c2 : Nat} {s o : List Int} (h : OwnM w B E a n c s b m c2 o) : Ms w a n c s b m c2 o := ⟨h.g.intsAt h.ls, h.i.intsAt h.lo⟩
theorem ownM_nil (w : World) (B E : Nat) : OwnM w B E none 0 0 [] none 0 0 [] :=
  ⟨⟨World.ownsRow_nil _ _ _ _, fun k hk => (by cases hk)⟩, ⟨World.ownsRow_nil _ _ _ _, fun k hk => (by cases hk)⟩, fun k hk _ => (by cases hk), rfl, rfl⟩
/-- Two rows made one after the other, and cells of the call's own that have turned meanwhile. -/
theorem ownM_two {X W1 W2 : World} {p q : Regrown} {B0 n c m c2 : Nat} {a b : Option Addr} {xs ys : List Int} (e1 : W1.heap.size = X.heap.size) (e2 : W2.heap.size = X.heap.size) (h0 : B0 ≤ X.heap.size)
    (o1 : (gw W1 p).ownsRow W1.heap.size 3 1 (.slice a n c) n (xs.map (Value.int .i64))) (o2 : (gw W2 (gcat p q)).ownsRow (gw W2 p).heap.size 3 1 (.slice b m c2) m (ys.map (Value.int .i64))) (hx : xs.length = n) (hl : ys.length = m) :
    OwnM (gw X (gcat p q)) B0 (gw X (gcat p q)).heap.size a n c xs b m c2 ys := by
  subst hl
  subst hx
  have g1 := own_gc (own_gwG (W2 := X) e1 o1 (Nat.le_refl _)) q
  have g2 := own_gwG (W2 := X) e2 o2 (by rw [gw_size]; omega)
  refine ⟨⟨own_weak2 g1 (by omega), fun k hk => (g1.lt k hk).2⟩, ⟨own_weak2 g2 (by rw [gw_size]; omega), fun k hk => (g2.lt k hk).2⟩, fun k h1 h2 => ?_, rfl, rfl⟩
  have x1 := (o1.lt k h1).2
  have x2 := (o2.lt k h2).1
  rw [gw_size] at x1 x2
  omega
/-- Block p holds two cells. -/
def Box2 (w : World) (p : Nat) (v0 v1 : Value) : Prop := p < w.heap.size ∧ w.cell? ⟨p, 0, none⟩ = some v0 ∧ w.cell? ⟨p, 1, none⟩ = some v1
theorem Box2.same {w w' : World} {p : Nat} {v0 v1 : Value} (h : Box2 w p v0 v1) (hs : w.heap.size ≤ w'.heap.size) (hb : w'.heap[p]? = w.heap[p]?) : Box2 w' p v0 v1 :=
  ⟨Nat.lt_of_lt_of_le h.1 hs, by rw [← h.2.1]; exact World.cell?_of_block (a := ⟨p, 0, none⟩) hb, by rw [← h.2.2]; exact World.cell?_of_block (a := ⟨p, 1, none⟩) hb⟩
theorem Box2.below {w w' : World} {p : Nat} {v0 v1 : Value} (h : Box2 w p v0 v1) (hb : Below w.heap.size w w') : Box2 w' p v0 v1 := h.same hb.size (hb.block p h.1)
theorem Box2.turn {w w' : World} {p B E : Nat} {v0 v1 : Value} (h : Box2 w p v0 v1) (ht : TurnF B E w w') (hd : p < B ∨ E ≤ p) : Box2 w' p v0 v1 := h.same ht.size (ht.block p h.1 (by omega))
theorem box2_new (w : World) (v0 v1 : Value) (t : TypeId) : Box2 (w.alloc (.cells #[v0, v1] t)) w.heap.size v0 v1 := by
  refine ⟨by simp, ?_, ?_⟩ <;> simp
/-- A variable's box, just made. -/
theorem box2_of {w W' : World} {v0 v1 : Value} {t : TypeId} (h : w.alloc (.cells #[v0, v1] t) = W') : Box2 W' w.heap.size v0 v1 ∧ Below w.heap.size w W' := by
  subst h; exact ⟨box2_new _ _ _ _, (Below.refl _ _).alloc (Nat.le_refl _) _⟩
theorem heap_set_same {w : World} {p : Nat} {cs : Array Value} {t : TypeId} (h : w.heap[p]? = some (.cells cs t (0, 0))) (o : Nat) (v : Value) : (w.setCell ⟨p, o, none⟩ v).heap[p]? = some (.cells (cs.setIfInBounds o v) t (0, 0)) := by
  simp [World.setCell, Array.getElem?_modify, h]
/-- Nothing has turned but block p, the row v, and what is new. -/
structure TurnV (p : Nat) (v : Value) (w w' : World) : Prop where
  os : w'.os = w.os
  tape : w'.tape = w.tape
  output : w'.output = w.output
  size : w.heap.size ≤ w'.heap.size
  block : ∀ q, q < w.heap.size → q ≠ p → v.ownBlock ≠ some q → w'.heap[q]? = w.heap[q]?
theorem TurnV.refl (p : Nat) (v : Value) (w : World) : TurnV p v w w := ⟨rfl, rfl, rfl, Nat.le_refl _, fun _ _ _ _ => rfl⟩
theorem TurnV.of_below {p : Nat} {v : Value} {w w1 w2 : World} (h : TurnV p v w w1) (hb : Below w1.heap.size w1 w2) : TurnV p v w w2 :=
  ⟨hb.os.trans h.os, hb.tape.trans h.tape, hb.output.trans h.output, Nat.le_trans h.size hb.size, fun q h1 h2 h3 => (hb.block q (Nat.lt_of_lt_of_le h1 h.size)).trans (h.block q h1 h2 h3)⟩
theorem TurnV.set {p : Nat} {v : Value} {w w1 : World} (h : TurnV p v w w1) (o : Nat) (u : Value) : TurnV p v w (w1.setCell ⟨p, o, none⟩ u) :=
  ⟨h.os, h.tape, h.output, by rw [World.size_setCell]; exact h.size, fun q h1 h2 h3 => (heap_setCell_other w1 ⟨p, o, none⟩ q u h2).trans (h.block q h1 h2 h3)⟩
theorem TurnV.grown {p : Nat} {v v1 : Value} {w w1 w2 : World} (h : TurnV p v w w1) (hg : w1.grownBy w2 v1.ownBlock) (hv : v1.ownBlock = v.ownBlock) : TurnV p v w w2 :=
  ⟨hg.os.trans h.os, hg.tape.trans h.tape, hg.output.trans h.output, Nat.le_trans h.size hg.size, fun q h1 h2 h3 => (hg.block q (Nat.lt_of_lt_of_le h1 h.size) (fun e => h3 (by rw [← hv]; exact e.symm))).trans (h.block q h1 h2 h3)⟩
theorem TurnV.below {p B n : Nat} {v : Value} {w w' : World} {e : TypeId} {xs : List Value} (h : TurnV p v w w') (hB : B ≤ p) (ho : w.ownsRow B e 1 v n xs) (hs : B ≤ w.heap.size) : Below B w w' :=
  ⟨h.os, h.tape, h.output, h.size, fun q hq => h.block q (by omega) (by omega) (fun e => by have := (ho.lt q e).1; omega)⟩
/-- Block p holds two cells, none of them frozen. -/
def Blk2 (w : World) (p : Nat) (v0 v1 : Value) (t : TypeId) : Prop := w.heap[p]? = some (.cells #[v0, v1] t (0, 0))
theorem Blk2.lt {w : World} {p : Nat} {v0 v1 : Value} {t : TypeId} (h : Blk2 w p v0 v1 t) : p < w.heap.size := (Array.getElem?_eq_some_iff.1 h).1
theorem Blk2.cells {w : World} {p : Nat} {v0 v1 : Value} {t : TypeId} (h : Blk2 w p v0 v1 t) : w.cell? ⟨p, 0, none⟩ = some v0 ∧ w.cell? ⟨p, 1, none⟩ = some v1 := by
  unfold Blk2 at h
  refine ⟨?_, ?_⟩ <;> simp [World.cell?, h]
theorem Blk2.frozen {w : World} {p : Nat} {v0 v1 : Value} {t : TypeId} (h : Blk2 w p v0 v1 t) (o : Nat) : w.frozen? ⟨p, o, none⟩ = false := by
  unfold Blk2 at h
  simp [World.frozen?, h]
theorem Blk2.keep {w w' : World} {p : Nat} {v0 v1 : Value} {t : TypeId} (h : Blk2 w p v0 v1 t) (hb : w'.heap[p]? = w.heap[p]?) : Blk2 w' p v0 v1 t := by
  unfold Blk2 at h ⊢
  rw [hb]; exact h
theorem Blk2.later {w w' : World} {p : Nat} {v0 v1 : Value} {t : TypeId} (h : Blk2 w p v0 v1 t) (hb : Below w.heap.size w w') : Blk2 w' p v0 v1 t := h.keep (hb.block p h.lt)
theorem blk2_new (w : World) (v0 v1 : Value) (t : TypeId) : Blk2 (w.alloc (.cells #[v0, v1] t)) w.heap.size v0 v1 t := heap_alloc_new w _
theorem Blk2.set0 {w : World} {p : Nat} {v0 v1 : Value} {t : TypeId} (h : Blk2 w p v0 v1 t) (v : Value) : Blk2 (w.setCell ⟨p, 0, none⟩ v) p v v1 t := by
  have := heap_set_same h 0 v
  simpa [Blk2] using this
theorem Blk2.set1 {w : World} {p : Nat} {v0 v1 : Value} {t : TypeId} (h : Blk2 w p v0 v1 t) (v : Value) : Blk2 (w.setCell ⟨p, 1, none⟩ v) p v0 v t := by
  have := heap_set_same h 1 v
  simpa [Blk2] using this
/-- Below B nothing has turned but block p. -/
structure KeepB (p B : Nat) (w w' : World) : Prop where
  os : w'.os = w.os
  tape : w'.tape = w.tape
  output : w'.output = w.output
  size : w.heap.size ≤ w'.heap.size
  block : ∀ q, q < B → q ≠ p → w'.heap[q]? = w.heap[q]?
theorem KeepB.refl (p B : Nat) (w : World) : KeepB p B w w := ⟨rfl, rfl, rfl, Nat.le_refl _, fun _ _ _ => rfl⟩
theorem KeepB.trans {p B : Nat} {a b c : World} (h : KeepB p B a b) (k : KeepB p B b c) : KeepB p B a c :=
  ⟨k.os.trans h.os, k.tape.trans h.tape, k.output.trans h.output, Nat.le_trans h.size k.size, fun q h1 h2 => (k.block q h1 h2).trans (h.block q h1 h2)⟩
theorem KeepB.of_below {p B : Nat} {a b : World} (h : Below B a b) : KeepB p B a b := ⟨h.os, h.tape, h.output, h.size, fun q h1 _ => h.block q h1⟩
theorem TurnV.keepB {p B n : Nat} {v : Value} {w w' : World} {e : TypeId} {xs : List Value} (h : TurnV p v w w') (ho : w.ownsRow B e 1 v n xs) (hB : B ≤ w.heap.size) : KeepB p B w w' :=
  ⟨h.os, h.tape, h.output, h.size, fun q hq hp => h.block q (by omega) hp (fun e => by have := (ho.lt q e).1; omega)⟩
/-- Behind a block that turns all stays that lay before. -/
theorem KeepB.below {p B C : Nat} {a b c : World} (h : Below C a b) (k : KeepB p B b c) (hC : C ≤ B) (hp : C ≤ p) : Below C a c :=
  ⟨k.os.trans h.os, k.tape.trans h.tape, k.output.trans h.output, Nat.le_trans h.size k.size, fun q hq => (k.block q (by omega) (by omega)).trans (h.block q hq)⟩
theorem Ints.keepB {p B : Nat} {w w' : World} {a : Option Addr} {n c : Nat} {xs : List Int} (h : Ints w a n c xs) (k : KeepB p B w w') (hB : ∀ b o, a = some ⟨b, o, none⟩ → b < B ∧ b ≠ p) : Ints w' a n c xs :=
  h.of_blocks k.size fun b o e _ => k.block b (hB b o e).1 (hB b o e).2
/-- A weighing lies at block p; its rows are the call's own. -/
structure WSt (w : World) (B p : Nat) (v : Value) (s : List Int) (u : Value) (o : List Int) : Prop where
  blk : Blk2 w p v u 27
  sv : w.ownsRow B 3 1 v s.length (s.map (Value.int .i64))
  ou : w.ownsRow B 3 1 u o.length (o.map (Value.int .i64))
  ap : Apart v u
  vp : v.ownBlock ≠ some p
  up : u.ownBlock ≠ some p
theorem WSt.later {w w' : World} {B p : Nat} {v u : Value} {s o : List Int} (h : WSt w B p v s u o) (hb : Below w.heap.size w w') : WSt w' B p v s u o :=
  ⟨h.blk.keep (hb.block p h.blk.lt), own_below h.sv hb, own_below h.ou hb, h.ap, h.vp, h.up⟩
/-- A number has been appended to the left row. -/
theorem WSt.left {w W w1 : World} {B p : Nat} {v u v' : Value} {s o s' : List Int} (h : WSt w B p v s u o) (hB : B ≤ w.heap.size) (hw : Below w.heap.size w W)
    (ho : w1.ownsRow B 3 1 v' s'.length (s'.map (Value.int .i64))) (hg : W.grownBy w1 v.ownBlock) (hat : v'.ownBlock = v.ownBlock ∨ v'.ownBlock = some W.heap.size) :
    Blk2 w1 p v u 27 ∧ WSt (w1.setCell ⟨p, 0, none⟩ v') B p v' s' u o ∧ KeepB p B w (w1.setCell ⟨p, 0, none⟩ v') := by
  have lp := h.blk.lt
  have hs := hw.size
  have b1 : Blk2 w1 p v u 27 := (h.blk.later hw).keep (hg.block p (by omega) (fun e => h.vp e.symm))
  have tv : TurnV p v w w1 := ((TurnV.refl p v w).of_below hw).grown hg rfl
  have nv : v'.ownBlock ≠ some p := fun e => by
    rcases hat with e1 | e1
    · rw [e1] at e; exact h.vp e
    · rw [e1] at e; cases e; omega
  have ts := tv.set 0 v'
  refine ⟨b1, ⟨b1.set0 v', own_stable ho fun q hq => heap_setCell_other w1 ⟨p, 0, none⟩ q v' (fun e => nv (by rw [hq, e])), own_stable h.ou fun q hq => ts.block q (h.ou.lt q hq).2 (fun e => h.up (e ▸ hq)) (fun e => h.ap q e hq), fun q h1 h2 => ?_, nv, h.up⟩, ts.keepB h.sv hB⟩
  rcases hat with e | e
  · rw [e] at h1; exact h.ap q h1 h2
  · rw [e] at h1; cases h1; have := (h.ou.lt _ h2).2; omega
/-- A number has been appended to the right row. -/
theorem WSt.right {w W w1 : World} {B p : Nat} {v u u' : Value} {s o o' : List Int} (h : WSt w B p v s u o) (hB : B ≤ w.heap.size) (hw : Below w.heap.size w W)
    (ho : w1.ownsRow B 3 1 u' o'.length (o'.map (Value.int .i64))) (hg : W.grownBy w1 u.ownBlock) (hat : u'.ownBlock = u.ownBlock ∨ u'.ownBlock = some W.heap.size) :
    Blk2 w1 p v u 27 ∧ WSt (w1.setCell ⟨p, 1, none⟩ u') B p v s u' o' ∧ KeepB p B w (w1.setCell ⟨p, 1, none⟩ u') := by
  have lp := h.blk.lt
  have hs := hw.size
  have b1 : Blk2 w1 p v u 27 := (h.blk.later hw).keep (hg.block p (by omega) (fun e => h.up e.symm))
  have tv : TurnV p u w w1 := ((TurnV.refl p u w).of_below hw).grown hg rfl
  have nv : u'.ownBlock ≠ some p := fun e => by
    rcases hat with e1 | e1
    · rw [e1] at e; exact h.up e
    · rw [e1] at e; cases e; omega
  have ts := tv.set 1 u'
  refine ⟨b1, ⟨b1.set1 u', own_stable h.sv fun q hq => ts.block q (h.sv.lt q hq).2 (fun e => h.vp (e ▸ hq)) (fun e => h.ap q hq e), own_stable ho fun q hq => heap_setCell_other w1 ⟨p, 1, none⟩ q u' (fun e => nv (by rw [hq, e])), fun q h1 h2 => ?_, h.vp, nv⟩, ts.keepB h.ou hB⟩
  rcases hat with e | e
  · rw [e] at h2; exact h.ap q h1 h2
  · rw [e] at h2; cases h2; have := (h.sv.lt _ h1).2; omega
/-- What lies there is the call's own. -/
theorem WSt.own {w : World} {B p : Nat} {a b : Option Addr} {n c m d : Nat} {s o : List Int} (h : WSt w B p (.slice a n c) s (.slice b m d) o) (hs : s.length = n) (ho : o.length = m) : OwnM w B w.heap.size a n c s b m d o :=
  ⟨⟨by have := h.sv; exact this, fun k hk => (h.sv.lt k hk).2⟩, ⟨h.ou, fun k hk => (h.ou.lt k hk).2⟩, h.ap, hs, ho⟩
abbrev weigV (a : Option Addr) (n c : Nat) (b : Option Addr) (m c2 : Nat) : Value := .agg #[.slice a n c, .slice b m c2]
/-- A weighing is handed back, all of it new. -/
def RetW (w : World) (s o : List Int) (r : Ending) (w' : World) : Prop :=
  ∃ a c b c2, r = .returned (weigV a s.length c b o.length c2) ∧ OwnM w' w.heap.size w'.heap.size a s.length c s b o.length c2 o ∧ Below w.heap.size w w' ∧ s.length ≤ 1048576 ∧ o.length ≤ 1048576
def RetWB (w : World) (s o : List Int) (x : Bool) (r : Ending) (w' : World) : Prop :=
  ∃ a c b c2, r = .returned (.tuple #[weigV a s.length c b o.length c2, .bool x]) ∧ OwnM w' w.heap.size w'.heap.size a s.length c s b o.length c2 o ∧ Below w.heap.size w w' ∧ s.length ≤ 1048576 ∧ o.length ≤ 1048576
theorem szWeig (a : Option Addr) (n c : Nat) (s : List Int) (b : Option Addr) (m c2 : Nat) (o : List Int) (left : Int) (w : World) (h : Ms w a n c s b m c2 o) (h0 : 0 ≤ left) (h1 : left ≤ 1048576) : Calls Try.prog 41 #[weigV a n c b m c2, .int .i64 left] w fun r w' => r = .returned (.int .i64 (if left - (n : Int) - (m : Int) < 0 then -1 else left - (n : Int) - (m : Int))) ∧ Below w.heap.size w w' := by
  have H := Lib.hid h
  have SG := Lib.hid (fun (w : World) (h : Ints w a n c s) => szInts a n c s left w h h0 h1)
  clear h
  by_cases c1 : left - (n : Int) < 0
  · rw [if_pos c1] at SG
    rw [if_pos (by omega)]
    go_enter Try.func41, Try.ntmps41
    go_wp2_with fail
    refine (SG.out _ (H.out.1.below (by (repeat' (first | (with_reducible exact Below.refl _ _) | (with_reducible assumption) | (with_reducible refine below_drewN ?_ _) | (with_reducible refine Below.drew ?_) | (with_reducible refine Below.alloc ?_ ?_ _) | (with_reducible refine Below.setCell ?_ ?_ _) | (with_reducible refine below_gw ?_ ?_ _) | (with_reducible refine below_via ?_ ‹Below _ _ _› ?_) | (with_reducible exact Nat.le_refl _) | (with_reducible refine le_gw ?_ _) | (with_reducible refine le_alloc ?_ _) | (with_reducible refine le_setCell ?_ _ _) | (with_reducible refine le_drew ?_) | (with_reducible refine le_drewN ?_ _) | go_size))))).mono ?_
    rintro r w' ⟨rfl, rfl⟩
    go_wp2
    go_ret
    exact ⟨rfl, by (repeat' (first | (with_reducible exact Below.refl _ _) | (with_reducible assumption) | (with_reducible refine below_drewN ?_ _) | (with_reducible refine Below.drew ?_) | (with_reducible refine Below.alloc ?_ ?_ _) | (with_reducible refine Below.setCell ?_ ?_ _) | (with_reducible refine below_gw ?_ ?_ _) | (with_reducible refine below_via ?_ ‹Below _ _ _› ?_) | (with_reducible exact Nat.le_refl _) | (with_reducible refine le_gw ?_ _) | (with_reducible refine le_alloc ?_ _) | (with_reducible refine le_setCell ?_ _ _) | (with_reducible refine le_drew ?_) | (with_reducible refine le_drewN ?_ _) | go_size))⟩
  · rw [if_neg c1] at SG
    have c1' : 0 ≤ left - (n : Int) := by omega
    have SI := Lib.hid (fun (w : World) (h : Ints w b m c2 o) => szInts b m c2 o (left - (n : Int)) w h (by omega) (by omega))
    by_cases c2 : left - (n : Int) - (m : Int) < 0
    · rw [if_pos c2] at SI
      rw [if_pos c2]
      go_enter Try.func41, Try.ntmps41
      go_wp2_with fail
      refine (SG.out _ (H.out.1.below (by (repeat' (first | (with_reducible exact Below.refl _ _) | (with_reducible assumption) | (with_reducible refine below_drewN ?_ _) | (with_reducible refine Below.drew ?_) | (with_reducible refine Below.alloc ?_ ?_ _) | (with_reducible refine Below.setCell ?_ ?_ _) | (with_reducible refine below_gw ?_ ?_ _) | (with_reducible refine below_via ?_ ‹Below _ _ _› ?_) | (with_reducible exact Nat.le_refl _) | (with_reducible refine le_gw ?_ _) | (with_reducible refine le_alloc ?_ _) | (with_reducible refine le_setCell ?_ _ _) | (with_reducible refine le_drew ?_) | (with_reducible refine le_drewN ?_ _) | go_size))))).mono ?_
      rintro r w' ⟨rfl, rfl⟩
      go_wp2_with fail
      refine (SI.out _ (H.out.2.below (by (repeat' (first | (with_reducible exact Below.refl _ _) | (with_reducible assumption) | (with_reducible refine below_drewN ?_ _) | (with_reducible refine Below.drew ?_) | (with_reducible refine Below.alloc ?_ ?_ _) | (with_reducible refine Below.setCell ?_ ?_ _) | (with_reducible refine below_gw ?_ ?_ _) | (with_reducible refine below_via ?_ ‹Below _ _ _› ?_) | (with_reducible exact Nat.le_refl _) | (with_reducible refine le_gw ?_ _) | (with_reducible refine le_alloc ?_ _) | (with_reducible refine le_setCell ?_ _ _) | (with_reducible refine le_drew ?_) | (with_reducible refine le_drewN ?_ _) | go_size))))).mono ?_
      rintro r w' ⟨rfl, rfl⟩
      go_wp2
      go_ret
      exact ⟨rfl, by (repeat' (first | (with_reducible exact Below.refl _ _) | (with_reducible assumption) | (with_reducible refine below_drewN ?_ _) | (with_reducible refine Below.drew ?_) | (with_reducible refine Below.alloc ?_ ?_ _) | (with_reducible refine Below.setCell ?_ ?_ _) | (with_reducible refine below_gw ?_ ?_ _) | (with_reducible refine below_via ?_ ‹Below _ _ _› ?_) | (with_reducible exact Nat.le_refl _) | (with_reducible refine le_gw ?_ _) | (with_reducible refine le_alloc ?_ _) | (with_reducible refine le_setCell ?_ _ _) | (with_reducible refine le_drew ?_) | (with_reducible refine le_drewN ?_ _) | go_size))⟩
    · rw [if_neg c2] at SI
      rw [if_neg c2]
      have c2' : 0 ≤ left - (n : Int) - (m : Int) := by omega
      go_enter Try.func41, Try.ntmps41
      go_wp2_with fail
      refine (SG.out _ (H.out.1.below (by (repeat' (first | (with_reducible exact Below.refl _ _) | (with_reducible assumption) | (with_reducible refine below_drewN ?_ _) | (with_reducible refine Below.drew ?_) | (with_reducible refine Below.alloc ?_ ?_ _) | (with_reducible refine Below.setCell ?_ ?_ _) | (with_reducible refine below_gw ?_ ?_ _) | (with_reducible refine below_via ?_ ‹Below _ _ _› ?_) | (with_reducible exact Nat.le_refl _) | (with_reducible refine le_gw ?_ _) | (with_reducible refine le_alloc ?_ _) | (with_reducible refine le_setCell ?_ _ _) | (with_reducible refine le_drew ?_) | (with_reducible refine le_drewN ?_ _) | go_size))))).mono ?_
      rintro r w' ⟨rfl, rfl⟩
      go_wp2_with fail
      refine (SI.out _ (H.out.2.below (by (repeat' (first | (with_reducible exact Below.refl _ _) | (with_reducible assumption) | (with_reducible refine below_drewN ?_ _) | (with_reducible refine Below.drew ?_) | (with_reducible refine Below.alloc ?_ ?_ _) | (with_reducible refine Below.setCell ?_ ?_ _) | (with_reducible refine below_gw ?_ ?_ _) | (with_reducible refine below_via ?_ ‹Below _ _ _› ?_) | (with_reducible exact Nat.le_refl _) | (with_reducible refine le_gw ?_ _) | (with_reducible refine le_alloc ?_ _) | (with_reducible refine le_setCell ?_ _ _) | (with_reducible refine le_drew ?_) | (with_reducible refine le_drewN ?_ _) | go_size))))).mono ?_
      rintro r w' ⟨rfl, rfl⟩
      go_wp2
      go_ret
      exact ⟨rfl, by (repeat' (first | (with_reducible exact Below.refl _ _) | (with_reducible assumption) | (with_reducible refine below_drewN ?_ _) | (with_reducible refine Below.drew ?_) | (with_reducible refine Below.alloc ?_ ?_ _) | (with_reducible refine Below.setCell ?_ ?_ _) | (with_reducible refine below_gw ?_ ?_ _) | (with_reducible refine below_via ?_ ‹Below _ _ _› ?_) | (with_reducible exact Nat.le_refl _) | (with_reducible refine le_gw ?_ _) | (with_reducible refine le_alloc ?_ _) | (with_reducible refine le_setCell ?_ _ _) | (with_reducible refine le_drew ?_) | (with_reducible refine le_drewN ?_ _) | go_size))⟩
theorem eqWeig_same (a a' : Option Addr) (n c c' : Nat) (s : List Int) (b b' : Option Addr) (m d d' : Nat) (o : List Int) (w : World) (h : Ms w a n c s b m d o) (h' : Ms w a' n c' s b' m d' o) : Calls Try.prog 38 #[weigV a n c b m d, weigV a' n c' b' m d'] w fun r w' => r = .returned (.bool true) ∧ Below w.heap.size w w' := by
  have H := Lib.hid h
  have H2 := Lib.hid h'
  clear h h'
  go_enter Try.func38, Try.ntmps38
  go_wp2_with fail
  refine (eqIntS_same a a' n c c' s _ (H.out.1.below (by (repeat' (first | (with_reducible exact Below.refl _ _) | (with_reducible assumption) | (with_reducible refine below_drewN ?_ _) | (with_reducible refine Below.drew ?_) | (with_reducible refine Below.alloc ?_ ?_ _) | (with_reducible refine Below.setCell ?_ ?_ _) | (with_reducible refine below_gw ?_ ?_ _) | (with_reducible refine below_via ?_ ‹Below _ _ _› ?_) | (with_reducible exact Nat.le_refl _) | (with_reducible refine le_gw ?_ _) | (with_reducible refine le_alloc ?_ _) | (with_reducible refine le_setCell ?_ _ _) | (with_reducible refine le_drew ?_) | (with_reducible refine le_drewN ?_ _) | go_size)))) (H2.out.1.below (by (repeat' (first | (with_reducible exact Below.refl _ _) | (with_reducible assumption) | (with_reducible refine below_drewN ?_ _) | (with_reducible refine Below.drew ?_) | (with_reducible refine Below.alloc ?_ ?_ _) | (with_reducible refine Below.setCell ?_ ?_ _) | (with_reducible refine below_gw ?_ ?_ _) | (with_reducible refine below_via ?_ ‹Below _ _ _› ?_) | (with_reducible exact Nat.le_refl _) | (with_reducible refine le_gw ?_ _) | (with_reducible refine le_alloc ?_ _) | (with_reducible refine le_setCell ?_ _ _) | (with_reducible refine le_drew ?_) | (with_reducible refine le_drewN ?_ _) | go_size))))).mono ?_
  rintro r w1 ⟨rfl, hb⟩
  obtain ⟨p, rfl⟩ := gw_of_below hb
  clear hb
  go_wp2_with fail
  refine (eqIntS_same b b' m d d' o _ (H.out.2.below (by (repeat' (first | (with_reducible exact Below.refl _ _) | (with_reducible assumption) | (with_reducible refine below_drewN ?_ _) | (with_reducible refine Below.drew ?_) | (with_reducible refine Below.alloc ?_ ?_ _) | (with_reducible refine Below.setCell ?_ ?_ _) | (with_reducible refine below_gw ?_ ?_ _) | (with_reducible refine below_via ?_ ‹Below _ _ _› ?_) | (with_reducible exact Nat.le_refl _) | (with_reducible refine le_gw ?_ _) | (with_reducible refine le_alloc ?_ _) | (with_reducible refine le_setCell ?_ _ _) | (with_reducible refine le_drew ?_) | (with_reducible refine le_drewN ?_ _) | go_size)))) (H2.out.2.below (by (repeat' (first | (with_reducible exact Below.refl _ _) | (with_reducible assumption) | (with_reducible refine below_drewN ?_ _) | (with_reducible refine Below.drew ?_) | (with_reducible refine Below.alloc ?_ ?_ _) | (with_reducible refine Below.setCell ?_ ?_ _) | (with_reducible refine below_gw ?_ ?_ _) | (with_reducible refine below_via ?_ ‹Below _ _ _› ?_) | (with_reducible exact Nat.le_refl _) | (with_reducible refine le_gw ?_ _) | (with_reducible refine le_alloc ?_ _) | (with_reducible refine le_setCell ?_ _ _) | (with_reducible refine le_drew ?_) | (with_reducible refine le_drewN ?_ _) | go_size))))).mono ?_
  rintro r w1 ⟨rfl, hb⟩
  obtain ⟨p, rfl⟩ := gw_of_below hb
  clear hb
  go_wp2
  go_ret
  exact ⟨rfl, by (repeat' (first | (with_reducible exact Below.refl _ _) | (with_reducible assumption) | (with_reducible refine below_drewN ?_ _) | (with_reducible refine Below.drew ?_) | (with_reducible refine Below.alloc ?_ ?_ _) | (with_reducible refine Below.setCell ?_ ?_ _) | (with_reducible refine below_gw ?_ ?_ _) | (with_reducible refine below_via ?_ ‹Below _ _ _› ?_) | (with_reducible exact Nat.le_refl _) | (with_reducible refine le_gw ?_ _) | (with_reducible refine le_alloc ?_ _) | (with_reducible refine le_setCell ?_ _ _) | (with_reducible refine le_drew ?_) | (with_reducible refine le_drewN ?_ _) | go_size))⟩
set_option maxHeartbeats 1000000 in
theorem toWeig_any (a : Option Addr) (n c : Nat) (s : List Int) (b : Option Addr) (m d : Nat) (o : List Int) (w : World) (h : Ms w a n c s b m d o) (hn : n ≤ 1048576) (hm : m ≤ 1048576) : Calls Try.prog 43 #[weigV a n c b m d] w (RetW w s o) := by
  have H := Lib.hid h
  obtain rfl : n = s.length := h.1.1.symm
  obtain rfl : m = o.length := h.2.1.symm
  clear h
  go_enter Try.func43, Try.ntmps43
  go_wp2_with fail
  refine (toIntS_any a s.length c s _ (H.out.1.below (by (repeat' (first | (with_reducible exact Below.refl _ _) | (with_reducible assumption) | (with_reducible refine below_drewN ?_ _) | (with_reducible refine Below.drew ?_) | (with_reducible refine Below.alloc ?_ ?_ _) | (with_reducible refine Below.setCell ?_ ?_ _) | (with_reducible refine below_gw ?_ ?_ _) | (with_reducible refine below_via ?_ ‹Below _ _ _› ?_) | (with_reducible exact Nat.le_refl _) | (with_reducible refine le_gw ?_ _) | (with_reducible refine le_alloc ?_ _) | (with_reducible refine le_setCell ?_ _ _) | (with_reducible refine le_drew ?_) | (with_reducible refine le_drewN ?_ _) | go_size)))) hn).mono ?_
  rintro r w1 ⟨a1, c1, rfl, hown, hb, -⟩
  have O1 := Lib.hid (OwnI.of hown)
  have HB1 := Lib.hid hb
  obtain ⟨p, rfl⟩ := gw_of_below hb
  clear hb hown
  go_wp2_with fail
  refine (toIntS_any b o.length d o _ (H.out.2.below (by (repeat' (first | (with_reducible exact Below.refl _ _) | (with_reducible assumption) | (with_reducible refine below_drewN ?_ _) | (with_reducible refine Below.drew ?_) | (with_reducible refine Below.alloc ?_ ?_ _) | (with_reducible refine Below.setCell ?_ ?_ _) | (with_reducible refine below_gw ?_ ?_ _) | (with_reducible refine below_via ?_ ‹Below _ _ _› ?_) | (with_reducible exact Nat.le_refl _) | (with_reducible refine le_gw ?_ _) | (with_reducible refine le_alloc ?_ _) | (with_reducible refine le_setCell ?_ _ _) | (with_reducible refine le_drew ?_) | (with_reducible refine le_drewN ?_ _) | go_size)))) hm).mono ?_
  rintro r w2 ⟨a2, c2, rfl, hown, hb, -⟩
  have O2 := Lib.hid (OwnI.of hown)
  have HB2 := Lib.hid hb
  obtain ⟨q, rfl⟩ := gw_of_below hb
  clear hb hown
  go_wp2
  go_returns
  have o2 := O2.out.1
  rw [gw_gw] at o2
  exact ⟨a1, c1, a2, c2, rfl, ownM_two (by simp only [World.size_alloc]) (by simp only [World.size_alloc]) (by simp only [World.size_alloc]; omega) O1.out.1 o2 rfl rfl, by (repeat' (first | (with_reducible exact Below.refl _ _) | (with_reducible assumption) | (with_reducible refine below_drewN ?_ _) | (with_reducible refine Below.drew ?_) | (with_reducible refine Below.alloc ?_ ?_ _) | (with_reducible refine Below.setCell ?_ ?_ _) | (with_reducible refine below_gw ?_ ?_ _) | (with_reducible refine below_via ?_ ‹Below _ _ _› ?_) | (with_reducible exact Nat.le_refl _) | (with_reducible refine le_gw ?_ _) | (with_reducible refine le_alloc ?_ _) | (with_reducible refine le_setCell ?_ _ _) | (with_reducible refine le_drew ?_) | (with_reducible refine le_drewN ?_ _) | go_size)), hn, hm⟩
set_option maxHeartbeats 1000000 in
theorem markWeig_any (B E : Nat) (a : Option Addr) (n c : Nat) (s : List Int) (b : Option Addr) (m d : Nat) (o : List Int) (x : Int) (w : World) (h : OwnM w B E a n c s b m d o) (hE : E ≤ w.heap.size) (hn : n ≤ 1048576) (hm : m ≤ 1048576) (hc0 : 0 ≤ x) (hc1 : x ≤ 100000000) :
    Calls Try.prog 39 #[weigV a n c b m d, .int .i64 x] w fun r w' => r = .returned (.int .i64 (x + (n : Int) + (m : Int))) ∧ OwnM w' B E a n c (marks x n) b m d (marks (x + (n : Int)) m) ∧ TurnF B E w w' := by
  have H := Lib.hid h
  have LS := Lib.hid h.ls
  have ML := Lib.hid h.lo
  have OG : Hid (w.ownsRow B 3 1 (.slice a n c) n (s.map (Value.int .i64))) := Lib.hid (by have := h.g.1; rw [h.ls] at this; exact this)
  clear h
  go_enter Try.func39, Try.ntmps39
  go_wp2_with fail
  refine (markIntS_any B a n c s x _ LS.out ((own_below OG.out ((Below.refl _ _).alloc (Nat.le_refl _) _))) hn hc0 (by omega)).mono ?_
  rintro r w1 ⟨rfl, ho, hg, hz⟩
  have O1 := Lib.hid ho
  have T1 : Hid (TurnF B E w w1) := Lib.hid (TurnF.of_grown ((Below.refl _ _).alloc (Nat.le_refl _) _) hg fun q hq => H.out.g.lt q hq)
  have NG : Hid (w.heap.size < w1.heap.size ∧ w1.cell? ⟨w.heap.size, 1, none⟩ = some (.slice b m d)) := Lib.hid (by
    refine ⟨by rw [hz]; simp, ?_⟩
    have hne : some w.heap.size ≠ (Value.slice a n c).ownBlock := fun e => by have := (H.out.g.lt _ e.symm).2; omega
    rw [World.cell?_of_block (a := ⟨w.heap.size, 1, none⟩) (hg.block w.heap.size (by simp) hne)]
    simp)
  obtain ⟨lt1, cb⟩ := NG.out
  have I1 : Hid (w1.ownsRow B 3 1 (.slice b m d) m (o.map (Value.int .i64))) := Lib.hid (by
    have := H.out.i.1
    rw [ML.out] at this
    exact own_stable this fun q hq => by
      have lq := H.out.i.lt q hq
      rw [hg.block q (by simp; omega) (fun e => H.out.ap q e.symm hq)]
      exact ((Below.refl w.heap.size w).alloc (Nat.le_refl _) _).block q (by omega))
  clear ho hg hz NG
  go_wp2_with fail
  refine (markIntS_any B b m d o (x + (n : Int)) _ ML.out I1.out hm (by omega) (by omega)).mono ?_
  rintro r w2 ⟨rfl, ho, hg, hz⟩
  have T2 : Hid (TurnF B E w w2) := Lib.hid (T1.out.grown hg fun q hq => H.out.i.lt q hq)
  have O2 : Hid (w2.ownsRow B 3 1 (.slice a n c) n ((marks x n).map (Value.int .i64))) := Lib.hid (own_stable O1.out fun q hq => hg.block q (O1.out.lt q hq).2 (fun e => H.out.ap q hq e.symm))
  have I2 := Lib.hid ho
  clear ho hg hz
  go_wp2
  go_ret
  exact ⟨rfl, ⟨⟨by rw [marks_length]; exact O2.out, H.out.g.2⟩, ⟨by rw [marks_length]; exact I2.out, H.out.i.2⟩, H.out.ap, marks_length _ _, marks_length _ _⟩, T2.out⟩
theorem heldWeig_marks (B E : Nat) (a : Option Addr) (n c : Nat) (b : Option Addr) (m d : Nat) (x : Int) (w : World) (h : OwnM w B E a n c (marks x n) b m d (marks (x + (n : Int)) m)) (hn : n ≤ 1048576) (hm : m ≤ 1048576) (hc0 : 0 ≤ x) (hc1 : x ≤ 100000000) :
    Calls Try.prog 40 #[weigV a n c b m d, .int .i64 x] w fun r w' => r = .returned (.int .i64 (x + (n : Int) + (m : Int))) ∧ Below w.heap.size w w' := by
  have H := Lib.hid h
  clear h
  have c0 : 0 ≤ x + (n : Int) := by omega
  have c1 : 0 ≤ x + (n : Int) + (m : Int) := by omega
  go_enter Try.func40, Try.ntmps40
  go_wp2_with fail
  refine (heldIntS_marks a n c x _ ((H.out.g.intsAt (marks_length _ _)).below (by (repeat' (first | (with_reducible exact Below.refl _ _) | (with_reducible assumption) | (with_reducible refine below_drewN ?_ _) | (with_reducible refine Below.drew ?_) | (with_reducible refine Below.alloc ?_ ?_ _) | (with_reducible refine Below.setCell ?_ ?_ _) | (with_reducible refine below_gw ?_ ?_ _) | (with_reducible refine below_via ?_ ‹Below _ _ _› ?_) | (with_reducible exact Nat.le_refl _) | (with_reducible refine le_gw ?_ _) | (with_reducible refine le_alloc ?_ _) | (with_reducible refine le_setCell ?_ _ _) | (with_reducible refine le_drew ?_) | (with_reducible refine le_drewN ?_ _) | go_size)))) hn hc0 (by omega)).mono ?_
  rintro r w' ⟨rfl, rfl⟩
  go_wp2_with fail
  refine (heldIntS_marks b m d (x + (n : Int)) _ ((H.out.i.intsAt (marks_length _ _)).below (by (repeat' (first | (with_reducible exact Below.refl _ _) | (with_reducible assumption) | (with_reducible refine below_drewN ?_ _) | (with_reducible refine Below.drew ?_) | (with_reducible refine Below.alloc ?_ ?_ _) | (with_reducible refine Below.setCell ?_ ?_ _) | (with_reducible refine below_gw ?_ ?_ _) | (with_reducible refine below_via ?_ ‹Below _ _ _› ?_) | (with_reducible exact Nat.le_refl _) | (with_reducible refine le_gw ?_ _) | (with_reducible refine le_alloc ?_ _) | (with_reducible refine le_setCell ?_ _ _) | (with_reducible refine le_drew ?_) | (with_reducible refine le_drewN ?_ _) | go_size)))) hm (by omega) (by omega)).mono ?_
  rintro r w' ⟨rfl, rfl⟩
  go_wp2
  go_ret
  exact ⟨rfl, by (repeat' (first | (with_reducible exact Below.refl _ _) | (with_reducible assumption) | (with_reducible refine below_drewN ?_ _) | (with_reducible refine Below.drew ?_) | (with_reducible refine Below.alloc ?_ ?_ _) | (with_reducible refine Below.setCell ?_ ?_ _) | (with_reducible refine below_gw ?_ ?_ _) | (with_reducible refine below_via ?_ ‹Below _ _ _› ?_) | (with_reducible exact Nat.le_refl _) | (with_reducible refine le_gw ?_ _) | (with_reducible refine le_alloc ?_ _) | (with_reducible refine le_setCell ?_ _ _) | (with_reducible refine le_drew ?_) | (with_reducible refine le_drewN ?_ _) | go_size))⟩
end Go.Proofs.Yteklgngooflhlaa

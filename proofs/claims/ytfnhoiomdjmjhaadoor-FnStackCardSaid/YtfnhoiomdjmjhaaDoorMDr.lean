/- What the laws draw: machines. -/
import Derived.Test.YtfnhoiomdjmjhaaDoorMCp
import Derived.Test.YtfnhoiomdjmjhaaDoorMDg
import Derived.Test.YtfnhoiomdjmjhaaDoorStep
import Derived.Test.YtfnhoiomdjmjhaaDoorTail
import Derived.Test.YtfnhoiomdjmjhaaDoorMS1
namespace Go.Proofs.YtfnhoiomdjmjhaaDoor
set_option maxRecDepth 20000
open Go.RowKit
/-! ### A machine that is drawn. -/
theorem MSt.moved {w w' : World} {B pb p : Nat} {k : Int} {v u : Value} {s o : List Int} (h : MSt w B pb k v s u o) (hg : w.grownBy w' (some p)) (hp : p < B) : MSt w' B pb k v s u o :=
  ⟨h.blk.keep (hg.block pb h.blk.lt (by have := h.low; simp; omega)), h.low, own_turn h.sv hg hp, own_turn h.ou hg hp, h.ap, h.vp, h.up⟩
/-- What a draw of a machine keeps: the cursor, the result's box, the machine's box and rows. -/
structure Drm (w wr : World) (q p : Nat) (a : Option Addr) (n cap pb : Nat) (k : Int) (v u : Value) (s o : List Int) : Prop where
  cur : Cur wr q p a n cap
  res : Blk3 wr w.heap.size (.int .i64 0) (.slice none 0 0) (.slice none 0 0) 27
  ms : MSt wr (w.heap.size + 1) pb k v s u o
  grown : w.grownBy wr (some p)
  pl : p < w.heap.size
theorem Drm.moved {w wr w2 : World} {q p : Nat} {a : Option Addr} {n cap pb : Nat} {k : Int} {v u : Value} {s o : List Int} (h : Drm w wr q p a n cap pb k v u s o) (hc : Cur w2 q p a n cap) (hg : wr.grownBy w2 (some p)) : Drm w w2 q p a n cap pb k v u s o :=
  ⟨hc, h.res.keep (hg.block _ h.res.lt (by have := h.pl; simp; omega)), h.ms.moved hg (by have := h.pl; omega), grown_trans h.grown hg, h.pl⟩
theorem Drm.below {w wr w2 : World} {q p : Nat} {a : Option Addr} {n cap pb : Nat} {k : Int} {v u : Value} {s o : List Int} (h : Drm w wr q p a n cap pb k v u s o) (hb : Below wr.heap.size wr w2) : Drm w w2 q p a n cap pb k v u s o :=
  h.moved (h.cur.below hb) (below_grown hb (Nat.le_refl _))
/-- The machine's box or its stack has turned. -/
theorem Drm.turn {w wr W : World} {q p : Nat} {a : Option Addr} {n cap pb : Nat} {k k' : Int} {v v' u : Value} {s s' o : List Int} (h : Drm w wr q p a n cap pb k v u s o) (ht : TurnV pb v wr W) (hb : Blk3 W pb (.int .i64 k') v' u 27)
    (ho : W.ownsRow (w.heap.size + 1) 3 1 v' s'.length (s'.map (Value.int .i64))) (hv : v'.ownBlock = v.ownBlock ∨ ∃ q, v'.ownBlock = some q ∧ wr.heap.size ≤ q) : Drm w W q p a n cap pb k' v' u s' o := by
  obtain ⟨m, _⟩ := h.ms.turn ht hb ho hv
  have lo := h.ms.low
  have pl := h.pl
  have qp := h.cur.qp
  have gs := h.grown.size
  have vl : ∀ j, v.ownBlock = some j → w.heap.size + 1 ≤ j := fun j e => (h.ms.sv.lt j e).1
  have nb : ∀ j, j < wr.heap.size → j ≤ w.heap.size → W.heap[j]? = wr.heap[j]? := fun j h1 h2 => ht.block j h1 (by omega) (fun e => by have := vl j e; omega)
  have rl := h.res.lt
  refine ⟨h.cur.of_blocks (nb p (by omega) (by omega)) (fun b hb => nb b (by omega) (by omega)), h.res.keep (nb _ rl (Nat.le_refl _)), m, ⟨ht.os.trans h.grown.os, ht.tape.trans h.grown.tape, ht.output.trans h.grown.output, by have := ht.size; omega, fun j hj hne => (nb j (by omega) (by omega)).trans (h.grown.block j hj hne)⟩, pl⟩
/-- The place is set. -/
theorem Drm.pc {w wr : World} {q p : Nat} {a : Option Addr} {n cap pb : Nat} {k : Int} {v u : Value} {s o : List Int} (h : Drm w wr q p a n cap pb k v u s o) (k' : Int) : Drm w (wr.setCell ⟨pb, 0, none⟩ (.int .i64 k')) q p a n cap pb k' v u s o :=
  h.turn ((TurnV.refl pb v wr).set 0 _) (h.ms.blk.set0 _) (own_set_far h.ms.sv h.ms.vp) (.inl rfl)
/-- The stack has grown. -/
theorem Drm.push {w wr w2 : World} {q p : Nat} {a : Option Addr} {n cap pb : Nat} {k : Int} {v v' u : Value} {s s' o : List Int} (h : Drm w wr q p a n cap pb k v u s o) (hg : wr.grownBy w2 v.ownBlock)
    (ho : w2.ownsRow (w.heap.size + 1) 3 1 v' s'.length (s'.map (Value.int .i64))) (hv : v'.ownBlock = v.ownBlock ∨ v'.ownBlock = some wr.heap.size) : Drm w (w2.setCell ⟨pb, 1, none⟩ v') q p a n cap pb k v' u s' o := by
  have l := h.ms.blk.lt
  have nv : v'.ownBlock ≠ some pb := fun e => by
    rcases hv with e1 | e1
    · rw [e1] at e; exact h.ms.vp e
    · rw [e1] at e; have := Option.some.inj e; omega
  have b2 : Blk3 w2 pb (.int .i64 k) v u 27 := h.ms.blk.keep (hg.block pb l (fun e => h.ms.vp e.symm))
  exact h.turn (((TurnV.refl pb v wr).grown hg rfl).set 1 _) (b2.set1 _) (own_set_far ho nv) (hv.imp id fun e => ⟨_, e, Nat.le_refl _⟩)
/-- A cell is set. -/
theorem Drm.cell {w wr : World} {q p : Nat} {a : Option Addr} {n cap pb g m c : Nat} {k : Int} {v : Value} {s o : List Int} (h : Drm w wr q p a n cap pb k v (.slice (some ⟨g, 0, none⟩) m c) s o) (hm : m = o.length) (j : Nat) (x : Int) :
    Drm w (wr.setCell ⟨g, j, none⟩ (.int .i64 x)) q p a n cap pb k v (.slice (some ⟨g, 0, none⟩) m c) s (o.set j x) := by
  subst hm
  have hst := h.ms.ou.stored j (.int .i64 x)
  rw [map_set_int] at hst
  obtain ⟨s1, s2⟩ := hst
  have gl := h.ms.ou.lt g rfl
  have lo := h.ms.low
  have pl := h.pl
  have qp := h.cur.qp
  have gs := h.grown.size
  have s2s := s2.size
  have gp : g ≠ pb := fun e => h.ms.up (by rw [← e]; rfl)
  have nb : ∀ j, j < wr.heap.size → j ≠ g → (wr.setCell ⟨g, _, none⟩ (.int .i64 x)).heap[j]? = wr.heap[j]? := fun j h1 h2 => s2.block j h1 (fun e => h2 (Option.some.inj e))
  have rl := h.res.lt
  refine ⟨h.cur.of_blocks (nb p (by omega) (by omega)) (fun b hb => nb b (by omega) (by omega)), h.res.keep (nb _ rl (by omega)), ⟨h.ms.blk.keep (nb pb h.ms.blk.lt (Ne.symm gp)), lo, own_stable h.ms.sv fun r hr => nb r (h.ms.sv.lt r hr).2 (fun e => h.ms.ap r hr (by rw [e]; rfl)), by rw [List.length_set]; exact s1, h.ms.ap, h.ms.vp, h.ms.up⟩, ⟨s2.os.trans h.grown.os, s2.tape.trans h.grown.tape, s2.output.trans h.grown.output, by omega, fun j hj hne => (nb j (by omega) (by omega)).trans (h.grown.block j hj hne)⟩, pl⟩
end Go.Proofs.YtfnhoiomdjmjhaaDoor

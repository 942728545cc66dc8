/- Rows of structs, ranges of cells: what holds of every kind (split out of XGRow). -/
import Derived.Test.YtjbmgppgkgacpaaTurn
import Derived.Deep.MidRow
namespace Go.Proofs.Ytjbmgppgkgacpaa
set_option maxRecDepth 20000
open Go.RowKit
def setAll : List Value → Nat → List Value → List Value
  | xs, _, [] => xs
  | xs, j, v :: r => setAll (xs.set j v) (j + 1) r
theorem own_setCells {base e size g n cap : Nat} (vs : List Value) : ∀ (w : World) (xs : List Value) (j : Nat), w.ownsRow base e size (.slice (some ⟨g, 0, none⟩) n cap) n xs →
    (w.setCells g j vs).ownsRow base e size (.slice (some ⟨g, 0, none⟩) n cap) n (setAll xs j vs) ∧ w.grownBy (w.setCells g j vs) (some g) := by
  induction vs with
  | nil => intro w xs j h; exact ⟨h, ⟨rfl, rfl, rfl, Nat.le_refl _, fun _ _ _ => rfl⟩⟩
  | cons v r ih =>
    intro w xs j h
    obtain ⟨h1, h2⟩ := h.stored j v
    obtain ⟨h3, h4⟩ := ih _ _ (j + 1) h1
    rw [World.setCells, setAll]
    exact ⟨h3, ⟨h4.os.trans h2.os, h4.tape.trans h2.tape, h4.output.trans h2.output, Nat.le_trans h2.size h4.size, fun k hk hne => (h4.block k (Nat.lt_of_lt_of_le hk h2.size) hne).trans (h2.block k hk hne)⟩⟩
theorem setCells_size (g : Nat) (vs : List Value) : ∀ (w : World) (j : Nat), (w.setCells g j vs).heap.size = w.heap.size := by
  induction vs with
  | nil => intro w j; rfl
  | cons v r ih => intro w j; rw [World.setCells, ih, World.size_setCell]
theorem fillTo_setAll (xs : List Int) (n : Nat) : ∀ (vs : List Value) (k : Nat), k + vs.length ≤ n → (∀ j v, vs[j]? = some v → v = Value.int .i64 (xs.getD (k + j) 0)) → setAll (fillTo xs n k) k vs = fillTo xs n (k + vs.length) := by
  intro vs
  induction vs with
  | nil => intro k _ _; rfl
  | cons v r ih =>
    intro k hk hv
    have h0 := hv 0 v rfl
    simp only [Nat.add_zero] at h0
    subst h0
    simp only [List.length_cons] at hk
    rw [setAll, fillTo_set xs n k (by omega), ih (k + 1) (by omega) (fun j v hj => by have := hv (j + 1) v (by simpa using hj); rw [this, show k + (j + 1) = k + 1 + j by omega]), List.length_cons, show k + 1 + r.length = k + (r.length + 1) by omega]
theorem own_there {w : World} {base e size g n cap j m : Nat} {xs : List Value} (h : w.ownsRow base e size (.slice (some ⟨g, 0, none⟩) n cap) n xs) (hj : j + m ≤ n * size) : w.there g j m := fun q hq =>
  ⟨by rw [h.cellAt (j + q) (by have := h.1; omega), List.getElem?_eq_getElem (by have := h.1; omega)]; rfl, h.frozenAt _⟩
theorem TurnF.grown {B E : Nat} {w w1 w' : World} {row : Option Nat} (t : TurnF B E w w1) (h : w1.grownBy w' row) (hr : ∀ k, row = some k → B ≤ k ∧ k < E) : TurnF B E w w' :=
  ⟨h.os.trans t.os, h.tape.trans t.tape, h.output.trans t.output, Nat.le_trans t.size h.size, fun k h1 h2 => (h.block k (Nat.lt_of_lt_of_le h1 t.size) (fun e => h2 (hr k e.symm))).trans (t.block k h1 h2)⟩
theorem apart_of {B1 E1 B2 E2 : Nat} {u v : Value} (h1 : ∀ k, u.ownBlock = some k → B1 ≤ k ∧ k < E1) (h2 : ∀ k, v.ownBlock = some k → B2 ≤ k ∧ k < E2) (h : E1 ≤ B2 ∨ E2 ≤ B1) : Apart u v := fun k hk e => by
  have := h1 k hk; have := h2 k e; omega
theorem own_gc {W : World} {p : Regrown} {B e s n : Nat} {v : Value} {xs : List Value} (h : (gw W p).ownsRow B e s v n xs) (q : Regrown) : (gw W (gcat p q)).ownsRow B e s v n xs := by
  rw [← gw_gw]; exact own_below h (below_gw (Below.refl _ _) (Nat.le_refl _) q)
theorem below_range {B : Nat} {a w' : World} (h : Below B a w') {b o : Nat} {cs : List Value} (hb : b < B) (hr : a.rangeAt b o cs) : w'.rangeAt b o cs := fun j v hv => by
  rw [h.cell (p := ⟨b, o + j, none⟩) hb]; exact hr j v hv
theorem range_new (w : World) (cs : List Value) (t : TypeId) : (w.alloc (.cells cs.toArray t)).rangeAt w.heap.size 0 cs := fun j v hv => by
  obtain ⟨hj, e⟩ := List.getElem?_eq_some_iff.1 hv
  simp [hj, e]
theorem range_part {w : World} {b o : Nat} {cs ds : List Value} (h : w.rangeAt b o cs) (k : Nat) (hd : ∀ j v, ds[j]? = some v → cs[k + j]? = some v) : w.rangeAt b (o + k) ds := fun j v hv => by
  have := h (k + j) v (hd j v hv)
  rw [show o + k + j = o + (k + j) by omega]; exact this
theorem own_shapeN {w : World} {B e n : Nat} {v : Value} {xs : List Value} (h : w.ownsRow B e 1 v n xs) (hn : 0 < n) : ∃ g cap, v = .slice (some ⟨g, 0, none⟩) n cap := by
  rcases h.2 with ⟨_, e2⟩ | ⟨g, cap, cur, e1, _, _, h4, h5, _⟩
  · omega
  · exact ⟨g, cap, e1⟩
theorem own_get {w : World} {B e g n cap i : Nat} {xs : List Int} (h : w.ownsRow B e 1 (.slice (some ⟨g, 0, none⟩) n cap) n (xs.map (Value.int .i64))) (hi : i < n) : w.cell? ⟨g, i, none⟩ = some (.int .i64 (xs.getD i 0)) := by
  have hl : xs.length = n := by have := h.1; simp at this; omega
  rw [h.cellAt i (by omega), List.getElem?_map, List.getElem?_eq_getElem (by omega), List.getD_eq_getElem?_getD, List.getElem?_eq_getElem (by omega)]; rfl
theorem _root_.Go.World.grownBy.cell_far' {w w' : World} {row : Option Nat} (hg : w.grownBy w' row) (a : Addr) (hlt : a.block < w.heap.size) (hne : some a.block ≠ row) : w'.cell? a = w.cell? a := World.cell?_of_block (hg.block a.block hlt hne)
end Go.Proofs.Ytjbmgppgkgacpaa

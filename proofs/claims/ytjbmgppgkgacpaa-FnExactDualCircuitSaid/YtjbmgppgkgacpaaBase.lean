/- Small lemmas that every text of mine uses: returns, worlds. -/
import Derived.Test.YtjbmgppgkgacpaaMath
import Derived.WalkKit
import Derived.Handy
import Derived.BigQuiet
import Derived.Deep.QuietTactic
import Derived.Deep.RegionWith
import Derived.Lib.Hide
import Derived.Lib.QuietBelow
import Derived.WalkSpells
import Derived.WalkLawsBesides
namespace Go.Proofs.Ytjbmgppgkgacpaa
set_option maxRecDepth 20000
open Go.RowKit

theorem ret_int {k : IntKind} {a b : Int} (h : a = b) : Ending.returned (.int k a) = .returned (.int k b) := by rw [h]
theorem ret_bool {a b : Bool} (h : a = b) : Ending.returned (.bool a) = .returned (.bool b) := by rw [h]
theorem ret_int2 {k l : IntKind} {a b c d : Int} (h : a = b) (h' : c = d) : Ending.returned (.tuple #[.int k a, .int l c]) = .returned (.tuple #[.int k b, .int l d]) := by rw [h, h']
theorem ret_ib {k : IntKind} {a b : Int} {c : Bool} (h : a = b) : Ending.returned (.tuple #[.int k a, .bool c]) = .returned (.tuple #[.int k b, .bool c]) := by rw [h]
theorem val_int {k : IntKind} {a b : Int} (h : a = b) : Value.int k a = .int k b := by rw [h]

theorem bcell {W w1 : World} (hb : Below W.heap.size W w1) : (∀ b o, b < W.heap.size → w1.cell? ⟨b, o, none⟩ = W.cell? ⟨b, o, none⟩) ∧ (∀ b o, b < W.heap.size → w1.frozen? ⟨b, o, none⟩ = W.frozen? ⟨b, o, none⟩) :=
  ⟨fun b o h => hb.cell (p := ⟨b, o, none⟩) h, fun b o h => hb.frozen (p := ⟨b, o, none⟩) h⟩

theorem below_drewN {B : Nat} {a w : World} (h : Below B a w) (n : Nat) : Below B a (w.drewN n) := ⟨h.os, h.tape, h.output, h.size, h.block⟩
theorem size_drewN (w : World) (n : Nat) : (w.drewN n).heap.size = w.heap.size := rfl
/-- The step 'w to w'' of a callee, behind a known way from a to w. -/
theorem below_via {B C : Nat} {a w w' : World} (h : Below B a w) (k : Below C w w') (hC : B ≤ C) : Below B a w' := h.trans (k.mono hC)

/-! ### A world behind callees that only make memory: 'gw W p': W with further blocks behind it (p), whatever was drawn. -/
def gw (W : World) (p : Regrown) : World := Sort.grow (redrawn W p.d) p.os
def gcat (p q : Regrown) : Regrown := ⟨q.d, p.os ++ q.os⟩
def gdraw (p : Regrown) (n : Nat) : Regrown := ⟨p.d + n, p.os⟩

theorem gw_of_below {W w' : World} (h : Below W.heap.size W w') : ∃ p : Regrown, w' = gw W p := regrown_of_below h
theorem below_gw {B : Nat} {a W : World} (h : Below B a W) (hB : B ≤ W.heap.size) (p : Regrown) : Below B a (gw W p) := h.trans ((below_regrown W p.d p.os).mono hB)

@[go_sem] theorem gw_size (W : World) (p : Regrown) : (gw W p).heap.size = W.heap.size + p.os.size := by simp [gw, redrawn]
theorem le_gw {n : Nat} {W : World} (h : n ≤ W.heap.size) (p : Regrown) : n ≤ (gw W p).heap.size := by rw [gw_size]; omega
theorem le_alloc {n : Nat} {W : World} (h : n ≤ W.heap.size) (o : Obj) : n ≤ (W.alloc o).heap.size := by rw [World.size_alloc]; omega
theorem le_setCell {n : Nat} {W : World} (h : n ≤ W.heap.size) (a : Addr) (v : Value) : n ≤ (W.setCell a v).heap.size := by rw [World.size_setCell]; exact h
theorem le_drew {n : Nat} {W : World} (h : n ≤ W.heap.size) : n ≤ W.drew.heap.size := h
theorem le_drewN {n : Nat} {W : World} (h : n ≤ W.heap.size) (k : Nat) : n ≤ (W.drewN k).heap.size := h
@[go_sem] theorem lt_add_more (a b c : Nat) (h : a < b) : (a < b + c) = True := by simp; omega
@[go_sem] theorem gw_cell (W : World) (p : Regrown) (b o : Nat) (h : b < W.heap.size) : (gw W p).cell? ⟨b, o, none⟩ = W.cell? ⟨b, o, none⟩ := (below_regrown W p.d p.os).cell (p := ⟨b, o, none⟩) h
@[go_sem] theorem gw_frozen (W : World) (p : Regrown) (b o : Nat) (h : b < W.heap.size) : (gw W p).frozen? ⟨b, o, none⟩ = W.frozen? ⟨b, o, none⟩ := (below_regrown W p.d p.os).frozen (p := ⟨b, o, none⟩) h
@[go_sem] theorem gw_setCell (W : World) (p : Regrown) (b o : Nat) (v : Value) (h : b < W.heap.size) : (gw W p).setCell ⟨b, o, none⟩ v = gw (W.setCell ⟨b, o, none⟩ v) p := by
  have h' : b < (redrawn W p.d).heap.size := h
  simp only [gw, World.setCell, Sort.grow]
  congr 1
  exact Sort.modify_append_left _ _ _ _ h'
@[go_sem] theorem gw_gw (W : World) (p q : Regrown) : gw (gw W p) q = gw W (gcat p q) := by
  simp [gw, gcat, redrawn, Sort.grow, Array.append_assoc]
@[go_sem] theorem gw_drew (W : World) (p : Regrown) : (gw W p).drew = gw W (gdraw p 1) := rfl
@[go_sem] theorem gw_drewN (W : World) (p : Regrown) (n : Nat) : (gw W p).drewN n = gw W (gdraw p n) := rfl
@[go_sem] theorem gw_of_drew (W : World) (p : Regrown) : gw W.drew p = gw W p := rfl
@[go_sem] theorem gw_of_drewN (W : World) (p : Regrown) (n : Nat) : gw (W.drewN n) p = gw W p := rfl

@[go_sem] theorem grow_cell (W : World) (d : Nat) (os : Array Obj) (b o : Nat) (h : b < W.heap.size) : (Sort.grow (redrawn W d) os).cell? ⟨b, o, none⟩ = W.cell? ⟨b, o, none⟩ := gw_cell W ⟨d, os⟩ b o h
@[go_sem] theorem grow_frozen (W : World) (d : Nat) (os : Array Obj) (b o : Nat) (h : b < W.heap.size) : (Sort.grow (redrawn W d) os).frozen? ⟨b, o, none⟩ = W.frozen? ⟨b, o, none⟩ := gw_frozen W ⟨d, os⟩ b o h

/-- A callee's contract that ends in 'Below', met in a world of the class of 'wp_region_quiet_below'. -/
theorem met_below {P : Program} {f : FuncId} {args : Array Value} {w : World} {p : Regrown} {v : Value}
    (h : ∀ W, Calls P f args W fun e w' => e = .returned v ∧ Below W.heap.size W w') : Calls P f args (Sort.grow (redrawn w p.d) p.os) fun e w'' => e = .returned v ∧ ∃ q : Regrown, w'' = Sort.grow (redrawn w q.d) q.os :=
  Calls.regrown_of (h _)

end Go.Proofs.Ytjbmgppgkgacpaa

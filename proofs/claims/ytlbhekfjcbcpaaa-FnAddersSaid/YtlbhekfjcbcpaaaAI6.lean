/- The program remembers joined carry maps in a map of one call. -/
import Derived.Test.YtlbhekfjcbcpaaaAI5
import Derived.Maps.OwnSet
import Derived.DeepKeys4
namespace Go.Proofs.Ytlbhekfjcbcpaaa
set_option maxRecDepth 20000
open Go.RowKit
abbrev pairV (f g : Nat → Int) : Value := .agg #[.int .i64 (f 0), .int .i64 (f 1), .int .i64 (f 2), .int .i64 (g 0), .int .i64 (g 1), .int .i64 (g 2)]
theorem laidOutM : laidOutB Try.prog = true := by kernel_rfl
theorem pairKeyed : Maps.Keyed Try.prog 81 := Maps.Keyed.of_law (deep_law_laid laidOutM (m := 3) (by omega) (of_decide_eq_true (by kernel_rfl)) (by kernel_rfl) (by kernel_rfl))
theorem key_int (d : Nat) (x : Int) (hw : (Lit.int .i64 x).wf = true) : Try.prog.keyLits (d + 1) 3 [.int .i64 x] = some [.int .i64 x] := by
  unfold Program.keyLits; simp [Try.underlying3, hw]
theorem cells3 : Try.prog.cellsOf 50 = 3 := by kernel_rfl
theorem cells1 : Try.prog.cellsOf 3 = 1 := by kernel_rfl
theorem cells6 : Try.prog.cellsOf 81 = 6 := by kernel_rfl
theorem key_map (d : Nat) (x y z : Int) (hx : (Lit.int .i64 x).wf = true) (hy : (Lit.int .i64 y).wf = true) (hz : (Lit.int .i64 z).wf = true) : Try.prog.keyLits (d + 2) 50 [.int .i64 x, .int .i64 y, .int .i64 z] = some [.int .i64 x, .int .i64 y, .int .i64 z] := by
  unfold Program.keyLits
  simp [Try.underlying50, cells3, cells1, List.range_succ, key_int, hx, hy, hz]
theorem key_pair (d : Nat) (x y z a b c : Int) (hx : (Lit.int .i64 x).wf = true) (hy : (Lit.int .i64 y).wf = true) (hz : (Lit.int .i64 z).wf = true) (ha : (Lit.int .i64 a).wf = true) (hb : (Lit.int .i64 b).wf = true) (hc : (Lit.int .i64 c).wf = true) :
    Try.prog.keyLits (d + 3) 81 [.int .i64 x, .int .i64 y, .int .i64 z, .int .i64 a, .int .i64 b, .int .i64 c] = some [.int .i64 x, .int .i64 y, .int .i64 z, .int .i64 a, .int .i64 b, .int .i64 c] := by
  unfold Program.keyLits
  simp [Try.underlying81, cells3, cells6, List.range_succ, key_map, hx, hy, hz, ha, hb, hc]
theorem pair_key {f g : Nat → Int} (hf : Tm.t3 f = true) (hg : Tm.t3 g = true) : ∃ kl, keyOf Try.prog 81 (pairV f g) = some kl := by
  have wf : ∀ x : Int, -1 ≤ x ∧ x ≤ 1 → (Lit.int .i64 x).wf = true := fun x h => by
    rcases (show x = -1 ∨ x = 0 ∨ x = 1 by omega) with rfl | rfl | rfl <;> rfl
  obtain ⟨d, hd⟩ : ∃ d, Try.prog.types.size + 1 = d + 3 := ⟨Try.prog.types.size - 2, by
    have : 2 ≤ Try.prog.types.size := of_decide_eq_true (by kernel_rfl)
    omega⟩
  have kt : Try.prog.keyType 81 = true := by kernel_rfl
  refine ⟨.string (keyBytes [.int .i64 (f 0), .int .i64 (f 1), .int .i64 (f 2), .int .i64 (g 0), .int .i64 (g 1), .int .i64 (g 2)]), ?_⟩
  rw [keyOf, Try.underlying81]
  simp only [kt, Value.formed, Try.underlying81, cells6, Value.cells, hd]
  have b := fun (h : Nat → Int) (hh : Tm.t3 h = true) => (Tm.t3_iff h).1 hh
  rw [key_pair d _ _ _ _ _ _ (wf _ (b f hf).1) (wf _ (b f hf).2.1) (wf _ (b f hf).2.2) (wf _ (b g hg).1) (wf _ (b g hg).2.1) (wf _ (b g hg).2.2)]
  rfl
theorem pair_inj {f g f' g' : Nat → Int} (h : pairV f g = pairV f' g') : (f 0 = f' 0 ∧ f 1 = f' 1 ∧ f 2 = f' 2) ∧ g 0 = g' 0 ∧ g 1 = g' 1 ∧ g 2 = g' 2 := by
  simpa [pairV, and_assoc] using h
def datM (f : Nat → Int) : DataW Unit := .agg [.lit (.int .i64 (f 0)), .lit (.int .i64 (f 1)), .lit (.int .i64 (f 2))]
/-- How a remembered carry map reads. -/
def mapElem (v : Value) : Option (DataW Unit × List MemPlace) :=
  match v with
  | .agg cs => match cs.toList with
    | [.int .i64 a, .int .i64 b, .int .i64 c] => some (.agg [.lit (.int .i64 a), .lit (.int .i64 b), .lit (.int .i64 c)], [])
    | _ => none
  | _ => none
theorem mapElem_mk (f : Nat → Int) : mapElem (mapV f) = some (datM f, []) := rfl
theorem mapElem_inv {v : Value} {f : Nat → Int} {ps : List MemPlace} (h : mapElem v = some (datM f, ps)) : v = mapV f := by
  unfold mapElem at h
  split at h
  · rename_i cs
    split at h
    · rename_i a b c e
      simp only [datM, Option.some.injEq, Prod.mk.injEq, DataW.agg.injEq, List.cons.injEq, DataW.lit.injEq, Lit.int.injEq, true_and, and_true] at h
      obtain ⟨⟨rfl, rfl, rfl⟩, _⟩ := h
      rw [mapV, ← Array.toList_inj.1 (show cs.toList = #[Value.int .i64 (f 0), .int .i64 (f 1), .int .i64 (f 2)].toList from e)]
    · cases h
  · cases h
theorem zeroM (w : World) : (zeroValue 50).run Try.prog w = .ok (mapV fun _ => 0) w := by kernel_rfl
/-- Block b is a map that remembers only what joining gives; it has at most n entries. -/
def Memo (w : World) (b n : Nat) : Prop := ∃ D : DataW Unit, w.ownsMap Try.prog 81 mapElem b n D ∧
  ∀ f g kl, Tm.t3 f = true → Tm.t3 g = true → keyOf Try.prog 81 (pairV f g) = some kl → Maps.has D kl = true → ∀ z, D.atKey kl z = datM (Tm.thn f g)
theorem Memo.kept {w w' : World} {b n : Nat} {row : Option Nat} (h : Memo w b n) (hg : w.grownBy w' row) (hne : some b ≠ row) : Memo w' b n := by
  obtain ⟨D, h1, h2⟩ := h
  exact ⟨D, h1.kept hg hne, h2⟩
theorem Memo.lt {w : World} {b n : Nat} (h : Memo w b n) : b < w.heap.size := by
  obtain ⟨D, h1, _⟩ := h
  exact h1.lt
theorem Memo.made (w : World) : Memo (w.alloc (.map #[] 0)) w.heap.size 0 :=
  ⟨.map [], World.ownsMap_made w _ _ _, fun f g kl _ _ _ h => by simp [Maps.has] at h⟩
theorem grown_of_below {w w' : World} (h : Below w.heap.size w w') (row : Option Nat) : w.grownBy w' row := ⟨h.os, h.tape, h.output, h.size, fun k hk _ => h.block k hk⟩
theorem grown_then {w w1 w2 : World} {b : Nat} (h : w.grownBy w1 (some b)) (h2 : w1.grownBy w2 (some b)) : w.grownBy w2 (some b) :=
  ⟨h2.os.trans h.os, h2.tape.trans h.tape, h2.output.trans h.output, Nat.le_trans h.size h2.size, fun k hk hne => (h2.block k (Nat.lt_of_lt_of_le hk h.size) hne).trans (h.block k hk hne)⟩
theorem grown_low {w w1 w2 : World} {row : Option Nat} (h : w.grownBy w1 row) (h2 : Below w.heap.size w1 w2) : w.grownBy w2 row :=
  ⟨h2.os.trans h.os, h2.tape.trans h.tape, h2.output.trans h.output, Nat.le_trans h.size h2.size, fun k hk hne => (h2.block k hk).trans (h.block k hk hne)⟩
theorem Memo.put {w w' : World} {b n : Nat} {D : DataW Unit} {f g : Nat → Int} {kl : Lit} (hk : keyOf Try.prog 81 (pairV f g) = some kl) (h1 : w.ownsMap Try.prog 81 mapElem b n D)
    (h2 : ∀ f g kl, Tm.t3 f = true → Tm.t3 g = true → keyOf Try.prog 81 (pairV f g) = some kl → Maps.has D kl = true → ∀ z, D.atKey kl z = datM (Tm.thn f g))
    (h3 : w'.ownsMap Try.prog 81 mapElem b (n + 1) (D.put kl (datM (Tm.thn f g)))) : Memo w' b (n + 1) := by
  refine ⟨_, h3, fun f' g' kl' hf hg hk' hh z => ?_⟩
  by_cases e : kl' = kl
  · subst e
    have ep := pair_inj (pairKeyed.inj hk hk')
    rw [Maps.atKey_put_same h1.isMap (pairKeyed.key hk)]
    obtain ⟨⟨e0, e1, e2⟩, e3, e4, e5⟩ := ep
    have et : ∀ i, i < 3 → Tm.thn f g i = Tm.thn f' g' i := by
      intro i hi
      have ef : f i = f' i := match i, hi with
        | 0, _ => e0
        | 1, _ => e1
        | 2, _ => e2
      have eg : ∀ j, j < 3 → g j = g' j := fun j hj => match j, hj with
        | 0, _ => e3
        | 1, _ => e4
        | 2, _ => e5
      have hf' : Tm.t3 f = true := by rw [Tm.t3, e0, e1, e2]; exact hf
      have hg' : Tm.t3 g = true := by rw [Tm.t3, e3, e4, e5]; exact hg
      rw [Tm.thn_at hf' hg', Tm.thn_at hf hg, ef]
      exact eg _ (by have := Tm.t3_at hf hi; omega)
    rw [datM, datM, et 0 (by omega), et 1 (by omega), et 2 (by omega)]
  · rw [Maps.has_put_other e] at hh
    rw [Maps.atKey_put_other e]
    exact h2 f' g' kl' hf hg hk' hh z
end Go.Proofs.Ytlbhekfjcbcpaaa

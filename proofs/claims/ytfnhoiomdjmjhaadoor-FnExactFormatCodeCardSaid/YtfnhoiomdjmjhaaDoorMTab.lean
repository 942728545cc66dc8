/- The table of operations, as the program's text lays it. -/
import Derived.Test.YtfnhoiomdjmjhaaDoorMI1
import Derived.OpenShut
import Derived.ChangeArms
import Derived.FnData
namespace Go.Proofs.YtfnhoiomdjmjhaaDoor
set_option maxRecDepth 20000
open Go.RowKit
section
variable {H : Type} {enc : TypeId × Value → H} {P : Program} {w : World} {base : Nat} {spare : Nat → Bool} {held : Bool}
theorem ops_row {e : TypeId} {f0 f1 f2 f3 : Field} {fuel : Nat} {cs : List Value} {x : DataW H × List MemPlace} (hs : P.underlying e = some (.struct #[f0, f1, f2, f3])) (o0 : f0.offset = 0) (o1 : f1.offset = 1) (o2 : f2.offset = 2) (o3 : f3.offset = 3)
    (h0 : P.underlying f0.type = some .string) (h1 : P.underlying f1.type = some (.int .i64)) (h2 : P.underlying f2.type = some (.int .i64)) (h3 : P.underlying f3.type = some (.int .i64)) (c0 : P.cellsOf f0.type = 1) (c1 : P.cellsOf f1.type = 1) (c2 : P.cellsOf f2.type = 1) (c3 : P.cellsOf f3.type = 1)
    (h : DataW.trod enc P w base spare held fuel e cs = some x) : ∃ (s : ByteArray) (a b c : Int), x.1 = .agg [.lit (.string s.data.toList), .lit (.int .i64 a), .lit (.int .i64 b), .lit (.int .i64 c)] ∧ cs[0]? = some (.string s) ∧ cs[1]? = some (.int .i64 a) ∧ cs[2]? = some (.int .i64 b) ∧ cs[3]? = some (.int .i64 c) := by
  obtain ⟨xs, n, _, rfl, hl, hlen, hf⟩ := DataW.trod_struct hs h
  match xs, hlen with
  | [y0, y1, y2, y3], _ =>
    have g0 := hf 0 f0 rfl
    have g1 := hf 1 f1 rfl
    have g2 := hf 2 f2 rfl
    have g3 := hf 3 f3 rfl
    rw [o0, c0] at g0
    rw [o1, c1] at g1
    rw [o2, c2] at g2
    rw [o3, c3] at g3
    obtain ⟨s, e0, r0, _⟩ := DataW.trod_string h0 g0
    obtain ⟨a, e1, r1, _⟩ := DataW.trod_int h1 g1
    obtain ⟨b, e2, r2, _⟩ := DataW.trod_int h2 g2
    obtain ⟨c, e3, r3, _⟩ := DataW.trod_int h3 g3
    have q0 := congrArg (·[0]?) e0
    have q1 := congrArg (·[0]?) e1
    have q2 := congrArg (·[0]?) e2
    have q3 := congrArg (·[0]?) e3
    simp [List.getElem?_drop] at q0 q1 q2 q3
    cases r0
    cases r1
    cases r2
    cases r3
    exact ⟨s, a, b, c, rfl, q0, q1, q2, q3⟩
end
/-- The table's reading. -/
def opsDatum {H : Type} : List (DataW H) := (List.range 15).map fun (k : Nat) => .agg [.lit (.string (Tm.opName ((k : Int) + 1)).data.toList), .lit (.int .i64 (Tm.popsN ((k : Int) + 1))), .lit (.int .i64 (Tm.pushN ((k : Int) + 1))), .lit (.int .i64 (Tm.namN ((k : Int) + 1)))]
theorem opsTab_of {W : World} {d : DataW Unit} {rest : List (String × DataW Unit)} (hd : d = .agg opsDatum) (h : laidMet Tryd.prog (("loop.example/g03225/impl.operations", d) :: rest) W) : OpsTab W := by
  subst hd
  obtain ⟨ps, ⟨g', t', cs, fuel, p, q, hg', ht', hvar, hd, _, _⟩, _⟩ := h
  have hg : Tryd.prog.globalNamed "loop.example/g03225/impl.operations" = some 0 := by kernel_rfl
  have hty : (Tryd.prog.globals[0]?).map (·.type) = some 78 := by kernel_rfl
  obtain rfl := Option.some.inj (hg.symm.trans hg')
  obtain rfl := Option.some.inj (hty.symm.trans ht')
  obtain ⟨xs, m, _, hx, hl, hlen, hf⟩ := DataW.trod_array Tryd.underlying78 hd
  have c4 : Tryd.prog.cellsOf 77 = 4 := by kernel_rfl
  rw [c4] at hf
  have hmap : xs.map (·.1) = opsDatum := by
    have := congrArg Prod.fst hx
    simp only [DataW.agg.injEq] at this
    exact this.symm
  have key : ∀ k : Nat, k < 15 → cs[k * 4]? = some (.string (Tm.opName ((k : Int) + 1))) ∧ cs[k * 4 + 1]? = some (.int .i64 (Tm.popsN ((k : Int) + 1))) ∧ cs[k * 4 + 2]? = some (.int .i64 (Tm.pushN ((k : Int) + 1))) ∧ cs[k * 4 + 3]? = some (.int .i64 (Tm.namN ((k : Int) + 1))) := by
    intro k hk
    have h1 := hf k hk
    rw [List.getElem?_eq_getElem (by omega)] at h1
    obtain ⟨s, a, b, c, e, q0, q1, q2, q3⟩ := ops_row Tryd.underlying77 rfl rfl rfl rfl Tryd.underlying9 Tryd.underlying3 Tryd.underlying3 Tryd.underlying3 (by kernel_rfl) (by kernel_rfl) (by kernel_rfl) (by kernel_rfl) h1
    have h2 : (xs.map (·.1))[k]? = some (xs[k]'(by omega)).1 := by simp [hlen, hk]
    rw [hmap, e, opsDatum, List.getElem?_map, List.getElem?_range hk] at h2
    simp only [Option.map_some, Option.some.injEq, DataW.agg.injEq, List.cons.injEq, DataW.lit.injEq, Lit.string.injEq, Lit.int.injEq, true_and, and_true] at h2
    obtain ⟨s1, rfl, rfl, rfl⟩ := h2
    have s2 : s = Tm.opName ((k : Int) + 1) := by
      obtain ⟨sd⟩ := s
      have : sd = (Tm.opName ((k : Int) + 1)).data := Array.toList_inj.1 s1.symm
      rw [this]
    subst s2
    simp [List.getElem?_drop] at q0 q1 q2 q3
    exact ⟨q0, q1, q2, q3⟩
  have cell : ∀ i, W.cell? ⟨0, i, none⟩ = cs[i]? := fun i => by
    rw [World.var?_cell hg hvar i]
  refine ⟨World.block_lt_of_cell? (a := ⟨0, 0 * 4, none⟩) W (by rw [cell]; exact (key 0 (by omega)).1), fun k hk => ?_⟩
  rw [cell, cell, cell, cell]
  exact key k hk
end Go.Proofs.YtfnhoiomdjmjhaaDoor

/- How slices of operations and structs of an integer and two slices of integers are opened. -/
import Derived.Test.YtfnhoiomdjmjhaaDoorOpen
import Derived.Test.YtfnhoiomdjmjhaaDoorMRow
namespace Go.Proofs.YtfnhoiomdjmjhaaDoor
set_option maxRecDepth 20000
open Go.ChangeShapes Go.WideShapes Go.ChangeAt Go.RowKit Go.Joins Go.Deep
section
variable {H : Type} {enc : TypeId × Value → H} {P : Program} {w : World} {base : Nat} {held : Bool}
theorem op_ints {e : TypeId} {g0 g1 g2 g3 : Field} {fuel : Nat} {cs : List Value} {x : DataW H × List MemPlace} (hg : P.underlying e = some (.struct #[g0, g1, g2, g3])) (o0 : g0.offset = 0) (o1 : g1.offset = 1) (o2 : g2.offset = 2) (o3 : g3.offset = 3)
    (h0 : P.underlying g0.type = some (.int .i64)) (h1 : P.underlying g1.type = some (.int .i64)) (h2 : P.underlying g2.type = some (.int .i64)) (h3 : P.underlying g3.type = some (.int .i64)) (c0 : P.cellsOf g0.type = 1) (c1 : P.cellsOf g1.type = 1) (c2 : P.cellsOf g2.type = 1) (c3 : P.cellsOf g3.type = 1)
    (h : DataW.trod enc P w base (fun _ => true) held fuel e cs = some x) : ∀ j, j < 4 → ∃ z, cs[j]? = some (.int .i64 z) := by
  obtain ⟨xs, n, _, _, _, hlen, hf⟩ := DataW.trod_struct hg h
  have hx : ∀ i, i < 4 → ∃ y, xs[i]? = some y := fun i hi => ⟨_, List.getElem?_eq_getElem (by rw [hlen]; exact hi)⟩
  have f0 := hf 0 g0 rfl
  have f1 := hf 1 g1 rfl
  have f2 := hf 2 g2 rfl
  have f3 := hf 3 g3 rfl
  obtain ⟨y0, e0⟩ := hx 0 (by omega)
  obtain ⟨y1, e1⟩ := hx 1 (by omega)
  obtain ⟨y2, e2⟩ := hx 2 (by omega)
  obtain ⟨y3, e3⟩ := hx 3 (by omega)
  rw [e0, o0, c0] at f0
  rw [e1, o1, c1] at f1
  rw [e2, o2, c2] at f2
  rw [e3, o3, c3] at f3
  obtain ⟨z0, q0, _, _⟩ := DataW.trod_int h0 f0
  obtain ⟨z1, q1, _, _⟩ := DataW.trod_int h1 f1
  obtain ⟨z2, q2, _, _⟩ := DataW.trod_int h2 f2
  obtain ⟨z3, q3, _, _⟩ := DataW.trod_int h3 f3
  have r0 := congrArg (·[0]?) q0
  have r1 := congrArg (·[0]?) q1
  have r2 := congrArg (·[0]?) q2
  have r3 := congrArg (·[0]?) q3
  simp [List.getElem?_drop] at r0 r1 r2 r3
  intro j hj
  match j, hj with
  | 0, _ => exact ⟨_, r0⟩
  | 1, _ => exact ⟨_, r1⟩
  | 2, _ => exact ⟨_, r2⟩
  | 3, _ => exact ⟨_, r3⟩
theorem cell_ops {t e : TypeId} {g0 g1 g2 g3 : Field} {fuel : Nat} {v : Value} {x : DataW H × List MemPlace} (ht : P.underlying t = some (.slice e)) (hg : P.underlying e = some (.struct #[g0, g1, g2, g3])) (hgc : P.cellsOf e = 4) (o0 : g0.offset = 0) (o1 : g1.offset = 1) (o2 : g2.offset = 2) (o3 : g3.offset = 3)
    (h0 : P.underlying g0.type = some (.int .i64)) (h1 : P.underlying g1.type = some (.int .i64)) (h2 : P.underlying g2.type = some (.int .i64)) (h3 : P.underlying g3.type = some (.int .i64)) (c0 : P.cellsOf g0.type = 1) (c1 : P.cellsOf g1.type = 1) (c2 : P.cellsOf g2.type = 1) (c3 : P.cellsOf g3.type = 1)
    (h : DataW.trod enc P w base (fun _ => true) held fuel t [v] = some x) : ∃ a n c L, v = .slice a n c ∧ OpR w a n c L := by
  rcases open_slice ht h with ⟨hcs, _⟩ | ⟨a, len, cap, m, n, D, Pl, hcs, _, hl, hm, hmm, _, hi⟩
  · simp only [List.cons.injEq, and_true] at hcs
    exact ⟨none, 0, 0, [], hcs, rfl, by omega, by unfold maxLen; omega, .inl rfl⟩
  · simp only [List.cons.injEq, and_true] at hcs
    have hmc : m = cap := by simpa using hmm
    subst hmc
    have key : ∀ q, q < len * 4 → ∃ z, w.cell? (a.add q) = some (.int .i64 z) := by
      intro q hq
      obtain ⟨cs', hc, ht'⟩ := hi (q / 4) (by omega)
      rw [hgc] at hc
      obtain ⟨_, hcl, hat⟩ := World.cells?_some hc
      obtain ⟨z, hz⟩ := op_ints hg o0 o1 o2 o3 h0 h1 h2 h3 c0 c1 c2 c3 ht' (q % 4) (Nat.mod_lt _ (by omega))
      refine ⟨z, ?_⟩
      have := hat (q % 4) (Nat.mod_lt _ (by omega))
      rw [hz, Go.Deep.add_add, show q / 4 * 4 + q % 4 = q by omega] at this
      exact this
    obtain ⟨f, hf⟩ : ∃ f : Nat → Int, ∀ q, q < len * 4 → w.cell? (a.add q) = some (.int .i64 (f q)) :=
      ⟨fun q => if hq : q < len * 4 then (key q hq).choose else 0, fun q hq => by simp only [hq, dite_true]; exact (key q hq).choose_spec⟩
    obtain ⟨zs, hzl, hzs⟩ : ∃ zs : List Int, zs.length = len * 4 ∧ ∀ q, q < len * 4 → zs.getD q 0 = f q := ⟨(List.range (len * 4)).map f, by simp, fun q hq => by simp [hq]⟩
    rcases Nat.eq_zero_or_pos len with l0 | l0
    · subst l0
      exact ⟨some a, 0, m, [], hcs, rfl, by omega, hm, .inl rfl⟩
    · obtain ⟨b, o, rfl, hcell⟩ := ints_at (zs := zs) (fun i hi' => by rw [hzs i (by omega)]; exact hf i (by omega)) (by omega)
      refine ⟨_, len, m, (List.range len).map fun i j => zs.getD (i * 4 + j) 0, hcs, by simp, hl, hm, .inr ⟨b, o, rfl, World.block_lt_of_cell? (a := ⟨b, o + 0, none⟩) w (hcell 0 (by omega)), fun i hi' j hj => ?_⟩⟩
      have := hcell (i * 4 + j) (by omega)
      rw [show o + i * 4 + j = o + (i * 4 + j) by omega, this]
      simp [hi']
theorem open_ops {t e : TypeId} {g0 g1 g2 g3 : Field} {a : Option Addr} {n c : Nat} {d : DataW H} {p : List MemPlace} (ht : P.underlying t = some (.slice e)) (hg : P.underlying e = some (.struct #[g0, g1, g2, g3])) (hgc : P.cellsOf e = 4) (o0 : g0.offset = 0) (o1 : g1.offset = 1) (o2 : g2.offset = 2) (o3 : g3.offset = 3)
    (h0 : P.underlying g0.type = some (.int .i64)) (h1 : P.underlying g1.type = some (.int .i64)) (h2 : P.underlying g2.type = some (.int .i64)) (h3 : P.underlying g3.type = some (.int .i64)) (c0 : P.cellsOf g0.type = 1) (c1 : P.cellsOf g1.type = 1) (c2 : P.cellsOf g2.type = 1) (c3 : P.cellsOf g3.type = 1)
    (h : DataW.Trod enc P w base (fun _ => true) held t (.slice a n c) d p) : ∃ L, OpR w a n c L := by
  obtain ⟨fuel, hf⟩ := h
  obtain ⟨a', n', c', L, e, hO⟩ := cell_ops ht hg hgc o0 o1 o2 o3 h0 h1 h2 h3 c0 c1 c2 c3 (v := .slice a n c) (by simpa [Value.cells] using hf)
  cases e
  exact ⟨L, hO⟩
theorem open_mach {r : Reach} {b0 : Nat} {t e1 e2 : TypeId} {f0 f1 f2 : Field} {v : Value} {d : DataW H} {p : List MemPlace} (hs : P.underlying t = some (.struct #[f0, f1, f2])) (hone : oneCellFields P #[f0, f1, f2] = true) (hC : P.cellsOf t = 3)
    (h0 : P.underlying f0.type = some (.int .i64)) (h1 : P.underlying f1.type = some (.slice e1)) (he1 : P.underlying e1 = some (.int .i64)) (hc1 : P.cellsOf e1 = 1)
    (h2 : P.underlying f2.type = some (.slice e2)) (he2 : P.underlying e2 = some (.int .i64)) (hc2 : P.cellsOf e2 = 1) (hv : Value.okWide P w r b0 t v) (h : DataW.Trod enc P w base (fun _ => true) held t v d p) :
    ∃ k a n c s b m d o, v = machV k a n c b m d ∧ Ms w a n c s b m d o ∧ (Lit.int .i64 k).wf = true := by
  obtain ⟨v0, v1, v2, y0, y1, y2, n, rfl, -, -, hy0, hy1, hy2⟩ := open_agg3 hs hone hC hv h
  obtain ⟨k, e, -, wk⟩ := DataW.trod_int h0 hy0
  obtain ⟨a, n1, c, zs1, rfl, hr1⟩ := cell_ints h1 he1 hc1 hy1
  obtain ⟨b, m, d2, zs, rfl, hr⟩ := cell_ints h2 he2 hc2 hy2
  simp only [List.cons.injEq, and_true] at e
  subst e
  exact ⟨k, a, n1, c, _, b, m, d2, _, rfl, ⟨Ints.of_row hr1, Ints.of_row hr⟩, wk⟩
end
end Go.Proofs.YtfnhoiomdjmjhaaDoor

/- How structs of an integer, a slice of gates and a slice of integers are opened. -/
import Derived.Test.YtjbmgppgkgacpaaOpen
import Derived.Test.YtjbmgppgkgacpaaGRow
namespace Go.Proofs.Ytjbmgppgkgacpaa
set_option maxRecDepth 20000
open Go.ChangeShapes Go.WideShapes Go.ChangeAt Go.RowKit Go.Joins Go.Deep
section
variable {H : Type} {enc : TypeId × Value → H} {P : Program} {w : World} {base : Nat} {held : Bool}
/-- An element of nine numbers and two more. -/
theorem gate_ints {e ea : TypeId} {g0 g1 g2 : Field} {fuel : Nat} {cs : List Value} {x : DataW H × List MemPlace} (hg : P.underlying e = some (.struct #[g0, g1, g2])) (o0 : g0.offset = 0) (o1 : g1.offset = 9) (o2 : g2.offset = 10)
    (ha : P.underlying g0.type = some (.array 9 ea)) (hac : P.cellsOf g0.type = 9) (hea : P.underlying ea = some (.int .i64)) (heac : P.cellsOf ea = 1) (h1 : P.underlying g1.type = some (.int .i64)) (h1c : P.cellsOf g1.type = 1) (h2 : P.underlying g2.type = some (.int .i64)) (h2c : P.cellsOf g2.type = 1)
    (h : DataW.trod enc P w base (fun _ => true) held fuel e cs = some x) : ∀ j, j < 11 → ∃ z, cs[j]? = some (.int .i64 z) := by
  obtain ⟨xs, n, _, _, _, hlen, hf⟩ := DataW.trod_struct hg h
  have hx : ∀ i, i < 3 → ∃ y, xs[i]? = some y := fun i hi => ⟨_, List.getElem?_eq_getElem (by rw [hlen]; exact hi)⟩
  have f0 := hf 0 g0 rfl
  have f1 := hf 1 g1 rfl
  have f2 := hf 2 g2 rfl
  obtain ⟨y0, e0⟩ := hx 0 (by omega)
  obtain ⟨y1, e1⟩ := hx 1 (by omega)
  obtain ⟨y2, e2⟩ := hx 2 (by omega)
  rw [e0, o0, hac] at f0
  rw [e1, o1, h1c] at f1
  rw [e2, o2, h2c] at f2
  obtain ⟨zs, m, _, _, _, hlz, hz⟩ := DataW.trod_array ha f0
  obtain ⟨z1, q1, _, _⟩ := DataW.trod_int h1 f1
  obtain ⟨z2, q2, _, _⟩ := DataW.trod_int h2 f2
  intro j hj
  by_cases c : j < 9
  · have hj2 := hz j c
    rw [List.getElem?_eq_getElem (by omega), heac] at hj2
    obtain ⟨z, q, _, _⟩ := DataW.trod_int hea hj2
    refine ⟨z, ?_⟩
    have : (List.take 1 (List.drop (j * 1) (List.take 9 (List.drop 0 cs))))[0]? = some (Value.int .i64 z) := by rw [q]; rfl
    simpa [c] using this
  · by_cases c9 : j = 9
    · subst c9
      refine ⟨z1, ?_⟩
      have : (List.take 1 (List.drop 9 cs))[0]? = some (Value.int .i64 z1) := by rw [q1]; rfl
      simpa using this
    · obtain rfl : j = 10 := by omega
      refine ⟨z2, ?_⟩
      have : (List.take 1 (List.drop 10 cs))[0]? = some (Value.int .i64 z2) := by rw [q2]; rfl
      simpa using this
theorem cell_gates {t e ea : TypeId} {g0 g1 g2 : Field} {fuel : Nat} {v : Value} {x : DataW H × List MemPlace} (ht : P.underlying t = some (.slice e)) (hg : P.underlying e = some (.struct #[g0, g1, g2])) (hgc : P.cellsOf e = 11) (o0 : g0.offset = 0) (o1 : g1.offset = 9) (o2 : g2.offset = 10)
    (ha : P.underlying g0.type = some (.array 9 ea)) (hac : P.cellsOf g0.type = 9) (hea : P.underlying ea = some (.int .i64)) (heac : P.cellsOf ea = 1) (h1 : P.underlying g1.type = some (.int .i64)) (h1c : P.cellsOf g1.type = 1) (h2 : P.underlying g2.type = some (.int .i64)) (h2c : P.cellsOf g2.type = 1)
    (h : DataW.trod enc P w base (fun _ => true) held fuel t [v] = some x) : ∃ a n c L, v = .slice a n c ∧ Gs w a n c L := by
  rcases open_slice ht h with ⟨hcs, _⟩ | ⟨a, len, cap, m, n, D, Pl, hcs, _, hl, hm, hmm, _, hi⟩
  · simp only [List.cons.injEq, and_true] at hcs
    exact ⟨none, 0, 0, [], hcs, rfl, by omega, by unfold maxLen; omega, .inl rfl⟩
  · simp only [List.cons.injEq, and_true] at hcs
    have hmc : m = cap := by simpa using hmm
    subst hmc
    have key : ∀ q, q < len * 11 → ∃ z, w.cell? (a.add q) = some (.int .i64 z) := by
      intro q hq
      obtain ⟨cs', hc, ht'⟩ := hi (q / 11) (by omega)
      rw [hgc] at hc
      obtain ⟨_, hcl, hat⟩ := World.cells?_some hc
      obtain ⟨z, hz⟩ := gate_ints hg o0 o1 o2 ha hac hea heac h1 h1c h2 h2c ht' (q % 11) (Nat.mod_lt _ (by omega))
      refine ⟨z, ?_⟩
      have := hat (q % 11) (Nat.mod_lt _ (by omega))
      rw [hz, Go.Deep.add_add, show q / 11 * 11 + q % 11 = q by omega] at this
      exact this
    obtain ⟨f, hf⟩ : ∃ f : Nat → Int, ∀ q, q < len * 11 → w.cell? (a.add q) = some (.int .i64 (f q)) :=
      ⟨fun q => if hq : q < len * 11 then (key q hq).choose else 0, fun q hq => by simp only [hq, dite_true]; exact (key q hq).choose_spec⟩
    obtain ⟨zs, hzl, hzs⟩ : ∃ zs : List Int, zs.length = len * 11 ∧ ∀ q, q < len * 11 → zs.getD q 0 = f q := ⟨(List.range (len * 11)).map f, by simp, fun q hq => by simp [hq]⟩
    rcases Nat.eq_zero_or_pos len with l0 | l0
    · subst l0
      exact ⟨some a, 0, m, [], hcs, rfl, by omega, hm, .inl rfl⟩
    · obtain ⟨b, o, rfl, hcell⟩ := ints_at (zs := zs) (fun i hi' => by rw [hzs i (by omega)]; exact hf i (by omega)) (by omega)
      refine ⟨_, len, m, (List.range len).map fun i j => zs.getD (i * 11 + j) 0, hcs, by simp, hl, hm, .inr ⟨b, o, rfl, World.block_lt_of_cell? (a := ⟨b, o + 0, none⟩) w (hcell 0 (by omega)), fun i hi' j hj => ?_⟩⟩
      have := hcell (i * 11 + j) (by omega)
      rw [show o + i * 11 + j = o + (i * 11 + j) by omega, this]
      simp [hi']
theorem open_circ {r : Reach} {b0 : Nat} {t eg ea e2 : TypeId} {f0 f1 f2 g0 g1 g2 : Field} {v : Value} {d : DataW H} {p : List MemPlace} (hs : P.underlying t = some (.struct #[f0, f1, f2])) (hone : oneCellFields P #[f0, f1, f2] = true) (hC : P.cellsOf t = 3)
    (h0 : P.underlying f0.type = some (.int .i64)) (h1 : P.underlying f1.type = some (.slice eg)) (hg : P.underlying eg = some (.struct #[g0, g1, g2])) (hgc : P.cellsOf eg = 11) (o0 : g0.offset = 0) (o1 : g1.offset = 9) (o2 : g2.offset = 10)
    (ha : P.underlying g0.type = some (.array 9 ea)) (hac : P.cellsOf g0.type = 9) (hea : P.underlying ea = some (.int .i64)) (heac : P.cellsOf ea = 1) (hg1 : P.underlying g1.type = some (.int .i64)) (hg1c : P.cellsOf g1.type = 1) (hg2 : P.underlying g2.type = some (.int .i64)) (hg2c : P.cellsOf g2.type = 1)
    (h2 : P.underlying f2.type = some (.slice e2)) (he2 : P.underlying e2 = some (.int .i64)) (hc2 : P.cellsOf e2 = 1) (hv : Value.okWide P w r b0 t v) (h : DataW.Trod enc P w base (fun _ => true) held t v d p) :
    ∃ k a n c L b m d o, v = circV k a n c b m d ∧ Cs w a n c L b m d o ∧ (Lit.int .i64 k).wf = true := by
  obtain ⟨v0, v1, v2, y0, y1, y2, n, rfl, -, -, hy0, hy1, hy2⟩ := open_agg3 hs hone hC hv h
  obtain ⟨k, e1, -, wk⟩ := DataW.trod_int h0 hy0
  obtain ⟨a, n1, c, L, rfl, hG⟩ := cell_gates h1 hg hgc o0 o1 o2 ha hac hea heac hg1 hg1c hg2 hg2c hy1
  obtain ⟨b, m, d2, zs, rfl, hr⟩ := cell_ints h2 he2 hc2 hy2
  simp only [List.cons.injEq, and_true] at e1
  subst e1
  exact ⟨k, a, n1, c, L, b, m, d2, _, rfl, ⟨hG, Ints.of_row hr⟩, wk⟩
end
end Go.Proofs.Ytjbmgppgkgacpaa

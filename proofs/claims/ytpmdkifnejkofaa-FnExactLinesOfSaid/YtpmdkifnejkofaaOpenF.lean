/- How structs of a slice of integers and an integer are opened. -/
import Derived.Test.YtpmdkifnejkofaaOpen
import Derived.Lib.SmallJoins
namespace Go.Proofs.Ytpmdkifnejkofaa
set_option maxRecDepth 20000
open Go.ChangeShapes Go.WideShapes Go.ChangeAt Go.RowKit Go.Joins Go.Deep
section
variable {H : Type} {enc : TypeId × Value → H} {P : Program} {w : World} {base : Nat} {held : Bool}
/-- One cell that holds a slice of integers. -/
theorem cell_ints {t e : TypeId} {fuel : Nat} {v : Value} {x : DataW H × List MemPlace} (ht : P.underlying t = some (.slice e)) (he : P.underlying e = some (.int .i64)) (hc : P.cellsOf e = 1) (h : DataW.trod enc P w base (fun _ => true) held fuel t [v] = some x) :
    ∃ a n c zs, v = .slice a n c ∧ IsRow .i64 w a n c zs := by
  rcases open_ints ht he hc h with ⟨hcs, _⟩ | ⟨a, len, cap, zs, hcs, _, hl, hm, hz, _, hcell, hwz⟩
  · simp only [List.cons.injEq, and_true] at hcs
    exact ⟨none, 0, 0, [], hcs, .inl ⟨rfl, rfl, rfl, rfl⟩⟩
  · simp only [List.cons.injEq, and_true] at hcs
    exact ⟨some a, len, cap, zs, hcs, .inr ⟨a, rfl, hl, hm, by simpa using hz, hcell, hwz⟩⟩
theorem open_flt {r : Reach} {b0 : Nat} {t e : TypeId} {f0 f1 : Field} {v : Value} {d : DataW H} {p : List MemPlace} (hs : P.underlying t = some (.struct #[f0, f1])) (hone : oneCellFields P #[f0, f1] = true) (hC : P.cellsOf t = 2)
    (h0 : P.underlying f0.type = some (.slice e)) (he : P.underlying e = some (.int .i64)) (hc : P.cellsOf e = 1) (h1 : P.underlying f1.type = some (.int .i64))
    (hv : Value.okWide P w r b0 t v) (h : DataW.Trod enc P w base (fun _ => true) held t v d p) :
    ∃ a n c x zs, v = .agg #[.slice a n c, .int .i64 x] ∧ IsRow .i64 w a n c zs ∧ (Lit.int .i64 x).wf = true := by
  obtain ⟨v0, v1, y0, y1, m, rfl, -, -, hy0, hy1⟩ := open_agg2 hs hone hC hv h
  obtain ⟨a, n, c, zs, rfl, hr⟩ := cell_ints h0 he hc hy0
  obtain ⟨x, e1, -, wx⟩ := DataW.trod_int h1 hy1
  simp only [List.cons.injEq, and_true] at e1
  subst e1
  exact ⟨a, n, c, x, zs, rfl, hr, wx⟩
end
end Go.Proofs.Ytpmdkifnejkofaa

/- How structs of two slices of integers are opened. -/
import Derived.Test.YteklgngooflhlaaOpenF
import Derived.Test.YteklgngooflhlaaVRow
namespace Go.Proofs.Yteklgngooflhlaa
set_option maxRecDepth 20000
open Go.ChangeShapes Go.WideShapes Go.ChangeAt Go.RowKit Go.Joins Go.Deep
section
variable {H : Type} {enc : TypeId × Value → H} {P : Program} {w : World} {base : Nat} {held : Bool}
theorem open_weig {r : Reach} {b0 : Nat} {t e1 e2 : TypeId} {f1 f2 : Field} {v : Value} {d : DataW H} {p : List MemPlace} (hs : P.underlying t = some (.struct #[f1, f2])) (hone : oneCellFields P #[f1, f2] = true) (hC : P.cellsOf t = 2)
    (h1 : P.underlying f1.type = some (.slice e1)) (he1 : P.underlying e1 = some (.int .i64)) (hc1 : P.cellsOf e1 = 1)
    (h2 : P.underlying f2.type = some (.slice e2)) (he2 : P.underlying e2 = some (.int .i64)) (hc2 : P.cellsOf e2 = 1) (hv : Value.okWide P w r b0 t v) (h : DataW.Trod enc P w base (fun _ => true) held t v d p) :
    ∃ a n c s b m d o, v = weigV a n c b m d ∧ Ms w a n c s b m d o := by
  obtain ⟨v1, v2, y1, y2, n, rfl, -, -, hy1, hy2⟩ := open_agg2 hs hone hC hv h
  obtain ⟨a, n1, c, zs1, rfl, hr1⟩ := cell_ints h1 he1 hc1 hy1
  obtain ⟨b, m, d2, zs, rfl, hr⟩ := cell_ints h2 he2 hc2 hy2
  exact ⟨a, n1, c, _, b, m, d2, _, rfl, ⟨Ints.of_row hr1, Ints.of_row hr⟩⟩
end
end Go.Proofs.Yteklgngooflhlaa

/- Copies of circuits: the model's l6Copy. Appends of slices that may be nil. -/
import Derived.Test.YtjbmgppgkgacpaaGApp
import Derived.Test.YtjbmgppgkgacpaaCopy
namespace Go.Proofs.Ytjbmgppgkgacpaa
set_option maxRecDepth 20000
open Go.RowKit
theorem Gs.none0 {w : World} {a : Option Addr} {n c : Nat} {L : List (Nat → Int)} (h : Gs w a n c L) : a = none → n = 0 := fun e => by
  rcases h.2.2.2 with h0 | ⟨b, o, e1, _⟩
  · exact h0
  · rw [e] at e1; cases e1
theorem Gs.news {w : World} {a : Option Addr} {n c : Nat} {L : List (Nat → Int)} (h : Gs w a n c L) : ∀ ad, a = some ad → ∀ j u, ((Tm.flat L).map (Value.int .i64))[j]? = some u → w.cell? (ad.add j) = some u := by
  intro ad e j u hj
  have hjl := (List.getElem?_eq_some_iff.1 hj).1
  rw [List.length_map, Tm.flat_length, h.1] at hjl
  rcases h.2.2.2 with h0 | ⟨b, o, e1, _, hc⟩
  · omega
  · rw [e] at e1; cases e1
    have h11 : j % 11 < 11 := Nat.mod_lt _ (by omega)
    have hq : j / 11 < n := by omega
    have := hc (j / 11) hq (j % 11) h11
    rw [← Tm.flat_at L _ _ (by have := h.1; omega) h11, show j / 11 * 11 + j % 11 = j by omega, show o + j / 11 * 11 + j % 11 = o + j by omega] at this
    rw [Go.WideShapes.add_plain, this, List.getElem?_map] at *
    rw [List.getElem?_eq_getElem (by rw [Tm.flat_length, h.1]; omega)] at hj
    rw [List.getD_eq_getElem?_getD, List.getElem?_eq_getElem (by rw [Tm.flat_length, h.1]; omega)]
    simpa using hj
theorem flat_one (L : List (Nat → Int)) : ∀ u ∈ (Tm.flat L).map (Value.int .i64), u.oneCell' = true := news_one _
end Go.Proofs.Ytjbmgppgkgacpaa

/- Contracts of the program's functions of words, on: parts of words, sums, reversed words. -/
import Derived.Test.YteklgngooflhlaaWI2
import Derived.Deep.RegionLaw
namespace Go.Proofs.Yteklgngooflhlaa
set_option maxRecDepth 20000
open Go.RowKit
theorem splice_all {α : Type} (L cs : List α) (h : cs.length = L.length) : splice L 0 cs = cs := by
  simp [splice, h]
theorem splice_high (m n : Nat) (ys : List Int) (h : ys.length = n) : splice (rowV (m + n) fun _ => 0) m (ys.map (Value.int .i64)) = (List.replicate m (0 : Int) ++ ys).map (Value.int .i64) := by
  rw [splice, rowV_zero, List.map_append, List.map_replicate, List.take_replicate, List.drop_replicate, List.length_map, h, Nat.sub_self, Nat.min_eq_left (by omega)]; simp
end Go.Proofs.Yteklgngooflhlaa

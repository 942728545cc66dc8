/- Regions that make memory beside calls: a block of three cells. -/
import Derived.Test.YtlbhekfjcbcpaaaBase
import Derived.Test.YtlbhekfjcbcpaaaAMath
import Derived.Deep.RegionHeld3
import Derived.Deep.RegionLaw
namespace Go.Proofs.Ytlbhekfjcbcpaaa
set_option maxRecDepth 20000
open Go.RowKit
/-- Three cells of a block. -/
def M3 (w : World) (g : Nat) (f : Nat → Int) : Prop := g < w.heap.size ∧ ∀ i, i < 3 → w.cell? ⟨g, i, none⟩ = some (.int .i64 (f i)) ∧ w.frozen? ⟨g, i, none⟩ = false
theorem M3.of {w : World} {g : Nat} {f : Nat → Int} (h : g < w.heap.size) (c0 : w.cell? ⟨g, 0, none⟩ = some (.int .i64 (f 0))) (c1 : w.cell? ⟨g, 1, none⟩ = some (.int .i64 (f 1))) (c2 : w.cell? ⟨g, 2, none⟩ = some (.int .i64 (f 2))) (z0 : w.frozen? ⟨g, 0, none⟩ = false) (z1 : w.frozen? ⟨g, 1, none⟩ = false) (z2 : w.frozen? ⟨g, 2, none⟩ = false) : M3 w g f :=
  ⟨h, fun i hi => match i, hi with
    | 0, _ => ⟨c0, z0⟩
    | 1, _ => ⟨c1, z1⟩
    | 2, _ => ⟨c2, z2⟩⟩
theorem M3.cell {w : World} {g : Nat} {f : Nat → Int} (h : M3 w g f) (i : Nat) (hi : i < 3) : w.cell? ⟨g, i, none⟩ = some (.int .i64 (f i)) := (h.2 i hi).1
theorem M3.frozen {w : World} {g : Nat} {f : Nat → Int} (h : M3 w g f) (i : Nat) (hi : i < 3) : w.frozen? ⟨g, i, none⟩ = false := (h.2 i hi).2
theorem M3.below {w w' : World} {g : Nat} {f : Nat → Int} (h : M3 w g f) (hb : Below w.heap.size w w') : M3 w' g f :=
  ⟨Nat.lt_of_lt_of_le h.1 hb.size, fun i hi => ⟨by rw [← h.cell i hi]; exact World.cell?_of_block (a := ⟨g, i, none⟩) (hb.block g h.1), by rw [← h.frozen i hi]; exact World.frozen?_of_block (a := ⟨g, i, none⟩) (hb.block g h.1)⟩⟩
theorem run_equalIn_arr3 {P : Program} (w : World) (d : Nat) (t e : TypeId) (x0 x1 x2 y0 y1 y2 : Int) (ht : P.underlying t = some (.array 3 e)) (he : P.underlying e = some (.int .i64))
    (hp : ∀ (xs : Array Value) (i : Nat) (v : Value) (w : World), xs[i]? = some v → (part e xs i).run P w = .ok v w) (hs : ∀ w, (sizeOf e).run P w = .ok 1 w) :
    (Op.equalIn (d + 2) t (.agg #[.int .i64 x0, .int .i64 x1, .int .i64 x2]) (.agg #[.int .i64 y0, .int .i64 y1, .int .i64 y2])).run P w = .ok (x0 == y0 && x1 == y1 && x2 == y2) w := by
  have hi : ∀ (a b : Int) (w : World), (Op.equalIn (d + 1) e (.int .i64 a) (.int .i64 b)).run P w = .ok (a == b) w := fun a b w => run_equalIn_int w d e .i64 .i64 a b he
  rw [Op.equalIn]
  simp only [Sem.run_bind, run_underlying ht, Result.andThen_ok, hs]
  rw [Std.Legacy.Range.forIn_eq_forIn_range']
  simp [Std.Legacy.Range.size, List.range', hp, hi]
  repeat' split
  all_goals simp_all
theorem eqMap (x0 x1 x2 y0 y1 y2 : Int) (w : World) : (Op.equalIn 10000 50 (.agg #[.int .i64 x0, .int .i64 x1, .int .i64 x2]) (.agg #[.int .i64 y0, .int .i64 y1, .int .i64 y2])).run Try.prog w = .ok (x0 == y0 && x1 == y1 && x2 == y2) w :=
  run_equalIn_arr3 w 9998 50 3 _ _ _ _ _ _ Try.underlying50 Try.underlying3 (fun xs i v w h => run_part_plain w (by kernel_rfl) h) (fun w => by kernel_rfl)
theorem eqMap_same (f : Nat → Int) (w : World) : (Op.equalIn 10000 50 (mapV f) (mapV f)).run Try.prog w = .ok true w := by
  rw [mapV, eqMap]; simp
end Go.Proofs.Ytlbhekfjcbcpaaa

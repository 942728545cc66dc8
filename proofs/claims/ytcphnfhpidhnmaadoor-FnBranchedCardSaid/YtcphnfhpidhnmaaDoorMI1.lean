/- The program's machine: its table of operations, names, ranges, operations and programs that are valid. -/
import Derived.Test.YtcphnfhpidhnmaaDoorMRow
import Derived.Test.YtcphnfhpidhnmaaDoorGI0
import Derived.Test.YtcphnfhpidhnmaaDoorMMath
import Derived.Test.YtcphnfhpidhnmaaDoorWI
namespace Go.Proofs.YtcphnfhpidhnmaaDoor
set_option maxRecDepth 20000
open Go.RowKit
namespace Tm
def popsN (c : Int) : Int := if c = 2 ∨ c = 3 ∨ c = 4 ∨ c = 8 ∨ c = 12 then 2 else if c = 1 ∨ c = 13 ∨ c = 15 then 0 else 1
def pushN (c : Int) : Int := if c = 7 ∨ c = 8 then 2 else if c = 9 ∨ c = 12 ∨ c = 13 ∨ c = 14 ∨ c = 15 then 0 else 1
theorem namN_le (c : Int) : namN c ≤ 3 := by unfold namN; split <;> (try split) <;> omega
theorem opName_yes {c : Int} (h : 1 ≤ c ∧ c ≤ 15) : ((opName c).toList == ([] : List UInt8)) = false := by
  have : c = 1 ∨ c = 2 ∨ c = 3 ∨ c = 4 ∨ c = 5 ∨ c = 6 ∨ c = 7 ∨ c = 8 ∨ c = 9 ∨ c = 10 ∨ c = 11 ∨ c = 12 ∨ c = 13 ∨ c = 14 ∨ c = 15 := by omega
  rcases this with rfl | rfl | rfl | rfl | rfl | rfl | rfl | rfl | rfl | rfl | rfl | rfl | rfl | rfl | rfl <;> decide +kernel
end Tm
/-- The table of operations lies in memory. -/
def OpsTab (w : World) : Prop := 0 < w.heap.size ∧ ∀ k : Nat, k < 15 → w.cell? ⟨0, k * 4, none⟩ = some (.string (Tm.opName ((k : Int) + 1))) ∧ w.cell? ⟨0, k * 4 + 1, none⟩ = some (.int .i64 (Tm.popsN ((k : Int) + 1))) ∧ w.cell? ⟨0, k * 4 + 2, none⟩ = some (.int .i64 (Tm.pushN ((k : Int) + 1))) ∧ w.cell? ⟨0, k * 4 + 3, none⟩ = some (.int .i64 (Tm.namN ((k : Int) + 1)))
theorem OpsTab.below {w w' : World} (h : OpsTab w) (hb : Below w.heap.size w w') : OpsTab w' :=
  ⟨Nat.lt_of_lt_of_le h.1 hb.size, fun k hk => by
    obtain ⟨h0, h1, h2, h3⟩ := h.2 k hk
    exact ⟨by rw [hb.cell (p := ⟨0, k * 4, none⟩) h.1]; exact h0, by rw [hb.cell (p := ⟨0, k * 4 + 1, none⟩) h.1]; exact h1, by rw [hb.cell (p := ⟨0, k * 4 + 2, none⟩) h.1]; exact h2, by rw [hb.cell (p := ⟨0, k * 4 + 3, none⟩) h.1]; exact h3⟩⟩
theorem iOpName (c : Int) (w : World) (hT : OpsTab w) : Calls Tryd.prog 50 #[.int .i64 c] w fun e w' => e = .returned (.string (Tm.opName c)) ∧ w = w' := by
  by_cases h : 1 ≤ c ∧ c ≤ 15
  · obtain ⟨k, rfl⟩ : ∃ k : Nat, c = (k : Int) + 1 := ⟨(c - 1).toNat, by omega⟩
    obtain ⟨t0, t1, t2, t3⟩ := hT.2 k (by omega)
    have e1 : IntKind.i64.wrap ((k : Int) + 1 - 1) = (k : Int) := by rw [IntWalk.i64_in _ (by omega)]; omega
    obtain ⟨h1, h2⟩ := h
    have g0 := hT.1
    clear hT t1 t2 t3
    go_enter Tryd.func50, Tryd.ntmps50
    go_wp2
    go_ret
    exact ⟨rfl, rfl⟩
  · rw [Tm.opName_no h]
    clear hT
    rcases Int.lt_or_le c 1 with c1 | c1
    · go_enter Tryd.func50, Tryd.ntmps50
      go_wp2
      go_ret
      exact ⟨rfl, rfl⟩
    · have c2 : 15 < c := by omega
      clear h
      go_enter Tryd.func50, Tryd.ntmps50
      go_wp2
      go_ret
      exact ⟨rfl, rfl⟩
end Go.Proofs.YtcphnfhpidhnmaaDoor

/- The model's floating numbers, on. -/
import Derived.Test.YtpmdkifnejkofaaDoorFS
import Derived.Test.YtpmdkifnejkofaaDoorFMath
import Derived.Deep.RegionHeld3
import Derived.Test.YtpmdkifnejkofaaDoorAS
namespace Go.Proofs.YtpmdkifnejkofaaDoor
set_option maxRecDepth 20000
open Go.RowKit
namespace Tm
instance (n : Int) : Decidable (fits n) := by unfold fits; exact inferInstance
end Tm
namespace Tm
theorem lift_bd {x : Int} (hx : -1000 ≤ x ∧ x ≤ 1000) {j : Nat} (hj : j ≤ 20) : -3486784401000 ≤ x * pow3 j ∧ x * pow3 j ≤ 3486784401000 := by
  have p := pow3_le hj
  rw [show pow3 20 = 3486784401 from by decide] at p
  have q := pow3_one j
  have := mul_bd (A := 1000) (B := 3486784401) hx (show -3486784401 ≤ pow3 j ∧ pow3 j ≤ 3486784401 by omega)
  omega
end Tm
theorem sLift5 (x : Int) (k : Nat) (w : World) (hx : -1000 ≤ x ∧ x ≤ 1000) (hk : k ≤ 20) : Calls Tryd.prog 30 #[.int .i64 x, .int .i64 k] w fun e w' => e = .returned (.int .i64 (x * Tm.pow3 k)) ∧ w = w' := by
  have BD := Lib.hid (fun j hj => Tm.lift_bd hx (j := j) hj)
  have ST : Hid (∀ j, x * Tm.pow3 (j + 1) = 3 * (x * Tm.pow3 j)) := Lib.hid fun j => by rw [Tm.pow3_succ]; grind
  have Z : Hid (x * Tm.pow3 0 = x) := Lib.hid (by simp [Tm.pow3])
  clear hx
  go_enter Tryd.func30, Tryd.ntmps30
  go_wp2
  go_loop [0, 1] (fun v i => ∃ (j : Nat) (z : Int), j ≤ k ∧ i = .int .i64 ((k : Int) - j) ∧ v = .int .i64 z ∧ Hid (z = x * Tm.pow3 j)) (fun _ i => (intOf i).toNat)
  case atStart => exact ⟨0, x, by omega, val_int (by omega), rfl, Lib.hid Z.out.symm⟩
  case round =>
    obtain ⟨j, z, hj, rfl, rfl, ZZ⟩ := hrel
    by_cases hlt : j < k
    · have b := BD.out j (by omega)
      have b2 := BD.out (j + 1) (by omega)
      rw [ST.out, ← ZZ.out] at b2
      rw [← ZZ.out] at b
      obtain ⟨b1, b3⟩ := b
      go_wp2
      exact ⟨⟨j + 1, 3 * z, by omega, by go_num, rfl, Lib.hid (by rw [ST.out, ZZ.out])⟩, by simp [intOf]; omega⟩
    · obtain rfl : j = k := by omega
      go_wp2
      go_ret
      exact ⟨ret_int ZZ.out, rfl⟩
namespace Tm
def lf (z i : Int) : Int := z * pow3 i.toNat
end Tm
theorem sLiftG (z i : Int) (w : World) (hz : -1000 ≤ z ∧ z ≤ 1000) (hi : 0 ≤ i ∧ i ≤ 20) : Calls Tryd.prog 30 #[.int .i64 z, .int .i64 i] w fun e w' => e = .returned (.int .i64 (Tm.lf z i)) ∧ w = w' := by
  obtain ⟨k, rfl⟩ := Int.eq_ofNat_of_zero_le hi.1
  exact sLift5 z k w hz (by omega)
end Go.Proofs.YtpmdkifnejkofaaDoor

/- The model's floating numbers, on. -/
import Derived.Test.YtgkljlmfflbejaaFS
import Derived.Test.YtgkljlmfflbejaaFMath
import Derived.Deep.RegionHeld3
import Derived.Test.YtgkljlmfflbejaaAS
namespace Go.Proofs.Ytgkljlmfflbejaa
set_option maxRecDepth 20000
open Go.RowKit
namespace Tm
theorem lenFrom_none {n : Int} (h : ¬ fits n) (f : Nat) (k : Int) (hk : 1 ≤ k) (hf : k + f ≤ 31) : lenFrom n f k = 0 := by
  induction f generalizing k with
  | zero => rfl
  | succ f ih =>
    rw [lenFrom, if_neg, ih (k + 1) (by omega) (by omega)]
    intro hb
    have b := (inB_iff _ _ _).1 hb
    obtain ⟨m, rfl⟩ := Int.eq_ofNat_of_zero_le (show 0 ≤ k by omega)
    rw [lim_nat (by omega) (by omega)] at b
    have := limN_le (show m ≤ 30 by omega)
    exact h ⟨by omega, by omega⟩
theorem lenOf_none {n : Int} (h : ¬ fits n) : lenOf n = 0 := lenFrom_none h 30 1 (by omega) (by omega)
instance (n : Int) : Decidable (fits n) := by unfold fits; exact inferInstance
end Tm
namespace Tm
theorem lift_bd {x : Int} (hx : -1000 ≤ x ∧ x ≤ 1000) {j : Nat} (hj : j ≤ 20) : -3486784401000 ≤ x * pow3 j ∧ x * pow3 j ≤ 3486784401000 := by
  have p := pow3_le hj
  rw [show pow3 20 = 3486784401 from by decide] at p
  have q := pow3_one j
  have := mul_bd (A := 1000) (B := 3486784401) hx (show -3486784401 ≤ pow3 j ∧ pow3 j ≤ 3486784401 by omega)
  omega
end Tm
namespace Tm
def lf (z i : Int) : Int := z * pow3 i.toNat
end Tm
end Go.Proofs.Ytgkljlmfflbejaa

/- The model's products, quotients, roots, powers, divisors. -/
import Derived.Test.YtpmdkifnejkofaaDoorPMath
import Derived.Test.YtpmdkifnejkofaaDoorWS4
import Derived.Test.YtpmdkifnejkofaaDoorRow2
import Derived.Test.YtpmdkifnejkofaaDoorLaw
namespace Go.Proofs.YtpmdkifnejkofaaDoor
set_option maxRecDepth 20000
open Go.RowKit
namespace Tm
theorem tdiv_part (n : Int) {d : Int} (hd : d ≠ 0) : n.tdiv d * d = n - n.tmod d ∧ -absI d < n.tmod d ∧ n.tmod d < absI d ∧ absI (n.tmod d) ≤ absI n := by
  have e := Int.mul_tdiv_add_tmod n d
  have a := absI_abs d
  have h1 : (n.tmod d).natAbs < d.natAbs := by
    rw [Int.natAbs_tmod]; exact Nat.mod_lt _ (by omega)
  have h2 : (n.tmod d).natAbs ≤ n.natAbs := by
    rw [Int.natAbs_tmod]; exact Nat.mod_le _ _
  rw [Int.mul_comm] at e
  have := absI_abs (n.tmod d)
  have := absI_abs n
  omega
theorem q_bd {n q d r : Int} (_ : d ≠ 0) (h : n = q * d + r) (h1 : -absI d < r) (h2 : r < absI d) : absI q ≤ absI n + 1 := by
  have b := abs_mul q d
  have e : q * d = n - r := by omega
  rw [e] at b
  have c := absI_abs (n - r)
  have d1 := absI_abs d
  have c2 := absI_abs n
  rcases Int.lt_or_le (absI n + 1) (absI q) with k | k
  · have h3 := Int.mul_le_mul_of_nonneg_right (show absI n + 2 ≤ absI q by omega) d1.2
    have h4 := Int.mul_le_mul_of_nonneg_left (show 1 ≤ absI d by omega) c2.2
    rw [Int.add_mul] at h3
    omega
  · exact k
theorem down {n q d r : Int} (h : n = q * d + r) : n = (q + sgn d) * d + (r - absI d) := by
  rw [Int.add_mul, sgn_abs]; omega
theorem up {n q d r : Int} (h : n = q * d + r) : n = (q - sgn d) * d + (r + absI d) := by
  rw [Int.sub_mul, sgn_abs]; omega
end Tm
end Go.Proofs.YtpmdkifnejkofaaDoor

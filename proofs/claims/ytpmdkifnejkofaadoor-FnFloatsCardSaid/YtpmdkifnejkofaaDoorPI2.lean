/- The program's quotients and roots. -/
import Derived.Test.YtpmdkifnejkofaaDoorPS
import Derived.Test.YtpmdkifnejkofaaDoorWI2
import Derived.Test.YtpmdkifnejkofaaDoorOS
namespace Go.Proofs.YtpmdkifnejkofaaDoor
set_option maxRecDepth 20000
open Go.RowKit
namespace Tm
theorem near_div {n d r : Int} (hd : d ≠ 0) (h : absI d ∣ n - r) (h1 : -absI d < 2 * r) (h2 : 2 * r ≤ absI d) : (n - r).tdiv d = quo n d ∧ r = rem n d := by
  have hd' : d ∣ n - r := Int.dvd_trans ⟨sgn d, by rw [Int.mul_comm, sgn_abs]⟩ h
  have e := Int.tdiv_mul_cancel hd'
  exact quo_eq hd ⟨by omega, h1, h2⟩
theorem part_dvd (n m : Int) : m ∣ n - n.tmod m := ⟨n.tdiv m, by have := Int.mul_tdiv_add_tmod n m; omega⟩
theorem dvd_down {a m : Int} (h : m ∣ a) : m ∣ a + m := Int.dvd_add h (Int.dvd_refl _)
theorem dvd_up {a m : Int} (h : m ∣ a) : m ∣ a - m := Int.dvd_sub h (Int.dvd_refl _)
theorem tmod_abs_bd (n : Int) {d : Int} (hd : d ≠ 0) : -absI d < n.tmod (absI d) ∧ n.tmod (absI d) < absI d := by
  have a := absI_abs d
  have p := tdiv_part n (d := absI d) (by omega)
  have e : absI (absI d) = absI d := by have := absI_abs (absI d); omega
  rw [e] at p
  omega
end Tm
namespace Tm
theorem divOk_no {xs ds : List Int} (h : value ds = 0) : divOk xs ds = false := by
  cases hd : isW ds with
  | false => simp [divOk, hd]
  | true => rw [value_eq hd] at h; simp [divOk, h]
theorem value_word {ds : List Int} (h : value ds ≠ 0) : isW ds = true := by
  cases hd : isW ds with
  | true => rfl
  | false => exact absurd (by rw [value, hd]; rfl) h
theorem word_take {n : Int} {k : Nat} (h1 : 1 ≤ k) (h2 : k ≤ 30) (h : -limN k ≤ n ∧ n ≤ limN k) : word n (k : Int) = wordL n k ∧ wordOk n (k : Int) = true := ⟨word_nat h1 h2 h, wordOk_nat h1 h2 h⟩
end Tm
end Go.Proofs.YtpmdkifnejkofaaDoor

/- The program's quotients and roots. -/
import Derived.Test.YtgkljlmfflbejaaPS
import Derived.Test.YtgkljlmfflbejaaWI2
import Derived.Test.YtgkljlmfflbejaaOS
namespace Go.Proofs.Ytgkljlmfflbejaa
set_option maxRecDepth 20000
open Go.RowKit
namespace Tm
theorem near_div {n d r : Int} (hd : d ≠ 0) (h : absI d ∣ n - r) (h1 : -absI d < 2 * r) (h2 : 2 * r ≤ absI d) : (n - r).tdiv d = quo n d ∧ r = rem n d := by
  have hd' : d ∣ n - r := Int.dvd_trans ⟨sgn d, by rw [Int.mul_comm, sgn_abs]⟩ h
  have e := Int.tdiv_mul_cancel hd'
  exact quo_eq hd ⟨by omega, h1, h2⟩
theorem part_dvd (n m : Int) : m ∣ n - n.tmod m := ⟨n.tdiv m, by have := Int.mul_tdiv_add_tmod n m; omega⟩
theorem dvd_down {a m : Int} (h : m ∣ a) : m ∣ a + m := Int.dvd_add h (Int.dvd_refl _)
theorem dvd_up {a m : Int} (h : m ∣ a) : m ∣ a - m := Int.dvd_sub h (Int.dvd_refl _)
theorem tmod_abs_bd (n : Int) {d : Int} (hd : d ≠ 0) : -absI d < n.tmod (absI d) ∧ n.tmod (absI d) < absI d := by
  have a := absI_abs d
  have p := tdiv_part n (d := absI d) (by omega)
  have e : absI (absI d) = absI d := by have := absI_abs (absI d); omega
  rw [e] at p
  omega
end Tm
theorem iDivideNear (n d : Int) (w : World) (h1 : -4000000000000000 ≤ n) (h2 : n ≤ 4000000000000000) (d1 : -4000000000000000 ≤ d) (d2 : d ≤ 4000000000000000) (hd : d ≠ 0) : Calls Try.prog 31 #[.int .i64 n, .int .i64 d] w fun e w' => e = .returned (.tuple #[.int .i64 (Tm.quo n d), .int .i64 (Tm.rem n d)]) ∧ w = w' := by
  obtain ⟨t2, t3⟩ := Tm.tmod_abs_bd n hd
  have P0 := Tm.part_dvd n (Tm.absI d)
  have ad := Tm.absI_abs d
  have ND := Lib.hid (fun r => Tm.near_div (n := n) (r := r) hd)
  obtain ⟨m, hm⟩ : ∃ m, m = Tm.absI d := ⟨_, rfl⟩
  rw [← hm] at t2 t3 P0 ad ND
  clear hm
  have m0 : (m == 0) = false := by simp; omega
  have d0 : (d == 0) = false := by simpa using hd
  obtain ⟨r, hr⟩ : ∃ r, r = n.tmod m := ⟨_, rfl⟩
  rw [← hr] at t2 t3 P0
  have hr' : n.tmod m = r := hr.symm
  clear hr
  have QB : Hid (∀ q, -8000000000000000 ≤ q → q ≤ 8000000000000000 → -8000000000000000 ≤ q.tdiv d ∧ q.tdiv d ≤ 8000000000000000) := Lib.hid fun q a b => by
    have h : (q.tdiv d).natAbs ≤ q.natAbs := by rw [Int.natAbs_tdiv]; exact Nat.div_le_self _ _
    omega
  rcases Int.lt_or_le 0 d with c | c
  · obtain rfl : m = d := by omega
    by_cases c1 : m < 2 * r
    · have F := ND.out (r - m) (by have := Tm.dvd_down P0; rw [show n - (r - m) = n - r + m by omega]; exact this) (by omega) (by omega)
      have FF := Lib.hid F
      have qb := QB.out (n - (r - m)) (by omega) (by omega)
      obtain ⟨q, hq⟩ : ∃ q, q = Int.tdiv (n - (r - m)) m := ⟨_, rfl⟩
      rw [← hq] at qb FF
      have hq' : Int.tdiv (n - (r - m)) m = q := hq.symm
      obtain ⟨qb1, qb2⟩ := qb
      have mx : max m (-m) = m := by omega
      clear P0 F ad hq
      go_enter Try.func31, Try.ntmps31
      go_wp2
      all_goals
        go_ret2
        rw [← FF.out.1, ← FF.out.2]
        exact ⟨rfl, rfl⟩
    · by_cases c2 : 2 * r ≤ -m
      · have F := ND.out (r + m) (by have := Tm.dvd_up P0; rw [show n - (r + m) = n - r - m by omega]; exact this) (by omega) (by omega)
        have FF := Lib.hid F
        have qb := QB.out (n - (r + m)) (by omega) (by omega)
        obtain ⟨q, hq⟩ : ∃ q, q = Int.tdiv (n - (r + m)) m := ⟨_, rfl⟩
        rw [← hq] at qb FF
        have hq' : Int.tdiv (n - (r + m)) m = q := hq.symm
        obtain ⟨qb1, qb2⟩ := qb
        have mx : max m (-m) = m := by omega
        clear P0 F ad hq
        go_enter Try.func31, Try.ntmps31
        go_wp2
        all_goals
          go_ret2
          rw [← FF.out.1, ← FF.out.2]
          exact ⟨rfl, rfl⟩
      · have F := ND.out r P0 (by omega) (by omega)
        have FF := Lib.hid F
        have qb := QB.out (n - r) (by omega) (by omega)
        obtain ⟨q, hq⟩ : ∃ q, q = Int.tdiv (n - r) m := ⟨_, rfl⟩
        rw [← hq] at qb FF
        have hq' : Int.tdiv (n - r) m = q := hq.symm
        obtain ⟨qb1, qb2⟩ := qb
        have mx : max m (-m) = m := by omega
        clear P0 F ad hq
        go_enter Try.func31, Try.ntmps31
        go_wp2
        all_goals
          go_ret2
          rw [← FF.out.1, ← FF.out.2]
          exact ⟨rfl, rfl⟩
  · obtain rfl : m = -d := by omega
    by_cases c1 : -d < 2 * r
    · have F := ND.out (r + d) (by have := Tm.dvd_down P0; rw [show n - (r + d) = n - r + -d by omega]; exact this) (by omega) (by omega)
      have FF := Lib.hid F
      have qb := QB.out (n - (r + d)) (by omega) (by omega)
      obtain ⟨q, hq⟩ : ∃ q, q = Int.tdiv (n - (r + d)) d := ⟨_, rfl⟩
      rw [← hq] at qb FF
      have hq' : Int.tdiv (n - (r + d)) d = q := hq.symm
      obtain ⟨qb1, qb2⟩ := qb
      have mx : max d (-d) = -d := by omega
      clear P0 F ad hq
      go_enter Try.func31, Try.ntmps31
      go_wp2
      all_goals
        go_ret2
        rw [← FF.out.1, ← FF.out.2]
        exact ⟨rfl, rfl⟩
    · by_cases c2 : 2 * r ≤ - -d
      · have F := ND.out (r + -d) (by have := Tm.dvd_up P0; rw [show n - (r + -d) = n - r - -d by omega]; exact this) (by omega) (by omega)
        have FF := Lib.hid F
        have qb := QB.out (n - (r + -d)) (by omega) (by omega)
        obtain ⟨q, hq⟩ : ∃ q, q = Int.tdiv (n - (r + -d)) d := ⟨_, rfl⟩
        rw [← hq] at qb FF
        have hq' : Int.tdiv (n - (r + -d)) d = q := hq.symm
        obtain ⟨qb1, qb2⟩ := qb
        have mx : max d (-d) = -d := by omega
        clear P0 F ad hq
        go_enter Try.func31, Try.ntmps31
        go_wp2
        all_goals
          go_ret2
          rw [← FF.out.1, ← FF.out.2]
          exact ⟨rfl, rfl⟩
      · have F := ND.out r P0 (by omega) (by omega)
        have FF := Lib.hid F
        have qb := QB.out (n - r) (by omega) (by omega)
        obtain ⟨q, hq⟩ : ∃ q, q = Int.tdiv (n - r) d := ⟨_, rfl⟩
        rw [← hq] at qb FF
        have hq' : Int.tdiv (n - r) d = q := hq.symm
        obtain ⟨qb1, qb2⟩ := qb
        have mx : max d (-d) = -d := by omega
        clear P0 F ad hq
        go_enter Try.func31, Try.ntmps31
        go_wp2
        all_goals
          go_ret2
          rw [← FF.out.1, ← FF.out.2]
          exact ⟨rfl, rfl⟩
theorem iPower3 (k : Nat) (w : World) (h1 : 1 ≤ k) (h2 : k ≤ 30) : Calls Try.prog 32 #[.int .i64 k] w fun e w' => e = .returned (.int .i64 (Tm.pow3 k)) ∧ w = w' := by
  have L := Lib.hid (fun w => iLimitOf k w)
  rw [Tm.lim_nat h1 h2] at L
  have b1 := Tm.limN_le h2
  have b2 := Tm.limN_nonneg k
  rw [Tm.pow3_limN]
  obtain ⟨l, hl⟩ : ∃ l, l = Tm.limN k := ⟨_, rfl⟩
  rw [← hl] at L b1 b2 ⊢
  clear hl
  go_enter Try.func32, Try.ntmps32
  go_wp2_with fail
  refine (L.out _).mono ?_
  rintro e w' ⟨rfl, rfl⟩
  go_wp2
  go_ret
  exact ⟨ret_int (by omega), rfl⟩
namespace Tm
theorem divOk_no {xs ds : List Int} (h : value ds = 0) : divOk xs ds = false := by
  cases hd : isW ds with
  | false => simp [divOk, hd]
  | true => rw [value_eq hd] at h; simp [divOk, h]
theorem value_word {ds : List Int} (h : value ds ≠ 0) : isW ds = true := by
  cases hd : isW ds with
  | true => rfl
  | false => exact absurd (by rw [value, hd]; rfl) h
theorem word_take {n : Int} {k : Nat} (h1 : 1 ≤ k) (h2 : k ≤ 30) (h : -limN k ≤ n ∧ n ≤ limN k) : word n (k : Int) = wordL n k ∧ wordOk n (k : Int) = true := ⟨word_nat h1 h2 h, wordOk_nat h1 h2 h⟩
end Tm
end Go.Proofs.Ytgkljlmfflbejaa

/- The model's products, quotients, roots, powers, divisors. -/
import Derived.Test.YtkphbnejnilehaaPMath
import Derived.Test.YtkphbnejnilehaaWS4
import Derived.Test.YtkphbnejnilehaaRow2
import Derived.Test.YtkphbnejnilehaaLaw
namespace Go.Proofs.Ytkphbnejnilehaa
open Go.RowKit
theorem sAbs4 (n : Int) (w : World) (h1 : -9223372036854775808 < n) (h2 : n ≤ 9223372036854775807) : Calls Try.prog 83 #[.int .i64 n] w fun e w' => e = .returned (.int .i64 (Tm.absI n)) ∧ w = w' := by
  go_enter Try.func83, Try.ntmps83
  go_wp2
  all_goals
    go_ret
    exact ⟨ret_int (by unfold Tm.absI; split <;> omega), rfl⟩
namespace Tm
theorem tdiv_part (n : Int) {d : Int} (hd : d ≠ 0) : n.tdiv d * d = n - n.tmod d ∧ -absI d < n.tmod d ∧ n.tmod d < absI d ∧ absI (n.tmod d) ≤ absI n := by
  have e := Int.mul_tdiv_add_tmod n d
  have a := absI_abs d
  have h1 : (n.tmod d).natAbs < d.natAbs := by
    rw [Int.natAbs_tmod]; exact Nat.mod_lt _ (by omega)
  have h2 : (n.tmod d).natAbs ≤ n.natAbs := by
    rw [Int.natAbs_tmod]; exact Nat.mod_le _ _
  rw [Int.mul_comm] at e
  have := absI_abs (n.tmod d)
  have := absI_abs n
  omega
theorem q_bd {n q d r : Int} (_ : d ≠ 0) (h : n = q * d + r) (h1 : -absI d < r) (h2 : r < absI d) : absI q ≤ absI n + 1 := by
  have b := abs_mul q d
  have e : q * d = n - r := by omega
  rw [e] at b
  have c := absI_abs (n - r)
  have d1 := absI_abs d
  have c2 := absI_abs n
  rcases Int.lt_or_le (absI n + 1) (absI q) with k | k
  · have h3 := Int.mul_le_mul_of_nonneg_right (show absI n + 2 ≤ absI q by omega) d1.2
    have h4 := Int.mul_le_mul_of_nonneg_left (show 1 ≤ absI d by omega) c2.2
    rw [Int.add_mul] at h3
    omega
  · exact k
theorem down {n q d r : Int} (h : n = q * d + r) : n = (q + sgn d) * d + (r - absI d) := by
  rw [Int.add_mul, sgn_abs]; omega
theorem up {n q d r : Int} (h : n = q * d + r) : n = (q - sgn d) * d + (r + absI d) := by
  rw [Int.sub_mul, sgn_abs]; omega
end Tm
theorem sDivide4 (n d : Int) (w : World) (h1 : -4000000000000000 ≤ n) (h2 : n ≤ 4000000000000000) (d1 : -4000000000000000 ≤ d) (d2 : d ≤ 4000000000000000) (hd : d ≠ 0) : Calls Try.prog 66 #[.int .i64 n, .int .i64 d] w fun e w' => e = .returned (.tuple #[.int .i64 (Tm.quo n d), .int .i64 (Tm.rem n d)]) ∧ w = w' := by
  obtain ⟨t1, t2, t3, t4⟩ := Tm.tdiv_part n hd
  have qb := Tm.q_bd hd (show n = n.tdiv d * d + n.tmod d by omega) t2 t3
  have sb : -1 ≤ Tm.sgn d ∧ Tm.sgn d ≤ 1 := by unfold Tm.sgn; split <;> (try split) <;> omega
  have an := Tm.absI_abs n
  have ad := Tm.absI_abs d
  have aq := Tm.absI_abs (n.tdiv d)
  have am := Tm.absI_abs (n.tmod d)
  have T1 := Lib.hid (show n = n.tdiv d * d + n.tmod d by omega)
  have HD := Lib.hid hd
  have AB := Lib.hid (fun w => sAbs4 d w (by omega) (by omega))
  obtain ⟨p, hp⟩ : ∃ p, p = n.tdiv d * d := ⟨_, rfl⟩
  obtain ⟨q0, hq⟩ : ∃ q, q = n.tdiv d := ⟨_, rfl⟩
  obtain ⟨r0, hr⟩ : ∃ q, q = n.tmod d := ⟨_, rfl⟩
  obtain ⟨m, hm⟩ : ∃ q, q = Tm.absI d := ⟨_, rfl⟩
  obtain ⟨s, hs⟩ : ∃ q, q = Tm.sgn d := ⟨_, rfl⟩
  have MM := Lib.hid hm
  have SS := Lib.hid hs
  have SG := Lib.hid (fun w => sSignOf d w)
  rw [← hr] at T1 t1 t2 t3 t4 am
  rw [← hq] at T1 hp qb t1 aq
  rw [← hp] at t1
  rw [← hm] at t2 t3 ad AB
  rw [← hs] at SG sb
  obtain ⟨s1, s2⟩ := sb
  have m1 : 1 ≤ m := by omega
  have m2 : m ≤ 4000000000000000 := by omega
  have hp' : q0 * d = p := hp.symm
  have p1 : -8000000000000000 ≤ p := by omega
  have p2 : p ≤ 8000000000000000 := by omega
  have hdb : (d == 0) = false := by simpa using hd
  have hr2 : n - p = r0 := by omega
  have hq' : n.tdiv d = q0 := hq.symm
  have q1 : -4000000000000001 ≤ q0 := by omega
  have q2 : q0 ≤ 4000000000000001 := by omega
  clear hm hs hr t4 an ad aq am qb hp
  clear t1 hq
  have QB : Hid (∀ q r : Int, n = q * d + r → -m < r → r < m → -4000000000000001 ≤ q ∧ q ≤ 4000000000000001) := Lib.hid fun q r h h1 h2 => by
    have b := Tm.q_bd HD.out h (by rw [← MM.out]; exact h1) (by rw [← MM.out]; exact h2)
    have := Tm.absI_abs q
    have := Tm.absI_abs n
    omega
  have DN : Hid (∀ q r : Int, n = q * d + r → n = (q + s) * d + (r - m)) := Lib.hid fun q r h => by rw [SS.out, MM.out]; exact Tm.down h
  have UP : Hid (∀ q r : Int, n = q * d + r → n = (q - s) * d + (r + m)) := Lib.hid fun q r h => by rw [SS.out, MM.out]; exact Tm.up h
  go_enter Try.func66, Try.ntmps66
  go_wp2_with fail
  go_loop [6, 7] (fun qv rv => ∃ q r : Int, qv = .int .i64 q ∧ rv = .int .i64 r ∧ Hid (n = q * d + r) ∧ -m < r ∧ r < m) (fun _ rv => (intOf rv + m).toNat)
  case atStart => exact ⟨_, _, rfl, rfl, T1, t2, t3⟩
  case round =>
    clear T1 t2 t3 hr2 hp' p1 p2 q1 q2 hq'
    obtain ⟨q, r, rfl, rfl, E, r1, r2⟩ := hrel
    have qb := QB.out q r E.out r1 r2
    obtain ⟨q1, q2⟩ := qb
    by_cases c : m < 2 * r
    · go_wp2_with fail
      refine (AB.out _).mono ?_
      rintro e w' ⟨rfl, rfl⟩
      go_wp2_with fail
      refine (AB.out _).mono ?_
      rintro e w' ⟨rfl, rfl⟩
      go_wp2_with fail
      refine (SG.out _).mono ?_
      rintro e w' ⟨rfl, rfl⟩
      go_wp2
      exact ⟨⟨q + s, r - m, rfl, rfl, Lib.hid (DN.out q r E.out), by omega, by omega⟩, by simp [intOf]; omega⟩
    · go_wp2_with fail
      refine (AB.out _).mono ?_
      rintro e w' ⟨rfl, rfl⟩
      go_wp2_with fail
      go_loop [6, 7] (fun qv rv => ∃ q r : Int, qv = .int .i64 q ∧ rv = .int .i64 r ∧ Hid (n = q * d + r) ∧ -m < r ∧ 2 * r ≤ m) (fun _ rv => (m - intOf rv).toNat)
      case atStart => exact ⟨_, _, rfl, rfl, E, r1, by omega⟩
      case round =>
        clear E r1 r2 q1 q2 c
        obtain ⟨q', r', rfl, rfl, E, r1, r2⟩ := hrel
        have qb := QB.out q' r' E.out r1 (by omega)
        obtain ⟨q1, q2⟩ := qb
        by_cases c : 2 * r' ≤ -m
        · go_wp2_with fail
          refine (AB.out _).mono ?_
          rintro e w' ⟨rfl, rfl⟩
          go_wp2_with fail
          refine (AB.out _).mono ?_
          rintro e w' ⟨rfl, rfl⟩
          go_wp2_with fail
          refine (SG.out _).mono ?_
          rintro e w' ⟨rfl, rfl⟩
          go_wp2
          exact ⟨⟨q' - s, r' + m, rfl, rfl, Lib.hid (UP.out q' r' E.out), by omega, by omega⟩, by simp [intOf]; omega⟩
        · go_wp2_with fail
          refine (AB.out _).mono ?_
          rintro e w' ⟨rfl, rfl⟩
          go_wp2
          go_ret2
          have F := Tm.quo_eq HD.out (show Tm.IsDiv n d q' r' from ⟨E.out, by rw [← MM.out]; omega, by rw [← MM.out]; omega⟩)
          rw [F.1, F.2]
          exact ⟨rfl, rfl⟩
end Go.Proofs.Ytkphbnejnilehaa

/- The program's powers, divisors, fractions. -/
import Derived.Test.YtgfgndfklonhfaaPI2
import Derived.Test.YtgfgndfklonhfaaPS2
import Derived.Test.YtgfgndfklonhfaaPS3
namespace Go.Proofs.Ytgfgndfklonhfaa
set_option maxRecDepth 20000
open Go.RowKit
namespace Tm
/-- A number that a word of 30 trits has. -/
def inW (x : Int) : Bool := decide (absI x ≤ 102945566047324)
theorem inW_iff (x : Int) : inW x = true ↔ -102945566047324 ≤ x ∧ x ≤ 102945566047324 := by
  have := absI_abs x
  rw [inW, decide_eq_true_eq]; omega
def tmsV (m n : Int) : Int := if inW (m * n) then m * n else 0
theorem div_more {y : Int} (h : 1 ≤ y) (u : Int) : (102945566047324 : Int).tdiv y < u ↔ 102945566047324 < u * y := by
  rw [Int.tdiv_eq_ediv_of_nonneg (by omega)]
  exact Int.ediv_lt_iff_lt_mul (by omega)
theorem div_bd3 {y : Int} (h : 1 ≤ y) : 0 ≤ (102945566047324 : Int).tdiv y ∧ (102945566047324 : Int).tdiv y ≤ 102945566047324 := by
  rw [Int.tdiv_eq_ediv_of_nonneg (by omega)]
  exact ⟨Int.ediv_nonneg (by omega) (by omega), Int.ediv_le_self _ (by omega)⟩
end Tm
theorem iTimesV (m n : Int) (w : World) (hm : -102945566047324 ≤ m ∧ m ≤ 102945566047324) (hn : -102945566047324 ≤ n ∧ n ≤ 102945566047324) : Calls Try.prog 63 #[.int .i64 m, .int .i64 n] w fun e w' => e = .returned (.tuple #[.int .i64 (Tm.tmsV m n), .bool (Tm.inW (m * n))]) ∧ w = w' := by
  obtain ⟨m1, m2⟩ := hm
  obtain ⟨n1, n2⟩ := hn
  have LM := Lib.hid (fun w => iLimitOf 30 w)
  rw [show Tm.lim 30 = 102945566047324 from by decide] at LM
  by_cases h0 : n = 0
  · subst h0
    have e1 : Tm.tmsV m 0 = 0 := by rw [Tm.tmsV, Int.mul_zero]; rfl
    have e2 : Tm.inW (m * 0) = true := by rw [Int.mul_zero]; rfl
    rw [e1, e2]
    go_enter Try.func63, Try.ntmps63
    go_wp2
    go_ret2
    exact ⟨by first | rfl | simp, rfl⟩
  · have hn0 : (n != 0) = true := by simpa using h0
    have am := Tm.absI_abs m
    have an := Tm.absI_abs n
    have mul := Tm.abs_mul m n
    have y1 : 1 ≤ Tm.absI n := by omega
    have D := Tm.div_more y1 (Tm.absI m)
    have DB := Tm.div_bd3 y1
    obtain ⟨y, hy⟩ : ∃ y, y = Tm.absI n := ⟨_, rfl⟩
    obtain ⟨u, hu⟩ : ∃ y, y = Tm.absI m := ⟨_, rfl⟩
    rw [← hy] at an mul y1 D DB
    rw [← hu] at am mul D
    obtain ⟨q, hq⟩ : ∃ q, q = (102945566047324 : Int).tdiv y := ⟨_, rfl⟩
    have hq' : (102945566047324 : Int).tdiv y = q := hq.symm
    rw [← hq] at D DB
    obtain ⟨q1, q2⟩ := DB
    have ap := Tm.absI_abs (m * n)
    rw [mul] at ap
    have y0 : (y == 0) = false := by simp; omega
    obtain ⟨p, hp⟩ : ∃ p, p = u * y := ⟨_, rfl⟩
    rw [← hp] at D ap mul
    clear hq hp hy hu
    by_cases c : q < u
    · have big := D.1 c
      have e2 : Tm.inW (m * n) = false := by rw [Tm.inW, decide_eq_false_iff_not, mul]; omega
      have e1 : Tm.tmsV m n = 0 := by rw [Tm.tmsV, e2]; rfl
      rw [e1, e2]
      clear D ap mul e1 e2 big
      obtain ⟨am1, am2⟩ := am
      obtain ⟨an1, an2⟩ := an
      have c' : q < u := by omega
      clear c
      have mx : max m (-m) = u := by omega
      have my : max n (-n) = y := by omega
      rcases am1 with rfl | rfl <;> rcases an1 with rfl | rfl
      all_goals
        go_enter Try.func63, Try.ntmps63
        go_wp2_with ((go_at_call 64; refine (LM.out _).mono ?_; rintro e w1 ⟨rfl, rfl⟩))
        all_goals (first | omega | (go_ret2; exact ⟨rfl, rfl⟩))
    · have sm : p ≤ 102945566047324 := by
        rcases Int.lt_or_le 102945566047324 p with h | h
        · exact absurd (D.2 h) c
        · exact h
      have e2 : Tm.inW (m * n) = true := by rw [Tm.inW, decide_eq_true_eq, mul]; omega
      have e1 : Tm.tmsV m n = m * n := by rw [Tm.tmsV, e2]; rfl
      have b1 : -102945566047324 ≤ m * n := by omega
      have b2 : m * n ≤ 102945566047324 := by omega
      rw [e1, e2]
      clear D ap mul e1 e2 sm
      obtain ⟨am1, am2⟩ := am
      obtain ⟨an1, an2⟩ := an
      have c' : u ≤ q := by omega
      clear c
      have mx : max m (-m) = u := by omega
      have my : max n (-n) = y := by omega
      rcases am1 with rfl | rfl <;> rcases an1 with rfl | rfl
      all_goals
        go_enter Try.func63, Try.ntmps63
        go_wp2_with ((go_at_call 64; refine (LM.out _).mono ?_; rintro e w1 ⟨rfl, rfl⟩))
        all_goals (first | omega | (go_ret2; exact ⟨rfl, rfl⟩))
namespace Tm
def pwrV (v : Int) (n : Nat) : Int := if inW (v ^ n) then v ^ n else 0
/-- How many rounds: of a trit few. -/
def pwrN (v : Int) (n : Nat) : Nat := if isT v then min n (2 - n % 2) else n
theorem pwr_same (v : Int) (n : Nat) : v ^ pwrN v n = v ^ n := by
  unfold pwrN
  split
  · rename_i h
    rcases (show v = -1 ∨ v = 0 ∨ v = 1 by have := (isT_iff v).1 h; omega) with rfl | rfl | rfl
    · rw [neg_pow, neg_pow, Int.tmod_eq_emod_of_nonneg (by omega), Int.tmod_eq_emod_of_nonneg (by omega)]
      omega
    · rcases Nat.eq_zero_or_pos n with h0 | h0
      · subst h0; rfl
      · rw [zero_pow (by omega), zero_pow h0]
    · rw [one_pow, one_pow]
  · rfl
theorem inW_pow {v : Int} {i n : Nat} (h : inW (v ^ (i + 1)) = false) (hi : i + 1 ≤ n) : inW (v ^ n) = false := by
  rw [inW, decide_eq_false_iff_not] at h ⊢
  obtain ⟨m, rfl⟩ : ∃ m, n = i + 1 + m := ⟨n - (i + 1), by omega⟩
  by_cases c : 2 ≤ absI v
  · have := pow_up c (i + 1) m
    omega
  · exfalso
    have a := absI_abs v
    rcases (show v = -1 ∨ v = 0 ∨ v = 1 by omega) with rfl | rfl | rfl
    · apply h
      rw [neg_pow]
      have t1 := Int.tmod_nonneg 2 (show (0 : Int) ≤ ((i + 1 : Nat) : Int) by omega)
      have t2 := Int.tmod_lt_of_pos ((i + 1 : Nat) : Int) (show (0 : Int) < 2 by omega)
      have := absI_abs (1 - 2 * (((i + 1 : Nat) : Int).tmod 2))
      omega
    · rw [zero_pow (by omega)] at h; exact h (by decide)
    · rw [one_pow] at h; exact h (by decide)
end Tm
set_option maxHeartbeats 1000000 in
theorem iPowerOf (v : Int) (n : Nat) (w : World) (v1 : -102945566047324 ≤ v) (v2 : v ≤ 102945566047324) (hn : (n : Int) ≤ 9223372036854775807) : Calls Try.prog 45 #[.int .i64 v, .int .i64 n] w fun e w' => e = .returned (.tuple #[.int .i64 (Tm.pwrV v n), .bool (Tm.inW (v ^ n))]) ∧ w = w' := by
  have PS := Tm.pwr_same v n
  have key : ∀ N : Nat, (N : Int) ≤ 9223372036854775807 → Tm.pwrN v n = N → Calls Try.prog 45 #[.int .i64 v, .int .i64 n] w fun e w' => e = .returned (.tuple #[.int .i64 (Tm.pwrV v N), .bool (Tm.inW (v ^ N))]) ∧ w = w' := by
    intro N hb hp
    clear PS
    have TV := Lib.hid (fun m w h => iTimesV m v w h ⟨v1, v2⟩)
    have PW := Lib.hid (fun i h hi => Tm.inW_pow (v := v) (i := i) (n := N) h hi)
    have E0 : Hid (v ^ 0 = 1) := Lib.hid (Int.pow_zero v)
    have t0 := Int.tmod_nonneg 2 (show (0 : Int) ≤ n by omega)
    have t1 := Int.tmod_lt_of_pos (n : Int) (show (0 : Int) < 2 by omega)
    have te : (n : Int).tmod 2 = ((n % 2 : Nat) : Int) := by rw [Int.tmod_eq_emod_of_nonneg (by omega)]; omega
    have te2 : (n : Int) % 2 = (n : Int).tmod 2 := (Int.tmod_eq_emod_of_nonneg (by omega)).symm
    have T := Lib.hid (fun w => iIsTrit v w)
    rw [Tm.pwrN] at hp
    obtain ⟨t, ht⟩ : ∃ t, t = (n : Int).tmod 2 := ⟨_, rfl⟩
    rw [← ht] at t0 t1 te te2
    have ht' : (n : Int).tmod 2 = t := ht.symm
    clear ht
    cases hv : Tm.isT v with
    | true =>
      rw [hv] at T
      rw [if_pos hv] at hp
      clear hv
      by_cases c : (n : Int) ≤ 2 - t
      · obtain rfl : n = N := by omega
        have c2 : ¬ (2 - t < (n : Int)) := by omega
        clear hp te
        go_enter Try.func45, Try.ntmps45
        go_wp2_with fail
        refine (T.out _).mono ?_
        rintro e w' ⟨rfl, rfl⟩
        go_wp2_with fail
        clear T
        all_goals
          go_loop [1, 6, 7] (fun nv pv kv => ∃ (i : Nat) (p : Int) (ok : Bool), i ≤ n ∧ nv = .int .i64 ((n : Int) - i) ∧ pv = .int .i64 p ∧ kv = .bool ok ∧ Hid ((ok = true ∧ p = v ^ i ∧ Tm.inW (v ^ i) = true) ∨ (ok = false ∧ p = 0 ∧ Tm.inW (v ^ n) = false))) (fun nv _ _ => (intOf nv).toNat)
          case atStart => exact ⟨0, 1, true, by omega, by first | (congr 1; omega) | simp, rfl, rfl, Lib.hid (.inl ⟨rfl, E0.out.symm, by rw [E0.out]; rfl⟩)⟩
          case round =>
            obtain ⟨i, p, ok, hi, rfl, rfl, rfl, II⟩ := hrel
            cases ok with
            | false =>
              go_wp2
              go_ret2
              obtain ⟨h, -⟩ | ⟨-, h1, h2⟩ := II.out
              · cases h
              · exact ⟨by rw [Tm.pwrV, h2, h1]; rfl, rfl⟩
            | true =>
              have JJ : Hid (p = v ^ i ∧ Tm.inW (v ^ i) = true) := Lib.hid (by
                obtain ⟨-, h⟩ | ⟨h, -⟩ := II.out
                · exact h
                · cases h)
              clear II
              by_cases hlt : i < n
              · have pb := (Tm.inW_iff p).1 (by rw [JJ.out.1]; exact JJ.out.2)
                have CC := Lib.hid (fun w => TV.out p w pb)
                have EE : Hid (p * v = v ^ (i + 1)) := Lib.hid (by rw [JJ.out.1, Int.pow_succ])
                rw [Tm.tmsV, EE.out] at CC
                have h1 : 0 < (n : Int) - i := by omega
                cases hw : Tm.inW (v ^ (i + 1)) with
                | true =>
                  rw [hw, if_pos rfl] at CC
                  obtain ⟨z, hz⟩ : ∃ z, z = v ^ (i + 1) := ⟨_, rfl⟩
                  rw [← hz] at CC
                  have HZ := Lib.hid hz
                  have HW := Lib.hid hw
                  clear hz hw pb
                  go_wp2_with fail
                  refine (CC.out _).mono ?_
                  rintro e w' ⟨rfl, rfl⟩
                  go_wp2
                  exact ⟨⟨i + 1, z, true, by omega, by congr 1; omega, rfl, rfl, Lib.hid (.inl ⟨rfl, HZ.out, HW.out⟩)⟩, by simp [intOf]; omega⟩
                | false =>
                  rw [hw, if_neg (by simp)] at CC
                  have BIG := Lib.hid (PW.out i hw (by omega))
                  clear hw pb
                  go_wp2_with fail
                  refine (CC.out _).mono ?_
                  rintro e w' ⟨rfl, rfl⟩
                  go_wp2
                  exact ⟨⟨i + 1, 0, false, by omega, by congr 1; omega, rfl, rfl, Lib.hid (.inr ⟨rfl, rfl, BIG.out⟩)⟩, by simp [intOf]; omega⟩
              · obtain rfl : i = n := by omega
                have h1 : ¬ (0 < (i : Int) - i) := by omega
                go_wp2
                go_ret2
                exact ⟨by rw [Tm.pwrV, JJ.out.2, if_pos rfl, JJ.out.1]; rfl, rfl⟩
      · have c2 : 2 - t < (n : Int) := by omega
        have eN : 2 - t = (N : Int) := by omega
        clear hp te
        go_enter Try.func45, Try.ntmps45
        go_wp2_with fail
        refine (T.out _).mono ?_
        rintro e w' ⟨rfl, rfl⟩
        go_wp2_with fail
        clear T
        all_goals
          go_loop [1, 6, 7] (fun nv pv kv => ∃ (i : Nat) (p : Int) (ok : Bool), i ≤ N ∧ nv = .int .i64 ((N : Int) - i) ∧ pv = .int .i64 p ∧ kv = .bool ok ∧ Hid ((ok = true ∧ p = v ^ i ∧ Tm.inW (v ^ i) = true) ∨ (ok = false ∧ p = 0 ∧ Tm.inW (v ^ N) = false))) (fun nv _ _ => (intOf nv).toNat)
          case atStart => exact ⟨0, 1, true, by omega, by first | (congr 1; omega) | simp, rfl, rfl, Lib.hid (.inl ⟨rfl, E0.out.symm, by rw [E0.out]; rfl⟩)⟩
          case round =>
            obtain ⟨i, p, ok, hi, rfl, rfl, rfl, II⟩ := hrel
            cases ok with
            | false =>
              go_wp2
              go_ret2
              obtain ⟨h, -⟩ | ⟨-, h1, h2⟩ := II.out
              · cases h
              · exact ⟨by rw [Tm.pwrV, h2, h1]; rfl, rfl⟩
            | true =>
              have JJ : Hid (p = v ^ i ∧ Tm.inW (v ^ i) = true) := Lib.hid (by
                obtain ⟨-, h⟩ | ⟨h, -⟩ := II.out
                · exact h
                · cases h)
              clear II
              by_cases hlt : i < N
              · have pb := (Tm.inW_iff p).1 (by rw [JJ.out.1]; exact JJ.out.2)
                have CC := Lib.hid (fun w => TV.out p w pb)
                have EE : Hid (p * v = v ^ (i + 1)) := Lib.hid (by rw [JJ.out.1, Int.pow_succ])
                rw [Tm.tmsV, EE.out] at CC
                have h1 : 0 < (N : Int) - i := by omega
                cases hw : Tm.inW (v ^ (i + 1)) with
                | true =>
                  rw [hw, if_pos rfl] at CC
                  obtain ⟨z, hz⟩ : ∃ z, z = v ^ (i + 1) := ⟨_, rfl⟩
                  rw [← hz] at CC
                  have HZ := Lib.hid hz
                  have HW := Lib.hid hw
                  clear hz hw pb
                  go_wp2_with fail
                  refine (CC.out _).mono ?_
                  rintro e w' ⟨rfl, rfl⟩
                  go_wp2
                  exact ⟨⟨i + 1, z, true, by omega, by congr 1; omega, rfl, rfl, Lib.hid (.inl ⟨rfl, HZ.out, HW.out⟩)⟩, by simp [intOf]; omega⟩
                | false =>
                  rw [hw, if_neg (by simp)] at CC
                  have BIG := Lib.hid (PW.out i hw (by omega))
                  clear hw pb
                  go_wp2_with fail
                  refine (CC.out _).mono ?_
                  rintro e w' ⟨rfl, rfl⟩
                  go_wp2
                  exact ⟨⟨i + 1, 0, false, by omega, by congr 1; omega, rfl, rfl, Lib.hid (.inr ⟨rfl, rfl, BIG.out⟩)⟩, by simp [intOf]; omega⟩
              · obtain rfl : i = N := by omega
                have h1 : ¬ (0 < (i : Int) - i) := by omega
                go_wp2
                go_ret2
                exact ⟨by rw [Tm.pwrV, JJ.out.2, if_pos rfl, JJ.out.1]; rfl, rfl⟩
    | false =>
      rw [hv] at T
      rw [hv] at hp
      obtain rfl : n = N := by simpa using hp
      clear hp te hv
      go_enter Try.func45, Try.ntmps45
      go_wp2_with fail
      refine (T.out _).mono ?_
      rintro e w' ⟨rfl, rfl⟩
      go_wp2_with fail
      clear T
      all_goals
        go_loop [1, 6, 7] (fun nv pv kv => ∃ (i : Nat) (p : Int) (ok : Bool), i ≤ n ∧ nv = .int .i64 ((n : Int) - i) ∧ pv = .int .i64 p ∧ kv = .bool ok ∧ Hid ((ok = true ∧ p = v ^ i ∧ Tm.inW (v ^ i) = true) ∨ (ok = false ∧ p = 0 ∧ Tm.inW (v ^ n) = false))) (fun nv _ _ => (intOf nv).toNat)
        case atStart => exact ⟨0, 1, true, by omega, by first | (congr 1; omega) | simp, rfl, rfl, Lib.hid (.inl ⟨rfl, E0.out.symm, by rw [E0.out]; rfl⟩)⟩
        case round =>
          obtain ⟨i, p, ok, hi, rfl, rfl, rfl, II⟩ := hrel
          cases ok with
          | false =>
            go_wp2
            go_ret2
            obtain ⟨h, -⟩ | ⟨-, h1, h2⟩ := II.out
            · cases h
            · exact ⟨by rw [Tm.pwrV, h2, h1]; rfl, rfl⟩
          | true =>
            have JJ : Hid (p = v ^ i ∧ Tm.inW (v ^ i) = true) := Lib.hid (by
              obtain ⟨-, h⟩ | ⟨h, -⟩ := II.out
              · exact h
              · cases h)
            clear II
            by_cases hlt : i < n
            · have pb := (Tm.inW_iff p).1 (by rw [JJ.out.1]; exact JJ.out.2)
              have CC := Lib.hid (fun w => TV.out p w pb)
              have EE : Hid (p * v = v ^ (i + 1)) := Lib.hid (by rw [JJ.out.1, Int.pow_succ])
              rw [Tm.tmsV, EE.out] at CC
              have h1 : 0 < (n : Int) - i := by omega
              cases hw : Tm.inW (v ^ (i + 1)) with
              | true =>
                rw [hw, if_pos rfl] at CC
                obtain ⟨z, hz⟩ : ∃ z, z = v ^ (i + 1) := ⟨_, rfl⟩
                rw [← hz] at CC
                have HZ := Lib.hid hz
                have HW := Lib.hid hw
                clear hz hw pb
                go_wp2_with fail
                refine (CC.out _).mono ?_
                rintro e w' ⟨rfl, rfl⟩
                go_wp2
                exact ⟨⟨i + 1, z, true, by omega, by congr 1; omega, rfl, rfl, Lib.hid (.inl ⟨rfl, HZ.out, HW.out⟩)⟩, by simp [intOf]; omega⟩
              | false =>
                rw [hw, if_neg (by simp)] at CC
                have BIG := Lib.hid (PW.out i hw (by omega))
                clear hw pb
                go_wp2_with fail
                refine (CC.out _).mono ?_
                rintro e w' ⟨rfl, rfl⟩
                go_wp2
                exact ⟨⟨i + 1, 0, false, by omega, by congr 1; omega, rfl, rfl, Lib.hid (.inr ⟨rfl, rfl, BIG.out⟩)⟩, by simp [intOf]; omega⟩
            · obtain rfl : i = n := by omega
              have h1 : ¬ (0 < (i : Int) - i) := by omega
              go_wp2
              go_ret2
              exact ⟨by rw [Tm.pwrV, JJ.out.2, if_pos rfl, JJ.out.1]; rfl, rfl⟩
  have := key (Tm.pwrN v n) (by unfold Tm.pwrN; split <;> omega) rfl
  rw [Tm.pwrV, PS] at this
  exact this
namespace Tm
theorem inW_ok (x : Int) : wordOk x 30 = inW x := by
  rw [Bool.eq_iff_iff, inW_iff, wordOk, decide_eq_true_eq, show lim 30 = 102945566047324 from by decide]; omega
end Tm
theorem wf_i64 {a : Int} (h : (Lit.int .i64 a).wf = true) : -9223372036854775808 ≤ a ∧ a ≤ 9223372036854775807 := by
  simp only [Lit.wf, Bool.and_eq_true, decide_eq_true_eq] at h
  exact h
theorem iPowerWord (a : Option Addr) (n cap : Nat) (xs : List Int) (k : Int) (w : World) (h : Ints w a n cap xs) (hk : k ≤ 9223372036854775807 := by first | omega | exact (wf_i64 (by assumption)).2) : Calls Try.prog 24 #[.slice a n cap, .int .i64 k] w (RetIB 3 w (Tm.powW xs k) (Tm.powOk xs k)) := by
  have H := Lib.hid h
  obtain rfl : n = xs.length := h.1.symm
  clear h
  by_cases hx : Tm.isW xs = true
  · have VX := Lib.hid (iValueOf a _ cap xs w H.out)
    rw [Tm.value_eq hx] at VX
    by_cases h0 : 0 ≤ k
    · have pw := Tm.pow_word hx h0
      rw [pw.1, pw.2]
      have l1 := Tm.isW_len hx
      have b1 := Tm.val_bd_len hx 30 l1
      rw [Tm.limN_30] at b1
      obtain ⟨v, hv⟩ : ∃ v, v = Tm.val xs := ⟨_, rfl⟩
      rw [← hv] at VX b1 ⊢
      obtain ⟨j, rfl⟩ := Int.eq_ofNat_of_zero_le h0
      rw [Int.toNat_natCast]
      have P := Lib.hid (fun w => iPowerOf v j w b1.1 b1.2 hk)
      rw [← Tm.inW_ok, Tm.pwrV, ← Tm.inW_ok] at P
      have WO := Lib.hid (fun w => iWordOf (v ^ j) 30 w)
      have h1 : ¬ ((j : Int) < 0) := by omega
      clear hv pw b1 l1
      cases ok : Tm.wordOk (v ^ j) 30 with
      | true =>
        rw [ok] at P WO
        rw [if_pos rfl] at P
        obtain ⟨z, hz⟩ : ∃ z, z = v ^ j := ⟨_, rfl⟩
        rw [← hz] at P WO ⊢
        clear hz ok
        go_enter Try.func24, Try.ntmps24
        go_wp2_with fail
        refine (iIsWord a _ cap xs _ H.out).mono ?_
        rintro e w' ⟨rfl, rfl⟩
        go_wp2_with fail
        refine VX.out.mono ?_
        rintro e w' ⟨rfl, rfl⟩
        go_wp2_with fail
        refine (P.out _).mono ?_
        rintro e w' ⟨rfl, rfl⟩
        go_wp2_with fail
        refine (WO.out _).mono ?_
        rintro e w1 ⟨a1, c1, rfl, hown1, hb1, ln1⟩
        go_wp2
        go_ret2
        exact ⟨a1, c1, rfl, hown1, hb1, ln1⟩
      | false =>
        rw [ok] at P
        rw [if_neg (by simp)] at P
        rw [Tm.word, ok]
        clear ok
        go_enter Try.func24, Try.ntmps24
        go_wp2_with fail
        refine (iIsWord a _ cap xs _ H.out).mono ?_
        rintro e w' ⟨rfl, rfl⟩
        go_wp2_with fail
        refine VX.out.mono ?_
        rintro e w' ⟨rfl, rfl⟩
        go_wp2_with fail
        refine (P.out _).mono ?_
        rintro e w' ⟨rfl, rfl⟩
        go_wp2
        go_ret2
        exact ret_nil_b (by (repeat' (first | (with_reducible exact Below.refl _ _) | (with_reducible assumption) | (with_reducible refine below_drewN ?_ _) | (with_reducible refine Below.drew ?_) | (with_reducible refine Below.alloc ?_ ?_ _) | (with_reducible refine Below.setCell ?_ ?_ _) | (with_reducible refine below_gw ?_ ?_ _) | (with_reducible refine below_via ?_ ‹Below _ _ _› ?_) | (with_reducible exact Nat.le_refl _) | (with_reducible refine le_gw ?_ _) | (with_reducible refine le_alloc ?_ _) | (with_reducible refine le_setCell ?_ _ _) | (with_reducible refine le_drew ?_) | (with_reducible refine le_drewN ?_ _) | go_size)))
    · have ho : Tm.powOk xs k = false := by simp [Tm.powOk, h0]
      rw [Tm.powW, ho]
      have h0' : k < 0 := by omega
      clear ho h0
      go_enter Try.func24, Try.ntmps24
      go_wp2_with fail
      refine (iIsWord a _ cap xs _ H.out).mono ?_
      rintro e w' ⟨rfl, rfl⟩
      go_wp2
      go_ret2
      exact ret_nil_b (by (repeat' (first | (with_reducible exact Below.refl _ _) | (with_reducible assumption) | (with_reducible refine below_drewN ?_ _) | (with_reducible refine Below.drew ?_) | (with_reducible refine Below.alloc ?_ ?_ _) | (with_reducible refine Below.setCell ?_ ?_ _) | (with_reducible refine below_gw ?_ ?_ _) | (with_reducible refine below_via ?_ ‹Below _ _ _› ?_) | (with_reducible exact Nat.le_refl _) | (with_reducible refine le_gw ?_ _) | (with_reducible refine le_alloc ?_ _) | (with_reducible refine le_setCell ?_ _ _) | (with_reducible refine le_drew ?_) | (with_reducible refine le_drewN ?_ _) | go_size)))
  · simp only [Bool.not_eq_true] at hx
    have ho : Tm.powOk xs k = false := by simp [Tm.powOk, hx]
    rw [Tm.powW, ho]
    clear ho
    go_enter Try.func24, Try.ntmps24
    go_wp2_with fail
    refine (iIsWord a _ cap xs _ H.out).mono ?_
    rintro e w' ⟨rfl, rfl⟩
    go_wp2
    go_ret2
    exact ret_nil_b (by (repeat' (first | (with_reducible exact Below.refl _ _) | (with_reducible assumption) | (with_reducible refine below_drewN ?_ _) | (with_reducible refine Below.drew ?_) | (with_reducible refine Below.alloc ?_ ?_ _) | (with_reducible refine Below.setCell ?_ ?_ _) | (with_reducible refine below_gw ?_ ?_ _) | (with_reducible refine below_via ?_ ‹Below _ _ _› ?_) | (with_reducible exact Nat.le_refl _) | (with_reducible refine le_gw ?_ _) | (with_reducible refine le_alloc ?_ _) | (with_reducible refine le_setCell ?_ _ _) | (with_reducible refine le_drew ?_) | (with_reducible refine le_drewN ?_ _) | go_size)))
namespace Tm
theorem gcd_turn (x y : Int) : gcdV y (x.tmod y) = gcdV x y := by
  rw [gcdV, gcdV, Int.gcd, Int.gcd, Int.natAbs_tmod, Nat.gcd_comm x.natAbs y.natAbs, Nat.gcd_rec y.natAbs x.natAbs, Nat.gcd_comm]
theorem gcd_last (x : Int) : gcdV x 0 = absI x := by rw [gcdV, Int.gcd_zero_right]; unfold absI; split <;> omega
end Tm
theorem iGcdOf (m n : Int) (w : World) (hm : -102945566047324 ≤ m ∧ m ≤ 102945566047324) (hn : -102945566047324 ≤ n ∧ n ≤ 102945566047324) : Calls Try.prog 46 #[.int .i64 m, .int .i64 n] w fun e w' => e = .returned (.int .i64 (Tm.gcdV m n)) ∧ Below w.heap.size w w' := by
  obtain ⟨g, hg⟩ : ∃ g, g = Tm.gcdV m n := ⟨_, rfl⟩
  rw [← hg]
  have G := Lib.hid hg.symm
  clear hg
  go_enter Try.func46, Try.ntmps46
  go_wp2_with fail
  go_loopw [0, 1] (fun xv yv wr => ∃ x y : Int, xv = .int .i64 x ∧ yv = .int .i64 y ∧ (-102945566047324 ≤ x ∧ x ≤ 102945566047324) ∧ (-102945566047324 ≤ y ∧ y ≤ 102945566047324) ∧ Hid (Tm.gcdV x y = g) ∧ ∃ d, wr = w.drewN d) (fun _ yv _ => (intOf yv).natAbs)
  case atStart => exact ⟨m, n, rfl, rfl, hm, hn, G, 0, rfl⟩
  case round =>
    clear G hm hn
    obtain ⟨x, y, rfl, rfl, ⟨x1, x2⟩, ⟨y1, y2⟩, G, d, rfl⟩ := hrel
    by_cases c : y = 0
    · subst c
      have gx : g = Tm.absI x := by rw [← G.out, Tm.gcd_last]
      clear G
      subst gx
      have ax := Lib.hid (Tm.absI_abs x)
      rcases Int.lt_or_le x 0 with c | c
      all_goals
        go_wp2
        all_goals
          go_ret
          exact ⟨ret_int (by have := ax.out; omega), by (repeat' (first | (with_reducible exact Below.refl _ _) | (with_reducible assumption) | (with_reducible refine below_drewN ?_ _) | (with_reducible refine Below.drew ?_) | (with_reducible refine Below.alloc ?_ ?_ _) | (with_reducible refine Below.setCell ?_ ?_ _) | (with_reducible refine below_gw ?_ ?_ _) | (with_reducible refine below_via ?_ ‹Below _ _ _› ?_) | (with_reducible exact Nat.le_refl _) | (with_reducible refine le_gw ?_ _) | (with_reducible refine le_alloc ?_ _) | (with_reducible refine le_setCell ?_ _ _) | (with_reducible refine le_drew ?_) | (with_reducible refine le_drewN ?_ _) | go_size))⟩
    · have c2 : (y != 0) = true := by simpa using c
      have c3 : (y == 0) = false := by simpa using c
      have r1 : (x.tmod y).natAbs < y.natAbs := by rw [Int.natAbs_tmod]; exact Nat.mod_lt _ (by omega)
      have GS := Lib.hid (Tm.gcd_turn x y)
      obtain ⟨r, hr⟩ : ∃ r, r = x.tmod y := ⟨_, rfl⟩
      have hr2 : x.tmod y = r := hr.symm
      rw [← hr] at r1 GS
      clear hr
      have r2 : -102945566047324 ≤ r := by omega
      have r3 : r ≤ 102945566047324 := by omega
      go_wp2
      go_quiet (fail)
      go_wp2
      exact ⟨⟨y, r, rfl, rfl, ⟨y1, y2⟩, ⟨r2, r3⟩, Lib.hid (by rw [GS.out, G.out]), d + nq, World.drewN_drewN _ _ _⟩, by simpa [intOf] using r1⟩
set_option maxHeartbeats 2000000 in
theorem iGcdWords (a : Option Addr) (n cap : Nat) (xs : List Int) (b : Option Addr) (m cap2 : Nat) (ys : List Int) (w : World) (h : Ints w a n cap xs) (h2 : Ints w b m cap2 ys) : Calls Try.prog 25 #[.slice a n cap, .slice b m cap2] w (RetIB 3 w (Tm.gcdW xs ys) (Tm.gcdOk xs ys)) := by
  have H := Lib.hid h
  have H2 := Lib.hid h2
  obtain rfl : n = xs.length := h.1.symm
  obtain rfl : m = ys.length := h2.1.symm
  clear h h2
  by_cases hx : Tm.isW xs = true
  · by_cases hy : Tm.isW ys = true
    · have VX := Lib.hid (iValueOf a _ cap xs w H.out)
      have VY := Lib.hid (iValueOf b _ cap2 ys w H2.out)
      rw [Tm.value_eq hx] at VX
      rw [Tm.value_eq hy] at VY
      have ho : Tm.gcdOk xs ys = true := by simp [Tm.gcdOk, hx, hy]
      have gf := Tm.gcd_facts ho
      have l1 := Tm.isW_len hx
      have l2 := Tm.isW_len hy
      have p1 := Tm.isW_pos hx
      have p2 := Tm.isW_pos hy
      have b1 := Tm.val_bd_len hx 30 l1
      have b2 := Tm.val_bd_len hy 30 l2
      rw [Tm.limN_30] at b1 b2
      have gb := Tm.val_bd_len gf.1 (max xs.length ys.length) (by omega)
      rw [gf.2.1] at gb
      rw [Tm.gcdW, if_pos ho, ho]
      have G := Lib.hid (fun w => iGcdOf (Tm.val xs) (Tm.val ys) w b1 b2)
      have WT := Tm.word_take (n := Tm.gcdV (Tm.val xs) (Tm.val ys)) (k := max xs.length ys.length) (by omega) (by omega) gb
      have WQ := Lib.hid (fun w => iWordOf (Tm.gcdV (Tm.val xs) (Tm.val ys)) ((max xs.length ys.length : Nat) : Int) w)
      rw [WT.1, WT.2] at WQ
      obtain ⟨va, hva⟩ : ∃ v, v = Tm.val xs := ⟨_, rfl⟩
      obtain ⟨vb, hvb⟩ : ∃ v, v = Tm.val ys := ⟨_, rfl⟩
      rw [← hva] at VX G WQ ⊢
      rw [← hvb] at VY G WQ ⊢
      obtain ⟨g, hg⟩ : ∃ g, g = Tm.gcdV va vb := ⟨_, rfl⟩
      rw [← hg] at G WQ ⊢
      clear hg hva hvb b1 b2 ho gb gf WT
      rcases Nat.lt_or_ge xs.length ys.length with hl | hl
      · rw [Nat.max_eq_right (Nat.le_of_lt hl)] at WQ ⊢
        have hl' : (xs.length : Int) < (ys.length : Int) := by omega
        have mx : max (xs.length : Int) (ys.length : Int) = (ys.length : Int) := by omega
        go_enter Try.func25, Try.ntmps25
        go_wp2_with fail
        refine (iIsWord a _ cap xs _ H.out).mono ?_
        rintro e w' ⟨rfl, rfl⟩
        go_wp2_with fail
        refine (iIsWord b _ cap2 ys _ H2.out).mono ?_
        rintro e w' ⟨rfl, rfl⟩
        go_wp2_with fail
        refine VX.out.mono ?_
        rintro e w' ⟨rfl, rfl⟩
        go_wp2_with fail
        refine VY.out.mono ?_
        rintro e w' ⟨rfl, rfl⟩
        go_wp2_with fail
        refine (G.out _).mono ?_
        rintro e w' ⟨rfl, hb⟩
        have hs := hb.size
        have B := Lib.hid hb
        clear hb
        go_wp2_with fail
        all_goals
          refine (WQ.out _).mono ?_
          rintro e w1 ⟨a1, c1, rfl, hown1, hb1, ln1⟩
          go_wp2
          go_ret2
          exact ret_own_b (own_weak hown1 hs) (B.out.trans (hb1.mono hs)) ln1
      · rw [Nat.max_eq_left hl] at WQ ⊢
        have mx : max (xs.length : Int) (ys.length : Int) = (xs.length : Int) := by omega
        have hl' : ¬ ((xs.length : Int) < (ys.length : Int)) := by omega
        go_enter Try.func25, Try.ntmps25
        go_wp2_with fail
        refine (iIsWord a _ cap xs _ H.out).mono ?_
        rintro e w' ⟨rfl, rfl⟩
        go_wp2_with fail
        refine (iIsWord b _ cap2 ys _ H2.out).mono ?_
        rintro e w' ⟨rfl, rfl⟩
        go_wp2_with fail
        refine VX.out.mono ?_
        rintro e w' ⟨rfl, rfl⟩
        go_wp2_with fail
        refine VY.out.mono ?_
        rintro e w' ⟨rfl, rfl⟩
        go_wp2_with fail
        refine (G.out _).mono ?_
        rintro e w' ⟨rfl, hb⟩
        have hs := hb.size
        have B := Lib.hid hb
        clear hb
        go_wp2_with fail
        all_goals
          refine (WQ.out _).mono ?_
          rintro e w1 ⟨a1, c1, rfl, hown1, hb1, ln1⟩
          go_wp2
          go_ret2
          exact ret_own_b (own_weak hown1 hs) (B.out.trans (hb1.mono hs)) ln1
    · simp only [Bool.not_eq_true] at hy
      have ho : Tm.gcdOk xs ys = false := by simp [Tm.gcdOk, hy]
      rw [Tm.gcdW, ho]
      clear ho
      go_enter Try.func25, Try.ntmps25
      go_wp2_with fail
      refine (iIsWord a _ cap xs _ H.out).mono ?_
      rintro e w' ⟨rfl, rfl⟩
      go_wp2_with fail
      refine (iIsWord b _ cap2 ys _ H2.out).mono ?_
      rintro e w' ⟨rfl, rfl⟩
      go_wp2
      go_ret2
      exact ret_nil_b (by (repeat' (first | (with_reducible exact Below.refl _ _) | (with_reducible assumption) | (with_reducible refine below_drewN ?_ _) | (with_reducible refine Below.drew ?_) | (with_reducible refine Below.alloc ?_ ?_ _) | (with_reducible refine Below.setCell ?_ ?_ _) | (with_reducible refine below_gw ?_ ?_ _) | (with_reducible refine below_via ?_ ‹Below _ _ _› ?_) | (with_reducible exact Nat.le_refl _) | (with_reducible refine le_gw ?_ _) | (with_reducible refine le_alloc ?_ _) | (with_reducible refine le_setCell ?_ _ _) | (with_reducible refine le_drew ?_) | (with_reducible refine le_drewN ?_ _) | go_size)))
  · simp only [Bool.not_eq_true] at hx
    have ho : Tm.gcdOk xs ys = false := by simp [Tm.gcdOk, hx]
    rw [Tm.gcdW, ho]
    clear ho
    go_enter Try.func25, Try.ntmps25
    go_wp2_with fail
    refine (iIsWord a _ cap xs _ H.out).mono ?_
    rintro e w' ⟨rfl, rfl⟩
    go_wp2
    go_ret2
    exact ret_nil_b (by (repeat' (first | (with_reducible exact Below.refl _ _) | (with_reducible assumption) | (with_reducible refine below_drewN ?_ _) | (with_reducible refine Below.drew ?_) | (with_reducible refine Below.alloc ?_ ?_ _) | (with_reducible refine Below.setCell ?_ ?_ _) | (with_reducible refine below_gw ?_ ?_ _) | (with_reducible refine below_via ?_ ‹Below _ _ _› ?_) | (with_reducible exact Nat.le_refl _) | (with_reducible refine le_gw ?_ _) | (with_reducible refine le_alloc ?_ _) | (with_reducible refine le_setCell ?_ _ _) | (with_reducible refine le_drew ?_) | (with_reducible refine le_drewN ?_ _) | go_size)))
theorem iBelowHalf (n d : Int) (w : World) (h1 : 1 ≤ d) (h2 : d ≤ 1000000) : Calls Try.prog 47 #[.int .i64 n, .int .i64 d] w fun e w' => e = .returned (.bool (decide (2 * Tm.absI n < d))) ∧ w = w' := by
  have an := Tm.absI_abs n
  have t : (d - 1).tdiv 2 = (d - 1) / 2 := Int.tdiv_eq_ediv_of_nonneg (by omega)
  have E : Hid (decide (2 * Tm.absI n < d) = decide (-((d - 1) / 2) ≤ n ∧ n ≤ (d - 1) / 2)) := Lib.hid (by rw [Bool.eq_iff_iff, decide_eq_true_eq, decide_eq_true_eq]; omega)
  rw [E.out]
  obtain ⟨m, hm⟩ : ∃ m, m = (d - 1) / 2 := ⟨_, rfl⟩
  have m1 : 0 ≤ m := by omega
  have m2 : m ≤ 1000000 := by omega
  rw [← hm] at t ⊢
  clear an hm E
  by_cases c : -m ≤ n
  · by_cases c2 : n ≤ m
    · go_enter Try.func47, Try.ntmps47
      go_wp2
      all_goals (go_ret; exact ⟨ret_bool (by simp [c, c2]), rfl⟩)
    · go_enter Try.func47, Try.ntmps47
      go_wp2
      all_goals (go_ret; exact ⟨ret_bool (by simp [c2]), rfl⟩)
  · go_enter Try.func47, Try.ntmps47
    go_wp2
    all_goals (go_ret; exact ⟨ret_bool (by simp; omega), rfl⟩)
theorem iThirdsOf (n d k : Int) (w : World) : Calls Try.prog 26 #[.int .i64 n, .int .i64 d, .int .i64 k] w (RetIB 3 w (Tm.thW n d k) (Tm.thOk n d k)) := by
  have NO : Tm.thOk n d k = false → Tm.thW n d k = [] := fun h => by rw [Tm.thW, h]; rfl
  by_cases hd : 1 ≤ d ∧ d ≤ 1000000
  · obtain ⟨d1, d2⟩ := hd
    by_cases hk : 1 ≤ k ∧ k ≤ 20
    · obtain ⟨k1, k2⟩ := hk
      have BH := Lib.hid (fun w => iBelowHalf n d w d1 d2)
      by_cases hn : 2 * Tm.absI n < d
      · have ok : Tm.thOk n d k = true := by rw [Tm.thOk, decide_eq_true_eq]; omega
        rw [Tm.thW, if_pos ok, ok]
        rw [decide_eq_true hn] at BH
        have an := Tm.absI_abs n
        obtain ⟨j, rfl⟩ := Int.eq_ofNat_of_zero_le (show 0 ≤ k by omega)
        rw [Int.toNat_natCast]
        have pj := Tm.th_part (n := n) (by omega) (by omega) j (by omega)
        have D := Lib.hid (fun w => iDivideNear (n * Tm.pow3 j) d w (by omega) (by omega) (by omega) (by omega) (by omega))
        have bd := Tm.th_bd j d1 hn
        have PW := Lib.hid (fun w => iPower3 j w (by omega) (by omega))
        have WT := Tm.word_take (n := Tm.quo (n * Tm.pow3 j) d) (k := j) (by omega) (by omega) bd
        have WQ := Lib.hid (fun w => iWordOf (Tm.quo (n * Tm.pow3 j) d) (j : Int) w)
        rw [WT.1, WT.2] at WQ
        obtain ⟨q, hq⟩ : ∃ q, q = Tm.quo (n * Tm.pow3 j) d := ⟨_, rfl⟩
        rw [← hq] at D WQ ⊢
        obtain ⟨p, hp⟩ : ∃ p, p = Tm.pow3 j := ⟨_, rfl⟩
        rw [← hp] at D PW pj
        obtain ⟨pj1, pj2⟩ := pj
        clear hq hp an bd WT ok NO hn
        go_enter Try.func26, Try.ntmps26
        go_wp2_with fail
        refine (BH.out _).mono ?_
        rintro e w' ⟨rfl, rfl⟩
        go_wp2_with fail
        refine (PW.out _).mono ?_
        rintro e w' ⟨rfl, rfl⟩
        go_wp2_with fail
        refine (D.out _).mono ?_
        rintro e w' ⟨rfl, rfl⟩
        go_wp2_with fail
        refine (WQ.out _).mono ?_
        rintro e w1 ⟨a1, c1, rfl, hown1, hb1, ln1⟩
        go_wp2
        go_ret2
        exact ⟨a1, c1, rfl, hown1, hb1, ln1⟩
      · have ok := Tm.th_no3 (k := k) hn
        rw [NO ok, ok]
        rw [decide_eq_false hn] at BH
        clear ok NO hn
        go_enter Try.func26, Try.ntmps26
        go_wp2_with fail
        refine (BH.out _).mono ?_
        rintro e w' ⟨rfl, rfl⟩
        go_wp2
        go_ret2
        exact ret_nil_b (by (repeat' (first | (with_reducible exact Below.refl _ _) | (with_reducible assumption) | (with_reducible refine below_drewN ?_ _) | (with_reducible refine Below.drew ?_) | (with_reducible refine Below.alloc ?_ ?_ _) | (with_reducible refine Below.setCell ?_ ?_ _) | (with_reducible refine below_gw ?_ ?_ _) | (with_reducible refine below_via ?_ ‹Below _ _ _› ?_) | (with_reducible exact Nat.le_refl _) | (with_reducible refine le_gw ?_ _) | (with_reducible refine le_alloc ?_ _) | (with_reducible refine le_setCell ?_ _ _) | (with_reducible refine le_drew ?_) | (with_reducible refine le_drewN ?_ _) | go_size)))
    · have ok := Tm.th_no2 (n := n) (d := d) hk
      rw [NO ok, ok]
      clear ok NO
      rcases (show k < 1 ∨ 20 < k by omega) with c | c
      all_goals
        clear hk
        go_enter Try.func26, Try.ntmps26
        go_wp2
        go_ret2
        exact ret_nil_b (by (repeat' (first | (with_reducible exact Below.refl _ _) | (with_reducible assumption) | (with_reducible refine below_drewN ?_ _) | (with_reducible refine Below.drew ?_) | (with_reducible refine Below.alloc ?_ ?_ _) | (with_reducible refine Below.setCell ?_ ?_ _) | (with_reducible refine below_gw ?_ ?_ _) | (with_reducible refine below_via ?_ ‹Below _ _ _› ?_) | (with_reducible exact Nat.le_refl _) | (with_reducible refine le_gw ?_ _) | (with_reducible refine le_alloc ?_ _) | (with_reducible refine le_setCell ?_ _ _) | (with_reducible refine le_drew ?_) | (with_reducible refine le_drewN ?_ _) | go_size)))
  · have ok := Tm.th_no1 (n := n) (k := k) hd
    rw [NO ok, ok]
    clear ok NO
    rcases (show d < 1 ∨ 1000000 < d by omega) with c | c
    all_goals
      clear hd
      go_enter Try.func26, Try.ntmps26
      go_wp2
      go_ret2
      exact ret_nil_b (by (repeat' (first | (with_reducible exact Below.refl _ _) | (with_reducible assumption) | (with_reducible refine below_drewN ?_ _) | (with_reducible refine Below.drew ?_) | (with_reducible refine Below.alloc ?_ ?_ _) | (with_reducible refine Below.setCell ?_ ?_ _) | (with_reducible refine below_gw ?_ ?_ _) | (with_reducible refine below_via ?_ ‹Below _ _ _› ?_) | (with_reducible exact Nat.le_refl _) | (with_reducible refine le_gw ?_ _) | (with_reducible refine le_alloc ?_ _) | (with_reducible refine le_setCell ?_ _ _) | (with_reducible refine le_drew ?_) | (with_reducible refine le_drewN ?_ _) | go_size)))
end Go.Proofs.Ytgfgndfklonhfaa

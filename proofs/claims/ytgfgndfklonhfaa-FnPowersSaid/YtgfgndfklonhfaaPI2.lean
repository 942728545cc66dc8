/- The program's quotients and roots. -/
import Derived.Test.YtgfgndfklonhfaaPS
import Derived.Test.YtgfgndfklonhfaaWI2
import Derived.Test.YtgfgndfklonhfaaOS
namespace Go.Proofs.Ytgfgndfklonhfaa
set_option maxRecDepth 20000
open Go.RowKit
namespace Tm
theorem near_div {n d r : Int} (hd : d ≠ 0) (h : absI d ∣ n - r) (h1 : -absI d < 2 * r) (h2 : 2 * r ≤ absI d) : (n - r).tdiv d = quo n d ∧ r = rem n d := by
  have hd' : d ∣ n - r := Int.dvd_trans ⟨sgn d, by rw [Int.mul_comm, sgn_abs]⟩ h
  have e := Int.tdiv_mul_cancel hd'
  exact quo_eq hd ⟨by omega, h1, h2⟩
theorem part_dvd (n m : Int) : m ∣ n - n.tmod m := ⟨n.tdiv m, by have := Int.mul_tdiv_add_tmod n m; omega⟩
theorem dvd_down {a m : Int} (h : m ∣ a) : m ∣ a + m := Int.dvd_add h (Int.dvd_refl _)
theorem dvd_up {a m : Int} (h : m ∣ a) : m ∣ a - m := Int.dvd_sub h (Int.dvd_refl _)
theorem tmod_abs_bd (n : Int) {d : Int} (hd : d ≠ 0) : -absI d < n.tmod (absI d) ∧ n.tmod (absI d) < absI d := by
  have a := absI_abs d
  have p := tdiv_part n (d := absI d) (by omega)
  have e : absI (absI d) = absI d := by have := absI_abs (absI d); omega
  rw [e] at p
  omega
end Tm
theorem iDivideNear (n d : Int) (w : World) (h1 : -4000000000000000 ≤ n) (h2 : n ≤ 4000000000000000) (d1 : -4000000000000000 ≤ d) (d2 : d ≤ 4000000000000000) (hd : d ≠ 0) : Calls Try.prog 43 #[.int .i64 n, .int .i64 d] w fun e w' => e = .returned (.tuple #[.int .i64 (Tm.quo n d), .int .i64 (Tm.rem n d)]) ∧ w = w' := by
  obtain ⟨t2, t3⟩ := Tm.tmod_abs_bd n hd
  have P0 := Tm.part_dvd n (Tm.absI d)
  have ad := Tm.absI_abs d
  have ND := Lib.hid (fun r => Tm.near_div (n := n) (r := r) hd)
  obtain ⟨m, hm⟩ : ∃ m, m = Tm.absI d := ⟨_, rfl⟩
  rw [← hm] at t2 t3 P0 ad ND
  clear hm
  have m0 : (m == 0) = false := by simp; omega
  have d0 : (d == 0) = false := by simpa using hd
  obtain ⟨r, hr⟩ : ∃ r, r = n.tmod m := ⟨_, rfl⟩
  rw [← hr] at t2 t3 P0
  have hr' : n.tmod m = r := hr.symm
  clear hr
  have QB : Hid (∀ q, -8000000000000000 ≤ q → q ≤ 8000000000000000 → -8000000000000000 ≤ q.tdiv d ∧ q.tdiv d ≤ 8000000000000000) := Lib.hid fun q a b => by
    have h : (q.tdiv d).natAbs ≤ q.natAbs := by rw [Int.natAbs_tdiv]; exact Nat.div_le_self _ _
    omega
  rcases Int.lt_or_le 0 d with c | c
  · obtain rfl : m = d := by omega
    by_cases c1 : m < 2 * r
    · have F := ND.out (r - m) (by have := Tm.dvd_down P0; rw [show n - (r - m) = n - r + m by omega]; exact this) (by omega) (by omega)
      have FF := Lib.hid F
      have qb := QB.out (n - (r - m)) (by omega) (by omega)
      obtain ⟨q, hq⟩ : ∃ q, q = Int.tdiv (n - (r - m)) m := ⟨_, rfl⟩
      rw [← hq] at qb FF
      have hq' : Int.tdiv (n - (r - m)) m = q := hq.symm
      obtain ⟨qb1, qb2⟩ := qb
      have mx : max m (-m) = m := by omega
      clear P0 F ad hq
      go_enter Try.func43, Try.ntmps43
      go_wp2
      all_goals
        go_ret2
        rw [← FF.out.1, ← FF.out.2]
        exact ⟨rfl, rfl⟩
    · by_cases c2 : 2 * r ≤ -m
      · have F := ND.out (r + m) (by have := Tm.dvd_up P0; rw [show n - (r + m) = n - r - m by omega]; exact this) (by omega) (by omega)
        have FF := Lib.hid F
        have qb := QB.out (n - (r + m)) (by omega) (by omega)
        obtain ⟨q, hq⟩ : ∃ q, q = Int.tdiv (n - (r + m)) m := ⟨_, rfl⟩
        rw [← hq] at qb FF
        have hq' : Int.tdiv (n - (r + m)) m = q := hq.symm
        obtain ⟨qb1, qb2⟩ := qb
        have mx : max m (-m) = m := by omega
        clear P0 F ad hq
        go_enter Try.func43, Try.ntmps43
        go_wp2
        all_goals
          go_ret2
          rw [← FF.out.1, ← FF.out.2]
          exact ⟨rfl, rfl⟩
      · have F := ND.out r P0 (by omega) (by omega)
        have FF := Lib.hid F
        have qb := QB.out (n - r) (by omega) (by omega)
        obtain ⟨q, hq⟩ : ∃ q, q = Int.tdiv (n - r) m := ⟨_, rfl⟩
        rw [← hq] at qb FF
        have hq' : Int.tdiv (n - r) m = q := hq.symm
        obtain ⟨qb1, qb2⟩ := qb
        have mx : max m (-m) = m := by omega
        clear P0 F ad hq
        go_enter Try.func43, Try.ntmps43
        go_wp2
        all_goals
          go_ret2
          rw [← FF.out.1, ← FF.out.2]
          exact ⟨rfl, rfl⟩
  · obtain rfl : m = -d := by omega
    by_cases c1 : -d < 2 * r
    · have F := ND.out (r + d) (by have := Tm.dvd_down P0; rw [show n - (r + d) = n - r + -d by omega]; exact this) (by omega) (by omega)
      have FF := Lib.hid F
      have qb := QB.out (n - (r + d)) (by omega) (by omega)
      obtain ⟨q, hq⟩ : ∃ q, q = Int.tdiv (n - (r + d)) d := ⟨_, rfl⟩
      rw [← hq] at qb FF
      have hq' : Int.tdiv (n - (r + d)) d = q := hq.symm
      obtain ⟨qb1, qb2⟩ := qb
      have mx : max d (-d) = -d := by omega
      clear P0 F ad hq
      go_enter Try.func43, Try.ntmps43
      go_wp2
      all_goals
        go_ret2
        rw [← FF.out.1, ← FF.out.2]
        exact ⟨rfl, rfl⟩
    · by_cases c2 : 2 * r ≤ - -d
      · have F := ND.out (r + -d) (by have := Tm.dvd_up P0; rw [show n - (r + -d) = n - r - -d by omega]; exact this) (by omega) (by omega)
        have FF := Lib.hid F
        have qb := QB.out (n - (r + -d)) (by omega) (by omega)
        obtain ⟨q, hq⟩ : ∃ q, q = Int.tdiv (n - (r + -d)) d := ⟨_, rfl⟩
        rw [← hq] at qb FF
        have hq' : Int.tdiv (n - (r + -d)) d = q := hq.symm
        obtain ⟨qb1, qb2⟩ := qb
        have mx : max d (-d) = -d := by omega
        clear P0 F ad hq
        go_enter Try.func43, Try.ntmps43
        go_wp2
        all_goals
          go_ret2
          rw [← FF.out.1, ← FF.out.2]
          exact ⟨rfl, rfl⟩
      · have F := ND.out r P0 (by omega) (by omega)
        have FF := Lib.hid F
        have qb := QB.out (n - r) (by omega) (by omega)
        obtain ⟨q, hq⟩ : ∃ q, q = Int.tdiv (n - r) d := ⟨_, rfl⟩
        rw [← hq] at qb FF
        have hq' : Int.tdiv (n - r) d = q := hq.symm
        obtain ⟨qb1, qb2⟩ := qb
        have mx : max d (-d) = -d := by omega
        clear P0 F ad hq
        go_enter Try.func43, Try.ntmps43
        go_wp2
        all_goals
          go_ret2
          rw [← FF.out.1, ← FF.out.2]
          exact ⟨rfl, rfl⟩
theorem iPower3 (k : Nat) (w : World) (h1 : 1 ≤ k) (h2 : k ≤ 30) : Calls Try.prog 48 #[.int .i64 k] w fun e w' => e = .returned (.int .i64 (Tm.pow3 k)) ∧ w = w' := by
  have L := Lib.hid (fun w => iLimitOf k w)
  rw [Tm.lim_nat h1 h2] at L
  have b1 := Tm.limN_le h2
  have b2 := Tm.limN_nonneg k
  rw [Tm.pow3_limN]
  obtain ⟨l, hl⟩ : ∃ l, l = Tm.limN k := ⟨_, rfl⟩
  rw [← hl] at L b1 b2 ⊢
  clear hl
  go_enter Try.func48, Try.ntmps48
  go_wp2_with fail
  refine (L.out _).mono ?_
  rintro e w' ⟨rfl, rfl⟩
  go_wp2
  go_ret
  exact ⟨ret_int (by omega), rfl⟩
namespace Tm
theorem divOk_no {xs ds : List Int} (h : value ds = 0) : divOk xs ds = false := by
  cases hd : isW ds with
  | false => simp [divOk, hd]
  | true => rw [value_eq hd] at h; simp [divOk, h]
theorem value_word {ds : List Int} (h : value ds ≠ 0) : isW ds = true := by
  cases hd : isW ds with
  | true => rfl
  | false => exact absurd (by rw [value, hd]; rfl) h
theorem word_take {n : Int} {k : Nat} (h1 : 1 ≤ k) (h2 : k ≤ 30) (h : -limN k ≤ n ∧ n ≤ limN k) : word n (k : Int) = wordL n k ∧ wordOk n (k : Int) = true := ⟨word_nat h1 h2 h, wordOk_nat h1 h2 h⟩
end Tm
theorem iDivideWords (a : Option Addr) (n cap : Nat) (xs : List Int) (b : Option Addr) (m cap2 : Nat) (ys : List Int) (w : World) (h : Ints w a n cap xs) (h2 : Ints w b m cap2 ys) : Calls Try.prog 22 #[.slice a n cap, .slice b m cap2] w (Ret2B 3 w (Tm.divQ xs ys) (Tm.divR xs ys) (Tm.divOk xs ys)) := by
  have H := Lib.hid h
  have H2 := Lib.hid h2
  obtain rfl : n = xs.length := h.1.symm
  obtain rfl : m = ys.length := h2.1.symm
  clear h h2
  by_cases hx : Tm.isW xs = true
  · have VX := Lib.hid (iValueOf a _ cap xs w H.out)
    have VY := Lib.hid (iValueOf b _ cap2 ys w H2.out)
    rw [Tm.value_eq hx] at VX
    by_cases h0 : Tm.value ys = 0
    · have ho := Tm.divOk_no (xs := xs) h0
      rw [Tm.divQ, Tm.divR, ho]
      rw [h0] at VY
      clear h0 ho
      go_enter Try.func22, Try.ntmps22
      go_wp2_with fail
      refine (iIsWord a _ cap xs _ H.out).mono ?_
      rintro e w' ⟨rfl, rfl⟩
      go_wp2_with fail
      refine VY.out.mono ?_
      rintro e w' ⟨rfl, rfl⟩
      go_wp2
      go_ret3
      exact ret_nil_2b (by (repeat' (first | (with_reducible exact Below.refl _ _) | (with_reducible assumption) | (with_reducible refine below_drewN ?_ _) | (with_reducible refine Below.drew ?_) | (with_reducible refine Below.alloc ?_ ?_ _) | (with_reducible refine Below.setCell ?_ ?_ _) | (with_reducible refine below_gw ?_ ?_ _) | (with_reducible refine below_via ?_ ‹Below _ _ _› ?_) | (with_reducible exact Nat.le_refl _) | (with_reducible refine le_gw ?_ _) | (with_reducible refine le_alloc ?_ _) | (with_reducible refine le_setCell ?_ _ _) | (with_reducible refine le_drew ?_) | (with_reducible refine le_drewN ?_ _) | go_size)))
    · have hy := Tm.value_word h0
      have b1 := Tm.val_bd_len hx 30 (Tm.isW_len hx)
      have b2 := Tm.val_bd_len hy 30 (Tm.isW_len hy)
      rw [Tm.limN_30] at b1 b2
      rw [Tm.value_eq hy] at VY h0
      have ho : Tm.divOk xs ys = true := (Tm.divOk_iff _ _).2 ⟨hx, hy, h0⟩
      have db := Tm.div_bd ho
      rw [Tm.divQ, Tm.divR, if_pos ho, if_pos ho, ho]
      have D := Lib.hid (fun w => iDivideNear (Tm.val xs) (Tm.val ys) w (by omega) (by omega) (by omega) (by omega) h0)
      have W1 := Tm.word_take (Tm.isW_pos hx) (Tm.isW_len hx) db.1
      have W2 := Tm.word_take (Tm.isW_pos hy) (Tm.isW_len hy) db.2
      have lx := Tm.limN_le (Tm.isW_len hx)
      have ly := Tm.limN_le (Tm.isW_len hy)
      obtain ⟨va, hva⟩ : ∃ v, v = Tm.val xs := ⟨_, rfl⟩
      obtain ⟨vb, hvb⟩ : ∃ v, v = Tm.val ys := ⟨_, rfl⟩
      rw [← hva] at VX D db b1 W1 W2 ⊢
      rw [← hvb] at VY D db b2 h0 W1 W2 ⊢
      obtain ⟨q, hq⟩ : ∃ v, v = Tm.quo va vb := ⟨_, rfl⟩
      obtain ⟨r, hr⟩ : ∃ v, v = Tm.rem va vb := ⟨_, rfl⟩
      rw [← hq] at D W1 ⊢
      rw [← hr] at D W2 ⊢
      have WQ := Lib.hid (fun w => iWordOf q (xs.length : Int) w)
      have WR := Lib.hid (fun w => iWordOf r (ys.length : Int) w)
      rw [W1.1, W1.2] at WQ
      rw [W2.1, W2.2] at WR
      have h0' : (vb == 0) = false := by simpa using h0
      obtain ⟨b11, b12⟩ := b1
      obtain ⟨b21, b22⟩ := b2
      clear hva hvb hq hr db lx ly W1 W2 ho hy
      go_enter Try.func22, Try.ntmps22
      go_wp2_with fail
      refine (iIsWord a _ cap xs _ H.out).mono ?_
      rintro e w' ⟨rfl, rfl⟩
      go_wp2_with fail
      refine VY.out.mono ?_
      rintro e w' ⟨rfl, rfl⟩
      go_wp2_with fail
      refine VX.out.mono ?_
      rintro e w' ⟨rfl, rfl⟩
      go_wp2_with fail
      refine VY.out.mono ?_
      rintro e w' ⟨rfl, rfl⟩
      go_wp2_with fail
      refine (D.out _).mono ?_
      rintro e w' ⟨rfl, rfl⟩
      go_wp2_with fail
      refine (WQ.out _).mono ?_
      rintro e w1 ⟨a1, c1, rfl, hown1, hb1, ln1⟩
      go_wp2_with fail
      refine (WR.out _).mono ?_
      rintro e w2 ⟨a2, c2, rfl, hown2, hb2, ln2⟩
      go_wp2
      go_ret3
      exact ret_own_2b (own_below hown1 hb2) (own_weak hown2 hb1.size) (Apart.of_lt (own_ge hown2) (own_lt hown1)).symm (hb1.trans (hb2.mono hb1.size)) ln1 ln2
  · simp only [Bool.not_eq_true] at hx
    have ho : Tm.divOk xs ys = false := by simp [Tm.divOk, hx]
    rw [Tm.divQ, Tm.divR, ho]
    clear ho
    go_enter Try.func22, Try.ntmps22
    go_wp2_with fail
    refine (iIsWord a _ cap xs _ H.out).mono ?_
    rintro e w' ⟨rfl, rfl⟩
    go_wp2
    go_ret3
    exact ret_nil_2b (by (repeat' (first | (with_reducible exact Below.refl _ _) | (with_reducible assumption) | (with_reducible refine below_drewN ?_ _) | (with_reducible refine Below.drew ?_) | (with_reducible refine Below.alloc ?_ ?_ _) | (with_reducible refine Below.setCell ?_ ?_ _) | (with_reducible refine below_gw ?_ ?_ _) | (with_reducible refine below_via ?_ ‹Below _ _ _› ?_) | (with_reducible exact Nat.le_refl _) | (with_reducible refine le_gw ?_ _) | (with_reducible refine le_alloc ?_ _) | (with_reducible refine le_setCell ?_ _ _) | (with_reducible refine le_drew ?_) | (with_reducible refine le_drewN ?_ _) | go_size)))
theorem iRootAsk (bx : Nat) (n : Int) (i : Nat) (w : World) (hx : w.cell? ⟨bx, 0, none⟩ = some (.int .i64 n)) (h0 : 0 ≤ n) (h1 : n ≤ 102945566047324) (hi : i ≤ 14348907) :
    Calls Try.prog 62 #[.int .i64 (i : Int), .pointer (some ⟨bx, 0, none⟩)] w fun e w' => e = .returned (.bool (decide (n - (i : Int) * i ≤ i))) ∧ ∃ q, w' = w.drewN q := by
  have sq : 0 ≤ (i : Int) * i ∧ (i : Int) * i ≤ 205891132094649 := by
    have a := Int.mul_nonneg (show (0 : Int) ≤ i by omega) (show (0 : Int) ≤ i by omega)
    have b := Tm.mul_bd (a := (i : Int)) (b := i) (A := 14348907) (B := 14348907) ⟨by omega, by omega⟩ ⟨by omega, by omega⟩
    omega
  obtain ⟨s1, s2⟩ := sq
  go_enter Try.func62, Try.ntmps62
  go_wp2
  all_goals go_ret
  all_goals exact ⟨by first | rfl | simp, 0, rfl⟩
theorem iRootSearch (bx : Nat) (n : Int) (w : World) (hx : w.cell? ⟨bx, 0, none⟩ = some (.int .i64 n)) (h0 : 0 ≤ n) (h1 : n ≤ 102945566047324) :
    Calls Try.prog 61 #[.int .i64 14348907, .func (.func 62) #[] #[.pointer (some ⟨bx, 0, none⟩)]] w fun e w' => e = .returned (.int .i64 (Tm.root n)) ∧ ∃ q, w' = w.drewN q := by
  have HF : Hid (∀ d (i : Nat), i ≤ 14348907 → Calls Try.prog 62 #[.int .i64 (i : Int), .pointer (some ⟨bx, 0, none⟩)] (w.drewN d) fun e w' => e = .returned (.bool (decide (n - (i : Int) * i ≤ i))) ∧ ∃ q, w' = (w.drewN d).drewN q) :=
    Lib.hid fun d i hi => iRootAsk bx n i (w.drewN d) hx h0 h1 hi
  clear hx
  go_enter Try.func61, Try.ntmps61
  go_wp2
  go_loopw [5, 6] (fun lv hv wr => ∃ lo hi d : Nat, lv = .int .i64 lo ∧ hv = .int .i64 hi ∧ lo ≤ hi ∧ hi ≤ 14348907 ∧ wr = w.drewN d ∧ Hid (lo = 0 ∨ (lo : Int) * lo - lo < n) ∧ Hid (n ≤ (hi : Int) * hi + hi)) (fun lv hv _ => (intOf hv - intOf lv).toNat)
  case atStart => exact ⟨0, 14348907, 0, rfl, rfl, by omega, by omega, rfl, Lib.hid (.inl rfl), Lib.hid (by omega)⟩
  case round =>
    obtain ⟨lo, hi, d, rfl, rfl, l1, l2, rfl, L, U⟩ := hrel
    by_cases c : lo < hi
    · obtain ⟨m, hm⟩ : ∃ m : Nat, m = (lo + hi) / 2 := ⟨_, rfl⟩
      have hm2 : ((lo : Int) + (hi : Int)) / 2 = (m : Int) := by omega
      have m1 : lo ≤ m := by omega
      have m2 : m < hi := by omega
      have HC := Lib.hid (HF.out d m (by omega))
      clear hm
      by_cases c2 : n - (m : Int) * m ≤ m
      · rw [decide_eq_true c2] at HC
        have C2 := Lib.hid c2
        clear c2
        go_wp2_with fail
        refine HC.out.mono ?_
        rintro e w' ⟨rfl, q, rfl⟩
        go_wp2
        exact ⟨⟨lo, m, d + q, rfl, rfl, by omega, by omega, by first | rfl | rw [World.drewN_drewN], L, Lib.hid (by have := C2.out; omega)⟩, by simp [intOf]; omega⟩
      · rw [decide_eq_false c2] at HC
        have C2 := Lib.hid c2
        clear c2
        go_wp2_with fail
        refine HC.out.mono ?_
        rintro e w' ⟨rfl, q, rfl⟩
        go_wp2
        exact ⟨⟨m + 1, hi, d + q, by go_num, rfl, by omega, by omega, by first | rfl | rw [World.drewN_drewN], Lib.hid (.inr (by have := C2.out; grind)), U⟩, by simp [intOf]; omega⟩
    · obtain rfl : lo = hi := by omega
      go_wp2
      go_ret
      refine ⟨ret_int (Tm.root_eq ⟨by omega, ?_⟩).symm, d, rfl⟩
      have a := L.out
      have b := U.out
      by_cases c0 : n = 0
      · rcases a with rfl | a
        · exact .inl ⟨c0, rfl⟩
        · have := Int.mul_nonneg (show (0 : Int) ≤ lo - 1 by omega) (show (0 : Int) ≤ lo by omega)
          exact .inl ⟨c0, by grind⟩
      · rcases a with rfl | a
        · omega
        · exact .inr ⟨by omega, a, b⟩
theorem iNearRoot (n : Int) (w : World) (h0 : 0 ≤ n) (h1 : n ≤ 102945566047324) : Calls Try.prog 44 #[.int .i64 n] w fun e w' => e = .returned (.int .i64 (Tm.root n)) ∧ Below w.heap.size w w' := by
  have PW := Lib.hid (fun w => iPower3 15 w (by omega) (by omega))
  rw [show Tm.pow3 15 = 14348907 from by decide] at PW
  have S := Lib.hid (fun w' h => iRootSearch w.heap.size n w' h h0 h1)
  go_enter Try.func44, Try.ntmps44
  go_wp2_with fail
  refine (PW.out _).mono ?_
  rintro e w' ⟨rfl, rfl⟩
  go_wp2_with fail
  refine (S.out _ (by first | simp | (go_simp; done))).mono ?_
  rintro e w' ⟨rfl, q, rfl⟩
  go_wp2
  go_ret
  exact ⟨rfl, by (repeat' (first | (with_reducible exact Below.refl _ _) | (with_reducible assumption) | (with_reducible refine below_drewN ?_ _) | (with_reducible refine Below.drew ?_) | (with_reducible refine Below.alloc ?_ ?_ _) | (with_reducible refine Below.setCell ?_ ?_ _) | (with_reducible refine below_gw ?_ ?_ _) | (with_reducible refine below_via ?_ ‹Below _ _ _› ?_) | (with_reducible exact Nat.le_refl _) | (with_reducible refine le_gw ?_ _) | (with_reducible refine le_alloc ?_ _) | (with_reducible refine le_setCell ?_ _ _) | (with_reducible refine le_drew ?_) | (with_reducible refine le_drewN ?_ _) | go_size))⟩
theorem iRootWord (a : Option Addr) (n cap : Nat) (xs : List Int) (w : World) (h : Ints w a n cap xs) : Calls Try.prog 23 #[.slice a n cap] w (Ret2B 3 w (Tm.rootW xs) (Tm.rootT xs) (Tm.rootOk xs)) := by
  have H := Lib.hid h
  obtain rfl : n = xs.length := h.1.symm
  clear h
  have SW := Lib.hid (iSignWord a _ cap xs w H.out)
  by_cases hx : Tm.isW xs = true
  · have l1 := Tm.isW_len hx
    have l0 := Tm.isW_pos hx
    have vb := Tm.val_bd_len hx xs.length (Nat.le_refl _)
    have k1 := Tm.limN_le l1
    rw [Tm.value_eq hx] at SW
    by_cases h0 : 0 ≤ Tm.val xs
    · have ho : Tm.rootOk xs = true := by simp [Tm.rootOk, hx, h0]
      have sp := Tm.root_spec h0
      have rb := Tm.root_bd sp
      rw [Tm.rootW, Tm.rootT, if_pos ho, if_pos ho, ho]
      have VX := Lib.hid (iValueOf a _ cap xs w H.out)
      rw [Tm.value_eq hx] at VX
      obtain ⟨v, hv⟩ : ∃ v, v = Tm.val xs := ⟨_, rfl⟩
      rw [← hv] at VX vb h0 sp rb SW ⊢
      have sg : ¬ (Tm.sgn v < 0) := by unfold Tm.sgn; split <;> (try split) <;> omega
      obtain ⟨g, hg⟩ : ∃ g, g = Tm.sgn v := ⟨_, rfl⟩
      rw [← hg] at SW sg
      clear hv ho hg
      have R := Lib.hid (fun w => iNearRoot v w h0 (by omega))
      obtain ⟨r, hr⟩ : ∃ r, r = Tm.root v := ⟨_, rfl⟩
      rw [← hr] at R rb ⊢
      obtain ⟨r0, r1, r2, r3, r4, r5⟩ := rb
      have W1 := Tm.word_take (n := r) l0 l1 (by omega)
      have W2 := Tm.word_take (n := v - r * r) l0 l1 (by omega)
      have WQ := Lib.hid (fun w => iWordOf r (xs.length : Int) w)
      have WR := Lib.hid (fun w => iWordOf (v - r * r) (xs.length : Int) w)
      rw [W1.1, W1.2] at WQ
      rw [W2.1, W2.2] at WR
      have s1 : 0 ≤ r * r := Int.mul_nonneg r0 r0
      have s2 : r * r ≤ 205891132094648 := by omega
      have v2 : v ≤ 102945566047324 := by omega
      clear hr sp r2 r3 r4 r5 vb k1 W1 W2
      go_enter Try.func23, Try.ntmps23
      go_wp2_with fail
      refine (iIsWord a _ cap xs _ H.out).mono ?_
      rintro e w' ⟨rfl, rfl⟩
      go_wp2_with fail
      refine SW.out.mono ?_
      rintro e w' ⟨rfl, rfl⟩
      go_wp2_with fail
      refine VX.out.mono ?_
      rintro e w' ⟨rfl, rfl⟩
      go_wp2_with fail
      refine (R.out _).mono ?_
      rintro e w0 ⟨rfl, hb0⟩
      have B0 := Lib.hid hb0
      clear hb0
      go_wp2_with fail
      refine (WQ.out _).mono ?_
      rintro e w1 ⟨a1, c1, rfl, hown1, hb1, ln1⟩
      go_wp2_with fail
      refine (WR.out _).mono ?_
      rintro e w2 ⟨a2, c2, rfl, hown2, hb2, ln2⟩
      go_wp2
      go_ret3
      have hs0 := B0.out.size
      have hs1 := hb1.size
      exact ret_own_2b (own_below (own_weak hown1 hs0) hb2) (own_weak hown2 (by omega)) (Apart.of_lt (own_ge hown2) (own_lt hown1)).symm (B0.out.trans ((hb1.trans (hb2.mono hb1.size)).mono hs0)) ln1 ln2
    · have ho : Tm.rootOk xs = false := by simp [Tm.rootOk, hx]; omega
      rw [Tm.rootW, Tm.rootT, ho]
      obtain ⟨v, hv⟩ : ∃ v, v = Tm.val xs := ⟨_, rfl⟩
      rw [← hv] at SW h0
      have sg : Tm.sgn v < 0 := by unfold Tm.sgn; split <;> (try split) <;> omega
      obtain ⟨g, hg⟩ : ∃ g, g = Tm.sgn v := ⟨_, rfl⟩
      rw [← hg] at SW sg
      clear hv ho vb k1 hg
      go_enter Try.func23, Try.ntmps23
      go_wp2_with fail
      refine (iIsWord a _ cap xs _ H.out).mono ?_
      rintro e w' ⟨rfl, rfl⟩
      go_wp2_with fail
      refine SW.out.mono ?_
      rintro e w' ⟨rfl, rfl⟩
      go_wp2
      go_ret3
      exact ret_nil_2b (by (repeat' (first | (with_reducible exact Below.refl _ _) | (with_reducible assumption) | (with_reducible refine below_drewN ?_ _) | (with_reducible refine Below.drew ?_) | (with_reducible refine Below.alloc ?_ ?_ _) | (with_reducible refine Below.setCell ?_ ?_ _) | (with_reducible refine below_gw ?_ ?_ _) | (with_reducible refine below_via ?_ ‹Below _ _ _› ?_) | (with_reducible exact Nat.le_refl _) | (with_reducible refine le_gw ?_ _) | (with_reducible refine le_alloc ?_ _) | (with_reducible refine le_setCell ?_ _ _) | (with_reducible refine le_drew ?_) | (with_reducible refine le_drewN ?_ _) | go_size)))
  · simp only [Bool.not_eq_true] at hx
    have ho : Tm.rootOk xs = false := by simp [Tm.rootOk, hx]
    rw [Tm.rootW, Tm.rootT, ho]
    clear ho
    go_enter Try.func23, Try.ntmps23
    go_wp2_with fail
    refine (iIsWord a _ cap xs _ H.out).mono ?_
    rintro e w' ⟨rfl, rfl⟩
    go_wp2
    go_ret3
    exact ret_nil_2b (by (repeat' (first | (with_reducible exact Below.refl _ _) | (with_reducible assumption) | (with_reducible refine below_drewN ?_ _) | (with_reducible refine Below.drew ?_) | (with_reducible refine Below.alloc ?_ ?_ _) | (with_reducible refine Below.setCell ?_ ?_ _) | (with_reducible refine below_gw ?_ ?_ _) | (with_reducible refine below_via ?_ ‹Below _ _ _› ?_) | (with_reducible exact Nat.le_refl _) | (with_reducible refine le_gw ?_ _) | (with_reducible refine le_alloc ?_ _) | (with_reducible refine le_setCell ?_ _ _) | (with_reducible refine le_drew ?_) | (with_reducible refine le_drewN ?_ _) | go_size)))
end Go.Proofs.Ytgfgndfklonhfaa

/- The model's divisors, powers, fractions. -/
import Derived.Test.YtbdgkipakjmidaaPS
namespace Go.Proofs.Ytbdgkipakjmidaa
open Go.RowKit
theorem sGcdWords (a : Option Addr) (n cap : Nat) (xs : List Int) (b : Option Addr) (m cap2 : Nat) (ys : List Int) (w : World) (h : Ints w a n cap xs) (h2 : Ints w b m cap2 ys) : Calls Try.prog 47 #[.slice a n cap, .slice b m cap2] w (RetIB 3 w (Tm.gcdW xs ys) (Tm.gcdOk xs ys)) := by
  have H := Lib.hid h
  have H2 := Lib.hid h2
  obtain rfl : n = xs.length := h.1.symm
  obtain rfl : m = ys.length := h2.1.symm
  clear h h2
  by_cases hx : Tm.isW xs = true
  · have VX := Lib.hid (sValue2 a _ cap xs w H.out hx)
    by_cases hy : Tm.isW ys = true
    · have VY := Lib.hid (sValue2 b _ cap2 ys w H2.out hy)
      have ho : Tm.gcdOk xs ys = true := by simp [Tm.gcdOk, hx, hy]
      have l1 := Tm.isW_len hx
      have l2 := Tm.isW_len hy
      have b1 := Tm.val_bd_len hx 30 l1
      have b2 := Tm.val_bd_len hy 30 l2
      rw [Tm.limN_30] at b1 b2
      rw [Tm.gcdW, if_pos ho, ho]
      obtain ⟨va, hva⟩ : ∃ v, v = Tm.val xs := ⟨_, rfl⟩
      obtain ⟨vb, hvb⟩ : ∃ v, v = Tm.val ys := ⟨_, rfl⟩
      rw [← hva] at VX b1 ⊢
      rw [← hvb] at VY b2 ⊢
      rw [← Tm.gcd_abs]
      have a1 := Tm.absI_abs va
      have a2 := Tm.absI_abs vb
      have A1 := Lib.hid (sAbs4 va w (by omega) (by omega))
      have A2 := Lib.hid (sAbs4 vb w (by omega) (by omega))
      obtain ⟨x0, hx0⟩ : ∃ v, v = Tm.absI va := ⟨_, rfl⟩
      obtain ⟨y0, hy0⟩ : ∃ v, v = Tm.absI vb := ⟨_, rfl⟩
      rw [← hx0] at a1 A1 ⊢
      rw [← hy0] at a2 A2 ⊢
      have x1 : 0 ≤ x0 ∧ x0 ≤ 102945566047324 := by omega
      have y1 : 0 ≤ y0 ∧ y0 ≤ 102945566047324 := by omega
      obtain ⟨g, hg⟩ : ∃ g, g = Tm.gcdV x0 y0 := ⟨_, rfl⟩
      rw [← hg]
      have G := Lib.hid hg.symm
      clear hg hx0 hy0 a1 a2 hva hvb b1 b2 ho
      go_enter Try.func47, Try.ntmps47
      go_wp2_with fail
      refine (sIsWord a _ cap xs _ H.out).mono ?_
      rintro e w' ⟨rfl, rfl⟩
      go_wp2_with fail
      refine (sIsWord b _ cap2 ys _ H2.out).mono ?_
      rintro e w' ⟨rfl, rfl⟩
      go_wp2_with fail
      refine VX.out.mono ?_
      rintro e w' ⟨rfl, rfl⟩
      go_wp2_with fail
      refine A1.out.mono ?_
      rintro e w' ⟨rfl, rfl⟩
      go_wp2_with fail
      refine VY.out.mono ?_
      rintro e w' ⟨rfl, rfl⟩
      go_wp2_with fail
      refine A2.out.mono ?_
      rintro e w' ⟨rfl, rfl⟩
      go_wp2_with fail
      clear VX VY A1 A2
      go_loop [6, 7] (fun xv yv => ∃ x y : Int, xv = .int .i64 x ∧ yv = .int .i64 y ∧ (0 ≤ x ∧ x ≤ 102945566047324) ∧ (0 ≤ y ∧ y ≤ 102945566047324) ∧ Hid (Tm.gcdV x y = g)) (fun _ yv => (intOf yv).toNat)
      case atStart => exact ⟨x0, y0, rfl, rfl, x1, y1, G⟩
      case round =>
        clear G x1 y1
        obtain ⟨x, y, rfl, rfl, x1, y1, G⟩ := hrel
        obtain ⟨x1, x2⟩ := x1
        obtain ⟨y1, y2⟩ := y1
        by_cases c : 0 < y
        · have c2 : (y != 0) = true := by simp; omega
          have c3 : (y == 0) = false := by simp; omega
          have r1 := Int.tmod_nonneg y x1
          have r2 := Int.tmod_lt_of_pos x c
          have GS := Lib.hid (Tm.gcd_step x1 c)
          obtain ⟨r, hr⟩ : ∃ r, r = x.tmod y := ⟨_, rfl⟩
          have hr2 : x.tmod y = r := hr.symm
          rw [← hr] at r1 r2 GS
          clear hr
          go_wp2
          exact ⟨⟨y, r, rfl, rfl, ⟨y1, y2⟩, ⟨r1, by omega⟩, Lib.hid (by rw [GS.out, G.out])⟩, by simp [intOf]; omega⟩
        · obtain rfl : y = 0 := by omega
          have gx : g = x := by rw [← G.out, Tm.gcd_end x1]
          clear G
          subst gx
          rcases Nat.lt_or_ge xs.length ys.length with hl | hl
          · have WQ := fun w => sWordL g (ys.length : Int) w (by omega) (by omega) (by omega)
            rw [Int.toNat_natCast] at WQ
            have WQ := Lib.hid WQ
            have hl' : (xs.length : Int) < (ys.length : Int) := by omega
            go_wp2_with fail
            all_goals
              refine (WQ.out _).mono ?_
              rintro e w1 ⟨a1, c1, rfl, hown1, hb1, ln1⟩
              go_wp2
              go_ret2
              rw [Nat.max_eq_right (Nat.le_of_lt hl)]
              exact ret_own_b hown1 hb1 ln1
          · have WQ := fun w => sWordL g (xs.length : Int) w (by omega) (by omega) (by omega)
            rw [Int.toNat_natCast] at WQ
            have WQ := Lib.hid WQ
            have hl' : ¬ ((xs.length : Int) < (ys.length : Int)) := by omega
            go_wp2_with fail
            all_goals
              refine (WQ.out _).mono ?_
              rintro e w1 ⟨a1, c1, rfl, hown1, hb1, ln1⟩
              go_wp2
              go_ret2
              rw [Nat.max_eq_left hl]
              exact ret_own_b hown1 hb1 ln1
    · simp only [Bool.not_eq_true] at hy
      have ho : Tm.gcdOk xs ys = false := by simp [Tm.gcdOk, hy]
      rw [Tm.gcdW, ho]
      clear ho
      go_enter Try.func47, Try.ntmps47
      go_wp2_with fail
      refine (sIsWord a _ cap xs _ H.out).mono ?_
      rintro e w' ⟨rfl, rfl⟩
      go_wp2_with fail
      refine (sIsWord b _ cap2 ys _ H2.out).mono ?_
      rintro e w' ⟨rfl, rfl⟩
      go_wp2
      go_ret2
      exact ret_nil_b (by (repeat' (first | (with_reducible exact Below.refl _ _) | (with_reducible assumption) | (with_reducible refine below_drewN ?_ _) | (with_reducible refine Below.drew ?_) | (with_reducible refine Below.alloc ?_ ?_ _) | (with_reducible refine Below.setCell ?_ ?_ _) | (with_reducible refine below_gw ?_ ?_ _) | (with_reducible refine below_via ?_ ‹Below _ _ _› ?_) | (with_reducible exact Nat.le_refl _) | (with_reducible refine le_gw ?_ _) | (with_reducible refine le_alloc ?_ _) | (with_reducible refine le_setCell ?_ _ _) | (with_reducible refine le_drew ?_) | (with_reducible refine le_drewN ?_ _) | go_size)))
  · simp only [Bool.not_eq_true] at hx
    have ho : Tm.gcdOk xs ys = false := by simp [Tm.gcdOk, hx]
    rw [Tm.gcdW, ho]
    clear ho
    go_enter Try.func47, Try.ntmps47
    go_wp2_with fail
    refine (sIsWord a _ cap xs _ H.out).mono ?_
    rintro e w' ⟨rfl, rfl⟩
    go_wp2
    go_ret2
    exact ret_nil_b (by (repeat' (first | (with_reducible exact Below.refl _ _) | (with_reducible assumption) | (with_reducible refine below_drewN ?_ _) | (with_reducible refine Below.drew ?_) | (with_reducible refine Below.alloc ?_ ?_ _) | (with_reducible refine Below.setCell ?_ ?_ _) | (with_reducible refine below_gw ?_ ?_ _) | (with_reducible refine below_via ?_ ‹Below _ _ _› ?_) | (with_reducible exact Nat.le_refl _) | (with_reducible refine le_gw ?_ _) | (with_reducible refine le_alloc ?_ _) | (with_reducible refine le_setCell ?_ _ _) | (with_reducible refine le_drew ?_) | (with_reducible refine le_drewN ?_ _) | go_size)))
namespace Tm
theorem pow_word {xs : List Int} {n : Int} (hx : isW xs = true) (h0 : 0 ≤ n) : powW xs n = word (val xs ^ n.toNat) 30 ∧ powOk xs n = wordOk (val xs ^ n.toNat) 30 := by
  have e : powOk xs n = wordOk (val xs ^ n.toNat) 30 := by
    rw [Bool.eq_iff_iff, powOk_iff, wordOk, decide_eq_true_eq, show lim 30 = 102945566047324 from by decide]
    constructor
    · rintro ⟨-, -, a, b⟩; exact ⟨by omega, by omega, by omega, b⟩
    · rintro ⟨-, -, a, b⟩; exact ⟨hx, h0, by omega, b⟩
  refine ⟨?_, e⟩
  rw [powW, word, e]
  rfl
theorem one_pow (n : Nat) : (1 : Int) ^ n = 1 := Int.one_pow
theorem zero_pow {n : Nat} (h : 0 < n) : (0 : Int) ^ n = 0 := by
  obtain ⟨m, rfl⟩ : ∃ m, n = m + 1 := ⟨n - 1, by omega⟩
  rw [Int.pow_succ, Int.mul_zero]
theorem neg_pow (n : Nat) : (-1 : Int) ^ n = 1 - 2 * ((n : Int).tmod 2) := by
  induction n with
  | zero => rfl
  | succ n ih =>
    rw [Int.pow_succ, ih, Int.tmod_eq_emod_of_nonneg (by omega), Int.tmod_eq_emod_of_nonneg (by omega)]; omega
theorem pow_up {x : Int} (h : 2 ≤ absI x) (k m : Nat) : absI (x ^ k) ≤ absI (x ^ (k + m)) := by
  induction m with
  | zero => exact Int.le_refl _
  | succ m ih =>
    rw [← Nat.add_assoc, Int.pow_succ, abs_mul]
    have a := absI_abs (x ^ (k + m))
    have := Int.mul_le_mul_of_nonneg_left (show 1 ≤ absI x by omega) a.2
    omega
theorem pow_least {x : Int} (h : 2 ≤ absI x) (i : Nat) : (i : Int) + 1 ≤ absI (x ^ i) := by
  induction i with
  | zero => rw [Int.pow_zero]; decide
  | succ i ih =>
    rw [Int.pow_succ, abs_mul]
    have := Int.mul_le_mul_of_nonneg_left h (absI_abs (x ^ i)).2
    omega
end Tm
theorem sPowerWord (a : Option Addr) (n cap : Nat) (xs : List Int) (k : Int) (w : World) (h : Ints w a n cap xs) : Calls Try.prog 46 #[.slice a n cap, .int .i64 k] w (RetIB 3 w (Tm.powW xs k) (Tm.powOk xs k)) := by
  have H := Lib.hid h
  obtain rfl : n = xs.length := h.1.symm
  clear h
  by_cases hx : Tm.isW xs = true
  · have VX := Lib.hid (sValue2 a _ cap xs w H.out hx)
    by_cases h0 : 0 ≤ k
    · have pw := Tm.pow_word hx h0
      rw [pw.1, pw.2]
      have l1 := Tm.isW_len hx
      have b1 := Tm.val_bd_len hx 30 l1
      rw [Tm.limN_30] at b1
      obtain ⟨x, hv⟩ : ∃ v, v = Tm.val xs := ⟨_, rfl⟩
      rw [← hv] at VX b1 ⊢
      clear hv pw
      have A := Lib.hid (fun w => sAbs4 x w (by omega) (by omega))
      have ax := Tm.absI_abs x
      obtain ⟨x1, x2⟩ := b1
      by_cases c2 : Tm.absI x < 2
      · obtain ⟨y, hy⟩ : ∃ y, y = Tm.absI x := ⟨_, rfl⟩
        rw [← hy] at A c2
        have hx3 : x = -1 ∨ x = 0 ∨ x = 1 := by omega
        clear ax hy x1 x2
        obtain ⟨j, rfl⟩ := Int.eq_ofNat_of_zero_le h0
        rw [Int.toNat_natCast]
        obtain ⟨z, hz⟩ : ∃ z, z = x ^ j := ⟨_, rfl⟩
        rw [← hz]
        have WO := Lib.hid (fun w => sWordOf z 30 w)
        rcases hx3 with rfl | rfl | rfl
        · by_cases hj : j = 0
          · subst hj
            have z1 : z = 1 := by rw [hz, Int.pow_zero]
            subst z1
            clear hz h0
            go_enter Try.func46, Try.ntmps46
            go_wp2_with fail
            refine (sIsWord a _ cap xs _ H.out).mono ?_
            rintro e w' ⟨rfl, rfl⟩
            go_wp2_with fail
            refine VX.out.mono ?_
            rintro e w' ⟨rfl, rfl⟩
            go_wp2_with fail
            refine (A.out _).mono ?_
            rintro e w' ⟨rfl, rfl⟩
            go_wp2_with fail
            refine (WO.out _).mono ?_
            rintro e w1 ⟨a1, c1, rfl, hown1, hb1, ln1⟩
            go_wp2
            go_ret2
            exact ⟨a1, c1, rfl, hown1, hb1, ln1⟩
          · have z1 : 1 - 2 * ((j : Int).tmod 2) = z := by rw [hz, Tm.neg_pow]
            have z2 : 1 - 2 * ((j : Int) % 2) = z := by rw [hz, Tm.neg_pow, Int.tmod_eq_emod_of_nonneg h0]
            have hj2 : ((j : Int) == 0) = false := by simpa using hj
            have t1 := Int.tmod_nonneg 2 h0
            have t2 := Int.tmod_lt_of_pos (j : Int) (show (0 : Int) < 2 by omega)
            clear hz
            go_enter Try.func46, Try.ntmps46
            go_wp2_with fail
            refine (sIsWord a _ cap xs _ H.out).mono ?_
            rintro e w' ⟨rfl, rfl⟩
            go_wp2_with fail
            refine VX.out.mono ?_
            rintro e w' ⟨rfl, rfl⟩
            go_wp2_with fail
            refine (A.out _).mono ?_
            rintro e w' ⟨rfl, rfl⟩
            go_wp2_with fail
            refine (WO.out _).mono ?_
            rintro e w1 ⟨a1, c1, rfl, hown1, hb1, ln1⟩
            go_wp2
            go_ret2
            exact ⟨a1, c1, rfl, hown1, hb1, ln1⟩
        · by_cases hj : j = 0
          · subst hj
            have z1 : z = 1 := by rw [hz, Int.pow_zero]
            subst z1
            clear hz h0
            go_enter Try.func46, Try.ntmps46
            go_wp2_with fail
            refine (sIsWord a _ cap xs _ H.out).mono ?_
            rintro e w' ⟨rfl, rfl⟩
            go_wp2_with fail
            refine VX.out.mono ?_
            rintro e w' ⟨rfl, rfl⟩
            go_wp2_with fail
            refine (A.out _).mono ?_
            rintro e w' ⟨rfl, rfl⟩
            go_wp2_with fail
            refine (WO.out _).mono ?_
            rintro e w1 ⟨a1, c1, rfl, hown1, hb1, ln1⟩
            go_wp2
            go_ret2
            exact ⟨a1, c1, rfl, hown1, hb1, ln1⟩
          · have z1 : z = 0 := by rw [hz, Tm.zero_pow (by omega)]
            subst z1
            have hj2 : ((j : Int) == 0) = false := by simpa using hj
            clear hz
            go_enter Try.func46, Try.ntmps46
            go_wp2_with fail
            refine (sIsWord a _ cap xs _ H.out).mono ?_
            rintro e w' ⟨rfl, rfl⟩
            go_wp2_with fail
            refine VX.out.mono ?_
            rintro e w' ⟨rfl, rfl⟩
            go_wp2_with fail
            refine (A.out _).mono ?_
            rintro e w' ⟨rfl, rfl⟩
            go_wp2_with fail
            refine (WO.out _).mono ?_
            rintro e w1 ⟨a1, c1, rfl, hown1, hb1, ln1⟩
            go_wp2
            go_ret2
            exact ⟨a1, c1, rfl, hown1, hb1, ln1⟩
        · have z1 : z = 1 := by rw [hz, Tm.one_pow]
          subst z1
          clear hz
          by_cases hj : j = 0
          · subst hj
            go_enter Try.func46, Try.ntmps46
            go_wp2_with fail
            refine (sIsWord a _ cap xs _ H.out).mono ?_
            rintro e w' ⟨rfl, rfl⟩
            go_wp2_with fail
            refine VX.out.mono ?_
            rintro e w' ⟨rfl, rfl⟩
            go_wp2_with fail
            refine (A.out _).mono ?_
            rintro e w' ⟨rfl, rfl⟩
            go_wp2_with fail
            refine (WO.out _).mono ?_
            rintro e w1 ⟨a1, c1, rfl, hown1, hb1, ln1⟩
            go_wp2
            go_ret2
            exact ⟨a1, c1, rfl, hown1, hb1, ln1⟩
          · have hj2 : ((j : Int) == 0) = false := by simpa using hj
            go_enter Try.func46, Try.ntmps46
            go_wp2_with fail
            refine (sIsWord a _ cap xs _ H.out).mono ?_
            rintro e w' ⟨rfl, rfl⟩
            go_wp2_with fail
            refine VX.out.mono ?_
            rintro e w' ⟨rfl, rfl⟩
            go_wp2_with fail
            refine (A.out _).mono ?_
            rintro e w' ⟨rfl, rfl⟩
            go_wp2_with fail
            refine (WO.out _).mono ?_
            rintro e w1 ⟨a1, c1, rfl, hown1, hb1, ln1⟩
            go_wp2
            go_ret2
            exact ⟨a1, c1, rfl, hown1, hb1, ln1⟩
      · have LE := Lib.hid (fun i => Tm.pow_least (x := x) (by omega) i)
        have UP := Lib.hid (fun k m => Tm.pow_up (x := x) (by omega) k m)
        have MU := Lib.hid (fun o => Tm.abs_mul o x)
        have AO : Hid (∀ o : Int, -102945566047324 ≤ o → o ≤ 102945566047324 → ∀ w, Calls Try.prog 76 #[.int .i64 o] w fun e w' => e = .returned (.int .i64 (Tm.absI o)) ∧ w = w') := Lib.hid fun o h1 h2 w => sAbs4 o w (by omega) (by omega)
        have LM := Lib.hid (fun w => sLimitOf 30 w)
        rw [show Tm.lim 30 = 102945566047324 from by decide] at LM
        obtain ⟨y, hy⟩ : ∃ y, y = Tm.absI x := ⟨_, rfl⟩
        rw [← hy] at A c2 MU ax
        have y1 : 2 ≤ y := by omega
        have y2 : y ≤ 102945566047324 := by omega
        have y3 : (y == 0) = false := by simp; omega
        have y4 : ¬ y < 2 := by omega
        obtain ⟨j, rfl⟩ := Int.eq_ofNat_of_zero_le h0
        rw [Int.toNat_natCast]
        obtain ⟨q, hq⟩ : ∃ q, q = (102945566047324 : Int).tdiv y := ⟨_, rfl⟩
        have hq2 : (102945566047324 : Int).tdiv y = q := hq.symm
        rw [Int.tdiv_eq_ediv_of_nonneg (by omega)] at hq
        have QD : Hid (∀ o : Int, q < o ↔ 102945566047324 < o * y) := Lib.hid fun o => by rw [hq]; exact Int.ediv_lt_iff_lt_mul (by omega)
        have q1 : 0 ≤ q := by rw [hq]; exact Int.ediv_nonneg (by omega) (by omega)
        have q2 : q ≤ 102945566047324 := by rw [hq]; exact Int.ediv_le_self _ (by omega)
        clear hq c2 ax hy
        go_enter Try.func46, Try.ntmps46
        go_wp2_with fail
        refine (sIsWord a _ cap xs _ H.out).mono ?_
        rintro e w' ⟨rfl, rfl⟩
        go_wp2_with fail
        refine VX.out.mono ?_
        rintro e w' ⟨rfl, rfl⟩
        go_wp2_with fail
        refine (A.out _).mono ?_
        rintro e w' ⟨rfl, rfl⟩
        go_wp2_with fail
        go_loop [7, 8] (fun ov iv => ∃ (o : Int) (i : Nat), ov = .int .i64 o ∧ iv = .int .i64 i ∧ i ≤ j ∧ Hid (o = x ^ i) ∧ -102945566047324 ≤ o ∧ o ≤ 102945566047324) (fun _ iv => j - (intOf iv).toNat)
        case atStart => exact ⟨1, 0, rfl, rfl, by omega, Lib.hid (Int.pow_zero x).symm, by omega, by omega⟩
        case round =>
          obtain ⟨o, i, rfl, rfl, hi, O, o1, o2⟩ := hrel
          by_cases hlt : i < j
          · have ao := Tm.absI_abs o
            have il := LE.out i
            rw [← O.out] at il
            have i44 : (i : Int) ≤ 102945566047324 := by omega
            clear il
            have AO1 := Lib.hid (AO.out o o1 o2)
            have MU1 := Lib.hid (MU.out o)
            have mx := Tm.absI_abs (o * x)
            have ab := QD.out (Tm.absI o)
            obtain ⟨u, hu⟩ : ∃ u, u = Tm.absI o := ⟨_, rfl⟩
            rw [← hu] at ao AO1 MU1 ab
            have UU := Lib.hid hu
            clear hu
            obtain ⟨p, hp⟩ : ∃ p, p = u * y := ⟨_, rfl⟩
            rw [← hp] at MU1 ab
            rw [MU1.out] at mx
            clear hp
            have hlt' : (i : Int) < (j : Int) := by omega
            by_cases c : q < u
            · have big : Tm.wordOk (x ^ j) 30 = false := by
                have e1 : Tm.absI (x ^ (i + 1)) = p := by rw [Int.pow_succ, ← O.out, MU1.out]
                have e2 := UP.out (i + 1) (j - (i + 1))
                rw [show i + 1 + (j - (i + 1)) = j by omega, e1] at e2
                have e3 := Tm.absI_abs (x ^ j)
                have e4 := ab.1 c
                rw [Tm.wordOk, decide_eq_false_iff_not, show Tm.lim 30 = 102945566047324 from by decide]
                omega
              have BIG := Lib.hid big
              clear big ab mx ao
              go_wp2_with fail
              refine (AO1.out _).mono ?_
              rintro e w' ⟨rfl, rfl⟩
              go_wp2_with fail
              refine (LM.out _).mono ?_
              rintro e w' ⟨rfl, rfl⟩
              go_wp2_with fail
              refine (A.out _).mono ?_
              rintro e w' ⟨rfl, rfl⟩
              go_wp2
              go_ret2
              rw [Tm.word, BIG.out]
              exact ret_nil_b (by (repeat' (first | (with_reducible exact Below.refl _ _) | (with_reducible assumption) | (with_reducible refine below_drewN ?_ _) | (with_reducible refine Below.drew ?_) | (with_reducible refine Below.alloc ?_ ?_ _) | (with_reducible refine Below.setCell ?_ ?_ _) | (with_reducible refine below_gw ?_ ?_ _) | (with_reducible refine below_via ?_ ‹Below _ _ _› ?_) | (with_reducible exact Nat.le_refl _) | (with_reducible refine le_gw ?_ _) | (with_reducible refine le_alloc ?_ _) | (with_reducible refine le_setCell ?_ _ _) | (with_reducible refine le_drew ?_) | (with_reducible refine le_drewN ?_ _) | go_size)))
            · have e4 : ¬ 102945566047324 < p := fun h => c (ab.2 h)
              have e5 : -102945566047324 ≤ o * x := by omega
              have e6 : o * x ≤ 102945566047324 := by omega
              clear ab mx ao
              go_wp2_with fail
              refine (AO1.out _).mono ?_
              rintro e w' ⟨rfl, rfl⟩
              go_wp2_with fail
              refine (LM.out _).mono ?_
              rintro e w' ⟨rfl, rfl⟩
              go_wp2_with fail
              refine (A.out _).mono ?_
              rintro e w' ⟨rfl, rfl⟩
              go_wp2
              exact ⟨⟨o * x, i + 1, rfl, by go_num, by omega, Lib.hid (by rw [Int.pow_succ, O.out]), e5, e6⟩, by simp [intOf]; omega⟩
          · obtain rfl : i = j := by omega
            go_wp2_with fail
            refine (sWordOf _ _ _).mono ?_
            rintro e w1 ⟨a1, c1, rfl, hown1, hb1, ln1⟩
            go_wp2
            go_ret2
            rw [← O.out]
            exact ⟨a1, c1, rfl, hown1, hb1, ln1⟩
    · have ho : Tm.powOk xs k = false := by simp [Tm.powOk, h0]
      rw [Tm.powW, ho]
      have h0' : k < 0 := by omega
      clear ho h0
      go_enter Try.func46, Try.ntmps46
      go_wp2_with fail
      refine (sIsWord a _ cap xs _ H.out).mono ?_
      rintro e w' ⟨rfl, rfl⟩
      go_wp2
      go_ret2
      exact ret_nil_b (by (repeat' (first | (with_reducible exact Below.refl _ _) | (with_reducible assumption) | (with_reducible refine below_drewN ?_ _) | (with_reducible refine Below.drew ?_) | (with_reducible refine Below.alloc ?_ ?_ _) | (with_reducible refine Below.setCell ?_ ?_ _) | (with_reducible refine below_gw ?_ ?_ _) | (with_reducible refine below_via ?_ ‹Below _ _ _› ?_) | (with_reducible exact Nat.le_refl _) | (with_reducible refine le_gw ?_ _) | (with_reducible refine le_alloc ?_ _) | (with_reducible refine le_setCell ?_ _ _) | (with_reducible refine le_drew ?_) | (with_reducible refine le_drewN ?_ _) | go_size)))
  · simp only [Bool.not_eq_true] at hx
    have ho : Tm.powOk xs k = false := by simp [Tm.powOk, hx]
    rw [Tm.powW, ho]
    clear ho
    go_enter Try.func46, Try.ntmps46
    go_wp2_with fail
    refine (sIsWord a _ cap xs _ H.out).mono ?_
    rintro e w' ⟨rfl, rfl⟩
    go_wp2
    go_ret2
    exact ret_nil_b (by (repeat' (first | (with_reducible exact Below.refl _ _) | (with_reducible assumption) | (with_reducible refine below_drewN ?_ _) | (with_reducible refine Below.drew ?_) | (with_reducible refine Below.alloc ?_ ?_ _) | (with_reducible refine Below.setCell ?_ ?_ _) | (with_reducible refine below_gw ?_ ?_ _) | (with_reducible refine below_via ?_ ‹Below _ _ _› ?_) | (with_reducible exact Nat.le_refl _) | (with_reducible refine le_gw ?_ _) | (with_reducible refine le_alloc ?_ _) | (with_reducible refine le_setCell ?_ _ _) | (with_reducible refine le_drew ?_) | (with_reducible refine le_drewN ?_ _) | go_size)))
end Go.Proofs.Ytbdgkipakjmidaa

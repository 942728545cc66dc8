/- Walks of laws: FnPowers. -/
import Derived.Test.YtgfgndfklonhfaaPI
import Derived.Test.YtgfgndfklonhfaaPMath
import Derived.Test.YtgfgndfklonhfaaOwn2
import Derived.Test.YtgfgndfklonhfaaWI4
import Derived.Test.YtgfgndfklonhfaaWI3
import Derived.Test.YtgfgndfklonhfaaWI2
import Derived.Test.YtgfgndfklonhfaaLaw2
import Derived.Test.YtgfgndfklonhfaaLaw
import Derived.Test.YtgfgndfklonhfaaLAm
namespace Go.Proofs.Ytgfgndfklonhfaa
set_option maxRecDepth 20000
open Go.RowKit
namespace Tm
theorem pow_le {x : Int} (h : -13 ≤ x ∧ x ≤ 13) (i : Nat) : absI (x ^ i) ≤ 13 ^ i := by
  have a := absI_abs x
  induction i with
  | zero => rw [Int.pow_zero]; decide
  | succ i ih =>
    rw [Int.pow_succ, abs_mul, Int.pow_succ]
    have b := absI_abs (x ^ i)
    have c := Int.mul_le_mul ih (show absI x ≤ 13 by omega) a.2 (by omega)
    exact c
theorem p13_up {i m : Nat} (h : i ≤ m) : (13 : Int) ^ i ≤ 13 ^ m := by
  induction m with
  | zero => obtain rfl : i = 0 := by omega
            exact Int.le_refl _
  | succ m ih =>
    by_cases e : i = m + 1
    · subst e; exact Int.le_refl _
    · have := ih (by omega)
      have h1 : (0 : Int) < 13 ^ m := Int.pow_pos (by omega)
      rw [Int.pow_succ]; omega
theorem pow_small {x : Int} (h : -13 ≤ x ∧ x ≤ 13) (i : Nat) (hi : i ≤ 8) : -815730721 ≤ x ^ i ∧ x ^ i ≤ 815730721 := by
  have a := pow_le h i
  have b := p13_up hi
  rw [show (13 : Int) ^ 8 = 815730721 from by decide] at b
  exact abs_in (by omega)
theorem pow_small4 {x : Int} (h : -13 ≤ x ∧ x ≤ 13) (i : Nat) (hi : i ≤ 4) : -28561 ≤ x ^ i ∧ x ^ i ≤ 28561 := by
  have a := pow_le h i
  have b := p13_up hi
  rw [show (13 : Int) ^ 4 = 28561 from by decide] at b
  exact abs_in (by omega)
theorem gcd_none {u v : Int} (h : gcdV u v = 0) : u = 0 ∧ v = 0 := by
  have := Int.gcd_eq_zero_iff.1 (show Int.gcd u v = 0 by unfold gcdV at h; omega)
  exact this
theorem gcd_dvd (u v : Int) : u % gcdV u v = 0 ∧ v % gcdV u v = 0 :=
  ⟨Int.emod_eq_zero_of_dvd (Int.gcd_dvd_left ..), Int.emod_eq_zero_of_dvd (Int.gcd_dvd_right ..)⟩
end Tm
set_option maxRecDepth 20000 in
set_option maxHeartbeats 4000000 in
theorem wFnPowers (a0 : Option Addr) (len0 cap0 : Nat) (z0 : List Int) (w : World) (w0 : IsRow .u8 w a0 len0 cap0 z0) : Calls Try.prog 6 #[.slice a0 len0 cap0] w fun e w' => e = .returned (.bool true) ∧ Below w.heap.size w w' := by
  have BY := Lib.hid (Byts.of_row w0)
  have m0 : len0 ≤ 9223372036854775807 := by obtain ⟨h1, h2, _⟩ := BY.out; unfold maxLen at h2; omega
  clear w0
  have B := Lib.hid (Below.refl w.heap.size w)
  by_cases g0 : len0 ≤ 1048576
  · skip
    go_enter Try.func6, Try.ntmps6
    go_wp2_with fail
    refine (makeWord_any a0 len0 cap0 3 _ BY.out (by omega) (by omega) (by omega)).mono ?_
    rintro e w0 ⟨ws, b0, c0, rfl, hw, hp, ho, hb⟩
    have hsz := hb.size
    replace BY := Lib.hid (BY.out.below hb)
    replace B := Lib.hid (B.out.trans (hb.mono B.out.size))
    clear hb hsz
    have I_ws := Lib.hid (Ints.of_own ho)
    clear ho
    have W_ws := Lib.hid hw
    have ws_1 := Tm.isW_pos hw
    have ws_2 : ws.length ≤ 3 := by omega
    clear hw hp
    go_wp2_with fail
    refine (at_any a0 len0 cap0 1 _ BY.out (by omega) (by omega) (by omega)).mono ?_
    rintro e w' ⟨x1, rfl, x1_0, x1_1, rfl⟩
    obtain ⟨n, hn⟩ : ∃ j : Nat, x1.tmod 5 = (j : Int) := ⟨_, (Int.toNat_of_nonneg (Int.tmod_nonneg _ x1_0)).symm⟩
    have n_lt : n < 5 := by have := Int.tmod_lt_of_pos x1 (show (0 : Int) < 5 by omega); omega
    go_wp2_with fail
    refine (at_any a0 len0 cap0 2 _ BY.out (by omega) (by omega) (by omega)).mono ?_
    rintro e w' ⟨x2, rfl, x2_0, x2_1, rfl⟩
    obtain ⟨m, hm⟩ : ∃ j : Nat, x2.tmod 5 = (j : Int) := ⟨_, (Int.toNat_of_nonneg (Int.tmod_nonneg _ x2_0)).symm⟩
    have m_lt : m < 5 := by have := Int.tmod_lt_of_pos x2 (show (0 : Int) < 5 by omega); omega
    have VB : Hid (-13 ≤ Tm.val ws ∧ Tm.val ws ≤ 13) := Lib.hid (Tm.val_bd_len W_ws.out 3 (by omega))
    have PO : Hid (∀ i : Nat, i ≤ 8 → Tm.powOk ws i = true) := Lib.hid fun i hi => (Tm.powOk_iff _ _).2 ⟨W_ws.out, by omega, by have := Tm.pow_small VB.out i hi; rw [Int.toNat_natCast]; omega⟩
    go_wp2_with fail
    have hok := PO.out n (by omega)
    refine (retIB_ex (iPowerWord b0 ws.length c0 ws (n : Int) _ I_ws.out) hok).mono ?_
    clear hok
    rintro e w1 ⟨a, b1, c1, hv, rfl, ho, hb, ln1⟩
    have H_a : Hid (a = Tm.powW ws n) := Lib.hid hv
    have hsz := hb.size
    replace I_ws := Lib.hid (I_ws.out.below hb)
    replace BY := Lib.hid (BY.out.below hb)
    replace B := Lib.hid (B.out.trans (hb.mono B.out.size))
    clear hb hsz
    have I_a := Lib.hid (Ints.of_own ho)
    clear ho hv
    go_wp2_with fail
    have hok := PO.out m (by omega)
    refine (retIB_ex (iPowerWord b0 ws.length c0 ws (m : Int) _ I_ws.out) hok).mono ?_
    clear hok
    rintro e w2 ⟨b, b2, c2, hv, rfl, ho, hb, ln2⟩
    have H_b : Hid (b = Tm.powW ws m) := Lib.hid hv
    have hsz := hb.size
    replace I_ws := Lib.hid (I_ws.out.below hb)
    replace I_a := Lib.hid (I_a.out.below hb)
    replace BY := Lib.hid (BY.out.below hb)
    replace B := Lib.hid (B.out.trans (hb.mono B.out.size))
    clear hb hsz
    have I_b := Lib.hid (Ints.of_own ho)
    clear ho hv
    go_wp2_with fail
    rw [show (n : Int) + (m : Int) = ((n + m : Nat) : Int) from by omega]
    have hok := PO.out (n + m) (by omega)
    refine (retIB_ex (iPowerWord b0 ws.length c0 ws ((n + m : Nat) : Int) _ I_ws.out) hok).mono ?_
    clear hok
    rintro e w3 ⟨c, b3, c3, hv, rfl, ho, hb, ln3⟩
    have H_c : Hid (c = Tm.powW ws (n + m : Nat)) := Lib.hid hv
    have hsz := hb.size
    replace I_ws := Lib.hid (I_ws.out.below hb)
    replace I_a := Lib.hid (I_a.out.below hb)
    replace I_b := Lib.hid (I_b.out.below hb)
    replace BY := Lib.hid (BY.out.below hb)
    replace B := Lib.hid (B.out.trans (hb.mono B.out.size))
    clear hb hsz
    have I_c := Lib.hid (Ints.of_own ho)
    clear ho hv
    have F_a := Lib.hid (Tm.pow_facts (PO.out n (by omega)))
    rw [Int.toNat_natCast, ← H_a.out] at F_a
    have a_2 : a.length ≤ 30 := by rw [F_a.out.2.2]; omega
    have F_b := Lib.hid (Tm.pow_facts (PO.out m (by omega)))
    rw [Int.toNat_natCast, ← H_b.out] at F_b
    have b_2 : b.length ≤ 30 := by rw [F_b.out.2.2]; omega
    have F_c := Lib.hid (Tm.pow_facts (PO.out (n + m) (by omega)))
    rw [Int.toNat_natCast, ← H_c.out] at F_c
    have c_2 : c.length ≤ 30 := by rw [F_c.out.2.2]; omega
    have l1 : ((c.length : Int) != 30) = false := by rw [F_c.out.2.2]; rfl
    go_wp2_with fail
    refine (iValueOf b1 a.length c1 a _ I_a.out).mono ?_
    rintro e w' ⟨h0, rfl⟩
    obtain ⟨va, hv⟩ : ∃ r_, r_ = Tm.value a := ⟨_, rfl⟩
    rw [← hv] at h0
    subst h0
    have H_va : Hid (va = Tm.value a) := Lib.hid hv
    have bd : -28561 ≤ va ∧ va ≤ 28561 := by rw [hv, Tm.value_eq F_a.out.1, F_a.out.2.1]; exact Tm.pow_small4 VB.out n (by omega)
    obtain ⟨va_0, va_1⟩ := bd
    clear hv
    go_wp2_with fail
    refine (iValueOf b2 b.length c2 b _ I_b.out).mono ?_
    rintro e w' ⟨h0, rfl⟩
    obtain ⟨vb, hv⟩ : ∃ r_, r_ = Tm.value b := ⟨_, rfl⟩
    rw [← hv] at h0
    subst h0
    have H_vb : Hid (vb = Tm.value b) := Lib.hid hv
    have bd : -28561 ≤ vb ∧ vb ≤ 28561 := by rw [hv, Tm.value_eq F_b.out.1, F_b.out.2.1]; exact Tm.pow_small4 VB.out m (by omega)
    obtain ⟨vb_0, vb_1⟩ := bd
    clear hv
    have mb := Tm.mul_bd (A := 28561) (B := 28561) ⟨va_0, va_1⟩ ⟨vb_0, vb_1⟩
    obtain ⟨mb1, mb2⟩ := mb
    go_wp2_with fail
    refine (iValueOf b3 c.length c3 c _ I_c.out).mono ?_
    rintro e w' ⟨h0, rfl⟩
    obtain ⟨vc, hv⟩ : ∃ r_, r_ = Tm.value c := ⟨_, rfl⟩
    rw [← hv] at h0
    subst h0
    have H_vc : Hid (vc = Tm.value c) := Lib.hid hv
    clear hv
    have e1 : vc = va * vb := by rw [H_vc.out, H_va.out, H_vb.out, Tm.value_eq F_c.out.1, Tm.value_eq F_a.out.1, Tm.value_eq F_b.out.1, F_a.out.2.1, F_b.out.2.1, F_c.out.2.1, Int.pow_add]
    clear H_vc
    subst e1
    have e2 : (va * vb != va * vb) = false := by simp
    go_wp2_with fail
    refine (fresh_any a0 len0 cap0 3 _ BY.out (by omega) (by omega) (by omega)).mono ?_
    rintro e w4 ⟨a9, len9, cap9, rfl, m9, by9, hb⟩
    have BZ := Lib.hid by9
    clear by9
    have hsz := hb.size
    replace I_ws := Lib.hid (I_ws.out.below hb)
    replace I_a := Lib.hid (I_a.out.below hb)
    replace I_b := Lib.hid (I_b.out.below hb)
    replace I_c := Lib.hid (I_c.out.below hb)
    replace BY := Lib.hid (BY.out.below hb)
    replace B := Lib.hid (B.out.trans (hb.mono B.out.size))
    clear hb hsz
    go_wp2_with fail
    refine (makeWord_any a9 len9 cap9 12 _ BZ.out (by omega) (by omega) (by omega)).mono ?_
    rintro e w5 ⟨xs, b5, c5, rfl, hw, hp, ho, hb⟩
    clear BZ
    have hsz := hb.size
    replace I_ws := Lib.hid (I_ws.out.below hb)
    replace I_a := Lib.hid (I_a.out.below hb)
    replace I_b := Lib.hid (I_b.out.below hb)
    replace I_c := Lib.hid (I_c.out.below hb)
    replace BY := Lib.hid (BY.out.below hb)
    replace B := Lib.hid (B.out.trans (hb.mono B.out.size))
    clear hb hsz
    have I_xs := Lib.hid (Ints.of_own ho)
    clear ho
    have W_xs := Lib.hid hw
    have xs_1 := Tm.isW_pos hw
    have xs_2 : xs.length ≤ 12 := by omega
    clear hw hp
    go_wp2_with fail
    refine (fresh_any a0 len0 cap0 5 _ BY.out (by omega) (by omega) (by omega)).mono ?_
    rintro e w6 ⟨a9, len9, cap9, rfl, m9, by9, hb⟩
    have BZ := Lib.hid by9
    clear by9
    have hsz := hb.size
    replace I_ws := Lib.hid (I_ws.out.below hb)
    replace I_a := Lib.hid (I_a.out.below hb)
    replace I_b := Lib.hid (I_b.out.below hb)
    replace I_c := Lib.hid (I_c.out.below hb)
    replace I_xs := Lib.hid (I_xs.out.below hb)
    replace BY := Lib.hid (BY.out.below hb)
    replace B := Lib.hid (B.out.trans (hb.mono B.out.size))
    clear hb hsz
    go_wp2_with fail
    refine (makeWord_any a9 len9 cap9 12 _ BZ.out (by omega) (by omega) (by omega)).mono ?_
    rintro e w7 ⟨ys, b7, c7, rfl, hw, hp, ho, hb⟩
    clear BZ
    have hsz := hb.size
    replace I_ws := Lib.hid (I_ws.out.below hb)
    replace I_a := Lib.hid (I_a.out.below hb)
    replace I_b := Lib.hid (I_b.out.below hb)
    replace I_c := Lib.hid (I_c.out.below hb)
    replace I_xs := Lib.hid (I_xs.out.below hb)
    replace BY := Lib.hid (BY.out.below hb)
    replace B := Lib.hid (B.out.trans (hb.mono B.out.size))
    clear hb hsz
    have I_ys := Lib.hid (Ints.of_own ho)
    clear ho
    have W_ys := Lib.hid hw
    have ys_1 := Tm.isW_pos hw
    have ys_2 : ys.length ≤ 12 := by omega
    clear hw hp
    clear e2 mb1 mb2 l1
    clear I_a
    clear I_b
    clear I_c
    have GO1 : Hid (Tm.gcdOk xs ys = true) := Lib.hid ((Tm.gcdOk_iff _ _).2 ⟨W_xs.out, W_ys.out⟩)
    have GO2 : Hid (Tm.gcdOk ys xs = true) := Lib.hid ((Tm.gcdOk_iff _ _).2 ⟨W_ys.out, W_xs.out⟩)
    go_wp2_with fail
    have hok := GO1.out
    refine (retIB_ex (iGcdWords b5 xs.length c5 xs b7 ys.length c7 ys _ I_xs.out I_ys.out) hok).mono ?_
    clear hok
    rintro e w8 ⟨g, b8, c8, hv, rfl, ho, hb, ln8⟩
    have H_g : Hid (g = Tm.gcdW xs ys) := Lib.hid hv
    have hsz := hb.size
    replace I_ws := Lib.hid (I_ws.out.below hb)
    replace I_xs := Lib.hid (I_xs.out.below hb)
    replace I_ys := Lib.hid (I_ys.out.below hb)
    replace BY := Lib.hid (BY.out.below hb)
    replace B := Lib.hid (B.out.trans (hb.mono B.out.size))
    clear hb hsz
    have I_g := Lib.hid (Ints.of_own ho)
    clear ho hv
    go_wp2_with fail
    have hok := GO2.out
    refine (retIB_ex (iGcdWords b7 ys.length c7 ys b5 xs.length c5 xs _ I_ys.out I_xs.out) hok).mono ?_
    clear hok
    rintro e w9 ⟨h, b9, c9, hv, rfl, ho, hb, ln9⟩
    have H_h : Hid (h = Tm.gcdW ys xs) := Lib.hid hv
    have hsz := hb.size
    replace I_ws := Lib.hid (I_ws.out.below hb)
    replace I_xs := Lib.hid (I_xs.out.below hb)
    replace I_ys := Lib.hid (I_ys.out.below hb)
    replace I_g := Lib.hid (I_g.out.below hb)
    replace BY := Lib.hid (BY.out.below hb)
    replace B := Lib.hid (B.out.trans (hb.mono B.out.size))
    clear hb hsz
    have I_h := Lib.hid (Ints.of_own ho)
    clear ho hv
    have GH : Hid (g = h) := Lib.hid (by rw [H_g.out, H_h.out, Tm.gcdW, Tm.gcdW, GO1.out, GO2.out, Tm.gcd_swap, Nat.max_comm])
    have GF := Lib.hid (Tm.gcd_facts GO1.out)
    rw [← H_g.out] at GF
    have g_2 : g.length ≤ 12 := by rw [GF.out.2.2]; omega
    go_wp2_with fail
    refine (iValueOf b8 g.length c8 g _ I_g.out).mono ?_
    rintro e w' ⟨h0, rfl⟩
    obtain ⟨d, hv⟩ : ∃ r_, r_ = Tm.value g := ⟨_, rfl⟩
    rw [← hv] at h0
    subst h0
    have H_d : Hid (d = Tm.value g) := Lib.hid hv
    have bd : 0 ≤ d ∧ d ≤ 265720 := by rw [hv, Tm.value_eq GF.out.1]; exact ⟨by rw [GF.out.2.1]; exact Tm.gcd_nonneg _ _, (Tm.val_bd_len GF.out.1 12 (by omega)).2⟩
    obtain ⟨d_0, d_1⟩ := bd
    clear hv
    go_wp2_with fail
    refine (ints_any b8 b9 g.length h.length c8 c9 g h _ I_g.out I_h.out).mono ?_
    rintro e w10 ⟨h0, hb⟩
    rw [decide_eq_true (show g = h from GH.out)] at h0
    subst h0
    have hsz := hb.size
    replace I_ws := Lib.hid (I_ws.out.below hb)
    replace I_xs := Lib.hid (I_xs.out.below hb)
    replace I_ys := Lib.hid (I_ys.out.below hb)
    replace I_g := Lib.hid (I_g.out.below hb)
    replace I_h := Lib.hid (I_h.out.below hb)
    replace BY := Lib.hid (BY.out.below hb)
    replace B := Lib.hid (B.out.trans (hb.mono B.out.size))
    clear hb hsz
    have DV : Hid (d = Tm.gcdV (Tm.val xs) (Tm.val ys)) := Lib.hid (by rw [H_d.out, Tm.value_eq GF.out.1, GF.out.2.1])
    by_cases hl : xs.length < ys.length
    · skip
      have gl : ((g.length : Int) != (ys.length : Int)) = false := by rw [GF.out.2.2, Nat.max_eq_right (Nat.le_of_lt hl)]; simp
      have gl2 : (g.length : Int) = (ys.length : Int) := by rw [GF.out.2.2, Nat.max_eq_right (Nat.le_of_lt hl)]
      have hl2 : (xs.length : Int) < (ys.length : Int) := by omega
      have mx : max (xs.length : Int) (ys.length : Int) = (ys.length : Int) := by omega
      go_wp2_with fail
      refine (iValueOf b5 xs.length c5 xs _ I_xs.out).mono ?_
      rintro e w' ⟨h0, rfl⟩
      obtain ⟨u, hv⟩ : ∃ r_, r_ = Tm.value xs := ⟨_, rfl⟩
      rw [← hv] at h0
      subst h0
      have H_u : Hid (u = Tm.value xs) := Lib.hid hv
      have bd : -265720 ≤ u ∧ u ≤ 265720 := by rw [hv, Tm.value_eq W_xs.out]; exact Tm.val_bd_len W_xs.out 12 (by omega)
      obtain ⟨u_0, u_1⟩ := bd
      clear hv
      go_wp2_with fail
      refine (iValueOf b7 ys.length c7 ys _ I_ys.out).mono ?_
      rintro e w' ⟨h0, rfl⟩
      obtain ⟨v, hv⟩ : ∃ r_, r_ = Tm.value ys := ⟨_, rfl⟩
      rw [← hv] at h0
      subst h0
      have H_v : Hid (v = Tm.value ys) := Lib.hid hv
      have bd : -265720 ≤ v ∧ v ≤ 265720 := by rw [hv, Tm.value_eq W_ys.out]; exact Tm.val_bd_len W_ys.out 12 (by omega)
      obtain ⟨v_0, v_1⟩ := bd
      clear hv
      have DE : Hid (d = Tm.gcdV u v) := Lib.hid (by rw [DV.out, H_u.out, H_v.out, Tm.value_eq W_xs.out, Tm.value_eq W_ys.out])
      by_cases h0 : d = 0
      · skip
        have z := Tm.gcd_none (u := u) (v := v) (by rw [← DE.out]; exact h0)
        clear DE DV H_d H_u H_v
        obtain ⟨z1, z2⟩ := z
        subst z1 z2 h0
        go_wp2
        go_ret
        exact ⟨rfl, B.out⟩
      · skip
        have h1 : (d == 0) = false := by simpa using h0
        have h2 : 0 < d := by omega
        clear h0
        have MX : Hid (Tm.mulOk xs ws = true) := Lib.hid ((Tm.mulOk_iff _ _).2 ⟨W_xs.out, W_ws.out, by omega⟩)
        have MY : Hid (Tm.mulOk ys ws = true) := Lib.hid ((Tm.mulOk_iff _ _).2 ⟨W_ys.out, W_ws.out, by omega⟩)
        go_wp2_with fail
        have hok := MX.out
        refine (retIB_ex (iMultiplyWords b5 xs.length c5 xs b0 ws.length c0 ws _ I_xs.out I_ws.out) hok).mono ?_
        clear hok
        rintro e w11 ⟨p, b11, c11, hv, rfl, ho, hb, ln11⟩
        have H_p : Hid (p = Tm.mulW xs ws) := Lib.hid hv
        have hsz := hb.size
        replace I_ws := Lib.hid (I_ws.out.below hb)
        replace I_xs := Lib.hid (I_xs.out.below hb)
        replace I_ys := Lib.hid (I_ys.out.below hb)
        replace I_g := Lib.hid (I_g.out.below hb)
        replace I_h := Lib.hid (I_h.out.below hb)
        replace BY := Lib.hid (BY.out.below hb)
        replace B := Lib.hid (B.out.trans (hb.mono B.out.size))
        clear hb hsz
        have I_p := Lib.hid (Ints.of_own ho)
        clear ho hv
        go_wp2_with fail
        have hok := MY.out
        refine (retIB_ex (iMultiplyWords b7 ys.length c7 ys b0 ws.length c0 ws _ I_ys.out I_ws.out) hok).mono ?_
        clear hok
        rintro e w12 ⟨q, b12, c12, hv, rfl, ho, hb, ln12⟩
        have H_q : Hid (q = Tm.mulW ys ws) := Lib.hid hv
        have hsz := hb.size
        replace I_ws := Lib.hid (I_ws.out.below hb)
        replace I_xs := Lib.hid (I_xs.out.below hb)
        replace I_ys := Lib.hid (I_ys.out.below hb)
        replace I_g := Lib.hid (I_g.out.below hb)
        replace I_h := Lib.hid (I_h.out.below hb)
        replace I_p := Lib.hid (I_p.out.below hb)
        replace BY := Lib.hid (BY.out.below hb)
        replace B := Lib.hid (B.out.trans (hb.mono B.out.size))
        clear hb hsz
        have I_q := Lib.hid (Ints.of_own ho)
        clear ho hv
        have FP := Lib.hid (Tm.mul_facts MX.out)
        rw [← H_p.out] at FP
        have FQ := Lib.hid (Tm.mul_facts MY.out)
        rw [← H_q.out] at FQ
        have p_2 : p.length ≤ 15 := by have := FP.out.2.2; omega
        have q_2 : q.length ≤ 15 := by have := FQ.out.2.2; omega
        have GO3 : Hid (Tm.gcdOk p q = true) := Lib.hid ((Tm.gcdOk_iff _ _).2 ⟨FP.out.1, FQ.out.1⟩)
        go_wp2_with fail
        have hok := GO3.out
        refine (retIB_ex (iGcdWords b11 p.length c11 p b12 q.length c12 q _ I_p.out I_q.out) hok).mono ?_
        clear hok
        rintro e w13 ⟨f, b13, c13, hv, rfl, ho, hb, ln13⟩
        have H_f : Hid (f = Tm.gcdW p q) := Lib.hid hv
        have hsz := hb.size
        replace I_ws := Lib.hid (I_ws.out.below hb)
        replace I_xs := Lib.hid (I_xs.out.below hb)
        replace I_ys := Lib.hid (I_ys.out.below hb)
        replace I_g := Lib.hid (I_g.out.below hb)
        replace I_h := Lib.hid (I_h.out.below hb)
        replace I_p := Lib.hid (I_p.out.below hb)
        replace I_q := Lib.hid (I_q.out.below hb)
        replace BY := Lib.hid (BY.out.below hb)
        replace B := Lib.hid (B.out.trans (hb.mono B.out.size))
        clear hb hsz
        have I_f := Lib.hid (Ints.of_own ho)
        clear ho hv
        have GF3 := Lib.hid (Tm.gcd_facts GO3.out)
        rw [← H_f.out] at GF3
        have f_2 : f.length ≤ 15 := by rw [GF3.out.2.2]; omega
        have dv := Tm.gcd_div u v
        have dw := Tm.gcd_dvd u v
        rw [← DE.out] at dv dw
        obtain ⟨dv1, dv2⟩ := dv
        obtain ⟨dw1, dw2⟩ := dw
        go_wp2_with fail
        refine (iValueOf b13 f.length c13 f _ I_f.out).mono ?_
        rintro e w' ⟨h0, rfl⟩
        obtain ⟨vf, hv⟩ : ∃ r_, r_ = Tm.value f := ⟨_, rfl⟩
        rw [← hv] at h0
        subst h0
        have H_vf : Hid (vf = Tm.value f) := Lib.hid hv
        clear hv
        go_wp2_with fail
        refine (iValueOf b0 ws.length c0 ws _ I_ws.out).mono ?_
        rintro e w' ⟨h0, rfl⟩
        obtain ⟨vw, hv⟩ : ∃ r_, r_ = Tm.value ws := ⟨_, rfl⟩
        rw [← hv] at h0
        subst h0
        have H_vw : Hid (vw = Tm.value ws) := Lib.hid hv
        have bd : -13 ≤ vw ∧ vw ≤ 13 := by rw [hv, Tm.value_eq W_ws.out]; exact VB.out
        obtain ⟨vw_0, vw_1⟩ := bd
        clear hv
        go_wp2_with fail
        refine (abs_any vw _ (by omega) (by omega)).mono ?_
        rintro e w' ⟨h0, rfl⟩
        obtain ⟨z, hv⟩ : ∃ r_, r_ = Tm.absI vw := ⟨_, rfl⟩
        rw [← hv] at h0
        subst h0
        have H_z : Hid (z = Tm.absI vw) := Lib.hid hv
        have bd : 0 ≤ z ∧ z ≤ 13 := by rw [hv]; have := Tm.absI_abs vw; omega
        obtain ⟨z_0, z_1⟩ := bd
        clear hv
        have e3 : vf = d * z := by rw [H_vf.out, H_z.out, DV.out, H_vw.out, Tm.value_eq GF3.out.1, Tm.value_eq W_ws.out, GF3.out.2.1, FP.out.2.1, FQ.out.2.1, Tm.gcd_mul]
        have mb := Tm.mul_bd (A := 265720) (B := 13) (a := d) (b := z) ⟨by omega, d_1⟩ ⟨by omega, z_1⟩
        obtain ⟨mb1, mb2⟩ := mb
        clear H_vf
        subst e3
        have e4 : (d * z == d * z) = true := by simp
        go_wp2
        go_ret
        exact ⟨rfl, B.out⟩
    · skip
      have gl : ((g.length : Int) != (xs.length : Int)) = false := by rw [GF.out.2.2, Nat.max_eq_left (Nat.le_of_not_lt hl)]; simp
      have gl2 : (g.length : Int) = (xs.length : Int) := by rw [GF.out.2.2, Nat.max_eq_left (Nat.le_of_not_lt hl)]
      have hl2 : ¬ ((xs.length : Int) < (ys.length : Int)) := by omega
      have mx : max (xs.length : Int) (ys.length : Int) = (xs.length : Int) := by omega
      go_wp2_with fail
      refine (iValueOf b5 xs.length c5 xs _ I_xs.out).mono ?_
      rintro e w' ⟨h0, rfl⟩
      obtain ⟨u, hv⟩ : ∃ r_, r_ = Tm.value xs := ⟨_, rfl⟩
      rw [← hv] at h0
      subst h0
      have H_u : Hid (u = Tm.value xs) := Lib.hid hv
      have bd : -265720 ≤ u ∧ u ≤ 265720 := by rw [hv, Tm.value_eq W_xs.out]; exact Tm.val_bd_len W_xs.out 12 (by omega)
      obtain ⟨u_0, u_1⟩ := bd
      clear hv
      go_wp2_with fail
      refine (iValueOf b7 ys.length c7 ys _ I_ys.out).mono ?_
      rintro e w' ⟨h0, rfl⟩
      obtain ⟨v, hv⟩ : ∃ r_, r_ = Tm.value ys := ⟨_, rfl⟩
      rw [← hv] at h0
      subst h0
      have H_v : Hid (v = Tm.value ys) := Lib.hid hv
      have bd : -265720 ≤ v ∧ v ≤ 265720 := by rw [hv, Tm.value_eq W_ys.out]; exact Tm.val_bd_len W_ys.out 12 (by omega)
      obtain ⟨v_0, v_1⟩ := bd
      clear hv
      have DE : Hid (d = Tm.gcdV u v) := Lib.hid (by rw [DV.out, H_u.out, H_v.out, Tm.value_eq W_xs.out, Tm.value_eq W_ys.out])
      by_cases h0 : d = 0
      · skip
        have z := Tm.gcd_none (u := u) (v := v) (by rw [← DE.out]; exact h0)
        clear DE DV H_d H_u H_v
        obtain ⟨z1, z2⟩ := z
        subst z1 z2 h0
        go_wp2
        go_ret
        exact ⟨rfl, B.out⟩
      · skip
        have h1 : (d == 0) = false := by simpa using h0
        have h2 : 0 < d := by omega
        clear h0
        have MX : Hid (Tm.mulOk xs ws = true) := Lib.hid ((Tm.mulOk_iff _ _).2 ⟨W_xs.out, W_ws.out, by omega⟩)
        have MY : Hid (Tm.mulOk ys ws = true) := Lib.hid ((Tm.mulOk_iff _ _).2 ⟨W_ys.out, W_ws.out, by omega⟩)
        go_wp2_with fail
        have hok := MX.out
        refine (retIB_ex (iMultiplyWords b5 xs.length c5 xs b0 ws.length c0 ws _ I_xs.out I_ws.out) hok).mono ?_
        clear hok
        rintro e w11 ⟨p, b11, c11, hv, rfl, ho, hb, ln11⟩
        have H_p : Hid (p = Tm.mulW xs ws) := Lib.hid hv
        have hsz := hb.size
        replace I_ws := Lib.hid (I_ws.out.below hb)
        replace I_xs := Lib.hid (I_xs.out.below hb)
        replace I_ys := Lib.hid (I_ys.out.below hb)
        replace I_g := Lib.hid (I_g.out.below hb)
        replace I_h := Lib.hid (I_h.out.below hb)
        replace BY := Lib.hid (BY.out.below hb)
        replace B := Lib.hid (B.out.trans (hb.mono B.out.size))
        clear hb hsz
        have I_p := Lib.hid (Ints.of_own ho)
        clear ho hv
        go_wp2_with fail
        have hok := MY.out
        refine (retIB_ex (iMultiplyWords b7 ys.length c7 ys b0 ws.length c0 ws _ I_ys.out I_ws.out) hok).mono ?_
        clear hok
        rintro e w12 ⟨q, b12, c12, hv, rfl, ho, hb, ln12⟩
        have H_q : Hid (q = Tm.mulW ys ws) := Lib.hid hv
        have hsz := hb.size
        replace I_ws := Lib.hid (I_ws.out.below hb)
        replace I_xs := Lib.hid (I_xs.out.below hb)
        replace I_ys := Lib.hid (I_ys.out.below hb)
        replace I_g := Lib.hid (I_g.out.below hb)
        replace I_h := Lib.hid (I_h.out.below hb)
        replace I_p := Lib.hid (I_p.out.below hb)
        replace BY := Lib.hid (BY.out.below hb)
        replace B := Lib.hid (B.out.trans (hb.mono B.out.size))
        clear hb hsz
        have I_q := Lib.hid (Ints.of_own ho)
        clear ho hv
        have FP := Lib.hid (Tm.mul_facts MX.out)
        rw [← H_p.out] at FP
        have FQ := Lib.hid (Tm.mul_facts MY.out)
        rw [← H_q.out] at FQ
        have p_2 : p.length ≤ 15 := by have := FP.out.2.2; omega
        have q_2 : q.length ≤ 15 := by have := FQ.out.2.2; omega
        have GO3 : Hid (Tm.gcdOk p q = true) := Lib.hid ((Tm.gcdOk_iff _ _).2 ⟨FP.out.1, FQ.out.1⟩)
        go_wp2_with fail
        have hok := GO3.out
        refine (retIB_ex (iGcdWords b11 p.length c11 p b12 q.length c12 q _ I_p.out I_q.out) hok).mono ?_
        clear hok
        rintro e w13 ⟨f, b13, c13, hv, rfl, ho, hb, ln13⟩
        have H_f : Hid (f = Tm.gcdW p q) := Lib.hid hv
        have hsz := hb.size
        replace I_ws := Lib.hid (I_ws.out.below hb)
        replace I_xs := Lib.hid (I_xs.out.below hb)
        replace I_ys := Lib.hid (I_ys.out.below hb)
        replace I_g := Lib.hid (I_g.out.below hb)
        replace I_h := Lib.hid (I_h.out.below hb)
        replace I_p := Lib.hid (I_p.out.below hb)
        replace I_q := Lib.hid (I_q.out.below hb)
        replace BY := Lib.hid (BY.out.below hb)
        replace B := Lib.hid (B.out.trans (hb.mono B.out.size))
        clear hb hsz
        have I_f := Lib.hid (Ints.of_own ho)
        clear ho hv
        have GF3 := Lib.hid (Tm.gcd_facts GO3.out)
        rw [← H_f.out] at GF3
        have f_2 : f.length ≤ 15 := by rw [GF3.out.2.2]; omega
        have dv := Tm.gcd_div u v
        have dw := Tm.gcd_dvd u v
        rw [← DE.out] at dv dw
        obtain ⟨dv1, dv2⟩ := dv
        obtain ⟨dw1, dw2⟩ := dw
        go_wp2_with fail
        refine (iValueOf b13 f.length c13 f _ I_f.out).mono ?_
        rintro e w' ⟨h0, rfl⟩
        obtain ⟨vf, hv⟩ : ∃ r_, r_ = Tm.value f := ⟨_, rfl⟩
        rw [← hv] at h0
        subst h0
        have H_vf : Hid (vf = Tm.value f) := Lib.hid hv
        clear hv
        go_wp2_with fail
        refine (iValueOf b0 ws.length c0 ws _ I_ws.out).mono ?_
        rintro e w' ⟨h0, rfl⟩
        obtain ⟨vw, hv⟩ : ∃ r_, r_ = Tm.value ws := ⟨_, rfl⟩
        rw [← hv] at h0
        subst h0
        have H_vw : Hid (vw = Tm.value ws) := Lib.hid hv
        have bd : -13 ≤ vw ∧ vw ≤ 13 := by rw [hv, Tm.value_eq W_ws.out]; exact VB.out
        obtain ⟨vw_0, vw_1⟩ := bd
        clear hv
        go_wp2_with fail
        refine (abs_any vw _ (by omega) (by omega)).mono ?_
        rintro e w' ⟨h0, rfl⟩
        obtain ⟨z, hv⟩ : ∃ r_, r_ = Tm.absI vw := ⟨_, rfl⟩
        rw [← hv] at h0
        subst h0
        have H_z : Hid (z = Tm.absI vw) := Lib.hid hv
        have bd : 0 ≤ z ∧ z ≤ 13 := by rw [hv]; have := Tm.absI_abs vw; omega
        obtain ⟨z_0, z_1⟩ := bd
        clear hv
        have e3 : vf = d * z := by rw [H_vf.out, H_z.out, DV.out, H_vw.out, Tm.value_eq GF3.out.1, Tm.value_eq W_ws.out, GF3.out.2.1, FP.out.2.1, FQ.out.2.1, Tm.gcd_mul]
        have mb := Tm.mul_bd (A := 265720) (B := 13) (a := d) (b := z) ⟨by omega, d_1⟩ ⟨by omega, z_1⟩
        obtain ⟨mb1, mb2⟩ := mb
        clear H_vf
        subst e3
        have e4 : (d * z == d * z) = true := by simp
        go_wp2
        go_ret
        exact ⟨rfl, B.out⟩
  · go_enter Try.func6, Try.ntmps6
    go_wp2
    go_ret
    exact ⟨rfl, B.out⟩
end Go.Proofs.Ytgfgndfklonhfaa

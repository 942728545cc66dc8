/- Walks of laws: FnThirds. -/
import Derived.Test.YtgfgndfklonhfaaPI
import Derived.Test.YtgfgndfklonhfaaPMath
import Derived.Test.YtgfgndfklonhfaaOwn2
import Derived.Test.YtgfgndfklonhfaaWI4
import Derived.Test.YtgfgndfklonhfaaWI3
import Derived.Test.YtgfgndfklonhfaaWI2
import Derived.Test.YtgfgndfklonhfaaLaw2
import Derived.Test.YtgfgndfklonhfaaLaw
import Derived.Test.YtgfgndfklonhfaaLAm
namespace Go.Proofs.Ytgfgndfklonhfaa
set_option maxRecDepth 20000
open Go.RowKit
set_option maxRecDepth 20000 in
set_option maxHeartbeats 4000000 in
theorem wFnThirds (a0 : Option Addr) (len0 cap0 : Nat) (z0 : List Int) (w : World) (w0 : IsRow .u8 w a0 len0 cap0 z0) : Calls Try.prog 7 #[.slice a0 len0 cap0] w fun e w' => e = .returned (.bool true) ∧ Below w.heap.size w w' := by
  have BY := Lib.hid (Byts.of_row w0)
  have m0 : len0 ≤ 9223372036854775807 := by obtain ⟨h1, h2, _⟩ := BY.out; unfold maxLen at h2; omega
  clear w0
  have B := Lib.hid (Below.refl w.heap.size w)
  by_cases g0 : len0 ≤ 1048576
  · skip
    go_enter Try.func7, Try.ntmps7
    go_wp2_with fail
    refine (at_any a0 len0 cap0 1 _ BY.out (by omega) (by omega) (by omega)).mono ?_
    rintro e w' ⟨x1, rfl, x1_0, x1_1, rfl⟩
    go_wp2_with fail
    refine (at_any a0 len0 cap0 2 _ BY.out (by omega) (by omega) (by omega)).mono ?_
    rintro e w' ⟨x2, rfl, x2_0, x2_1, rfl⟩
    have xb := Tm.mul_bd (A := 255) (B := 255) (a := x1) (b := x2) ⟨by omega, x1_1⟩ ⟨by omega, x2_1⟩
    have xb0 := Int.mul_nonneg x1_0 x2_0
    obtain ⟨-, xb1⟩ := xb
    obtain ⟨t, ht⟩ : ∃ t, t = (x1 * x2).tmod 1000 := ⟨_, rfl⟩
    have ht1 : (x1 * x2).tmod 1000 = t := ht.symm
    have ht2 : (x1 * x2) % 1000 = t := by rw [ht, Int.tmod_eq_emod_of_nonneg xb0]
    have t_0 : 0 ≤ t := by omega
    have t_1 : t ≤ 999 := by omega
    clear ht
    go_wp2_with fail
    refine (at_any a0 len0 cap0 3 _ BY.out (by omega) (by omega) (by omega)).mono ?_
    rintro e w' ⟨x3, rfl, x3_0, x3_1, rfl⟩
    go_wp2_with fail
    refine (at_any a0 len0 cap0 4 _ BY.out (by omega) (by omega) (by omega)).mono ?_
    rintro e w' ⟨x4, rfl, x4_0, x4_1, rfl⟩
    obtain ⟨d, hd⟩ : ∃ d, d = 1 + t := ⟨_, rfl⟩
    have hd2 : 1 + t = d := hd.symm
    have d_0 : 1 ≤ d := by omega
    have d_1 : d ≤ 1000 := by omega
    clear hd
    obtain ⟨s, hs⟩ : ∃ s, s = (x3 * 257 + x4).tmod d := ⟨_, rfl⟩
    have hs1 : (x3 * 257 + x4).tmod d = s := hs.symm
    have hs2 : (x3 * 257 + x4) % d = s := by rw [hs, Int.tmod_eq_emod_of_nonneg (by omega)]
    have s_0 : 0 ≤ s := by rw [hs]; exact Int.tmod_nonneg _ (by omega)
    have s_1 : s < d := by rw [hs]; exact Int.tmod_lt_of_pos _ (by omega)
    clear hs
    obtain ⟨e, he⟩ : ∃ e, e = d.tdiv 2 := ⟨_, rfl⟩
    have he1 : d.tdiv 2 = e := he.symm
    have he2 : d / 2 = e := by rw [he, Int.tdiv_eq_ediv_of_nonneg (by omega)]
    have e_0 : 0 ≤ e := by omega
    have e_1 : e ≤ 500 := by omega
    clear he
    go_wp2_with fail
    refine (at_any a0 len0 cap0 5 _ BY.out (by omega) (by omega) (by omega)).mono ?_
    rintro e w' ⟨x5, rfl, x5_0, x5_1, rfl⟩
    obtain ⟨k, hk⟩ : ∃ j : Nat, x5.tmod 12 = (j : Int) := ⟨_, (Int.toNat_of_nonneg (Int.tmod_nonneg _ x5_0)).symm⟩
    have k_lt : k < 12 := by have := Int.tmod_lt_of_pos x5 (show (0 : Int) < 12 by omega); omega
    obtain ⟨n, hn⟩ : ∃ n, n = s - e := ⟨_, rfl⟩
    have hn2 : s - e = n := hn.symm
    have n_0 : -500 ≤ n := by omega
    have n_1 : n ≤ 1000 := by omega
    have HN := Lib.hid hn
    clear hn
    by_cases hc : 2 * Tm.absI n < d
    · skip
      have an := Tm.absI_abs n
      have n_2 : -500 ≤ n := by omega
      have n_3 : n ≤ 500 := by omega
      have TO : Hid (∀ i : Nat, 1 ≤ i → i ≤ 20 → Tm.thOk n d i = true) := Lib.hid fun i h1 h2 => by rw [Tm.thOk, decide_eq_true_eq]; exact ⟨by omega, by omega, by omega, by omega, hc⟩
      have NR := Lib.hid (Tm.th_near (n := n) (d := d) (k + 1) d_0)
      have ON := Lib.hid (Tm.th_on (n := n) (d := d) (k + 1) d_0)
      go_wp2_with fail
      rw [show 1 + (k : Int) = ((k + 1 : Nat) : Int) from by omega]
      have hok := TO.out (k + 1) (by omega) (by omega)
      refine (retIB_ex (iThirdsOf n d ((k + 1 : Nat) : Int) _) hok).mono ?_
      clear hok
      rintro e w0 ⟨ws, b0, c0, hv, rfl, ho, hb, ln0⟩
      have H_ws : Hid (ws = Tm.thW n d ((k + 1 : Nat) : Int)) := Lib.hid hv
      have hsz := hb.size
      replace BY := Lib.hid (BY.out.below hb)
      replace B := Lib.hid (B.out.trans (hb.mono B.out.size))
      clear hb hsz
      have I_ws := Lib.hid (Ints.of_own ho)
      clear ho hv
      go_wp2_with fail
      refine (abs_any n _ (by omega) (by omega)).mono ?_
      rintro e w' ⟨h0, rfl⟩
      obtain ⟨z, hv⟩ : ∃ r_, r_ = Tm.absI n := ⟨_, rfl⟩
      rw [← hv] at h0
      subst h0
      have H_z : Hid (z = Tm.absI n) := Lib.hid hv
      have bd : 0 ≤ z ∧ z ≤ 500 := by rw [hv]; omega
      obtain ⟨z_0, z_1⟩ := bd
      clear hv
      have hc2 : 2 * z < d := by rw [H_z.out]; exact hc
      clear hc an
      go_wp2_with fail
      rw [show ((k : Int) + 1 + 3) = ((k + 1 + 3 : Nat) : Int) from by omega]
      have hok := TO.out (k + 1 + 3) (by omega) (by omega)
      refine (retIB_ex (iThirdsOf n d ((k + 1 + 3 : Nat) : Int) _) hok).mono ?_
      clear hok
      rintro e w1 ⟨xs, b1, c1, hv, rfl, ho, hb, ln1⟩
      have H_xs : Hid (xs = Tm.thW n d ((k + 1 + 3 : Nat) : Int)) := Lib.hid hv
      have hsz := hb.size
      replace I_ws := Lib.hid (I_ws.out.below hb)
      replace BY := Lib.hid (BY.out.below hb)
      replace B := Lib.hid (B.out.trans (hb.mono B.out.size))
      clear hb hsz
      have I_xs := Lib.hid (Ints.of_own ho)
      clear ho hv
      have FW := Lib.hid (Tm.th_facts (TO.out (k + 1) (by omega) (by omega)))
      have FX := Lib.hid (Tm.th_facts (TO.out (k + 1 + 3) (by omega) (by omega)))
      rw [← H_ws.out, Int.toNat_natCast] at FW
      rw [← H_xs.out, Int.toNat_natCast] at FX
      have lw : (ws.length : Int) = ((k + 1 : Nat) : Int) := FW.out.2.2
      have lx : (xs.length : Int) = ((k + 1 + 3 : Nat) : Int) := FX.out.2.2
      have l1 : ((ws.length : Int) != ((k + 1 : Nat) : Int)) = false := by rw [lw]; simp
      have l2 : ((xs.length : Int) != (((k + 1 : Nat) : Int) + 3)) = false := by rw [lx]; simp
      have ws_2 : ws.length ≤ 12 := by omega
      have xs_2 : xs.length ≤ 15 := by omega
      go_wp2_with fail
      refine (makePower (k + 1) _ (by omega)).mono ?_
      rintro e w' ⟨h0, rfl⟩
      obtain ⟨p, hv⟩ : ∃ r_, r_ = Tm.pow3 (k + 1) := ⟨_, rfl⟩
      rw [← hv] at h0
      subst h0
      have H_p : Hid (p = Tm.pow3 (k + 1)) := Lib.hid hv
      have bd : 1 ≤ p ∧ p ≤ 531441 := by rw [hv]; exact ⟨Tm.pow3_pos (k + 1), Tm.pow3_le (b := 12) (by omega)⟩
      obtain ⟨p_0, p_1⟩ := bd
      clear hv
      have mp := Tm.mul_bd (A := 500) (B := 531441) (a := n) (b := p) ⟨n_2, n_3⟩ ⟨by omega, p_1⟩
      obtain ⟨mp1, mp2⟩ := mp
      clear l1 l2
      go_wp2_with fail
      refine (iValueOf b0 ws.length c0 ws _ I_ws.out).mono ?_
      rintro e w' ⟨h0, rfl⟩
      obtain ⟨vw, hv⟩ : ∃ r_, r_ = Tm.value ws := ⟨_, rfl⟩
      rw [← hv] at h0
      subst h0
      have H_vw : Hid (vw = Tm.value ws) := Lib.hid hv
      have bd : -265720 ≤ vw ∧ vw ≤ 265720 := by rw [hv, Tm.value_eq FW.out.1]; exact Tm.val_bd_len FW.out.1 12 (by omega)
      obtain ⟨vw_0, vw_1⟩ := bd
      clear hv
      have mq := Tm.mul_bd (A := 265720) (B := 1000) (a := vw) (b := d) ⟨vw_0, vw_1⟩ ⟨by omega, d_1⟩
      obtain ⟨mq1, mq2⟩ := mq
      have E1 : Hid (2 * Tm.absI (n * p - vw * d) ≤ d) := Lib.hid (by rw [H_p.out, H_vw.out, Tm.value_eq FW.out.1, FW.out.2.1]; exact NR.out)
      go_wp2_with fail
      refine (abs_any (n * p - vw * d) _ (by omega) (by omega)).mono ?_
      rintro e w' ⟨h0, rfl⟩
      obtain ⟨y, hv⟩ : ∃ r_, r_ = Tm.absI (n * p - vw * d) := ⟨_, rfl⟩
      rw [← hv] at h0
      subst h0
      have H_y : Hid (y = Tm.absI (n * p - vw * d)) := Lib.hid hv
      have bd : 0 ≤ y ∧ y ≤ 1000 := by rw [hv]; have := E1.out; have := Tm.absI_abs (n * p - vw * d); omega
      obtain ⟨y_0, y_1⟩ := bd
      clear hv
      have E2 : 2 * y ≤ d := by rw [H_y.out]; exact E1.out
      go_wp2_with fail
      refine (iValueOf b1 xs.length c1 xs _ I_xs.out).mono ?_
      rintro e w' ⟨h0, rfl⟩
      obtain ⟨vx, hv⟩ : ∃ r_, r_ = Tm.value xs := ⟨_, rfl⟩
      rw [← hv] at h0
      subst h0
      have H_vx : Hid (vx = Tm.value xs) := Lib.hid hv
      have bd : -7174453 ≤ vx ∧ vx ≤ 7174453 := by rw [hv, Tm.value_eq FX.out.1]; exact Tm.val_bd_len FX.out.1 15 (by omega)
      obtain ⟨vx_0, vx_1⟩ := bd
      clear hv
      go_wp2_with fail
      refine (iValueOf b0 ws.length c0 ws _ I_ws.out).mono ?_
      rintro e w' ⟨rfl, rfl⟩
      rw [← H_vw.out]
      have E3 : Hid (Tm.absI (vx - 27 * vw) ≤ 14) := Lib.hid (by rw [H_vx.out, H_vw.out, Tm.value_eq FW.out.1, FW.out.2.1, Tm.value_eq FX.out.1, FX.out.2.1]; exact ON.out)
      go_wp2_with fail
      refine (abs_any (vx - 27 * vw) _ (by omega) (by omega)).mono ?_
      rintro e w' ⟨h0, rfl⟩
      obtain ⟨r, hv⟩ : ∃ r_, r_ = Tm.absI (vx - 27 * vw) := ⟨_, rfl⟩
      rw [← hv] at h0
      subst h0
      have H_r : Hid (r = Tm.absI (vx - 27 * vw)) := Lib.hid hv
      have bd : 0 ≤ r ∧ r ≤ 14 := by rw [hv]; have := E3.out; have := Tm.absI_abs (vx - 27 * vw); omega
      obtain ⟨r_0, r_1⟩ := bd
      clear hv
      go_wp2
      go_ret
      exact ⟨rfl, B.out⟩
    · skip
      have an := Tm.absI_abs n
      go_wp2_with fail
      rw [show 1 + (k : Int) = ((k + 1 : Nat) : Int) from by omega]
      have hok := show Tm.thOk n d ((k + 1 : Nat) : Int) = false by rw [Tm.thOk, decide_eq_false_iff_not]; omega
      refine (retIB_no (iThirdsOf n d ((k + 1 : Nat) : Int) _) hok).mono ?_
      clear hok
      rintro e w0 ⟨v0, rfl, hb⟩
      have hsz := hb.size
      replace BY := Lib.hid (BY.out.below hb)
      replace B := Lib.hid (B.out.trans (hb.mono B.out.size))
      clear hb hsz
      go_wp2_with fail
      refine (abs_any n _ (by omega) (by omega)).mono ?_
      rintro e w' ⟨h0, rfl⟩
      obtain ⟨z, hv⟩ : ∃ r_, r_ = Tm.absI n := ⟨_, rfl⟩
      rw [← hv] at h0
      subst h0
      have H_z : Hid (z = Tm.absI n) := Lib.hid hv
      have bd : 0 ≤ z ∧ z ≤ 1000 := by rw [hv]; omega
      obtain ⟨z_0, z_1⟩ := bd
      clear hv
      have hc2 : d ≤ 2 * z := by rw [H_z.out]; omega
      clear hc an
      go_wp2
      go_ret
      exact ⟨rfl, B.out⟩
  · go_enter Try.func7, Try.ntmps7
    go_wp2
    go_ret
    exact ⟨rfl, B.out⟩
end Go.Proofs.Ytgfgndfklonhfaa

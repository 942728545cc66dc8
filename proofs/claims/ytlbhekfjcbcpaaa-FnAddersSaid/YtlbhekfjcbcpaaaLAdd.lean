/- Walks of laws: FnAdders. -/
import Derived.Test.YtlbhekfjcbcpaaaAMath
import Derived.Test.YtlbhekfjcbcpaaaLValues
import Derived.Test.YtlbhekfjcbcpaaaWI4
import Derived.Test.YtlbhekfjcbcpaaaWI3
import Derived.Test.YtlbhekfjcbcpaaaLaw2
import Derived.Test.YtlbhekfjcbcpaaaTr
import Derived.Test.YtlbhekfjcbcpaaaAIa
import Derived.Test.YtlbhekfjcbcpaaaLAm
namespace Go.Proofs.Ytlbhekfjcbcpaaa
set_option maxRecDepth 20000
open Go.RowKit
set_option maxHeartbeats 4000000 in
theorem wFnAdders (a0 : Option Addr) (len0 cap0 : Nat) (z0 : List Int) (w : World) (w0 : IsRow .u8 w a0 len0 cap0 z0) : Calls Try.prog 11 #[.slice a0 len0 cap0] w fun e w' => e = .returned (.bool true) ∧ Below w.heap.size w w' := by
  have BY := Lib.hid (Byts.of_row w0)
  have m0 : len0 ≤ 9223372036854775807 := by obtain ⟨h1, h2, _⟩ := BY.out; unfold maxLen at h2; omega
  clear w0
  have B := Lib.hid (Below.refl w.heap.size w)
  by_cases g0 : len0 ≤ 1048576
  · skip
    go_enter Try.func11, Try.ntmps11
    go_wp2_with fail
    refine (at_any a0 len0 cap0 1 _ BY.out (by omega) (by omega) (by omega)).mono ?_
    rintro e w' ⟨x, rfl, x_0, x_1, rfl⟩
    obtain ⟨j, hj⟩ : ∃ j : Nat, x.tmod 30 = (j : Int) := ⟨_, (Int.toNat_of_nonneg (Int.tmod_nonneg _ x_0)).symm⟩
    have j_lt : j < 30 := by have := Int.tmod_lt_of_pos x (show (0 : Int) < 30 by omega); omega
    go_wp2_with fail
    rw [show (1 + (j : Int)) = ((j + 1 : Nat) : Int) from by omega]
    refine (makeExact_any a0 len0 cap0 (j + 1) _ BY.out (by omega) (by omega) (by omega)).mono ?_
    rintro e w0 ⟨xs, b0, c0, rfl, hw, hp, ho, hb⟩
    have hsz := hb.size
    replace BY := Lib.hid (BY.out.below hb)
    replace B := Lib.hid (B.out.trans (hb.mono B.out.size))
    clear hb hsz
    have I_xs := Lib.hid (Ints.of_own ho)
    clear ho
    have W_xs := Lib.hid hw
    clear hw
    have L_xs := Lib.hid hp
    clear hp
    have lx := L_xs.out
    have xs_12 : 1 ≤ xs.length ∧ xs.length ≤ 30 := by omega
    obtain ⟨xs_1, xs_2⟩ := xs_12
    clear lx
    go_wp2_with fail
    refine (fresh_any a0 len0 cap0 3 _ BY.out (by omega) (by omega) (by omega)).mono ?_
    rintro e w1 ⟨a9, len9, cap9, rfl, m9, by9, hb⟩
    have BZ := Lib.hid by9
    clear by9
    have hsz := hb.size
    replace I_xs := Lib.hid (I_xs.out.below hb)
    replace BY := Lib.hid (BY.out.below hb)
    replace B := Lib.hid (B.out.trans (hb.mono B.out.size))
    clear hb hsz
    go_wp2_with fail
    refine (makeExact_any a9 len9 cap9 xs.length _ BZ.out (by omega) (by omega) (by omega)).mono ?_
    rintro e w2 ⟨ys, b2, c2, rfl, hw, hp, ho, hb⟩
    clear BZ
    have hsz := hb.size
    replace I_xs := Lib.hid (I_xs.out.below hb)
    replace BY := Lib.hid (BY.out.below hb)
    replace B := Lib.hid (B.out.trans (hb.mono B.out.size))
    clear hb hsz
    have I_ys := Lib.hid (Ints.of_own ho)
    clear ho
    have W_ys := Lib.hid hw
    have E_ys := Lib.hid hp
    clear hw
    have ys_12 : 1 ≤ ys.length ∧ ys.length ≤ 30 := by omega
    obtain ⟨ys_1, ys_2⟩ := ys_12
    clear hp
    go_wp2_with fail
    refine (at_any a0 len0 cap0 2 _ BY.out (by omega) (by omega) (by omega)).mono ?_
    rintro e w' ⟨y, rfl, y_0, y_1, rfl⟩
    obtain ⟨q, hq⟩ : ∃ j : Nat, y.tmod 3 = (j : Int) := ⟨_, (Int.toNat_of_nonneg (Int.tmod_nonneg _ y_0)).symm⟩
    have q_lt : q < 3 := by have := Int.tmod_lt_of_pos y (show (0 : Int) < 3 by omega); omega
    have AO : Hid (Tm.addOk xs ys ((q : Int) - 1) = true) := Lib.hid (Tm.addOk_of W_xs.out W_ys.out E_ys.out (by omega))
    have AO2 : Hid (Tm.addOk ys xs ((q : Int) - 1) = true) := Lib.hid (Tm.addOk_of W_ys.out W_xs.out E_ys.out.symm (by omega))
    have NW := Lib.hid (Tm.negW_word W_ys.out)
    have AO3 : Hid (Tm.addOk xs (Tm.negW ys) 0 = true) := Lib.hid (Tm.addOk_of W_xs.out NW.out.1 (by rw [NW.out.2.2, E_ys.out]) (by omega))
    go_wp2_with fail
    have hok := AO.out
    refine (retINB_ex (iAddWords b0 xs.length c0 xs b2 ys.length c2 ys ((q : Int) - 1) _ I_xs.out I_ys.out) hok).mono ?_
    clear hok
    rintro e w3 ⟨s, k, b3, c3, hv, hv2, rfl, ho, hb, ln3⟩
    have H_s : Hid (s = Tm.add xs ys ((q : Int) - 1)) := Lib.hid hv
    have H_k : Hid (k = Tm.addC xs ys ((q : Int) - 1)) := Lib.hid hv2
    have hsz := hb.size
    replace I_xs := Lib.hid (I_xs.out.below hb)
    replace I_ys := Lib.hid (I_ys.out.below hb)
    replace BY := Lib.hid (BY.out.below hb)
    replace B := Lib.hid (B.out.trans (hb.mono B.out.size))
    clear hb hsz
    have I_s := Lib.hid (Ints.of_own ho)
    clear ho hv hv2
    go_wp2_with fail
    have hok := AO2.out
    refine (retINB_ex (iAddAhead b2 ys.length c2 ys b0 xs.length c0 xs ((q : Int) - 1) _ I_ys.out I_xs.out) hok).mono ?_
    clear hok
    rintro e w4 ⟨x2, l, b4, c4, hv, hv2, rfl, ho, hb, ln4⟩
    have H_x2 : Hid (x2 = Tm.add ys xs ((q : Int) - 1)) := Lib.hid hv
    have H_l : Hid (l = Tm.addC ys xs ((q : Int) - 1)) := Lib.hid hv2
    have hsz := hb.size
    replace I_xs := Lib.hid (I_xs.out.below hb)
    replace I_ys := Lib.hid (I_ys.out.below hb)
    replace I_s := Lib.hid (I_s.out.below hb)
    replace BY := Lib.hid (BY.out.below hb)
    replace B := Lib.hid (B.out.trans (hb.mono B.out.size))
    clear hb hsz
    have I_x2 := Lib.hid (Ints.of_own ho)
    clear ho hv hv2
    go_wp2_with fail
    have hok := AO3.out
    refine (retINB_ex (iSubWords b0 xs.length c0 xs b2 ys.length c2 ys _ I_xs.out I_ys.out) hok).mono ?_
    clear hok
    rintro e w5 ⟨d, m, b5, c5, hv, hv2, rfl, ho, hb, ln5⟩
    have H_d : Hid (d = Tm.add xs (Tm.negW ys) 0) := Lib.hid hv
    have H_m : Hid (m = Tm.addC xs (Tm.negW ys) 0) := Lib.hid hv2
    have hsz := hb.size
    replace I_xs := Lib.hid (I_xs.out.below hb)
    replace I_ys := Lib.hid (I_ys.out.below hb)
    replace I_s := Lib.hid (I_s.out.below hb)
    replace I_x2 := Lib.hid (I_x2.out.below hb)
    replace BY := Lib.hid (BY.out.below hb)
    replace B := Lib.hid (B.out.trans (hb.mono B.out.size))
    clear hb hsz
    have I_d := Lib.hid (Ints.of_own ho)
    clear ho hv hv2
    have FS := Lib.hid (Tm.add_facts AO.out)
    rw [← H_s.out, ← H_k.out] at FS
    have FD := Lib.hid (Tm.add_facts AO3.out)
    rw [← H_d.out, ← H_m.out] at FD
    have el : l = k := by rw [H_l.out, H_k.out]; exact Tm.addC_swap _ _ _
    clear H_l
    subst el
    have hx : s = x2 := by rw [H_s.out, H_x2.out]; exact Tm.add_swap _ _ _
    have HX := Lib.hid hx
    clear hx
    have sl : ((s.length : Int) == (xs.length : Int)) = true := by rw [FS.out.2.1]; simp
    have tk : Tm.isT l = true := (Tm.isT_iff l).2 FS.out.2.2.1
    obtain ⟨l_0, l_1⟩ := FS.out.2.2.1
    obtain ⟨m_0, m_1⟩ := FD.out.2.2.1
    go_wp2_with fail
    refine (iLimitOf (xs.length : Int) _).mono ?_
    rintro e w' ⟨h0, rfl⟩
    obtain ⟨lm, hv⟩ : ∃ r_, r_ = Tm.lim (xs.length : Int) := ⟨_, rfl⟩
    rw [← hv] at h0
    subst h0
    have H_lm : Hid (lm = Tm.lim (xs.length : Int)) := Lib.hid hv
    have bd : 0 ≤ lm ∧ lm ≤ 102945566047324 := by rw [hv, Tm.lim_nat xs_1 (by omega)]; exact ⟨Tm.limN_nonneg _, Tm.limN_le (by omega)⟩
    obtain ⟨lm_0, lm_1⟩ := bd
    clear hv
    go_wp2_with fail
    refine (ints_any b3 b4 s.length x2.length c3 c4 s x2 _ I_s.out I_x2.out).mono ?_
    rintro e w6 ⟨h0, hb⟩
    rw [decide_eq_true (show s = x2 from HX.out)] at h0
    subst h0
    have hsz := hb.size
    replace I_xs := Lib.hid (I_xs.out.below hb)
    replace I_ys := Lib.hid (I_ys.out.below hb)
    replace I_s := Lib.hid (I_s.out.below hb)
    replace I_x2 := Lib.hid (I_x2.out.below hb)
    replace I_d := Lib.hid (I_d.out.below hb)
    replace BY := Lib.hid (BY.out.below hb)
    replace B := Lib.hid (B.out.trans (hb.mono B.out.size))
    clear hb hsz
    go_wp2_with fail
    refine (iIsTrit l _).mono ?_
    rintro e w' ⟨rfl, rfl⟩
    have sL : s.length ≤ 30 := by have := FS.out.2.1; omega
    have dL : d.length ≤ 30 := by have := FD.out.2.1; omega
    have pk : (2 * lm + 1) * l ≤ 205891132094649 ∧ -205891132094649 ≤ (2 * lm + 1) * l := by
      rcases (show l = -1 ∨ l = 0 ∨ l = 1 by omega) with rfl | rfl | rfl <;> omega
    have pm : (2 * lm + 1) * m ≤ 205891132094649 ∧ -205891132094649 ≤ (2 * lm + 1) * m := by
      rcases (show m = -1 ∨ m = 0 ∨ m = 1 by omega) with rfl | rfl | rfl <;> omega
    obtain ⟨t, ht⟩ : ∃ t, (2 * lm + 1) * l = t := ⟨_, rfl⟩
    obtain ⟨u, hu⟩ : ∃ u, (2 * lm + 1) * m = u := ⟨_, rfl⟩
    rw [ht] at pk
    rw [hu] at pm
    obtain ⟨t_1, t_0⟩ := pk
    obtain ⟨u_1, u_0⟩ := pm
    go_wp2_with fail
    refine (iValueOf b3 s.length c3 s _ I_s.out).mono ?_
    rintro e w' ⟨h0, rfl⟩
    obtain ⟨vs, hv⟩ : ∃ r_, r_ = Tm.value s := ⟨_, rfl⟩
    rw [← hv] at h0
    subst h0
    have H_vs : Hid (vs = Tm.value s) := Lib.hid hv
    have bd : -102945566047324 ≤ vs ∧ vs ≤ 102945566047324 := by rw [hv, Tm.value_eq FS.out.1]; exact Tm.val_bd_len FS.out.1 30 (by omega)
    obtain ⟨vs_0, vs_1⟩ := bd
    clear hv
    go_wp2_with fail
    refine (iValueOf b0 xs.length c0 xs _ I_xs.out).mono ?_
    rintro e w' ⟨h0, rfl⟩
    obtain ⟨va, hv⟩ : ∃ r_, r_ = Tm.value xs := ⟨_, rfl⟩
    rw [← hv] at h0
    subst h0
    have H_va : Hid (va = Tm.value xs) := Lib.hid hv
    have bd : -102945566047324 ≤ va ∧ va ≤ 102945566047324 := by rw [hv, Tm.value_eq W_xs.out]; exact Tm.val_bd_len W_xs.out 30 (by omega)
    obtain ⟨va_0, va_1⟩ := bd
    clear hv
    go_wp2_with fail
    refine (iValueOf b2 ys.length c2 ys _ I_ys.out).mono ?_
    rintro e w' ⟨h0, rfl⟩
    obtain ⟨vb, hv⟩ : ∃ r_, r_ = Tm.value ys := ⟨_, rfl⟩
    rw [← hv] at h0
    subst h0
    have H_vb : Hid (vb = Tm.value ys) := Lib.hid hv
    have bd : -102945566047324 ≤ vb ∧ vb ≤ 102945566047324 := by rw [hv, Tm.value_eq W_ys.out]; exact Tm.val_bd_len W_ys.out 30 (by omega)
    obtain ⟨vb_0, vb_1⟩ := bd
    clear hv
    have PW : Hid (Tm.pow3 xs.length = 2 * lm + 1) := Lib.hid (by rw [H_lm.out, Tm.lim_nat xs_1 (by omega), Tm.pow3_limN])
    have e1 : vs + t = va + vb + ((q : Int) - 1) := by
      have := FS.out.2.2.2
      rw [PW.out, ht] at this
      rw [H_vs.out, H_va.out, H_vb.out, Tm.value_eq FS.out.1, Tm.value_eq W_xs.out, Tm.value_eq W_ys.out]
      exact this
    have e1' : (vs + t == va + vb + ((q : Int) - 1)) = true := by simpa using e1
    clear e1
    go_wp2_with fail
    refine (iValueOf b5 d.length c5 d _ I_d.out).mono ?_
    rintro e w' ⟨h0, rfl⟩
    obtain ⟨vd, hv⟩ : ∃ r_, r_ = Tm.value d := ⟨_, rfl⟩
    rw [← hv] at h0
    subst h0
    have H_vd : Hid (vd = Tm.value d) := Lib.hid hv
    have bd : -102945566047324 ≤ vd ∧ vd ≤ 102945566047324 := by rw [hv, Tm.value_eq FD.out.1]; exact Tm.val_bd_len FD.out.1 30 (by omega)
    obtain ⟨vd_0, vd_1⟩ := bd
    clear hv
    go_wp2_with fail
    refine (iValueOf b0 xs.length c0 xs _ I_xs.out).mono ?_
    rintro e w' ⟨rfl, rfl⟩
    rw [← H_va.out]
    go_wp2_with fail
    refine (iValueOf b2 ys.length c2 ys _ I_ys.out).mono ?_
    rintro e w' ⟨rfl, rfl⟩
    rw [← H_vb.out]
    have e2 : vd + u = va - vb := by
      have := FD.out.2.2.2
      rw [PW.out, hu] at this
      rw [H_vd.out, H_va.out, H_vb.out, Tm.value_eq FD.out.1, Tm.value_eq W_xs.out, Tm.value_eq W_ys.out, Int.sub_eq_add_neg, ← NW.out.2.1]
      omega
    have e2' : (vd + u == va - vb) = true := by simpa using e2
    clear e2
    go_wp2
    go_ret
    exact ⟨rfl, B.out⟩
  · go_enter Try.func11, Try.ntmps11
    go_wp2
    go_ret
    exact ⟨rfl, B.out⟩
end Go.Proofs.Ytlbhekfjcbcpaaa

/- Walks of laws: FnDivided. -/
import Derived.Test.YtgfgndfklonhfaaPI
import Derived.Test.YtgfgndfklonhfaaPMath
import Derived.Test.YtgfgndfklonhfaaOwn2
import Derived.Test.YtgfgndfklonhfaaWI4
import Derived.Test.YtgfgndfklonhfaaWI3
import Derived.Test.YtgfgndfklonhfaaWI2
import Derived.Test.YtgfgndfklonhfaaWS
import Derived.Test.YtgfgndfklonhfaaLaw2
import Derived.Test.YtgfgndfklonhfaaLaw
import Derived.Test.YtgfgndfklonhfaaLAm
namespace Go.Proofs.Ytgfgndfklonhfaa
set_option maxRecDepth 20000
open Go.RowKit
set_option maxRecDepth 20000 in
set_option maxHeartbeats 4000000 in
theorem wFnDivided (a0 : Option Addr) (len0 cap0 : Nat) (z0 : List Int) (w : World) (w0 : IsRow .u8 w a0 len0 cap0 z0) : Calls Try.prog 4 #[.slice a0 len0 cap0] w fun e w' => e = .returned (.bool true) ∧ Below w.heap.size w w' := by
  have BY := Lib.hid (Byts.of_row w0)
  have m0 : len0 ≤ 9223372036854775807 := by obtain ⟨h1, h2, _⟩ := BY.out; unfold maxLen at h2; omega
  clear w0
  have B := Lib.hid (Below.refl w.heap.size w)
  by_cases g0 : len0 ≤ 1048576
  · skip
    go_enter Try.func4, Try.ntmps4
    go_wp2_with fail
    refine (makeWord_any a0 len0 cap0 20 _ BY.out (by omega) (by omega) (by omega)).mono ?_
    rintro e w0 ⟨xs, b0, c0, rfl, hw, hp, ho, hb⟩
    have hsz := hb.size
    replace BY := Lib.hid (BY.out.below hb)
    replace B := Lib.hid (B.out.trans (hb.mono B.out.size))
    clear hb hsz
    have I_xs := Lib.hid (Ints.of_own ho)
    clear ho
    have W_xs := Lib.hid hw
    have xs_1 := Tm.isW_pos hw
    have xs_2 : xs.length ≤ 20 := by omega
    clear hw hp
    go_wp2_with fail
    refine (fresh_any a0 len0 cap0 3 _ BY.out (by omega) (by omega) (by omega)).mono ?_
    rintro e w1 ⟨a9, len9, cap9, rfl, m9, by9, hb⟩
    have BZ := Lib.hid by9
    clear by9
    have hsz := hb.size
    replace I_xs := Lib.hid (I_xs.out.below hb)
    replace BY := Lib.hid (BY.out.below hb)
    replace B := Lib.hid (B.out.trans (hb.mono B.out.size))
    clear hb hsz
    go_wp2_with fail
    refine (makeWord_any a9 len9 cap9 8 _ BZ.out (by omega) (by omega) (by omega)).mono ?_
    rintro e w2 ⟨ys, b2, c2, rfl, hw, hp, ho, hb⟩
    clear BZ
    have hsz := hb.size
    replace I_xs := Lib.hid (I_xs.out.below hb)
    replace BY := Lib.hid (BY.out.below hb)
    replace B := Lib.hid (B.out.trans (hb.mono B.out.size))
    clear hb hsz
    have I_ys := Lib.hid (Ints.of_own ho)
    clear ho
    have W_ys := Lib.hid hw
    have ys_1 := Tm.isW_pos hw
    have ys_2 : ys.length ≤ 8 := by omega
    clear hw hp
    go_wp2_with fail
    refine (sValueOf b2 ys.length c2 ys _ I_ys.out).mono ?_
    rintro e w' ⟨h0, rfl⟩
    obtain ⟨n, hv⟩ : ∃ r_, r_ = Tm.value ys := ⟨_, rfl⟩
    rw [← hv] at h0
    subst h0
    have H_n : Hid (n = Tm.value ys) := Lib.hid hv
    have bd : -3280 ≤ n ∧ n ≤ 3280 := by rw [hv, Tm.value_eq W_ys.out]; exact Tm.val_bd_len W_ys.out 8 (by omega)
    obtain ⟨n_0, n_1⟩ := bd
    clear hv
    have NV : Hid (n = Tm.val ys) := Lib.hid (by rw [H_n.out, Tm.value_eq W_ys.out])
    by_cases h0 : n = 0
    · skip
      subst h0
      go_wp2_with fail
      have hok := show Tm.divOk xs ys = false by simp [Tm.divOk, ← NV.out]
      refine (ret2B_no (iDivideWords b0 xs.length c0 xs b2 ys.length c2 ys _ I_xs.out I_ys.out) hok).mono ?_
      clear hok
      rintro e w3 ⟨v3, u3, rfl, hb⟩
      have hsz := hb.size
      replace I_xs := Lib.hid (I_xs.out.below hb)
      replace I_ys := Lib.hid (I_ys.out.below hb)
      replace BY := Lib.hid (BY.out.below hb)
      replace B := Lib.hid (B.out.trans (hb.mono B.out.size))
      clear hb hsz
      go_wp2
      go_ret
      exact ⟨rfl, B.out⟩
    · skip
      have DO : Hid (Tm.divOk xs ys = true) := Lib.hid ((Tm.divOk_iff _ _).2 ⟨W_xs.out, W_ys.out, by rw [← NV.out]; exact h0⟩)
      have DF := Lib.hid (Tm.div_facts DO.out)
      have h1 : (n != 0) = true := by simpa using h0
      have H0 := Lib.hid h0
      clear h0
      go_wp2_with fail
      have hok := DO.out
      refine (ret2B_ex (iDivideWords b0 xs.length c0 xs b2 ys.length c2 ys _ I_xs.out I_ys.out) hok).mono ?_
      clear hok
      rintro e w3 ⟨q, r, b3, c3, bb3, cc3, hv, hv2, rfl, ho, ho2, hb, ln3, lm3⟩
      have H_q : Hid (q = Tm.divQ xs ys) := Lib.hid hv
      have H_r : Hid (r = Tm.divR xs ys) := Lib.hid hv2
      have hsz := hb.size
      replace I_xs := Lib.hid (I_xs.out.below hb)
      replace I_ys := Lib.hid (I_ys.out.below hb)
      replace BY := Lib.hid (BY.out.below hb)
      replace B := Lib.hid (B.out.trans (hb.mono B.out.size))
      clear hb hsz
      have I_q := Lib.hid (Ints.of_own ho)
      have I_r := Lib.hid (Ints.of_own ho2)
      clear ho ho2 hv hv2
      rw [← H_q.out, ← H_r.out] at DF
      have q_2 : q.length ≤ 20 := by have := DF.out.1.2.2; omega
      have r_2 : r.length ≤ 8 := by have := DF.out.2.2.2; omega
      go_wp2_with fail
      refine (iValueOf bb3 r.length cc3 r _ I_r.out).mono ?_
      rintro e w' ⟨h0, rfl⟩
      obtain ⟨x, hv⟩ : ∃ r_, r_ = Tm.value r := ⟨_, rfl⟩
      rw [← hv] at h0
      subst h0
      have H_x : Hid (x = Tm.value r) := Lib.hid hv
      have bd : -3280 ≤ x ∧ x ≤ 3280 := by rw [hv, Tm.value_eq DF.out.2.1]; exact Tm.val_bd_len DF.out.2.1 8 (by omega)
      obtain ⟨x_0, x_1⟩ := bd
      clear hv
      have MO : Hid (Tm.mulOk xs ys = true) := Lib.hid ((Tm.mulOk_iff _ _).2 ⟨W_xs.out, W_ys.out, by omega⟩)
      have MF := Lib.hid (Tm.mul_facts MO.out)
      go_wp2_with fail
      have hok := MO.out
      refine (retIB_ex (iMultiplyWords b0 xs.length c0 xs b2 ys.length c2 ys _ I_xs.out I_ys.out) hok).mono ?_
      clear hok
      rintro e w4 ⟨p, b4, c4, hv, rfl, ho, hb, ln4⟩
      have H_p : Hid (p = Tm.mulW xs ys) := Lib.hid hv
      have hsz := hb.size
      replace I_xs := Lib.hid (I_xs.out.below hb)
      replace I_ys := Lib.hid (I_ys.out.below hb)
      replace I_q := Lib.hid (I_q.out.below hb)
      replace I_r := Lib.hid (I_r.out.below hb)
      replace BY := Lib.hid (BY.out.below hb)
      replace B := Lib.hid (B.out.trans (hb.mono B.out.size))
      clear hb hsz
      have I_p := Lib.hid (Ints.of_own ho)
      clear ho hv
      rw [← H_p.out] at MF
      have p_2 : p.length ≤ 28 := by have := MF.out.2.2; omega
      have DO2 : Hid (Tm.divOk p ys = true) := Lib.hid ((Tm.divOk_iff _ _).2 ⟨MF.out.1, W_ys.out, by rw [← NV.out]; exact H0.out⟩)
      have DF2 := Lib.hid (Tm.div_facts DO2.out)
      go_wp2_with fail
      have hok := DO2.out
      refine (ret2B_ex (iDivideWords b4 p.length c4 p b2 ys.length c2 ys _ I_p.out I_ys.out) hok).mono ?_
      clear hok
      rintro e w5 ⟨u, v, b5, c5, bb5, cc5, hv, hv2, rfl, ho, ho2, hb, ln5, lm5⟩
      have H_u : Hid (u = Tm.divQ p ys) := Lib.hid hv
      have H_v : Hid (v = Tm.divR p ys) := Lib.hid hv2
      have hsz := hb.size
      replace I_xs := Lib.hid (I_xs.out.below hb)
      replace I_ys := Lib.hid (I_ys.out.below hb)
      replace I_q := Lib.hid (I_q.out.below hb)
      replace I_r := Lib.hid (I_r.out.below hb)
      replace I_p := Lib.hid (I_p.out.below hb)
      replace BY := Lib.hid (BY.out.below hb)
      replace B := Lib.hid (B.out.trans (hb.mono B.out.size))
      clear hb hsz
      have I_u := Lib.hid (Ints.of_own ho)
      have I_v := Lib.hid (Ints.of_own ho2)
      clear ho ho2 hv hv2
      rw [← H_u.out, ← H_v.out] at DF2
      have u_2 : u.length ≤ 28 := by have := DF2.out.1.2.2; omega
      have v_2 : v.length ≤ 8 := by have := DF2.out.2.2.2; omega
      have l1 : ((q.length : Int) == (xs.length : Int)) = true := by rw [DF.out.1.2.2]; simp
      have l2 : ((r.length : Int) == (ys.length : Int)) = true := by rw [DF.out.2.2.2]; simp
      go_wp2_with fail
      refine (iValueOf b0 xs.length c0 xs _ I_xs.out).mono ?_
      rintro e w' ⟨h0, rfl⟩
      obtain ⟨va, hv⟩ : ∃ r_, r_ = Tm.value xs := ⟨_, rfl⟩
      rw [← hv] at h0
      subst h0
      have H_va : Hid (va = Tm.value xs) := Lib.hid hv
      have bd : -1743392200 ≤ va ∧ va ≤ 1743392200 := by rw [hv, Tm.value_eq W_xs.out]; exact Tm.val_bd_len W_xs.out 20 (by omega)
      obtain ⟨va_0, va_1⟩ := bd
      clear hv
      go_wp2_with fail
      refine (iValueOf b3 q.length c3 q _ I_q.out).mono ?_
      rintro e w' ⟨h0, rfl⟩
      obtain ⟨vq, hv⟩ : ∃ r_, r_ = Tm.value q := ⟨_, rfl⟩
      rw [← hv] at h0
      subst h0
      have H_vq : Hid (vq = Tm.value q) := Lib.hid hv
      have bd : -1743392200 ≤ vq ∧ vq ≤ 1743392200 := by rw [hv, Tm.value_eq DF.out.1.1]; exact Tm.val_bd_len DF.out.1.1 20 (by omega)
      obtain ⟨vq_0, vq_1⟩ := bd
      clear hv
      have SP : Hid (Tm.IsDiv va n vq x) := Lib.hid (by
        rw [H_va.out, NV.out, H_vq.out, H_x.out, Tm.value_eq W_xs.out, Tm.value_eq DF.out.1.1, Tm.value_eq DF.out.2.1, DF.out.1.2.1, DF.out.2.2.1]
        exact Tm.quo_spec _ (by rw [← NV.out]; exact H0.out))
      have e1 := SP.out.1
      have e2 : (va == vq * n + x) = true := by simpa using e1
      have e3 : -2000000000 ≤ vq * n := by omega
      have e4 : vq * n ≤ 2000000000 := by omega
      clear e1
      have AB : Hid (Tm.absI n ≤ 3280) := Lib.hid (by have := Tm.absI_abs n; omega)
      go_wp2_with fail
      refine (abs_any n _ (by omega) (by omega)).mono ?_
      rintro e w' ⟨h0, rfl⟩
      obtain ⟨d, hv⟩ : ∃ r_, r_ = Tm.absI n := ⟨_, rfl⟩
      rw [← hv] at h0
      subst h0
      have H_d : Hid (d = Tm.absI n) := Lib.hid hv
      have bd : 0 ≤ d ∧ d ≤ 3280 := by rw [hv]; exact ⟨(Tm.absI_abs _).2, AB.out⟩
      obtain ⟨d_0, d_1⟩ := bd
      clear hv
      have e5 : -d < 2 * x := by rw [H_d.out]; exact SP.out.2.1
      have e6 : 2 * x ≤ d := by rw [H_d.out]; exact SP.out.2.2
      clear e2 e3 e4
      go_wp2_with fail
      refine (abs_any n _ (by omega) (by omega)).mono ?_
      rintro e w' ⟨rfl, rfl⟩
      rw [← H_d.out]
      have QM := Lib.hid (Tm.quo_mul va H0.out)
      go_wp2_with fail
      refine (iValueOf b5 u.length c5 u _ I_u.out).mono ?_
      rintro e w' ⟨h0, rfl⟩
      obtain ⟨vu, hv⟩ : ∃ r_, r_ = Tm.value u := ⟨_, rfl⟩
      rw [← hv] at h0
      subst h0
      have H_vu : Hid (vu = Tm.value u) := Lib.hid hv
      clear hv
      have g1 : vu = va := by rw [H_vu.out, Tm.value_eq DF2.out.1.1, DF2.out.1.2.1, MF.out.2.1, ← NV.out, ← Tm.value_eq W_xs.out, ← H_va.out]; exact QM.out.1
      clear H_vu
      subst g1
      go_wp2_with fail
      refine (iValueOf b0 xs.length c0 xs _ I_xs.out).mono ?_
      rintro e w' ⟨rfl, rfl⟩
      rw [← H_va.out]
      go_wp2_with fail
      refine (iValueOf bb5 v.length cc5 v _ I_v.out).mono ?_
      rintro e w' ⟨h0, rfl⟩
      obtain ⟨vv, hv⟩ : ∃ r_, r_ = Tm.value v := ⟨_, rfl⟩
      rw [← hv] at h0
      subst h0
      have H_vv : Hid (vv = Tm.value v) := Lib.hid hv
      clear hv
      have g2 : vv = 0 := by rw [H_vv.out, Tm.value_eq DF2.out.2.1, DF2.out.2.2.1, MF.out.2.1, ← NV.out, ← Tm.value_eq W_xs.out, ← H_va.out]; exact QM.out.2
      clear H_vv
      subst g2
      go_wp2
      go_ret
      exact ⟨rfl, B.out⟩
  · go_enter Try.func4, Try.ntmps4
    go_wp2
    go_ret
    exact ⟨rfl, B.out⟩
end Go.Proofs.Ytgfgndfklonhfaa

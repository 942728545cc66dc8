/- Walks of laws: FnProducts. -/
import Derived.Test.YtgfgndfklonhfaaPI
import Derived.Test.YtgfgndfklonhfaaPMath
import Derived.Test.YtgfgndfklonhfaaOwn2
import Derived.Test.YtgfgndfklonhfaaAI11
import Derived.Test.YtgfgndfklonhfaaWI4
import Derived.Test.YtgfgndfklonhfaaWI3
import Derived.Test.YtgfgndfklonhfaaWI2
import Derived.Test.YtgfgndfklonhfaaLaw2
import Derived.Test.YtgfgndfklonhfaaLaw
import Derived.Test.YtgfgndfklonhfaaLAm
namespace Go.Proofs.Ytgfgndfklonhfaa
set_option maxRecDepth 20000
open Go.RowKit
namespace Tm
theorem sgn_bd (x : Int) : -1 ≤ sgn x ∧ sgn x ≤ 1 := by unfold sgn; split <;> (try split) <;> omega
theorem sgn_sign (x : Int) : sgn x = x.sign := by
  unfold sgn
  rcases Int.lt_trichotomy x 0 with h | h | h
  · rw [Int.sign_eq_neg_one_of_neg h]; repeat' split
    all_goals omega
  · subst h; rfl
  · rw [Int.sign_eq_one_of_pos h]; repeat' split
    all_goals omega
theorem sgn_mul (a b : Int) : sgn (a * b) = sgn a * sgn b := by rw [sgn_sign, sgn_sign, sgn_sign, Int.sign_mul]
end Tm
set_option maxRecDepth 20000 in
set_option maxHeartbeats 4000000 in
theorem wFnProducts (a0 : Option Addr) (len0 cap0 : Nat) (z0 : List Int) (w : World) (w0 : IsRow .u8 w a0 len0 cap0 z0) : Calls Try.prog 3 #[.slice a0 len0 cap0] w fun e w' => e = .returned (.bool true) ∧ Below w.heap.size w w' := by
  have BY := Lib.hid (Byts.of_row w0)
  have m0 : len0 ≤ 9223372036854775807 := by obtain ⟨h1, h2, _⟩ := BY.out; unfold maxLen at h2; omega
  clear w0
  have B := Lib.hid (Below.refl w.heap.size w)
  by_cases g0 : len0 ≤ 1048576
  · skip
    go_enter Try.func3, Try.ntmps3
    go_wp2_with fail
    refine (makeWord_any a0 len0 cap0 15 _ BY.out (by omega) (by omega) (by omega)).mono ?_
    rintro e w0 ⟨xs, b0, c0, rfl, hw, hp, ho, hb⟩
    have hsz := hb.size
    replace BY := Lib.hid (BY.out.below hb)
    replace B := Lib.hid (B.out.trans (hb.mono B.out.size))
    clear hb hsz
    have I_xs := Lib.hid (Ints.of_own ho)
    clear ho
    have W_xs := Lib.hid hw
    have xs_1 := Tm.isW_pos hw
    have xs_2 : xs.length ≤ 15 := by omega
    clear hw hp
    go_wp2_with fail
    refine (fresh_any a0 len0 cap0 3 _ BY.out (by omega) (by omega) (by omega)).mono ?_
    rintro e w1 ⟨a9, len9, cap9, rfl, m9, by9, hb⟩
    have BZ := Lib.hid by9
    clear by9
    have hsz := hb.size
    replace I_xs := Lib.hid (I_xs.out.below hb)
    replace BY := Lib.hid (BY.out.below hb)
    replace B := Lib.hid (B.out.trans (hb.mono B.out.size))
    clear hb hsz
    go_wp2_with fail
    refine (makeWord_any a9 len9 cap9 15 _ BZ.out (by omega) (by omega) (by omega)).mono ?_
    rintro e w2 ⟨ys, b2, c2, rfl, hw, hp, ho, hb⟩
    clear BZ
    have hsz := hb.size
    replace I_xs := Lib.hid (I_xs.out.below hb)
    replace BY := Lib.hid (BY.out.below hb)
    replace B := Lib.hid (B.out.trans (hb.mono B.out.size))
    clear hb hsz
    have I_ys := Lib.hid (Ints.of_own ho)
    clear ho
    have W_ys := Lib.hid hw
    have ys_1 := Tm.isW_pos hw
    have ys_2 : ys.length ≤ 15 := by omega
    clear hw hp
    have MO : Hid (Tm.mulOk xs ys = true) := Lib.hid ((Tm.mulOk_iff _ _).2 ⟨W_xs.out, W_ys.out, by omega⟩)
    have MO2 : Hid (Tm.mulOk ys xs = true) := Lib.hid ((Tm.mulOk_iff _ _).2 ⟨W_ys.out, W_xs.out, by omega⟩)
    go_wp2_with fail
    have hok := MO.out
    refine (retIB_ex (iMultiplyWords b0 xs.length c0 xs b2 ys.length c2 ys _ I_xs.out I_ys.out) hok).mono ?_
    clear hok
    rintro e w3 ⟨p, b3, c3, hv, rfl, ho, hb, ln3⟩
    have H_p : Hid (p = Tm.mulW xs ys) := Lib.hid hv
    have hsz := hb.size
    replace I_xs := Lib.hid (I_xs.out.below hb)
    replace I_ys := Lib.hid (I_ys.out.below hb)
    replace BY := Lib.hid (BY.out.below hb)
    replace B := Lib.hid (B.out.trans (hb.mono B.out.size))
    clear hb hsz
    have I_p := Lib.hid (Ints.of_own ho)
    clear ho hv
    go_wp2_with fail
    have hok := MO2.out
    refine (retIB_ex (iMultiplyWords b2 ys.length c2 ys b0 xs.length c0 xs _ I_ys.out I_xs.out) hok).mono ?_
    clear hok
    rintro e w4 ⟨q, b4, c4, hv, rfl, ho, hb, ln4⟩
    have H_q : Hid (q = Tm.mulW ys xs) := Lib.hid hv
    have hsz := hb.size
    replace I_xs := Lib.hid (I_xs.out.below hb)
    replace I_ys := Lib.hid (I_ys.out.below hb)
    replace I_p := Lib.hid (I_p.out.below hb)
    replace BY := Lib.hid (BY.out.below hb)
    replace B := Lib.hid (B.out.trans (hb.mono B.out.size))
    clear hb hsz
    have I_q := Lib.hid (Ints.of_own ho)
    clear ho hv
    have MF := Lib.hid (Tm.mul_facts MO.out)
    rw [← H_p.out] at MF
    have PQ : Hid (p = q) := Lib.hid (by rw [H_p.out, H_q.out]; exact Tm.mulW_swap _ _)
    have pl := MF.out.2.2
    have p_1 : 1 ≤ p.length := by omega
    have p_2 : p.length ≤ 30 := by omega
    clear pl
    go_wp2_with fail
    have hok := MO.out
    refine (retLB_ex (iPartialsOf b0 xs.length c0 xs b2 ys.length c2 ys _ I_xs.out I_ys.out) hok).mono ?_
    clear hok
    rintro e w5 ⟨ps, b5, c5, hv, rfl, hr, hb⟩
    have H_ps : Hid (ps = Tm.parts xs ys) := Lib.hid hv
    have hsz := hb.size
    replace I_xs := Lib.hid (I_xs.out.below hb)
    replace I_ys := Lib.hid (I_ys.out.below hb)
    replace I_p := Lib.hid (I_p.out.below hb)
    replace I_q := Lib.hid (I_q.out.below hb)
    replace BY := Lib.hid (BY.out.below hb)
    replace B := Lib.hid (B.out.trans (hb.mono B.out.size))
    clear hb hsz
    have R_ps := Lib.hid hr
    clear hr hv
    have PF := Lib.hid (Tm.part_facts MO.out)
    have PT := Lib.hid (Tm.part_sum MO.out)
    rw [← H_ps.out] at PF PT
    have f1 : ((p.length : Int) != (xs.length : Int) + (ys.length : Int)) = false := by have := MF.out.2.2; simp; omega
    have f2 : ((ps.length : Int) != (ys.length : Int)) = false := by rw [PF.out.1]; simp
    have pm : ps.length ≤ 15 := by rw [PF.out.1]; exact ys_2
    go_wp2_with fail
    refine (ints_any b3 b4 p.length q.length c3 c4 p q _ I_p.out I_q.out).mono ?_
    rintro e w6 ⟨h0, hb⟩
    rw [decide_eq_true (show p = q from PQ.out)] at h0
    subst h0
    have hsz := hb.size
    replace I_xs := Lib.hid (I_xs.out.below hb)
    replace I_ys := Lib.hid (I_ys.out.below hb)
    replace I_p := Lib.hid (I_p.out.below hb)
    replace I_q := Lib.hid (I_q.out.below hb)
    replace R_ps := Lib.hid (R_ps.out.below hb)
    replace BY := Lib.hid (BY.out.below hb)
    replace B := Lib.hid (B.out.trans (hb.mono B.out.size))
    clear hb hsz
    go_wp2_with fail
    refine (iValueOf b3 p.length c3 p _ I_p.out).mono ?_
    rintro e w' ⟨h0, rfl⟩
    obtain ⟨vp, hv⟩ : ∃ r_, r_ = Tm.value p := ⟨_, rfl⟩
    rw [← hv] at h0
    subst h0
    have H_vp : Hid (vp = Tm.value p) := Lib.hid hv
    have bd : -102945566047324 ≤ vp ∧ vp ≤ 102945566047324 := by rw [hv, Tm.value_eq MF.out.1]; exact Tm.val_bd_len MF.out.1 30 (by omega)
    obtain ⟨vp_0, vp_1⟩ := bd
    clear hv
    go_wp2_with fail
    refine (iValueOf b0 xs.length c0 xs _ I_xs.out).mono ?_
    rintro e w' ⟨h0, rfl⟩
    obtain ⟨va, hv⟩ : ∃ r_, r_ = Tm.value xs := ⟨_, rfl⟩
    rw [← hv] at h0
    subst h0
    have H_va : Hid (va = Tm.value xs) := Lib.hid hv
    have bd : -7174453 ≤ va ∧ va ≤ 7174453 := by rw [hv, Tm.value_eq W_xs.out]; exact Tm.val_bd_len W_xs.out 15 (by omega)
    obtain ⟨va_0, va_1⟩ := bd
    clear hv
    go_wp2_with fail
    refine (iValueOf b2 ys.length c2 ys _ I_ys.out).mono ?_
    rintro e w' ⟨h0, rfl⟩
    obtain ⟨vb, hv⟩ : ∃ r_, r_ = Tm.value ys := ⟨_, rfl⟩
    rw [← hv] at h0
    subst h0
    have H_vb : Hid (vb = Tm.value ys) := Lib.hid hv
    have bd : -7174453 ≤ vb ∧ vb ≤ 7174453 := by rw [hv, Tm.value_eq W_ys.out]; exact Tm.val_bd_len W_ys.out 15 (by omega)
    obtain ⟨vb_0, vb_1⟩ := bd
    clear hv
    have e1 : vp = va * vb := by rw [H_vp.out, H_va.out, H_vb.out, Tm.value_eq MF.out.1, Tm.value_eq W_xs.out, Tm.value_eq W_ys.out]; exact MF.out.2.1
    have E1 := Lib.hid e1
    have e2 : (vp != va * vb) = false := by rw [e1]; simp
    have e3 : -102945566047324 ≤ va * vb := by omega
    have e4 : va * vb ≤ 102945566047324 := by omega
    clear e1
    go_wp2_with fail
    have hok := PT.out.1
    refine (retINB_ex (iTreeSum b5 ps.length c5 ps _ R_ps.out) hok).mono ?_
    clear hok
    rintro e w7 ⟨s, t, b7, c7, hv, hv2, rfl, ho, hb, ln7⟩
    have H_s : Hid (s = Tm.tree ps) := Lib.hid hv
    have H_t : Hid (t = Tm.treeN ps) := Lib.hid hv2
    have hsz := hb.size
    replace I_xs := Lib.hid (I_xs.out.below hb)
    replace I_ys := Lib.hid (I_ys.out.below hb)
    replace I_p := Lib.hid (I_p.out.below hb)
    replace I_q := Lib.hid (I_q.out.below hb)
    replace R_ps := Lib.hid (R_ps.out.below hb)
    replace BY := Lib.hid (BY.out.below hb)
    replace B := Lib.hid (B.out.trans (hb.mono B.out.size))
    clear hb hsz
    have I_s := Lib.hid (Ints.of_own ho)
    clear ho hv hv2
    have SP : Hid (s = p) := Lib.hid (by rw [H_s.out, H_p.out]; exact PT.out.2)
    clear e2 e3 e4 f1 f2
    go_wp2_with fail
    refine (retI_ex (iNegateWord b0 xs.length c0 xs _ I_xs.out)).mono ?_
    rintro e w8 ⟨nx, b8, c8, hv, rfl, ho, hb, ln8⟩
    have H_nx : Hid (nx = Tm.negW xs) := Lib.hid hv
    have hsz := hb.size
    replace I_xs := Lib.hid (I_xs.out.below hb)
    replace I_ys := Lib.hid (I_ys.out.below hb)
    replace I_p := Lib.hid (I_p.out.below hb)
    replace I_q := Lib.hid (I_q.out.below hb)
    replace I_s := Lib.hid (I_s.out.below hb)
    replace R_ps := Lib.hid (R_ps.out.below hb)
    replace BY := Lib.hid (BY.out.below hb)
    replace B := Lib.hid (B.out.trans (hb.mono B.out.size))
    clear hb hsz
    have I_nx := Lib.hid (Ints.of_own ho)
    clear ho hv
    have MO3 : Hid (Tm.mulOk nx ys = true) := Lib.hid (by rw [H_nx.out]; exact Tm.mulOk_neg _ _ MO.out)
    go_wp2_with fail
    have hok := MO3.out
    refine (retIB_ex (iMultiplyWords b8 nx.length c8 nx b2 ys.length c2 ys _ I_nx.out I_ys.out) hok).mono ?_
    clear hok
    rintro e w9 ⟨ng, b9, c9, hv, rfl, ho, hb, ln9⟩
    have H_ng : Hid (ng = Tm.mulW nx ys) := Lib.hid hv
    have hsz := hb.size
    replace I_xs := Lib.hid (I_xs.out.below hb)
    replace I_ys := Lib.hid (I_ys.out.below hb)
    replace I_p := Lib.hid (I_p.out.below hb)
    replace I_q := Lib.hid (I_q.out.below hb)
    replace I_s := Lib.hid (I_s.out.below hb)
    replace I_nx := Lib.hid (I_nx.out.below hb)
    replace R_ps := Lib.hid (R_ps.out.below hb)
    replace BY := Lib.hid (BY.out.below hb)
    replace B := Lib.hid (B.out.trans (hb.mono B.out.size))
    clear hb hsz
    have I_ng := Lib.hid (Ints.of_own ho)
    clear ho hv
    go_wp2_with fail
    refine (at_any a0 len0 cap0 1 _ BY.out (by omega) (by omega) (by omega)).mono ?_
    rintro e w' ⟨x, rfl, x_0, x_1, rfl⟩
    have p0 : ((p.length : Int) == 0) = false := by simp; intro e; rw [e] at p_1; simp at p_1
    obtain ⟨k, hk⟩ : ∃ k : Nat, x.tmod (p.length : Int) = (k : Int) := ⟨_, (Int.toNat_of_nonneg (Int.tmod_nonneg _ x_0)).symm⟩
    have k_1 : k < p.length := by have := Int.tmod_lt_of_pos x (show 0 < (p.length : Int) by omega); omega
    have CO : Hid (Tm.cutOk xs ys k = true) := Lib.hid (by rw [Tm.cutOk, MO.out]; have := MF.out.2.2; simp; omega)
    go_wp2_with fail
    have hok := CO.out
    refine (retIB_ex (iCutProduct b0 xs.length c0 xs b2 ys.length c2 ys (k : Int) _ I_xs.out I_ys.out) hok).mono ?_
    clear hok
    rintro e w10 ⟨ct, b10, c10, hv, rfl, ho, hb, ln10⟩
    have H_ct : Hid (ct = Tm.cutW xs ys k) := Lib.hid hv
    have hsz := hb.size
    replace I_xs := Lib.hid (I_xs.out.below hb)
    replace I_ys := Lib.hid (I_ys.out.below hb)
    replace I_p := Lib.hid (I_p.out.below hb)
    replace I_q := Lib.hid (I_q.out.below hb)
    replace I_s := Lib.hid (I_s.out.below hb)
    replace I_nx := Lib.hid (I_nx.out.below hb)
    replace I_ng := Lib.hid (I_ng.out.below hb)
    replace R_ps := Lib.hid (R_ps.out.below hb)
    replace BY := Lib.hid (BY.out.below hb)
    replace B := Lib.hid (B.out.trans (hb.mono B.out.size))
    clear hb hsz
    have I_ct := Lib.hid (Ints.of_own ho)
    clear ho hv
    have CE : Hid (ct = p.drop k) := Lib.hid (by rw [H_ct.out, Tm.cutW, if_pos CO.out, ← H_p.out, Int.toNat_natCast])
    have CW : Hid (Tm.isW ct = true) := Lib.hid (by rw [CE.out]; exact Tm.isW_mk (Tm.trits_drop (Tm.isW_trits MF.out.1) k) (by simp; omega) (by simp; omega))
    have CL : Hid (ct.length = p.length - k) := Lib.hid (by rw [CE.out]; simp)
    have ct_2 : ct.length ≤ 30 := by have := CL.out; omega
    go_wp2_with fail
    refine (ints_any b7 b3 s.length p.length c7 c3 s p _ I_s.out I_p.out).mono ?_
    rintro e w11 ⟨h0, hb⟩
    rw [decide_eq_true (show s = p from SP.out)] at h0
    subst h0
    have hsz := hb.size
    replace I_xs := Lib.hid (I_xs.out.below hb)
    replace I_ys := Lib.hid (I_ys.out.below hb)
    replace I_p := Lib.hid (I_p.out.below hb)
    replace I_q := Lib.hid (I_q.out.below hb)
    replace I_s := Lib.hid (I_s.out.below hb)
    replace I_nx := Lib.hid (I_nx.out.below hb)
    replace I_ng := Lib.hid (I_ng.out.below hb)
    replace I_ct := Lib.hid (I_ct.out.below hb)
    replace R_ps := Lib.hid (R_ps.out.below hb)
    replace BY := Lib.hid (BY.out.below hb)
    replace B := Lib.hid (B.out.trans (hb.mono B.out.size))
    clear hb hsz
    go_wp2_with fail
    refine (retI_ex (iNegateWord b3 p.length c3 p _ I_p.out)).mono ?_
    rintro e w12 ⟨np, b12, c12, hv, rfl, ho, hb, ln12⟩
    have H_np : Hid (np = Tm.negW p) := Lib.hid hv
    have hsz := hb.size
    replace I_xs := Lib.hid (I_xs.out.below hb)
    replace I_ys := Lib.hid (I_ys.out.below hb)
    replace I_p := Lib.hid (I_p.out.below hb)
    replace I_q := Lib.hid (I_q.out.below hb)
    replace I_s := Lib.hid (I_s.out.below hb)
    replace I_nx := Lib.hid (I_nx.out.below hb)
    replace I_ng := Lib.hid (I_ng.out.below hb)
    replace I_ct := Lib.hid (I_ct.out.below hb)
    replace R_ps := Lib.hid (R_ps.out.below hb)
    replace BY := Lib.hid (BY.out.below hb)
    replace B := Lib.hid (B.out.trans (hb.mono B.out.size))
    clear hb hsz
    have I_np := Lib.hid (Ints.of_own ho)
    clear ho hv
    have NP : Hid (ng = np) := Lib.hid (by rw [H_ng.out, H_np.out, H_nx.out, H_p.out]; exact Tm.mulW_neg MO.out)
    go_wp2_with fail
    refine (ints_any b9 b12 ng.length np.length c9 c12 ng np _ I_ng.out I_np.out).mono ?_
    rintro e w13 ⟨h0, hb⟩
    rw [decide_eq_true (show ng = np from NP.out)] at h0
    subst h0
    have hsz := hb.size
    replace I_xs := Lib.hid (I_xs.out.below hb)
    replace I_ys := Lib.hid (I_ys.out.below hb)
    replace I_p := Lib.hid (I_p.out.below hb)
    replace I_q := Lib.hid (I_q.out.below hb)
    replace I_s := Lib.hid (I_s.out.below hb)
    replace I_nx := Lib.hid (I_nx.out.below hb)
    replace I_ng := Lib.hid (I_ng.out.below hb)
    replace I_ct := Lib.hid (I_ct.out.below hb)
    replace I_np := Lib.hid (I_np.out.below hb)
    replace R_ps := Lib.hid (R_ps.out.below hb)
    replace BY := Lib.hid (BY.out.below hb)
    replace B := Lib.hid (B.out.trans (hb.mono B.out.size))
    clear hb hsz
    go_wp2_with fail
    refine (iSignWord b3 p.length c3 p _ I_p.out).mono ?_
    rintro e w' ⟨h0, rfl⟩
    obtain ⟨gp, hv⟩ : ∃ r_, r_ = Tm.sgn (Tm.value p) := ⟨_, rfl⟩
    rw [← hv] at h0
    subst h0
    have H_gp : Hid (gp = Tm.sgn (Tm.value p)) := Lib.hid hv
    have bd : -1 ≤ gp ∧ gp ≤ 1 := by rw [hv]; exact Tm.sgn_bd _
    obtain ⟨gp_0, gp_1⟩ := bd
    clear hv
    go_wp2_with fail
    refine (iSignWord b0 xs.length c0 xs _ I_xs.out).mono ?_
    rintro e w' ⟨h0, rfl⟩
    obtain ⟨ga, hv⟩ : ∃ r_, r_ = Tm.sgn (Tm.value xs) := ⟨_, rfl⟩
    rw [← hv] at h0
    subst h0
    have H_ga : Hid (ga = Tm.sgn (Tm.value xs)) := Lib.hid hv
    have bd : -1 ≤ ga ∧ ga ≤ 1 := by rw [hv]; exact Tm.sgn_bd _
    obtain ⟨ga_0, ga_1⟩ := bd
    clear hv
    go_wp2_with fail
    refine (iSignWord b2 ys.length c2 ys _ I_ys.out).mono ?_
    rintro e w' ⟨h0, rfl⟩
    obtain ⟨gb, hv⟩ : ∃ r_, r_ = Tm.sgn (Tm.value ys) := ⟨_, rfl⟩
    rw [← hv] at h0
    subst h0
    have H_gb : Hid (gb = Tm.sgn (Tm.value ys)) := Lib.hid hv
    have bd : -1 ≤ gb ∧ gb ≤ 1 := by rw [hv]; exact Tm.sgn_bd _
    obtain ⟨gb_0, gb_1⟩ := bd
    clear hv
    have g1 : gp = ga * gb := by rw [H_gp.out, H_ga.out, H_gb.out, ← H_vp.out, ← H_va.out, ← H_vb.out, E1.out]; exact Tm.sgn_mul _ _
    have g2 : (gp == ga * gb) = true := by simpa using g1
    have g3 : -1 ≤ ga * gb := by omega
    have g4 : ga * gb ≤ 1 := by omega
    clear g1
    have l1 : ((ct.length : Int) == (p.length : Int) - (k : Int)) = true := by have := CL.out; simp; omega
    go_wp2_with fail
    refine (iValueOf b3 p.length c3 p _ I_p.out).mono ?_
    rintro e w' ⟨rfl, rfl⟩
    rw [← H_vp.out]
    go_wp2_with fail
    refine (iValueOf b10 ct.length c10 ct _ I_ct.out).mono ?_
    rintro e w' ⟨h0, rfl⟩
    obtain ⟨vc, hv⟩ : ∃ r_, r_ = Tm.value ct := ⟨_, rfl⟩
    rw [← hv] at h0
    subst h0
    have H_vc : Hid (vc = Tm.value ct) := Lib.hid hv
    have bd : -102945566047324 ≤ vc ∧ vc ≤ 102945566047324 := by rw [hv, Tm.value_eq CW.out]; exact Tm.val_bd_len CW.out 30 (by omega)
    obtain ⟨vc_0, vc_1⟩ := bd
    clear hv
    go_wp2_with fail
    refine (makePower k _ (by omega)).mono ?_
    rintro e w' ⟨h0, rfl⟩
    obtain ⟨pw, hv⟩ : ∃ r_, r_ = Tm.pow3 k := ⟨_, rfl⟩
    rw [← hv] at h0
    subst h0
    have H_pw : Hid (pw = Tm.pow3 k) := Lib.hid hv
    have bd : 1 ≤ pw ∧ pw ≤ 205891132094649 := by rw [hv]; exact ⟨Tm.pow3_pos k, Tm.pow3_le (b := 30) (by omega)⟩
    obtain ⟨pw_0, pw_1⟩ := bd
    clear hv
    have nr : 2 * Tm.absI (vp - vc * pw) < pw := by
      rw [H_vp.out, H_vc.out, H_pw.out, Tm.value_eq MF.out.1, Tm.value_eq CW.out, CE.out]
      exact Tm.drop_near MF.out.1 (by omega)
    have na := Tm.absI_abs (vp - vc * pw)
    have n1 : -400000000000000 ≤ vc * pw := by omega
    have n2 : vc * pw ≤ 400000000000000 := by omega
    have n3 : Tm.absI (vp - vc * pw) ≤ 205891132094649 := by omega
    have NR := Lib.hid nr
    have N3 := Lib.hid n3
    clear nr na n3
    go_wp2_with fail
    refine (abs_any (vp - vc * pw) _ (by omega) (by omega)).mono ?_
    rintro e w' ⟨h0, rfl⟩
    obtain ⟨d, hv⟩ : ∃ r_, r_ = Tm.absI (vp - vc * pw) := ⟨_, rfl⟩
    rw [← hv] at h0
    subst h0
    have H_d : Hid (d = Tm.absI (vp - vc * pw)) := Lib.hid hv
    have bd : 0 ≤ d ∧ d ≤ 205891132094649 := by rw [hv]; exact ⟨(Tm.absI_abs _).2, N3.out⟩
    obtain ⟨d_0, d_1⟩ := bd
    clear hv
    have e9 : 2 * d < pw := by rw [H_d.out]; exact NR.out
    go_wp2_with fail
    refine (makePower k _ (by omega)).mono ?_
    rintro e w' ⟨rfl, rfl⟩
    rw [← H_pw.out]
    go_wp2
    go_ret
    exact ⟨rfl, B.out⟩
  · go_enter Try.func3, Try.ntmps3
    go_wp2
    go_ret
    exact ⟨rfl, B.out⟩
end Go.Proofs.Ytgfgndfklonhfaa

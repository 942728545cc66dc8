/- Walks of laws: FnRoots. -/
import Derived.Test.YtgfgndfklonhfaaPI
import Derived.Test.YtgfgndfklonhfaaPMath
import Derived.Test.YtgfgndfklonhfaaOwn2
import Derived.Test.YtgfgndfklonhfaaWI4
import Derived.Test.YtgfgndfklonhfaaWI3
import Derived.Test.YtgfgndfklonhfaaWI2
import Derived.Test.YtgfgndfklonhfaaLaw2
import Derived.Test.YtgfgndfklonhfaaLaw
import Derived.Test.YtgfgndfklonhfaaLAm
namespace Go.Proofs.Ytgfgndfklonhfaa
set_option maxRecDepth 20000
open Go.RowKit
namespace Tm
theorem sq_pos (x : Int) : 0 ≤ x * x := by rcases Int.le_total 0 x with h | h; exact Int.mul_nonneg h h; exact Int.mul_nonneg_of_nonpos_of_nonpos h h
theorem abs_sq (x : Int) : absI x * absI x = x * x := by
  rcases (absI_abs x).1 with h | h
  · rw [h]
  · rw [h, Int.neg_mul_neg]
end Tm
set_option maxRecDepth 20000 in
set_option maxHeartbeats 4000000 in
theorem wFnRoots (a0 : Option Addr) (len0 cap0 : Nat) (z0 : List Int) (w : World) (w0 : IsRow .u8 w a0 len0 cap0 z0) : Calls Try.prog 5 #[.slice a0 len0 cap0] w fun e w' => e = .returned (.bool true) ∧ Below w.heap.size w w' := by
  have BY := Lib.hid (Byts.of_row w0)
  have m0 : len0 ≤ 9223372036854775807 := by obtain ⟨h1, h2, _⟩ := BY.out; unfold maxLen at h2; omega
  clear w0
  have B := Lib.hid (Below.refl w.heap.size w)
  by_cases g0 : len0 ≤ 1048576
  · skip
    go_enter Try.func5, Try.ntmps5
    go_wp2_with fail
    refine (makeWord_any a0 len0 cap0 30 _ BY.out (by omega) (by omega) (by omega)).mono ?_
    rintro e w0 ⟨xs, b0, c0, rfl, hw, hp, ho, hb⟩
    have hsz := hb.size
    replace BY := Lib.hid (BY.out.below hb)
    replace B := Lib.hid (B.out.trans (hb.mono B.out.size))
    clear hb hsz
    have I_xs := Lib.hid (Ints.of_own ho)
    clear ho
    have W_xs := Lib.hid hw
    have xs_1 := Tm.isW_pos hw
    have xs_2 : xs.length ≤ 30 := by omega
    clear hw hp
    obtain ⟨n, hn⟩ : ∃ n, n = Tm.val xs := ⟨_, rfl⟩
    have NV := Lib.hid hn
    have VN : Hid (Tm.value xs = n) := Lib.hid (by rw [hn, Tm.value_eq W_xs.out])
    have nb : -102945566047324 ≤ n ∧ n ≤ 102945566047324 := by rw [hn]; exact Tm.val_bd_len W_xs.out 30 (by omega)
    obtain ⟨n_0, n_1⟩ := nb
    clear hn
    by_cases h0 : 0 ≤ n
    · skip
      have RO : Hid (Tm.rootOk xs = true) := Lib.hid ((Tm.rootOk_iff _).2 ⟨W_xs.out, by rw [← NV.out]; exact h0⟩)
      have RF := Lib.hid (Tm.root_facts RO.out)
      go_wp2_with fail
      have hok := RO.out
      refine (ret2B_ex (iRootWord b0 xs.length c0 xs _ I_xs.out) hok).mono ?_
      clear hok
      rintro e w1 ⟨r, t, b1, c1, bb1, cc1, hv, hv2, rfl, ho, ho2, hb, ln1, lm1⟩
      have H_r : Hid (r = Tm.rootW xs) := Lib.hid hv
      have H_t : Hid (t = Tm.rootT xs) := Lib.hid hv2
      have hsz := hb.size
      replace I_xs := Lib.hid (I_xs.out.below hb)
      replace BY := Lib.hid (BY.out.below hb)
      replace B := Lib.hid (B.out.trans (hb.mono B.out.size))
      clear hb hsz
      have I_r := Lib.hid (Ints.of_own ho)
      have I_t := Lib.hid (Ints.of_own ho2)
      clear ho ho2 hv hv2
      rw [← H_r.out, ← H_t.out] at RF
      have r_2 : r.length ≤ 30 := by have := RF.out.1.2.2; omega
      have t_2 : t.length ≤ 30 := by have := RF.out.2.1.2.2; omega
      go_wp2_with fail
      refine (iValueOf b0 xs.length c0 xs _ I_xs.out).mono ?_
      rintro e w' ⟨rfl, rfl⟩
      rw [VN.out]
      go_wp2_with fail
      refine (fresh_any a0 len0 cap0 3 _ BY.out (by omega) (by omega) (by omega)).mono ?_
      rintro e w2 ⟨a9, len9, cap9, rfl, m9, by9, hb⟩
      have BZ := Lib.hid by9
      clear by9
      have hsz := hb.size
      replace I_xs := Lib.hid (I_xs.out.below hb)
      replace I_r := Lib.hid (I_r.out.below hb)
      replace I_t := Lib.hid (I_t.out.below hb)
      replace BY := Lib.hid (BY.out.below hb)
      replace B := Lib.hid (B.out.trans (hb.mono B.out.size))
      clear hb hsz
      go_wp2_with fail
      refine (makeWord_any a9 len9 cap9 14 _ BZ.out (by omega) (by omega) (by omega)).mono ?_
      rintro e w3 ⟨ys, b3, c3, rfl, hw, hp, ho, hb⟩
      clear BZ
      have hsz := hb.size
      replace I_xs := Lib.hid (I_xs.out.below hb)
      replace I_r := Lib.hid (I_r.out.below hb)
      replace I_t := Lib.hid (I_t.out.below hb)
      replace BY := Lib.hid (BY.out.below hb)
      replace B := Lib.hid (B.out.trans (hb.mono B.out.size))
      clear hb hsz
      have I_ys := Lib.hid (Ints.of_own ho)
      clear ho
      have W_ys := Lib.hid hw
      have ys_1 := Tm.isW_pos hw
      have ys_2 : ys.length ≤ 14 := by omega
      clear hw hp
      have MO : Hid (Tm.mulOk ys ys = true) := Lib.hid ((Tm.mulOk_iff _ _).2 ⟨W_ys.out, W_ys.out, by omega⟩)
      have MF := Lib.hid (Tm.mul_facts MO.out)
      go_wp2_with fail
      have hok := MO.out
      refine (retIB_ex (iMultiplyWords b3 ys.length c3 ys b3 ys.length c3 ys _ I_ys.out I_ys.out) hok).mono ?_
      clear hok
      rintro e w4 ⟨sq, b4, c4, hv, rfl, ho, hb, ln4⟩
      have H_sq : Hid (sq = Tm.mulW ys ys) := Lib.hid hv
      have hsz := hb.size
      replace I_xs := Lib.hid (I_xs.out.below hb)
      replace I_r := Lib.hid (I_r.out.below hb)
      replace I_t := Lib.hid (I_t.out.below hb)
      replace I_ys := Lib.hid (I_ys.out.below hb)
      replace BY := Lib.hid (BY.out.below hb)
      replace B := Lib.hid (B.out.trans (hb.mono B.out.size))
      clear hb hsz
      have I_sq := Lib.hid (Ints.of_own ho)
      clear ho hv
      rw [← H_sq.out] at MF
      have sq_2 : sq.length ≤ 28 := by have := MF.out.2.2; omega
      have RO2 : Hid (Tm.rootOk sq = true) := Lib.hid ((Tm.rootOk_iff _).2 ⟨MF.out.1, by rw [MF.out.2.1]; exact Tm.sq_pos _⟩)
      have RF2 := Lib.hid (Tm.root_facts RO2.out)
      go_wp2_with fail
      have hok := RO2.out
      refine (ret2B_ex (iRootWord b4 sq.length c4 sq _ I_sq.out) hok).mono ?_
      clear hok
      rintro e w5 ⟨s, u, b5, c5, bb5, cc5, hv, hv2, rfl, ho, ho2, hb, ln5, lm5⟩
      have H_s : Hid (s = Tm.rootW sq) := Lib.hid hv
      have H_u : Hid (u = Tm.rootT sq) := Lib.hid hv2
      have hsz := hb.size
      replace I_xs := Lib.hid (I_xs.out.below hb)
      replace I_r := Lib.hid (I_r.out.below hb)
      replace I_t := Lib.hid (I_t.out.below hb)
      replace I_ys := Lib.hid (I_ys.out.below hb)
      replace I_sq := Lib.hid (I_sq.out.below hb)
      replace BY := Lib.hid (BY.out.below hb)
      replace B := Lib.hid (B.out.trans (hb.mono B.out.size))
      clear hb hsz
      have I_s := Lib.hid (Ints.of_own ho)
      have I_u := Lib.hid (Ints.of_own ho2)
      clear ho ho2 hv hv2
      rw [← H_s.out, ← H_u.out] at RF2
      have RS := Lib.hid (Tm.root_square (Tm.val ys))
      rw [← MF.out.2.1] at RS
      go_wp2_with fail
      refine (iValueOf b5 s.length c5 s _ I_s.out).mono ?_
      rintro e w' ⟨h0, rfl⟩
      obtain ⟨vs, hv⟩ : ∃ r_, r_ = Tm.value s := ⟨_, rfl⟩
      rw [← hv] at h0
      subst h0
      have H_vs : Hid (vs = Tm.value s) := Lib.hid hv
      clear hv
      go_wp2_with fail
      refine (iValueOf b3 ys.length c3 ys _ I_ys.out).mono ?_
      rintro e w' ⟨h0, rfl⟩
      obtain ⟨vb, hv⟩ : ∃ r_, r_ = Tm.value ys := ⟨_, rfl⟩
      rw [← hv] at h0
      subst h0
      have H_vb : Hid (vb = Tm.value ys) := Lib.hid hv
      have bd : -2391484 ≤ vb ∧ vb ≤ 2391484 := by rw [hv, Tm.value_eq W_ys.out]; exact Tm.val_bd_len W_ys.out 14 (by omega)
      obtain ⟨vb_0, vb_1⟩ := bd
      clear hv
      go_wp2_with fail
      refine (abs_any vb _ (by omega) (by omega)).mono ?_
      rintro e w' ⟨h0, rfl⟩
      obtain ⟨d, hv⟩ : ∃ r_, r_ = Tm.absI vb := ⟨_, rfl⟩
      rw [← hv] at h0
      subst h0
      have H_d : Hid (d = Tm.absI vb) := Lib.hid hv
      clear hv
      have g1 : vs = d := by rw [H_vs.out, H_d.out, H_vb.out, Tm.value_eq RF2.out.1.1, Tm.value_eq W_ys.out, RF2.out.1.2.1]; exact RS.out
      clear H_vs
      subst g1
      go_wp2_with fail
      refine (iValueOf bb5 u.length cc5 u _ I_u.out).mono ?_
      rintro e w' ⟨h0, rfl⟩
      obtain ⟨vu, hv⟩ : ∃ r_, r_ = Tm.value u := ⟨_, rfl⟩
      rw [← hv] at h0
      subst h0
      have H_vu : Hid (vu = Tm.value u) := Lib.hid hv
      clear hv
      have g2 : vu = 0 := by rw [H_vu.out, Tm.value_eq RF2.out.2.1.1, RF2.out.2.1.2.1, RS.out, MF.out.2.1, Tm.abs_sq]; omega
      clear H_vu
      subst g2
      go_wp2_with fail
      refine (iValueOf b1 r.length c1 r _ I_r.out).mono ?_
      rintro e w' ⟨h0, rfl⟩
      obtain ⟨x, hv⟩ : ∃ r_, r_ = Tm.value r := ⟨_, rfl⟩
      rw [← hv] at h0
      subst h0
      have H_x : Hid (x = Tm.value r) := Lib.hid hv
      have bd : -102945566047324 ≤ x ∧ x ≤ 102945566047324 := by rw [hv, Tm.value_eq RF.out.1.1]; exact Tm.val_bd_len RF.out.1.1 30 (by omega)
      obtain ⟨x_0, x_1⟩ := bd
      clear hv
      go_wp2_with fail
      refine (iValueOf bb1 t.length cc1 t _ I_t.out).mono ?_
      rintro e w' ⟨h0, rfl⟩
      obtain ⟨y, hv⟩ : ∃ r_, r_ = Tm.value t := ⟨_, rfl⟩
      rw [← hv] at h0
      subst h0
      have H_y : Hid (y = Tm.value t) := Lib.hid hv
      have bd : -102945566047324 ≤ y ∧ y ≤ 102945566047324 := by rw [hv, Tm.value_eq RF.out.2.1.1]; exact Tm.val_bd_len RF.out.2.1.1 30 (by omega)
      obtain ⟨y_0, y_1⟩ := bd
      clear hv
      have SP : Hid (Tm.IsRoot n x) := Lib.hid (by rw [H_x.out, NV.out, Tm.value_eq RF.out.1.1, RF.out.1.2.1]; exact RF.out.2.2)
      have y1 : y = n - x * x := by rw [H_y.out, H_x.out, NV.out, Tm.value_eq RF.out.2.1.1, Tm.value_eq RF.out.1.1, RF.out.2.1.2.1, RF.out.1.2.1]
      have rb := Tm.root_bd SP.out
      obtain ⟨r0, r1, -, -, r4, r5⟩ := rb
      have l1 : ((r.length : Int) == (xs.length : Int)) = true := by rw [RF.out.1.2.2]; simp
      have l2 : ((t.length : Int) == (xs.length : Int)) = true := by rw [RF.out.2.1.2.2]; simp
      have s1 : 0 ≤ x * x := Int.mul_nonneg r0 r0
      have e1 : (x * x + y == n) = true := by simp; omega
      have s2 : x * x ≤ 205891132094648 := by omega
      have s3 : y ≤ x := by omega
      have s4 : -x < y ∨ (n = 0 ∧ y = 0 ∧ x = 0) := by
        rcases Int.lt_or_le 0 n with h | h
        · exact .inl (by have := r5 h; omega)
        · have : x = 0 := by omega
          subst this
          exact .inr ⟨by omega, by omega, rfl⟩
      clear y1 r1 r4 r5
      rcases s4 with s4 | ⟨rfl, rfl, rfl⟩
      · skip
        go_wp2
        go_ret
        exact ⟨rfl, B.out⟩
      · skip
        go_wp2
        go_ret
        exact ⟨rfl, B.out⟩
    · skip
      go_wp2_with fail
      have hok := show Tm.rootOk xs = false by simp [Tm.rootOk, ← NV.out]; omega
      refine (ret2B_no (iRootWord b0 xs.length c0 xs _ I_xs.out) hok).mono ?_
      clear hok
      rintro e w1 ⟨v1, u1, rfl, hb⟩
      have hsz := hb.size
      replace I_xs := Lib.hid (I_xs.out.below hb)
      replace BY := Lib.hid (BY.out.below hb)
      replace B := Lib.hid (B.out.trans (hb.mono B.out.size))
      clear hb hsz
      go_wp2_with fail
      refine (iValueOf b0 xs.length c0 xs _ I_xs.out).mono ?_
      rintro e w' ⟨rfl, rfl⟩
      rw [VN.out]
      go_wp2_with fail
      refine (fresh_any a0 len0 cap0 3 _ BY.out (by omega) (by omega) (by omega)).mono ?_
      rintro e w2 ⟨a9, len9, cap9, rfl, m9, by9, hb⟩
      have BZ := Lib.hid by9
      clear by9
      have hsz := hb.size
      replace I_xs := Lib.hid (I_xs.out.below hb)
      replace BY := Lib.hid (BY.out.below hb)
      replace B := Lib.hid (B.out.trans (hb.mono B.out.size))
      clear hb hsz
      go_wp2_with fail
      refine (makeWord_any a9 len9 cap9 14 _ BZ.out (by omega) (by omega) (by omega)).mono ?_
      rintro e w3 ⟨ys, b3, c3, rfl, hw, hp, ho, hb⟩
      clear BZ
      have hsz := hb.size
      replace I_xs := Lib.hid (I_xs.out.below hb)
      replace BY := Lib.hid (BY.out.below hb)
      replace B := Lib.hid (B.out.trans (hb.mono B.out.size))
      clear hb hsz
      have I_ys := Lib.hid (Ints.of_own ho)
      clear ho
      have W_ys := Lib.hid hw
      have ys_1 := Tm.isW_pos hw
      have ys_2 : ys.length ≤ 14 := by omega
      clear hw hp
      have MO : Hid (Tm.mulOk ys ys = true) := Lib.hid ((Tm.mulOk_iff _ _).2 ⟨W_ys.out, W_ys.out, by omega⟩)
      have MF := Lib.hid (Tm.mul_facts MO.out)
      go_wp2_with fail
      have hok := MO.out
      refine (retIB_ex (iMultiplyWords b3 ys.length c3 ys b3 ys.length c3 ys _ I_ys.out I_ys.out) hok).mono ?_
      clear hok
      rintro e w4 ⟨sq, b4, c4, hv, rfl, ho, hb, ln4⟩
      have H_sq : Hid (sq = Tm.mulW ys ys) := Lib.hid hv
      have hsz := hb.size
      replace I_xs := Lib.hid (I_xs.out.below hb)
      replace I_ys := Lib.hid (I_ys.out.below hb)
      replace BY := Lib.hid (BY.out.below hb)
      replace B := Lib.hid (B.out.trans (hb.mono B.out.size))
      clear hb hsz
      have I_sq := Lib.hid (Ints.of_own ho)
      clear ho hv
      rw [← H_sq.out] at MF
      have sq_2 : sq.length ≤ 28 := by have := MF.out.2.2; omega
      have RO2 : Hid (Tm.rootOk sq = true) := Lib.hid ((Tm.rootOk_iff _).2 ⟨MF.out.1, by rw [MF.out.2.1]; exact Tm.sq_pos _⟩)
      have RF2 := Lib.hid (Tm.root_facts RO2.out)
      go_wp2_with fail
      have hok := RO2.out
      refine (ret2B_ex (iRootWord b4 sq.length c4 sq _ I_sq.out) hok).mono ?_
      clear hok
      rintro e w5 ⟨s, u, b5, c5, bb5, cc5, hv, hv2, rfl, ho, ho2, hb, ln5, lm5⟩
      have H_s : Hid (s = Tm.rootW sq) := Lib.hid hv
      have H_u : Hid (u = Tm.rootT sq) := Lib.hid hv2
      have hsz := hb.size
      replace I_xs := Lib.hid (I_xs.out.below hb)
      replace I_ys := Lib.hid (I_ys.out.below hb)
      replace I_sq := Lib.hid (I_sq.out.below hb)
      replace BY := Lib.hid (BY.out.below hb)
      replace B := Lib.hid (B.out.trans (hb.mono B.out.size))
      clear hb hsz
      have I_s := Lib.hid (Ints.of_own ho)
      have I_u := Lib.hid (Ints.of_own ho2)
      clear ho ho2 hv hv2
      rw [← H_s.out, ← H_u.out] at RF2
      have RS := Lib.hid (Tm.root_square (Tm.val ys))
      rw [← MF.out.2.1] at RS
      go_wp2_with fail
      refine (iValueOf b5 s.length c5 s _ I_s.out).mono ?_
      rintro e w' ⟨h0, rfl⟩
      obtain ⟨vs, hv⟩ : ∃ r_, r_ = Tm.value s := ⟨_, rfl⟩
      rw [← hv] at h0
      subst h0
      have H_vs : Hid (vs = Tm.value s) := Lib.hid hv
      clear hv
      go_wp2_with fail
      refine (iValueOf b3 ys.length c3 ys _ I_ys.out).mono ?_
      rintro e w' ⟨h0, rfl⟩
      obtain ⟨vb, hv⟩ : ∃ r_, r_ = Tm.value ys := ⟨_, rfl⟩
      rw [← hv] at h0
      subst h0
      have H_vb : Hid (vb = Tm.value ys) := Lib.hid hv
      have bd : -2391484 ≤ vb ∧ vb ≤ 2391484 := by rw [hv, Tm.value_eq W_ys.out]; exact Tm.val_bd_len W_ys.out 14 (by omega)
      obtain ⟨vb_0, vb_1⟩ := bd
      clear hv
      go_wp2_with fail
      refine (abs_any vb _ (by omega) (by omega)).mono ?_
      rintro e w' ⟨h0, rfl⟩
      obtain ⟨d, hv⟩ : ∃ r_, r_ = Tm.absI vb := ⟨_, rfl⟩
      rw [← hv] at h0
      subst h0
      have H_d : Hid (d = Tm.absI vb) := Lib.hid hv
      clear hv
      have g1 : vs = d := by rw [H_vs.out, H_d.out, H_vb.out, Tm.value_eq RF2.out.1.1, Tm.value_eq W_ys.out, RF2.out.1.2.1]; exact RS.out
      clear H_vs
      subst g1
      go_wp2_with fail
      refine (iValueOf bb5 u.length cc5 u _ I_u.out).mono ?_
      rintro e w' ⟨h0, rfl⟩
      obtain ⟨vu, hv⟩ : ∃ r_, r_ = Tm.value u := ⟨_, rfl⟩
      rw [← hv] at h0
      subst h0
      have H_vu : Hid (vu = Tm.value u) := Lib.hid hv
      clear hv
      have g2 : vu = 0 := by rw [H_vu.out, Tm.value_eq RF2.out.2.1.1, RF2.out.2.1.2.1, RS.out, MF.out.2.1, Tm.abs_sq]; omega
      clear H_vu
      subst g2
      go_wp2
      go_ret
      exact ⟨rfl, B.out⟩
  · go_enter Try.func5, Try.ntmps5
    go_wp2
    go_ret
    exact ⟨rfl, B.out⟩
end Go.Proofs.Ytgfgndfklonhfaa

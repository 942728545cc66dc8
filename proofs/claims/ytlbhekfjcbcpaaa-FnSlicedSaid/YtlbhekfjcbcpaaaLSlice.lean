/- Walks of laws: FnSliced. -/
import Derived.Test.YtlbhekfjcbcpaaaWVal
import Derived.Test.YtlbhekfjcbcpaaaWI4
import Derived.Test.YtlbhekfjcbcpaaaWI3
namespace Go.Proofs.Ytlbhekfjcbcpaaa
set_option maxRecDepth 20000
open Go.RowKit
theorem Tm.slcOk_of {xs : List Int} {f t : Int} (h : Tm.isW xs = true) (h1 : 0 ≤ f) (h2 : t ≤ xs.length) (h3 : f < t) : Tm.slcOk xs f t = true := by simp [Tm.slcOk, h, h1, h2, h3]
theorem wordOk_more {xs : List Int} (h : Tm.isW xs = true) (m : Nat) (hm : xs.length + m ≤ 30) : Tm.wordOk (Tm.val xs) ((xs.length : Int) + m) = true := by
  have l1 := Tm.isW_pos h
  have b := Tm.val_bd_len h (xs.length + m) (by omega)
  have e := Tm.lim_nat (show 1 ≤ xs.length + m by omega) hm
  simp only [Tm.wordOk, decide_eq_true_eq]
  rw [← Int.natCast_add, e]
  omega
set_option maxHeartbeats 4000000 in
theorem wFnSliced (a0 : Option Addr) (len0 cap0 : Nat) (z0 : List Int) (w : World) (w0 : IsRow .u8 w a0 len0 cap0 z0) : Calls Try.prog 6 #[.slice a0 len0 cap0] w fun e w' => e = .returned (.bool true) ∧ Below w.heap.size w w' := by
  have BY := Lib.hid (Byts.of_row w0)
  have m0 : len0 ≤ 9223372036854775807 := by obtain ⟨h1, h2, _⟩ := BY.out; unfold maxLen at h2; omega
  clear w0
  have B := Lib.hid (Below.refl w.heap.size w)
  by_cases g0 : len0 ≤ 1048576
  · skip
    go_enter Try.func6, Try.ntmps6
    go_wp2_with fail
    refine (makeWord_any a0 len0 cap0 24 _ BY.out (by omega) (by omega) (by omega)).mono ?_
    rintro e w0 ⟨xs, b0, c0, rfl, hw, hp, ho, hb⟩
    have hsz := hb.size
    replace BY := Lib.hid (BY.out.below hb)
    replace B := Lib.hid (B.out.trans (hb.mono B.out.size))
    clear hb hsz
    have I_xs := Lib.hid (Ints.of_own ho)
    clear ho
    have l1 := Tm.isW_pos hw
    have W := Lib.hid hw
    clear hw
    by_cases g1 : xs.length < 2
    · go_wp2
      go_ret
      exact ⟨rfl, B.out⟩
    go_wp2_with fail
    refine (at_any a0 len0 cap0 1 _ BY.out (by omega) (by omega) (by omega)).mono ?_
    rintro e w' ⟨x, rfl, x_0, x_1, rfl⟩
    obtain ⟨j, hj⟩ : ∃ j : Nat, x.tmod ((xs.length : Int) - 1) = (j : Int) := ⟨_, (Int.toNat_of_nonneg (Int.tmod_nonneg _ x_0)).symm⟩
    have hjl : j + 1 < xs.length := by have := Int.tmod_lt_of_pos x (show 0 < (xs.length : Int) - 1 by omega); omega
    have lo := Lib.hid (Tm.slcOk_of W.out (show (0 : Int) ≤ 0 by omega) (show 1 + (j : Int) ≤ xs.length by omega) (show (0 : Int) < 1 + (j : Int) by omega))
    have hi := Lib.hid (Tm.slcOk_of W.out (show (0 : Int) ≤ 1 + (j : Int) by omega) (show (xs.length : Int) ≤ xs.length by omega) (show 1 + (j : Int) < xs.length by omega))
    go_wp2_with fail
    have hok := lo.out
    refine (retIB_ex (iSliceWord b0 xs.length c0 xs 0 (1 + (j : Int)) _ I_xs.out) hok).mono ?_
    clear hok
    rintro e w1 ⟨lw, b1, c1, hv, rfl, ho, hb, ln1⟩
    have H_lw : Hid (lw = Tm.slc xs 0 (1 + (j : Int))) := Lib.hid hv
    have hsz := hb.size
    replace I_xs := Lib.hid (I_xs.out.below hb)
    replace BY := Lib.hid (BY.out.below hb)
    replace B := Lib.hid (B.out.trans (hb.mono B.out.size))
    clear hb hsz
    have I_lw := Lib.hid (Ints.of_own ho)
    clear ho hv
    have hlw : lw = xs.take (j + 1) := by rw [H_lw.out, Tm.slc, if_pos lo.out, Tm.part]; simp; rw [show (1 + (j : Int)).toNat = j + 1 by omega]
    have HLW := Lib.hid hlw
    clear hlw
    go_wp2_with fail
    have hok := hi.out
    refine (retIB_ex (iSliceWord b0 xs.length c0 xs (1 + (j : Int)) (xs.length : Int) _ I_xs.out) hok).mono ?_
    clear hok
    rintro e w2 ⟨hg, b2, c2, hv, rfl, ho, hb, ln2⟩
    have H_hg : Hid (hg = Tm.slc xs (1 + (j : Int)) xs.length) := Lib.hid hv
    have hsz := hb.size
    replace I_xs := Lib.hid (I_xs.out.below hb)
    replace I_lw := Lib.hid (I_lw.out.below hb)
    replace BY := Lib.hid (BY.out.below hb)
    replace B := Lib.hid (B.out.trans (hb.mono B.out.size))
    clear hb hsz
    have I_hg := Lib.hid (Ints.of_own ho)
    clear ho hv
    have hhg : hg = xs.drop (j + 1) := by rw [H_hg.out, Tm.slc, if_pos hi.out, Tm.part, show (1 + (j : Int)).toNat = j + 1 by omega, Int.toNat_natCast, List.take_of_length_le (by simp)]
    have HHG := Lib.hid hhg
    clear hhg
    have wl : Tm.isW lw = true := by rw [HLW.out]; exact Tm.isW_mk (Tm.trits_take (Tm.isW_trits W.out) _) (by simp; omega) (by simp; omega)
    have wh : Tm.isW hg = true := by rw [HHG.out]; exact Tm.isW_mk (Tm.trits_drop (Tm.isW_trits W.out) _) (by simp; omega) (by simp; omega)
    have jo : Tm.joinOk lw hg = true := by rw [Tm.joinOk, wl, wh, HLW.out, HHG.out]; simp; omega
    have WL := Lib.hid wl
    have WH := Lib.hid wh
    have JO := Lib.hid jo
    clear wl wh jo
    go_wp2_with fail
    have hok := JO.out
    refine (retIB_ex (iJoinWords b1 lw.length c1 lw b2 hg.length c2 hg _ I_lw.out I_hg.out) hok).mono ?_
    clear hok
    rintro e w3 ⟨al, b3, c3, hv, rfl, ho, hb, ln3⟩
    have H_al : Hid (al = Tm.join lw hg) := Lib.hid hv
    have hsz := hb.size
    replace I_xs := Lib.hid (I_xs.out.below hb)
    replace I_lw := Lib.hid (I_lw.out.below hb)
    replace I_hg := Lib.hid (I_hg.out.below hb)
    replace BY := Lib.hid (BY.out.below hb)
    replace B := Lib.hid (B.out.trans (hb.mono B.out.size))
    clear hb hsz
    have I_al := Lib.hid (Ints.of_own ho)
    clear ho hv
    have hal : al = xs := by rw [H_al.out, Tm.join, if_pos JO.out, HLW.out, HHG.out, List.take_append_drop]
    have HAL := Lib.hid hal
    clear hal
    go_wp2_with fail
    refine (at_any a0 len0 cap0 2 _ BY.out (by omega) (by omega) (by omega)).mono ?_
    rintro e w' ⟨y, rfl, y_0, y_1, rfl⟩
    obtain ⟨m, hm⟩ : ∃ m : Nat, y.tmod 6 = (m : Int) := ⟨_, (Int.toNat_of_nonneg (Int.tmod_nonneg _ y_0)).symm⟩
    have hml : m < 6 := by have := Int.tmod_lt_of_pos y (show (0 : Int) < 6 by omega); omega
    have eo : Tm.extOk xs ((xs.length : Int) + m) = true := by rw [Tm.extOk, W.out]; exact wordOk_more W.out m (by omega)
    have EO := Lib.hid eo
    clear eo
    go_wp2_with fail
    have hok := EO.out
    refine (retIB_ex (iExtendWord b0 xs.length c0 xs ((xs.length : Int) + m) _ I_xs.out) hok).mono ?_
    clear hok
    rintro e w4 ⟨lg, b4, c4, hv, rfl, ho, hb, ln4⟩
    have H_lg : Hid (lg = Tm.ext xs ((xs.length : Int) + m)) := Lib.hid hv
    have hsz := hb.size
    replace I_xs := Lib.hid (I_xs.out.below hb)
    replace I_lw := Lib.hid (I_lw.out.below hb)
    replace I_hg := Lib.hid (I_hg.out.below hb)
    replace I_al := Lib.hid (I_al.out.below hb)
    replace BY := Lib.hid (BY.out.below hb)
    replace B := Lib.hid (B.out.trans (hb.mono B.out.size))
    clear hb hsz
    have I_lg := Lib.hid (Ints.of_own ho)
    clear ho hv
    have wo : Tm.wordOk (Tm.val xs) ((xs.length : Int) + m) = true := by have := EO.out; rwa [Tm.extOk, W.out, Bool.true_and] at this
    have wg : Tm.isW lg = true ∧ Tm.val lg = Tm.val xs := by rw [H_lg.out, Tm.ext, if_pos W.out]; exact ⟨Tm.word_isW wo, Tm.val_word wo⟩
    have WG := Lib.hid wg
    clear wg wo
    go_wp2_with fail
    refine (ints_any b3 b0 al.length xs.length c3 c0 al xs _ I_al.out I_xs.out).mono ?_
    rintro e w5 ⟨h0, hb⟩
    rw [decide_eq_true (show al = xs from HAL.out)] at h0
    subst h0
    have hsz := hb.size
    replace I_xs := Lib.hid (I_xs.out.below hb)
    replace I_lw := Lib.hid (I_lw.out.below hb)
    replace I_hg := Lib.hid (I_hg.out.below hb)
    replace I_al := Lib.hid (I_al.out.below hb)
    replace I_lg := Lib.hid (I_lg.out.below hb)
    replace BY := Lib.hid (BY.out.below hb)
    replace B := Lib.hid (B.out.trans (hb.mono B.out.size))
    clear hb hsz
    go_wp2_with fail
    refine (iValueOf b0 xs.length c0 xs _ I_xs.out).mono ?_
    rintro e w' ⟨h0, rfl⟩
    obtain ⟨n, hv⟩ : ∃ r_, r_ = Tm.value xs := ⟨_, rfl⟩
    rw [← hv] at h0
    subst h0
    have H_n : Hid (n = Tm.value xs) := Lib.hid hv
    have bd : -141214768240 ≤ n ∧ n ≤ 141214768240 := by rw [hv, Tm.value_eq W.out]; exact Tm.val_bd_len W.out 24 (by omega)
    obtain ⟨n_0, n_1⟩ := bd
    clear hv
    go_wp2_with fail
    refine (iValueOf b1 lw.length c1 lw _ I_lw.out).mono ?_
    rintro e w' ⟨h0, rfl⟩
    obtain ⟨u, hv⟩ : ∃ r_, r_ = Tm.value lw := ⟨_, rfl⟩
    rw [← hv] at h0
    subst h0
    have H_u : Hid (u = Tm.value lw) := Lib.hid hv
    clear hv
    go_wp2_with fail
    rw [show (1 + (j : Int)) = ((j + 1 : Nat) : Int) from by omega]
    refine (makePower (j + 1) _ (by omega)).mono ?_
    rintro e w' ⟨rfl, rfl⟩
    go_wp2_with fail
    refine (iValueOf b2 hg.length c2 hg _ I_hg.out).mono ?_
    rintro e w' ⟨h0, rfl⟩
    obtain ⟨v, hv⟩ : ∃ r_, r_ = Tm.value hg := ⟨_, rfl⟩
    rw [← hv] at h0
    subst h0
    have H_v : Hid (v = Tm.value hg) := Lib.hid hv
    clear hv
    have e1 : n = u + Tm.pow3 (j + 1) * v := by rw [H_n.out, H_u.out, H_v.out, Tm.value_eq W.out, Tm.value_eq WL.out, Tm.value_eq WH.out, HLW.out, HHG.out]; exact Tm.val_take_drop xs (j + 1) (by omega)
    have ub := Tm.val_bd_len WL.out 24 (by rw [HLW.out]; simp; omega)
    rw [← Tm.value_eq WL.out, ← H_u.out, show Tm.limN 24 = 141214768240 by decide] at ub
    obtain ⟨u0, u1⟩ := ub
    obtain ⟨t, ht⟩ : ∃ t, Tm.pow3 (j + 1) * v = t := ⟨_, rfl⟩
    rw [ht] at e1
    have t0 : -282429536480 ≤ t := by omega
    have t1 : t ≤ 282429536480 := by omega
    have e2 : (n == u + t) = true := by simpa using e1
    clear e1
    go_wp2_with fail
    refine (iValueOf b4 lg.length c4 lg _ I_lg.out).mono ?_
    rintro e w' ⟨h0, rfl⟩
    obtain ⟨r, hv⟩ : ∃ r_, r_ = Tm.value lg := ⟨_, rfl⟩
    rw [← hv] at h0
    subst h0
    have H_r : Hid (r = Tm.value lg) := Lib.hid hv
    clear hv
    have er : r = n := by rw [H_r.out, Tm.value_eq WG.out.1, WG.out.2, H_n.out, Tm.value_eq W.out]
    clear H_r
    subst er
    have ER := Lib.hid (True.intro)
    go_wp2_with fail
    refine (iValueOf b0 xs.length c0 xs _ I_xs.out).mono ?_
    rintro e w' ⟨h0, rfl⟩
    obtain ⟨s, hv⟩ : ∃ r_, r_ = Tm.value xs := ⟨_, rfl⟩
    rw [← hv] at h0
    subst h0
    have H_s : Hid (s = Tm.value xs) := Lib.hid hv
    clear hv
    have es : s = r := by rw [H_s.out, H_n.out]
    clear H_s
    subst es
    go_wp2
    go_ret
    exact ⟨rfl, B.out⟩
  · go_enter Try.func6, Try.ntmps6
    go_wp2
    go_ret
    exact ⟨rfl, B.out⟩
end Go.Proofs.Ytlbhekfjcbcpaaa

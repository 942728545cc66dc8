/- Walks of laws: FnRounded. -/
import Derived.Test.YtlbhekfjcbcpaaaWVal
import Derived.Test.YtlbhekfjcbcpaaaWI4
import Derived.Test.YtlbhekfjcbcpaaaWI3
namespace Go.Proofs.Ytlbhekfjcbcpaaa
set_option maxRecDepth 20000
open Go.RowKit
namespace Tm
theorem shfOk_of {xs : List Int} {k : Int} (h : isW xs = true) (hk : k ≤ 30 - (xs.length : Int)) : shfOk xs k = true := by simp [shfOk, h, hk]
theorem shf_down {xs : List Int} (h : isW xs = true) (k : Nat) (hk : k ≤ xs.length) : shf xs (-(k : Int)) = if k = 0 then xs else if k = xs.length then [0] else xs.drop k := by
  have l1 := isW_pos h
  have l2 := ((isW_iff xs).1 h).2.2
  rw [shf, if_pos (by simp [shfOk, h]; omega)]
  by_cases h0 : k = 0
  · subst h0; simp
  · rw [if_neg (by omega), if_neg h0]
    by_cases h1 : k = xs.length
    · rw [if_pos h1, if_pos (by omega)]
    · rw [if_neg h1, if_neg (by omega)]; congr 1; omega
theorem isW_shf_down {xs : List Int} (h : isW xs = true) (k : Nat) (hk : k ≤ xs.length) : isW (shf xs (-(k : Int))) = true := by
  have l1 := isW_pos h
  have l2 := ((isW_iff xs).1 h).2.2
  rw [shf_down h k hk]
  split
  · exact h
  · split
    · decide
    · exact isW_mk (trits_drop (isW_trits h) k) (by simp; omega) (by simp; omega)
end Tm
theorem val_shf_down {xs : List Int} (h : Tm.isW xs = true) (k : Nat) (hk : k ≤ xs.length) : Tm.value (Tm.shf xs (-(k : Int))) = Tm.val (xs.drop k) := by
  rw [Tm.value_eq (Tm.isW_shf_down h k hk), Tm.shf_down h k hk]
  split
  · rename_i e; subst e; rfl
  · split
    · rename_i e; rw [e, List.drop_length]; rfl
    · rfl
set_option maxHeartbeats 4000000 in
theorem wFnRounded (a0 : Option Addr) (len0 cap0 : Nat) (z0 : List Int) (w : World) (w0 : IsRow .u8 w a0 len0 cap0 z0) : Calls Try.prog 5 #[.slice a0 len0 cap0] w fun e w' => e = .returned (.bool true) ∧ Below w.heap.size w w' := by
  have BY := Lib.hid (Byts.of_row w0)
  have m0 : len0 ≤ 9223372036854775807 := by obtain ⟨h1, h2, _⟩ := BY.out; unfold maxLen at h2; omega
  clear w0
  have B := Lib.hid (Below.refl w.heap.size w)
  by_cases g0 : len0 ≤ 1048576
  · skip
    go_enter Try.func5, Try.ntmps5
    go_wp2_with fail
    refine (makeWord_any a0 len0 cap0 25 _ BY.out (by omega) (by omega) (by omega)).mono ?_
    rintro e w0 ⟨xs, b0, c0, rfl, hw, hp, ho, hb⟩
    have hsz := hb.size
    replace BY := Lib.hid (BY.out.below hb)
    replace B := Lib.hid (B.out.trans (hb.mono B.out.size))
    clear hb hsz
    have I_xs := Lib.hid (Ints.of_own ho)
    clear ho
    have l1 := Tm.isW_pos hw
    go_wp2_with fail
    refine (at_any a0 len0 cap0 1 _ BY.out (by omega) (by omega) (by omega)).mono ?_
    rintro e w' ⟨x, rfl, x_0, x_1, rfl⟩
    obtain ⟨k, hk⟩ : ∃ k : Nat, x.tmod ((xs.length : Int) + 1) = (k : Int) := ⟨_, (Int.toNat_of_nonneg (Int.tmod_nonneg _ x_0)).symm⟩
    have hkl : k ≤ xs.length := by have := Int.tmod_lt_of_pos x (show 0 < (xs.length : Int) + 1 by omega); omega
    have W := Lib.hid hw
    clear hw
    go_wp2_with fail
    have hok := show Tm.rndOk xs k = true by simp [Tm.rndOk, W.out, Tm.inB]; omega
    refine (retIB_ex (iRoundWord b0 xs.length c0 xs k _ I_xs.out) hok).mono ?_
    clear hok
    rintro e w1 ⟨rs, b1, c1, hv, rfl, ho, hb, ln1⟩
    have H_rs : Hid (rs = Tm.rnd xs k) := Lib.hid hv
    have hsz := hb.size
    replace I_xs := Lib.hid (I_xs.out.below hb)
    replace BY := Lib.hid (BY.out.below hb)
    replace B := Lib.hid (B.out.trans (hb.mono B.out.size))
    clear hb hsz
    have I_rs := Lib.hid (Ints.of_own ho)
    clear ho hv
    go_wp2_with fail
    have hok := show Tm.shfOk xs (-(k : Int)) = true by simp [Tm.shfOk, W.out]; omega
    refine (retIB_ex (iShiftWord b0 xs.length c0 xs (-(k : Int)) _ I_xs.out) hok).mono ?_
    clear hok
    rintro e w2 ⟨ss, b2, c2, hv, rfl, ho, hb, ln2⟩
    have H_ss : Hid (ss = Tm.shf xs (-(k : Int))) := Lib.hid hv
    have hsz := hb.size
    replace I_xs := Lib.hid (I_xs.out.below hb)
    replace I_rs := Lib.hid (I_rs.out.below hb)
    replace BY := Lib.hid (BY.out.below hb)
    replace B := Lib.hid (B.out.trans (hb.mono B.out.size))
    clear hb hsz
    have I_ss := Lib.hid (Ints.of_own ho)
    clear ho hv
    go_wp2_with fail
    refine (makePower k _ (by omega)).mono ?_
    rintro e w' ⟨h0, rfl⟩
    obtain ⟨p, hv⟩ : ∃ r_, r_ = Tm.pow3 k := ⟨_, rfl⟩
    rw [← hv] at h0
    subst h0
    have H_p : Hid (p = Tm.pow3 k) := Lib.hid hv
    have bd : 1 ≤ p ∧ p ≤ 847288609443 := by rw [hv]; exact ⟨Tm.pow3_pos k, Tm.pow3_le (b := 25) (by omega)⟩
    obtain ⟨p_0, p_1⟩ := bd
    clear hv
    go_wp2_with fail
    refine (iValueOf b0 xs.length c0 xs _ I_xs.out).mono ?_
    rintro e w' ⟨h0, rfl⟩
    obtain ⟨n, hv⟩ : ∃ r_, r_ = Tm.value xs := ⟨_, rfl⟩
    rw [← hv] at h0
    subst h0
    have H_n : Hid (n = Tm.value xs) := Lib.hid hv
    have bd : -423644304721 ≤ n ∧ n ≤ 423644304721 := by rw [hv, Tm.value_eq W.out]; exact Tm.val_bd_len W.out 25 (by omega)
    obtain ⟨n_0, n_1⟩ := bd
    clear hv
    have hrs : rs = Tm.rndL xs k := by rw [H_rs.out, Tm.rnd, if_pos (by simp [Tm.rndOk, W.out, Tm.inB]; omega), Int.toNat_natCast]
    have hrl : rs.length = xs.length := by rw [hrs, Tm.rndL_length]
    have wr : Tm.isW rs = true := by
      rw [hrs, Tm.rndL_eq xs k hkl]
      exact Tm.isW_mk (fun x hx => (List.mem_append.1 hx).elim (fun h => by rw [(List.mem_replicate.1 h).2]; omega) (fun h => Tm.isW_trits W.out x (List.mem_of_mem_drop h))) (by simp; omega) (by simp; omega)
    have vr : Tm.value rs = Tm.pow3 k * Tm.val (xs.drop k) := by rw [Tm.value_eq wr, hrs, Tm.val_rnd xs k hkl]
    have vs : Tm.value ss = Tm.val (xs.drop k) := by
      rw [H_ss.out]; exact val_shf_down W.out k hkl
    have hq : ((rs.length : Int) != (xs.length : Int)) = false := by simp [hrl]
    have HRL := Lib.hid hrl
    have VR := Lib.hid vr
    have VS := Lib.hid vs
    have WR := Lib.hid wr
    clear hrs hrl vr vs wr
    go_wp2_with fail
    refine (iValueOf b1 rs.length c1 rs _ I_rs.out).mono ?_
    rintro e w' ⟨h0, rfl⟩
    obtain ⟨v, hv⟩ : ∃ r_, r_ = Tm.value rs := ⟨_, rfl⟩
    rw [← hv] at h0
    subst h0
    have H_v : Hid (v = Tm.value rs) := Lib.hid hv
    have bd : -423644304721 ≤ v ∧ v ≤ 423644304721 := by rw [hv, Tm.value_eq WR.out]; exact Tm.val_bd_len WR.out 25 (by rw [HRL.out]; omega)
    obtain ⟨v_0, v_1⟩ := bd
    clear hv
    go_wp2_with fail
    have hok := show Tm.shfOk xs 3 = true by simp [Tm.shfOk, W.out]; omega
    refine (retIB_ex (iShiftWord b0 xs.length c0 xs 3 _ I_xs.out) hok).mono ?_
    clear hok
    rintro e w3 ⟨us, b3, c3, hv, rfl, ho, hb, ln3⟩
    have H_us : Hid (us = Tm.shf xs 3) := Lib.hid hv
    have hsz := hb.size
    replace I_xs := Lib.hid (I_xs.out.below hb)
    replace I_rs := Lib.hid (I_rs.out.below hb)
    replace I_ss := Lib.hid (I_ss.out.below hb)
    replace BY := Lib.hid (BY.out.below hb)
    replace B := Lib.hid (B.out.trans (hb.mono B.out.size))
    clear hb hsz
    have I_us := Lib.hid (Ints.of_own ho)
    clear ho hv
    have hus : us = List.replicate 3 0 ++ xs := by rw [H_us.out, Tm.shf, if_pos (by simp [Tm.shfOk, W.out]; omega)]; rfl
    have wu : Tm.isW us = true := by
      rw [hus]
      exact Tm.isW_mk (fun x hx => (List.mem_append.1 hx).elim (fun h => by rw [(List.mem_replicate.1 h).2]; omega) (fun h => Tm.isW_trits W.out x h)) (by simp) (by simp; omega)
    have HU := Lib.hid hus
    have WU := Lib.hid wu
    clear hus wu
    go_wp2_with fail
    have hok := show Tm.shfOk us (-3) = true from Tm.shfOk_of WU.out (by rw [HU.out]; simp; omega)
    refine (retIB_ex (iShiftWord b3 us.length c3 us (-3) _ I_us.out) hok).mono ?_
    clear hok
    rintro e w4 ⟨bs, b4, c4, hv, rfl, ho, hb, ln4⟩
    have H_bs : Hid (bs = Tm.shf us (-3)) := Lib.hid hv
    have hsz := hb.size
    replace I_xs := Lib.hid (I_xs.out.below hb)
    replace I_rs := Lib.hid (I_rs.out.below hb)
    replace I_ss := Lib.hid (I_ss.out.below hb)
    replace I_us := Lib.hid (I_us.out.below hb)
    replace BY := Lib.hid (BY.out.below hb)
    replace B := Lib.hid (B.out.trans (hb.mono B.out.size))
    clear hb hsz
    have I_bs := Lib.hid (Ints.of_own ho)
    clear ho hv
    have hbs : bs = xs := by
      rw [H_bs.out, Tm.shf, if_pos (Tm.shfOk_of WU.out (by rw [HU.out]; simp; omega)), if_neg (by omega), if_neg (by rw [HU.out]; simp; omega), HU.out]; rfl
    have HB := Lib.hid hbs
    clear hbs
    have e1 : (v.tmod p == 0) = true := by rw [H_v.out, H_p.out, VR.out, Tm.mul_tmod]; rfl
    have nv : n = Tm.val (xs.take k) + v := by rw [H_n.out, Tm.value_eq W.out, H_v.out, VR.out]; exact Tm.val_take_drop xs k hkl
    have tb := Tm.val_bd _ (Tm.trits_take (Tm.isW_trits W.out) k)
    have pl := Tm.pow3_limN k
    rw [List.length_take, Nat.min_eq_left hkl] at tb
    rw [← H_p.out] at pl
    have ab := Tm.absI_abs (n - v)
    have e2 : 2 * Tm.absI (n - v) < p ∧ Tm.absI (n - v) ≤ 847288609443 := by omega
    obtain ⟨E2, E3⟩ := e2
    have E2 := Lib.hid E2
    have E3 := Lib.hid E3
    clear nv tb pl ab
    go_wp2_with fail
    refine (abs_any (n - v) _ (by omega) (by omega)).mono ?_
    rintro e w' ⟨h0, rfl⟩
    obtain ⟨d, hv⟩ : ∃ r_, r_ = Tm.absI (n - v) := ⟨_, rfl⟩
    rw [← hv] at h0
    subst h0
    have H_d : Hid (d = Tm.absI (n - v)) := Lib.hid hv
    have bd : 0 ≤ d ∧ d ≤ 847288609443 := by rw [hv]; exact ⟨(Tm.absI_abs _).2, E3.out⟩
    obtain ⟨d_0, d_1⟩ := bd
    clear hv
    have e2 : 2 * d < p := by rw [H_d.out]; exact E2.out
    go_wp2_with fail
    refine (iValueOf b2 ss.length c2 ss _ I_ss.out).mono ?_
    rintro e w' ⟨h0, rfl⟩
    obtain ⟨y, hv⟩ : ∃ r_, r_ = Tm.value ss := ⟨_, rfl⟩
    rw [← hv] at h0
    subst h0
    have H_y : Hid (y = Tm.value ss) := Lib.hid hv
    clear hv
    have e3 : y * p = v := by rw [H_y.out, VS.out, H_v.out, VR.out, H_p.out, Int.mul_comm]
    go_wp2_with fail
    refine (ints_any b4 b0 bs.length xs.length c4 c0 bs xs _ I_bs.out I_xs.out).mono ?_
    rintro e w5 ⟨h0, hb⟩
    rw [decide_eq_true (show bs = xs from HB.out)] at h0
    subst h0
    have hsz := hb.size
    replace I_xs := Lib.hid (I_xs.out.below hb)
    replace I_rs := Lib.hid (I_rs.out.below hb)
    replace I_ss := Lib.hid (I_ss.out.below hb)
    replace I_us := Lib.hid (I_us.out.below hb)
    replace I_bs := Lib.hid (I_bs.out.below hb)
    replace BY := Lib.hid (BY.out.below hb)
    replace B := Lib.hid (B.out.trans (hb.mono B.out.size))
    clear hb hsz
    go_wp2_with fail
    refine (iValueOf b3 us.length c3 us _ I_us.out).mono ?_
    rintro e w' ⟨h0, rfl⟩
    obtain ⟨u, hv⟩ : ∃ r_, r_ = Tm.value us := ⟨_, rfl⟩
    rw [← hv] at h0
    subst h0
    have H_u : Hid (u = Tm.value us) := Lib.hid hv
    clear hv
    have e4 : u = 27 * n := by rw [H_u.out, Tm.value_eq WU.out, HU.out, Tm.val_shift, H_n.out, Tm.value_eq W.out]; rfl
    clear H_u
    subst e4
    go_wp2
    go_ret
    exact ⟨rfl, B.out⟩
  · go_enter Try.func5, Try.ntmps5
    go_wp2
    go_ret
    exact ⟨rfl, B.out⟩
end Go.Proofs.Ytlbhekfjcbcpaaa

/- Walks of laws: FnRedundant. -/
import Derived.Test.YtlbhekfjcbcpaaaAMath
import Derived.Test.YtlbhekfjcbcpaaaLaw3
import Derived.Test.YtlbhekfjcbcpaaaWI4
import Derived.Test.YtlbhekfjcbcpaaaWI3
import Derived.Test.YtlbhekfjcbcpaaaAI
import Derived.Test.YtlbhekfjcbcpaaaAS
namespace Go.Proofs.Ytlbhekfjcbcpaaa
set_option maxRecDepth 20000
open Go.RowKit
theorem own_shape2 {w : World} {B e n : Nat} {v : Value} {xs : List Value} (h : w.ownsRow B e 1 v n xs) (hn : 0 < n) : ∃ g cap, v = .slice (some ⟨g, 0, none⟩) n cap ∧ n ≤ cap ∧ cap ≤ maxLen := by
  rcases h.2 with ⟨_, e2⟩ | ⟨g, cap, cur, e1, _, _, h4, h5, _⟩
  · omega
  · exact ⟨g, cap, e1, h4, h5⟩
theorem ints_cells {w : World} {b o n cap : Nat} {xs : List Int} (h : Ints w (some ⟨b, o, none⟩) n cap xs) : ∀ i, i < n → w.cell? ⟨b, o + i, none⟩ = some (.int .i64 (xs.getD i 0)) := by
  intro i hi
  rcases h.2.2.2 with e | ⟨b', o', e, _, hc⟩
  · omega
  · cases e; exact hc i hi
namespace Tm
theorem radOk_of {xs ys : List Int} (h : isR xs = true) (h' : isR ys = true) (e : xs.length = ys.length) (hl : xs.length < 30) : radOk xs ys = true := by rw [radOk, h, h']; simp; omega
theorem valR_bd (xs : List Int) : -205891132094648 ≤ valR xs ∧ valR xs ≤ 205891132094648 := by
  unfold valR
  split
  · rename_i h
    have := valD_drop ((isR_iff xs).1 h).1 ((isR_iff xs).1 h).2.2 0
    simpa using this
  · omega
theorem rad_valR {xs ys : List Int} (h : radOk xs ys = true) : valR (rad xs ys) = valR xs + valR ys := by
  have h1 := (isR_rad h).1
  have h2 := h
  rw [radOk, Bool.and_eq_true, Bool.and_eq_true, decide_eq_true_eq] at h2
  rw [valR, if_pos h1, valR, if_pos h2.1.1, valR, if_pos h2.1.2, rad, if_pos h]
  exact rad_val h2.2.1
theorem nrm_facts {xs : List Int} (h : isR xs = true) (ho : nrmOk xs = true) : isW (nrm xs) = true ∧ val (nrm xs) = val xs ∧ (nrm xs).length = xs.length := by
  have wo : wordOk (val xs) xs.length = true := by rwa [nrmOk, h, Bool.true_and] at ho
  rw [nrm, if_pos h]
  have := word_length wo
  exact ⟨word_isW wo, val_word wo, by omega⟩
theorem rad_local {xs ys zs : List Int} {i m : Nat} (h : radOk xs ys = true) (h' : radOk zs ys = true) (hz : zs = xs.set i (-xs.getD i 0)) (hm : m < xs.length + 1) (e1 : m ≠ i) (e2 : m ≠ i + 1) : (rad zs ys).getD m 0 = (rad xs ys).getD m 0 := by
  have zl : zs.length = xs.length := by rw [hz]; simp
  have g : ∀ k, k ≠ i → zs.getD k 0 = xs.getD k 0 := by
    intro k hk
    rw [hz, List.getD_eq_getElem?_getD, List.getElem?_set_ne (by omega), ← List.getD_eq_getElem?_getD]
  rw [rad, rad, if_pos h, if_pos h', genL_get _ _ _ (by omega), genL_get _ _ _ hm]
  exact dgt_local (g m e1) (fun k hk => g k (by omega))
theorem isR_set {xs : List Int} (h : isR xs = true) (i : Nat) : isR (xs.set i (-xs.getD i 0)) = true := by
  obtain ⟨h1, h2, h3⟩ := (isR_iff xs).1 h
  rw [isR_iff]
  refine ⟨fun x hx => ?_, by simpa using h2, by simpa using h3⟩
  rcases List.mem_or_eq_of_mem_set hx with hx | rfl
  · exact h1 x hx
  · have := dig_at h1 i; omega
end Tm
set_option maxHeartbeats 4000000 in
theorem wFnRedundant (a0 : Option Addr) (len0 cap0 : Nat) (z0 : List Int) (w : World) (w0 : IsRow .u8 w a0 len0 cap0 z0) : Calls Try.prog 9 #[.slice a0 len0 cap0] w fun e w' => e = .returned (.bool true) ∧ Below w.heap.size w w' := by
  have BY := Lib.hid (Byts.of_row w0)
  have m0 : len0 ≤ 9223372036854775807 := by obtain ⟨h1, h2, _⟩ := BY.out; unfold maxLen at h2; omega
  clear w0
  have B := Lib.hid (Below.refl w.heap.size w)
  by_cases g0 : len0 ≤ 1048576
  · skip
    go_enter Try.func9, Try.ntmps9
    go_wp2_with fail
    refine (at_any a0 len0 cap0 1 _ BY.out (by omega) (by omega) (by omega)).mono ?_
    rintro e w' ⟨x, rfl, x_0, x_1, rfl⟩
    obtain ⟨j, hj⟩ : ∃ j : Nat, x.tmod 20 = (j : Int) := ⟨_, (Int.toNat_of_nonneg (Int.tmod_nonneg _ x_0)).symm⟩
    have j_lt : j < 20 := by have := Int.tmod_lt_of_pos x (show (0 : Int) < 20 by omega); omega
    go_wp2_with fail
    rw [show (1 + (j : Int)) = ((j + 1 : Nat) : Int) from by omega]
    refine (makeDigits_any a0 len0 cap0 (j + 1) _ BY.out (by omega) (by omega) (by omega)).mono ?_
    rintro e w0 ⟨xs, b0, c0, rfl, hw, hp, ho, hb⟩
    have hsz := hb.size
    replace BY := Lib.hid (BY.out.below hb)
    replace B := Lib.hid (B.out.trans (hb.mono B.out.size))
    clear hb hsz
    have R_xs := Lib.hid hw
    have L_xs := Lib.hid hp
    have I_xs := Lib.hid (Ints.of_own ho)
    clear ho hw hp
    go_wp2_with fail
    refine (fresh_any a0 len0 cap0 3 _ BY.out (by omega) (by omega) (by omega)).mono ?_
    rintro e w1 ⟨a9, len9, cap9, rfl, m9, by9, hb⟩
    have BZ := Lib.hid by9
    clear by9
    have hsz := hb.size
    replace I_xs := Lib.hid (I_xs.out.below hb)
    replace BY := Lib.hid (BY.out.below hb)
    replace B := Lib.hid (B.out.trans (hb.mono B.out.size))
    clear hb hsz
    go_wp2_with fail
    first | rw [show ((j : Int) + 1) = ((j + 1 : Nat) : Int) from rfl] | rw [show (1 + (j : Int)) = ((j + 1 : Nat) : Int) from by omega] | skip
    refine (makeDigits_any a9 len9 cap9 (j + 1) _ BZ.out (by omega) (by omega) (by omega)).mono ?_
    rintro e w2 ⟨ys, b2, c2, rfl, hw, hp, ho, hb⟩
    have hsz := hb.size
    replace I_xs := Lib.hid (I_xs.out.below hb)
    replace BY := Lib.hid (BY.out.below hb)
    replace B := Lib.hid (B.out.trans (hb.mono B.out.size))
    clear hb hsz
    have R_ys := Lib.hid hw
    have L_ys := Lib.hid hp
    have I_ys := Lib.hid (Ints.of_own ho)
    clear ho hw hp
    clear BZ
    have RO := Lib.hid (Tm.radOk_of R_xs.out R_ys.out (by rw [L_xs.out, L_ys.out]) (by rw [L_xs.out]; omega))
    go_wp2_with fail
    have hok := RO.out
    refine (retIB_ex (iAddRedundant b0 xs.length c0 xs b2 ys.length c2 ys _ I_xs.out I_ys.out) hok).mono ?_
    clear hok
    rintro e w3 ⟨s, b3, c3, hv, rfl, ho, hb, ln3⟩
    have H_s : Hid (s = Tm.rad xs ys) := Lib.hid hv
    have hsz := hb.size
    replace I_xs := Lib.hid (I_xs.out.below hb)
    replace I_ys := Lib.hid (I_ys.out.below hb)
    replace BY := Lib.hid (BY.out.below hb)
    replace B := Lib.hid (B.out.trans (hb.mono B.out.size))
    clear hb hsz
    have I_s := Lib.hid (Ints.of_own ho)
    clear ho hv
    have FS := Lib.hid (Tm.isR_rad RO.out)
    rw [← H_s.out] at FS
    have sl : (s.length : Int) = (j : Int) + 1 + 1 := by rw [FS.out.2, L_xs.out]; rfl
    have ir : Tm.isR s = true := FS.out.1
    go_wp2_with fail
    refine (iIsRedundant b3 s.length c3 s _ I_s.out).mono ?_
    rintro e w' ⟨rfl, rfl⟩
    go_wp2_with fail
    refine (iValueRedundant b3 s.length c3 s _ I_s.out).mono ?_
    rintro e w' ⟨h0, rfl⟩
    obtain ⟨vs, hv⟩ : ∃ r_, r_ = Tm.valR s := ⟨_, rfl⟩
    rw [← hv] at h0
    subst h0
    have H_vs : Hid (vs = Tm.valR s) := Lib.hid hv
    have bd : -205891132094648 ≤ vs ∧ vs ≤ 205891132094648 := by rw [hv]; exact Tm.valR_bd s
    obtain ⟨vs_0, vs_1⟩ := bd
    clear hv
    go_wp2_with fail
    refine (iValueRedundant b0 xs.length c0 xs _ I_xs.out).mono ?_
    rintro e w' ⟨h0, rfl⟩
    obtain ⟨va, hv⟩ : ∃ r_, r_ = Tm.valR xs := ⟨_, rfl⟩
    rw [← hv] at h0
    subst h0
    have H_va : Hid (va = Tm.valR xs) := Lib.hid hv
    have bd : -205891132094648 ≤ va ∧ va ≤ 205891132094648 := by rw [hv]; exact Tm.valR_bd xs
    obtain ⟨va_0, va_1⟩ := bd
    clear hv
    go_wp2_with fail
    refine (iValueRedundant b2 ys.length c2 ys _ I_ys.out).mono ?_
    rintro e w' ⟨h0, rfl⟩
    obtain ⟨vb, hv⟩ : ∃ r_, r_ = Tm.valR ys := ⟨_, rfl⟩
    rw [← hv] at h0
    subst h0
    have H_vb : Hid (vb = Tm.valR ys) := Lib.hid hv
    have bd : -205891132094648 ≤ vb ∧ vb ≤ 205891132094648 := by rw [hv]; exact Tm.valR_bd ys
    obtain ⟨vb_0, vb_1⟩ := bd
    clear hv
    have ev : vs = va + vb := by rw [H_vs.out, H_va.out, H_vb.out, H_s.out]; exact Tm.rad_valR RO.out
    clear H_vs
    subst ev
    go_wp2_with fail
    refine (at_any a0 len0 cap0 2 _ BY.out (by omega) (by omega) (by omega)).mono ?_
    rintro e w' ⟨y, rfl, y_0, y_1, rfl⟩
    obtain ⟨i, hi⟩ : ∃ i : Nat, y.tmod ((j : Int) + 1) = (i : Int) := ⟨_, (Int.toNat_of_nonneg (Int.tmod_nonneg _ y_0)).symm⟩
    have i_lt : i ≤ j := by have := Int.tmod_lt_of_pos y (show (0 : Int) < (j : Int) + 1 by omega); omega
    have i_xs : i < xs.length := by have := L_xs.out; omega
    have xl30 : xs.length ≤ 20 := by have := L_xs.out; omega
    obtain ⟨i0, hi0, hz0, hz1, hz2⟩ := info_parts infoInt
    rcases I_xs.out.2.2.2 with h0 | ⟨bx, ox, rfl, hbx, hcx⟩
    · omega
    clear hcx hbx
    go_wp2_with (at_builtin; refine wpList_append_own _ rfl _ _ 23 rfl w3.heap.size 3 i0 (.int .i64 0) 1 8 Try.underlying23 hi0 hz0 hz1 hz2 rfl (by decide) _ _ _ rfl (own_empty w3 _ _ (Nat.le_refl _)) ⟨bx, ox, none⟩ xs.length _ (xs.map (Value.int .i64)) rfl (by simp) (news_of rfl (ints_cells (I_xs.out.below (by (repeat' (first | (with_reducible exact Below.refl _ _) | (with_reducible assumption) | (with_reducible refine below_drewN ?_ _) | (with_reducible refine Below.drew ?_) | (with_reducible refine Below.alloc ?_ ?_ _) | (with_reducible refine Below.setCell ?_ ?_ _) | (with_reducible refine below_gw ?_ ?_ _) | (with_reducible refine below_via ?_ ‹Below _ _ _› ?_) | (with_reducible exact Nat.le_refl _) | (with_reducible refine le_gw ?_ _) | (with_reducible refine le_alloc ?_ _) | (with_reducible refine le_setCell ?_ _ _) | (with_reducible refine le_drew ?_) | (with_reducible refine le_drewN ?_ _) | go_size)))))) (news_one xs) (by unfold maxLen; omega) (by omega) (by simp) ?_)
    intro v' w8 hown hgrow _
    have hb : Below w3.heap.size w3 w8 := ((Below.refl w3.heap.size w3).alloc (Nat.le_refl _) _).grown hgrow (by simp) (fun k hk => by simp [Value.ownBlock] at hk; omega)
    try rw [Nat.zero_add] at hown
    try rw [List.nil_append] at hown
    have i_xs2 : 0 < xs.length := by omega
    have HW := Lib.hid (show w3.heap.size ≤ w8.heap.size from hb.size)
    have BC := Lib.hid hb
    have IW_xs := I_xs
    have IW_ys := I_ys
    have IW_s := I_s
    have BYW := BY
    have BW0 := B
    have hsz := hb.size
    replace I_xs := Lib.hid (I_xs.out.below hb)
    replace I_ys := Lib.hid (I_ys.out.below hb)
    replace I_s := Lib.hid (I_s.out.below hb)
    replace BY := Lib.hid (BY.out.below hb)
    replace B := Lib.hid (B.out.trans (hb.mono B.out.size))
    clear hb hsz
    clear hgrow
    obtain ⟨g, cz, rfl, hg1, hg2⟩ := own_shape2 hown i_xs2
    unfold maxLen at hg2
    have fz := hown.frozenAt i
    have xb := Tm.dig_at ((Tm.isR_iff xs).1 R_xs.out).1 i
    have ck := hown.cellAt i (by omega)
    rw [List.getElem?_eq_getElem (by simpa using i_xs), List.getElem_map, getD_at xs i i_xs] at ck
    have hst := hown.stored i (.int .i64 (-xs.getD i 0))
    rw [← List.map_set] at hst
    obtain ⟨zs, hzs⟩ : ∃ zs, zs = xs.set i (-xs.getD i 0) := ⟨_, rfl⟩
    rw [← hzs] at hst
    have ZS := Lib.hid hzs
    have R_zs : Hid (Tm.isR zs = true) := Lib.hid (by rw [hzs]; exact Tm.isR_set R_xs.out i)
    have zl : zs.length = xs.length := by rw [hzs]; simp
    have L_zs := Lib.hid zl
    clear zl hzs
    obtain ⟨xi, hxi⟩ : ∃ xi, xi = xs.getD i 0 := ⟨_, rfl⟩
    rw [← hxi] at ck xb hst
    clear hxi
    obtain ⟨x0, x1⟩ := xb
    obtain ⟨s1, s2⟩ := hst
    have hb : Below w3.heap.size w8 (w8.setCell ⟨g, i, none⟩ (.int .i64 (-xi))) := (Below.refl _ _).grown s2 HW.out (fun k hk => own_ge hown k hk)
    have s1 := Lib.hid s1
    obtain ⟨w9, hw9⟩ : ∃ w9, w9 = w8.setCell ⟨g, i, none⟩ (.int .i64 (-xi)) := ⟨_, rfl⟩
    have hb9 := BC.out.trans hb
    rw [← hw9] at hb9 s1
    clear s2 hb BC
    go_wp2_with fail
    rw [← hw9]
    clear hw9 fz ck hown
    replace I_xs := Lib.hid (IW_xs.out.below hb9)
    replace I_ys := Lib.hid (IW_ys.out.below hb9)
    replace I_s := Lib.hid (IW_s.out.below hb9)
    replace BY := Lib.hid (BYW.out.below hb9)
    replace B := Lib.hid (BW0.out.trans (hb9.mono BW0.out.size))
    clear BYW BW0 hb9 HW IW_xs IW_ys IW_s
    have I_zs := Lib.hid (Ints.of_own s1.out)
    clear s1
    have RO2 := Lib.hid (Tm.radOk_of R_zs.out R_ys.out (by rw [L_zs.out, L_xs.out, L_ys.out]) (by rw [L_zs.out]; omega))
    have hok := RO2.out
    refine (retIB_ex (iAddRedundant (some ⟨g, 0, none⟩) xs.length cz zs b2 ys.length c2 ys _ I_zs.out I_ys.out) hok).mono ?_
    clear hok
    rintro e w4 ⟨t, b4, c4, hv, rfl, ho, hb, ln4⟩
    have H_t : Hid (t = Tm.rad zs ys) := Lib.hid hv
    have hsz := hb.size
    replace I_xs := Lib.hid (I_xs.out.below hb)
    replace I_ys := Lib.hid (I_ys.out.below hb)
    replace I_s := Lib.hid (I_s.out.below hb)
    replace I_zs := Lib.hid (I_zs.out.below hb)
    replace BY := Lib.hid (BY.out.below hb)
    replace B := Lib.hid (B.out.trans (hb.mono B.out.size))
    clear hb hsz
    have I_t := Lib.hid (Ints.of_own ho)
    clear ho hv
    have tl0 : t.length = s.length := by rw [H_t.out, (Tm.isR_rad RO2.out).2, FS.out.2, L_zs.out]
    have tl : (t.length : Int) = (j : Int) + 1 + 1 := by rw [tl0, FS.out.2, L_xs.out]; rfl
    have TL := Lib.hid tl0
    clear tl0
    go_wp2_with fail
    go_loopw [93] (fun i9 wr => ∃ m : Nat, m ≤ s.length ∧ i9 = .int .i64 m ∧ Hid (Ints wr (some ⟨bx, ox, none⟩) xs.length c0 xs) ∧ Hid (Ints wr b3 s.length c3 s) ∧ Hid (Ints wr b4 t.length c4 t) ∧ Hid (Below w.heap.size w wr)) (fun i9 _ => s.length - (intOf i9).toNat)
    case atStart => exact ⟨0, by omega, rfl, I_xs, I_s, I_t, B⟩
    case round =>
      clear I_xs I_s I_t B I_ys I_zs BY
      obtain ⟨m, hm, rfl, I_xs, I_s, I_t, B⟩ := hrel
      by_cases hlt : m < s.length
      · have sl30 : s.length ≤ 30 := by omega
        by_cases e1 : m = i
        · subst e1
          have f1 : ((m : Int) != (m : Int)) = false := by simp
          go_wp2_with fail
          go_quiet (fail)
          go_wp2
          exact ⟨⟨m + 1, by omega, by go_num, Lib.hid (I_xs.out.drewN _), Lib.hid (I_s.out.drewN _), Lib.hid (I_t.out.drewN _), Lib.hid (below_drewN B.out _)⟩, by simp [intOf]; omega⟩
        · have f1 : ((m : Int) != (i : Int)) = true := by simp; omega
          by_cases e2 : m = i + 1
          · subst e2
            have f2 : (((i + 1 : Nat) : Int) != (i : Int) + 1) = false := by simp
            have f3 : (((i : Int) + 1) != (i : Int) + 1) = false := by simp
            have f4 : (((i : Int) + 1) != (i : Int)) = true := by simp; omega
            go_wp2_with fail
            go_quiet (fail)
            go_wp2
            exact ⟨⟨i + 1 + 1, by omega, by go_num, Lib.hid (I_xs.out.drewN _), Lib.hid (I_s.out.drewN _), Lib.hid (I_t.out.drewN _), Lib.hid (below_drewN B.out _)⟩, by simp [intOf]; omega⟩
          · have f2 : ((m : Int) != (i : Int) + 1) = true := by simp; omega
            rcases I_s.out.2.2.2 with h0 | ⟨bs, os, es, _, hcs⟩
            · omega
            rcases I_t.out.2.2.2 with h0 | ⟨bt, ot, et, _, hct⟩
            · have := TL.out; omega
            have cs := hcs m hlt
            have ct := hct m (by have := TL.out; omega)
            have eq : t.getD m 0 = s.getD m 0 := by
              rw [H_t.out, H_s.out]
              exact Tm.rad_local RO.out RO2.out ZS.out (by have := FS.out.2; omega) e1 e2
            rw [eq] at ct
            cases es
            cases et
            obtain ⟨z, hz⟩ : ∃ z, z = s.getD m 0 := ⟨_, rfl⟩
            rw [← hz] at cs ct
            have mt : m < t.length := by have := TL.out; omega
            clear hcs hct eq hz
            go_wp2_with fail
            go_quiet (fail)
            go_wp2
            exact ⟨⟨m + 1, by omega, by go_num, Lib.hid (I_xs.out.drewN _), Lib.hid (I_s.out.drewN _), Lib.hid (I_t.out.drewN _), Lib.hid (below_drewN B.out _)⟩, by simp [intOf]; omega⟩
      · obtain rfl : m = s.length := by omega
        have xs_30 : xs.length ≤ 30 := by omega
        by_cases hO : Tm.nrmOk xs = true
        · skip
          have HO := Lib.hid hO
          clear hO
          go_wp2_with fail
          have hok := HO.out
          refine (retIB_ex (iNormalRedundant (some ⟨bx, ox, none⟩) xs.length c0 xs _ I_xs.out) hok).mono ?_
          clear hok
          rintro e w6 ⟨u1, b6, c6, hv, rfl, ho, hb, ln6⟩
          have H_u1 : Hid (u1 = Tm.nrm xs) := Lib.hid hv
          have hsz := hb.size
          replace I_xs := Lib.hid (I_xs.out.below hb)
          replace B := Lib.hid (B.out.trans (hb.mono B.out.size))
          clear hb hsz
          have I_u1 := Lib.hid (Ints.of_own ho)
          clear ho hv
          go_wp2_with fail
          have hok := HO.out
          refine (retIB_ex (sNormalRedundant (some ⟨bx, ox, none⟩) xs.length c0 xs _ I_xs.out) hok).mono ?_
          clear hok
          rintro e w7 ⟨u2, b7, c7, hv, rfl, ho, hb, ln7⟩
          have H_u2 : Hid (u2 = Tm.nrm xs) := Lib.hid hv
          have hsz := hb.size
          replace I_xs := Lib.hid (I_xs.out.below hb)
          replace I_u1 := Lib.hid (I_u1.out.below hb)
          replace B := Lib.hid (B.out.trans (hb.mono B.out.size))
          clear hb hsz
          have I_u2 := Lib.hid (Ints.of_own ho)
          clear ho hv
          have NF := Lib.hid (Tm.nrm_facts R_xs.out HO.out)
          rw [← H_u1.out] at NF
          have ul : (u1.length : Int) = (j : Int) + 1 := by rw [NF.out.2.2, L_xs.out]; rfl
          go_wp2_with fail
          refine (iValueOf b6 u1.length c6 u1 _ I_u1.out).mono ?_
          rintro e w' ⟨h0, rfl⟩
          obtain ⟨vu, hv⟩ : ∃ r_, r_ = Tm.value u1 := ⟨_, rfl⟩
          rw [← hv] at h0
          subst h0
          have H_vu : Hid (vu = Tm.value u1) := Lib.hid hv
          clear hv
          go_wp2_with fail
          refine (iValueRedundant (some ⟨bx, ox, none⟩) xs.length c0 xs _ I_xs.out).mono ?_
          rintro e w' ⟨h0, rfl⟩
          obtain ⟨va2, hv⟩ : ∃ r_, r_ = Tm.valR xs := ⟨_, rfl⟩
          rw [← hv] at h0
          subst h0
          have H_va2 : Hid (va2 = Tm.valR xs) := Lib.hid hv
          clear hv
          have e9 : vu = va2 := by rw [H_vu.out, H_va2.out, Tm.value_eq NF.out.1, NF.out.2.1, Tm.valR, if_pos R_xs.out]
          clear H_vu
          subst e9
          go_wp2
          go_ret
          exact ⟨rfl, B.out⟩
        · simp only [Bool.not_eq_true] at hO
          have HO := Lib.hid hO
          clear hO
          go_wp2_with fail
          have hok := HO.out
          refine (retIB_no (iNormalRedundant (some ⟨bx, ox, none⟩) xs.length c0 xs _ I_xs.out) hok).mono ?_
          clear hok
          rintro e w8 ⟨v8, rfl, hb⟩
          have hsz := hb.size
          replace I_xs := Lib.hid (I_xs.out.below hb)
          replace B := Lib.hid (B.out.trans (hb.mono B.out.size))
          clear hb hsz
          go_wp2_with fail
          have hok := HO.out
          refine (retIB_no (sNormalRedundant (some ⟨bx, ox, none⟩) xs.length c0 xs _ I_xs.out) hok).mono ?_
          clear hok
          rintro e w9 ⟨v9, rfl, hb⟩
          have hsz := hb.size
          replace I_xs := Lib.hid (I_xs.out.below hb)
          replace B := Lib.hid (B.out.trans (hb.mono B.out.size))
          clear hb hsz
          go_wp2
          go_ret
          exact ⟨rfl, B.out⟩
  · go_enter Try.func9, Try.ntmps9
    go_wp2
    go_ret
    exact ⟨rfl, B.out⟩
end Go.Proofs.Ytlbhekfjcbcpaaa

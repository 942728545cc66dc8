/- Walks of laws: FnFloatOrder. -/
import Derived.Test.YtgkljlmfflbejaaFLx
import Derived.StillTailTactics
namespace Go.Proofs.Ytgkljlmfflbejaa
set_option maxRecDepth 20000
open Go.RowKit
namespace Tm
theorem frm_mid {n : Int} (h : -1743392200 ≤ n ∧ n ≤ 1743392200) : frmOk n 0 = true ∧ frmD n 0 = ofD n ∧ frmE n 0 = ofE n 0 ∧ fits n ∧ ofOk n 0 = true := by
  have f : fits n := ⟨by omega, by omega⟩
  have o : ofOk n 0 = true := by
    rw [ofOk, ofE]; split
    · rfl
    · have := lenN_spec f
      have s5 := this.2.2.2.2 (by assumption)
      have k6 : lenN n ≤ 20 := by
        rcases Nat.lt_or_ge 20 (lenN n) with c | c
        · have m := limN_mono (show 20 ≤ lenN n - 1 by omega)
          rw [show limN 20 = 1743392200 from by decide] at m
          have := absI_abs n
          omega
        · exact c
      exact (inB_iff _ _ _).2 ⟨by omega, by omega⟩
  have g := frm_of (m := n) (f := 0) f ⟨by omega, by omega⟩ rfl rfl
  rw [g.1, g.2.1, g.2.2, fD, fE, o, if_pos rfl, if_pos rfl]
  exact ⟨rfl, rfl, rfl, f, rfl⟩
theorem cmpF_bd (xs ys : List Int) (a b : Int) : -1 ≤ cmpF xs a ys b ∧ cmpF xs a ys b ≤ 1 := by
  unfold cmpF; split
  · unfold sgn; split <;> (try split) <;> omega
  · omega
theorem ex_quo {n m : Int} (hn : 1 ≤ n ∧ n ≤ 13) (hm : -12 ≤ m ∧ m ≤ 12) : dvOk (frmD (n * m) 0) (frmE (n * m) 0) (ofD n) (ofE n 0) = true ∧ dvD (frmD (n * m) 0) (frmE (n * m) 0) (ofD n) (ofE n 0) = ofD m ∧ dvE (frmD (n * m) 0) (frmE (n * m) 0) (ofD n) (ofE n 0) = ofE m 0 := by
  have nm := mul_bd (a := n) (b := m) (A := 13) (B := 12) ⟨by omega, by omega⟩ hm
  have p := frm_small (n := n * m) (e := 0) ⟨by omega, by omega⟩ ⟨by omega, by omega⟩
  have a := (frm_small (n := n) (e := 0) ⟨by omega, by omega⟩ ⟨by omega, by omega⟩).2.2.2
  have b := (frm_small (n := m) (e := 0) ⟨by omega, by omega⟩ ⟨by omega, by omega⟩).2.2.2
  have q := quo_exact hn hm
  rw [p.2.1, p.2.2.1]
  have e := dv_eq p.2.2.2 a q.2.2
  have o : ofOk (dvN (ofD (n * m)) (ofD n)) (ofE (n * m) 0 - ofE n 0 - 9) = true := by
    rw [ofOk, q.2.1]; exact (inB_iff _ _ _).2 ((isF_iff _ _).1 b).2.2.1
  rw [e.1, e.2.1, e.2.2, fD, fE, o, if_pos rfl, if_pos rfl, q.1, q.2.1]
  exact ⟨rfl, rfl, rfl⟩
end Tm
theorem at_fix (a : Option Addr) (n cap : Nat) (i : Int) (w : World) (hb : Byts w a n cap) (hn : n ≤ 1048576) (i0 : 0 ≤ i) (i1 : i ≤ 1000) : ∃ x : Int, 0 ≤ x ∧ x ≤ 255 ∧ Calls Try.prog 5 #[.slice a n cap, .int .i64 i] w fun e w' => e = .returned (.int .i64 x) ∧ w' = w := by
  obtain ⟨b1, b2, b3⟩ := hb
  unfold maxLen at b2
  obtain ⟨k, rfl⟩ := Int.eq_ofNat_of_zero_le i0
  by_cases hlt : k < n
  · rcases b3 with e | ⟨b, o, rfl, hbl, hc⟩
    · omega
    obtain ⟨x, x0, x1, hx⟩ := hc k hlt
    clear hc
    refine ⟨x, x0, x1, ?_⟩
    go_enter Try.func5, Try.ntmps5
    go_wp2
    go_ret
    exact ⟨rfl, rfl⟩
  · clear b3
    have m := Int.emod_nonneg ((k : Int) * 37 + (n : Int) * 11) (show (256 : Int) ≠ 0 by omega)
    have m2 := Int.emod_lt_of_pos ((k : Int) * 37 + (n : Int) * 11) (show (0 : Int) < 256 by omega)
    refine ⟨((k : Int) * 37 + (n : Int) * 11).tmod 256, by rw [Int.tmod_eq_emod_of_nonneg (by omega)]; omega, by rw [Int.tmod_eq_emod_of_nonneg (by omega)]; omega, ?_⟩
    go_enter Try.func5, Try.ntmps5
    go_wp2
    go_ret
    exact ⟨rfl, rfl⟩
theorem own_shape2 {w : World} {B e n : Nat} {v : Value} {xs : List Value} (h : w.ownsRow B e 1 v n xs) (hn : 0 < n) : ∃ g cap, v = .slice (some ⟨g, 0, none⟩) n cap ∧ n ≤ cap ∧ cap ≤ maxLen := by
  rcases h.2 with ⟨_, e2⟩ | ⟨g, cap, cur, e1, _, _, h4, h5, _⟩
  · omega
  · exact ⟨g, cap, e1, h4, h5⟩
theorem ints_cells {w : World} {b o n cap : Nat} {xs : List Int} (h : Ints w (some ⟨b, o, none⟩) n cap xs) : ∀ i, i < n → w.cell? ⟨b, o + i, none⟩ = some (.int .i64 (xs.getD i 0)) := by
  intro i hi
  rcases h.2.2.2 with e | ⟨b', o', e, _, hc⟩
  · omega
  · cases e; exact hc i hi
set_option maxRecDepth 20000 in
set_option maxHeartbeats 300000 in
theorem wFnFloatOrder (a0 : Option Addr) (len0 cap0 : Nat) (z0 : List Int) (w : World) (w0 : IsRow .u8 w a0 len0 cap0 z0) : Calls Try.prog 4 #[.slice a0 len0 cap0] w fun e w' => e = .returned (.bool true) ∧ Below w.heap.size w w' := by
  have BY := Lib.hid (Byts.of_row w0)
  have m0 : len0 ≤ 9223372036854775807 := by obtain ⟨h1, h2, _⟩ := BY.out; unfold maxLen at h2; omega
  clear w0
  have B := Lib.hid (Below.refl w.heap.size w)
  by_cases g0 : len0 ≤ 1048576
  · skip
    go_enter Try.func4, Try.ntmps4
    go_wp2_with fail
    refine (makeWord_any a0 len0 cap0 20 _ BY.out (by omega) (by omega) (by omega)).mono ?_
    rintro e w0 ⟨xs, b0, c0, rfl, hw, hp, ho, hb⟩
    have hsz := hb.size
    replace BY := Lib.hid (BY.out.below hb)
    replace B := Lib.hid (B.out.trans (hb.mono B.out.size))
    clear hb hsz
    have I_xs := Lib.hid (Ints.of_own ho)
    clear ho
    have W_xs := Lib.hid hw
    have xs_1 := Tm.isW_pos hw
    have xs_2 : xs.length ≤ 20 := by omega
    clear hw hp
    go_wp2_with fail
    refine (fresh_any a0 len0 cap0 3 _ BY.out (by omega) (by omega) (by omega)).mono ?_
    rintro e w1 ⟨a9, len9, cap9, rfl, m9, by9, hb⟩
    have BZ := Lib.hid by9
    clear by9
    have hsz := hb.size
    replace I_xs := Lib.hid (I_xs.out.below hb)
    replace BY := Lib.hid (BY.out.below hb)
    replace B := Lib.hid (B.out.trans (hb.mono B.out.size))
    clear hb hsz
    go_wp2_with fail
    refine (makeWord_any a9 len9 cap9 20 _ BZ.out (by omega) (by omega) (by omega)).mono ?_
    rintro e w2 ⟨ys, b2, c2, rfl, hw, hp, ho, hb⟩
    clear BZ
    have hsz := hb.size
    replace I_xs := Lib.hid (I_xs.out.below hb)
    replace BY := Lib.hid (BY.out.below hb)
    replace B := Lib.hid (B.out.trans (hb.mono B.out.size))
    clear hb hsz
    have I_ys := Lib.hid (Ints.of_own ho)
    clear ho
    have W_ys := Lib.hid hw
    have ys_1 := Tm.isW_pos hw
    have ys_2 : ys.length ≤ 20 := by omega
    clear hw hp
    go_wp2_with fail
    refine (at_any a0 len0 cap0 1 _ BY.out (by omega) (by omega) (by omega)).mono ?_
    rintro e w' ⟨y, rfl, y_0, y_1, rfl⟩
    obtain ⟨i0, hi, hz0, hz1, hz2⟩ := info_parts infoInt
    by_cases y2 : y.tmod 2 = 0
    · skip
      rcases I_xs.out.2.2.2 with h0 | ⟨bx, ox, rfl, hbx, hcx⟩
      · omega
      clear hcx hbx
      go_wp2_with (at_builtin; refine wpList_append_own _ rfl _ _ 24 rfl w2.heap.size 3 i0 (.int .i64 0) 1 8 Try.underlying24 hi hz0 hz1 hz2 rfl (by decide) _ _ _ rfl (own_empty w2 _ _ (Nat.le_refl _)) ⟨bx, ox, none⟩ xs.length _ (xs.map (Value.int .i64)) rfl (by simp) (news_of rfl (ints_cells (I_xs.out.below (by (repeat' (first | (with_reducible exact Below.refl _ _) | (with_reducible assumption) | (with_reducible refine below_drewN ?_ _) | (with_reducible refine Below.drew ?_) | (with_reducible refine Below.alloc ?_ ?_ _) | (with_reducible refine Below.setCell ?_ ?_ _) | (with_reducible refine below_gw ?_ ?_ _) | (with_reducible refine below_via ?_ ‹Below _ _ _› ?_) | (with_reducible exact Nat.le_refl _) | (with_reducible refine le_gw ?_ _) | (with_reducible refine le_alloc ?_ _) | (with_reducible refine le_setCell ?_ _ _) | (with_reducible refine le_drew ?_) | (with_reducible refine le_drewN ?_ _) | go_size)))))) (news_one xs) (by unfold maxLen; omega) (by omega) (by simp) ?_)
      intro v8 w8 hown hgrow _
      have hb : Below w2.heap.size w2 w8 := ((Below.refl w2.heap.size w2).alloc (Nat.le_refl _) _).grown hgrow (by simp) (fun k hk => by simp [Value.ownBlock] at hk; omega)
      try rw [Nat.zero_add] at hown
      try rw [List.nil_append] at hown
      clear hgrow
      have HW := Lib.hid hb.size
      have BC := Lib.hid hb
      have IW_xs := I_xs
      have IW_ys := I_ys
      have BYW := BY
      have BW0 := B
      have hsz := hb.size
      replace I_xs := Lib.hid (I_xs.out.below hb)
      replace I_ys := Lib.hid (I_ys.out.below hb)
      replace BY := Lib.hid (BY.out.below hb)
      replace B := Lib.hid (B.out.trans (hb.mono B.out.size))
      clear hb hsz
      obtain ⟨g, cz, rfl, hg1, hg2⟩ := own_shape2 hown (by omega)
      unfold maxLen at hg2
      have fz : ∀ j, w8.frozen? ⟨g, j, none⟩ = false := fun j => hown.frozenAt j
      have ck : ∀ j, j < xs.length → w8.cell? ⟨g, j, none⟩ = some (.int .i64 (xs.getD j 0)) := fun j hj => by
        have h := hown.cellAt j (by simpa using hj)
        rw [List.getElem?_eq_getElem (by simpa using hj), List.getElem_map, getD_at xs j hj] at h
        exact h
      have l0 : ((xs.length : Int) == 0) = false := by simp; intro e; rw [e] at xs_1; simp at xs_1
      have l1 : ¬ (xs.length = 0) := by omega
      have l2 : xs ≠ [] := by intro e; rw [e] at xs_1; simp at xs_1
      have l3 : ¬ ((xs.length : Int) = 0) := by omega
      have HO := Lib.hid hown
      clear hown
      go_wp2_with fail
      obtain ⟨x2_, x2a_, x2b_, C2⟩ := at_fix a0 len0 cap0 2 w8.drew (BY.out.below (by (repeat' (first | (with_reducible exact Below.refl _ _) | (with_reducible assumption) | (with_reducible refine below_drewN ?_ _) | (with_reducible refine Below.drew ?_) | (with_reducible refine Below.alloc ?_ ?_ _) | (with_reducible refine Below.setCell ?_ ?_ _) | (with_reducible refine below_gw ?_ ?_ _) | (with_reducible refine below_via ?_ ‹Below _ _ _› ?_) | (with_reducible exact Nat.le_refl _) | (with_reducible refine le_gw ?_ _) | (with_reducible refine le_alloc ?_ _) | (with_reducible refine le_setCell ?_ _ _) | (with_reducible refine le_drew ?_) | (with_reducible refine le_drewN ?_ _) | go_size)))) (by omega) (by omega) (by omega)
      obtain ⟨x3_, x3a_, x3b_, C3⟩ := at_fix a0 len0 cap0 3 w8.drew (BY.out.below (by (repeat' (first | (with_reducible exact Below.refl _ _) | (with_reducible assumption) | (with_reducible refine below_drewN ?_ _) | (with_reducible refine Below.drew ?_) | (with_reducible refine Below.alloc ?_ ?_ _) | (with_reducible refine Below.setCell ?_ ?_ _) | (with_reducible refine below_gw ?_ ?_ _) | (with_reducible refine below_via ?_ ‹Below _ _ _› ?_) | (with_reducible exact Nat.le_refl _) | (with_reducible refine le_gw ?_ _) | (with_reducible refine le_alloc ?_ _) | (with_reducible refine le_setCell ?_ _ _) | (with_reducible refine le_drew ?_) | (with_reducible refine le_drewN ?_ _) | go_size)))) (by omega) (by omega) (by omega)
      have C2 := Lib.hid C2
      have C3 := Lib.hid C3
      obtain ⟨j_, hj_⟩ : ∃ j : Nat, x2_.tmod (xs.length : Int) = (j : Int) := ⟨_, (Int.toNat_of_nonneg (Int.tmod_nonneg _ x2a_)).symm⟩
      have jl_ : j_ < xs.length := by have := Int.tmod_lt_of_pos x2_ (show (0 : Int) < (xs.length : Int) by omega); omega
      obtain ⟨c_, hc_⟩ : ∃ j : Nat, x3_.tmod 3 = (j : Int) := ⟨_, (Int.toNat_of_nonneg (Int.tmod_nonneg _ x3a_)).symm⟩
      have cl_ : c_ < 3 := by have := Int.tmod_lt_of_pos x3_ (show (0 : Int) < 3 by omega); omega
      have hj2_ : x2_ % (xs.length : Int) = (j_ : Int) := by rw [← Int.tmod_eq_emod_of_nonneg x2a_]; exact hj_
      have hc2_ : x3_ % 3 = (c_ : Int) := by rw [← Int.tmod_eq_emod_of_nonneg x3a_]; exact hc_
      have wc_ : IntKind.i64.wrap ((c_ : Int) - 1) = (c_ : Int) - 1 := IntWalk.i64_in _ (by omega)
      have ckj := ck j_ jl_
      clear ck
      go_still_tail 11, (by kernel_rfl)
      still_call C2.out
      repeat still_step
      still_call C3.out
      repeat still_step
      refine wpStill_nil ?_
      change wpList _ _ _ _ _ w8.drew
      have hst := HO.out.stored j_ (.int .i64 ((c_ : Int) - 1))
      rw [← List.map_set] at hst
      obtain ⟨s1, s2⟩ := hst
      obtain ⟨zs, hzs⟩ : ∃ zs, zs = xs.set j_ ((c_ : Int) - 1) := ⟨_, rfl⟩
      rw [← hzs] at s1
      have zl : zs.length = xs.length := by rw [hzs]; simp
      have W_zs : Hid (Tm.isW zs = true) := Lib.hid (by rw [hzs]; exact Tm.isW_mk (trits_set (Tm.isW_trits W_xs.out) j_ ⟨by omega, by omega⟩) (by rw [← hzs]; omega) (by rw [← hzs]; omega))
      have zs_2 : zs.length ≤ 20 := by omega
      clear zl hzs C2 C3
      have HB9 : Below w2.heap.size w2 (w8.setCell ⟨g, j_, none⟩ (.int .i64 ((c_ : Int) - 1))).drew := (BC.out.grown s2 HW.out (fun k hk => own_ge HO.out k hk)).drew
      have s1 := Lib.hid (World.ownsRow.drew s1)
      obtain ⟨w9, hw9⟩ : ∃ w9, w9 = (w8.setCell ⟨g, j_, none⟩ (.int .i64 ((c_ : Int) - 1))).drew := ⟨_, rfl⟩
      rw [← hw9] at HB9 s1
      have HB9 := Lib.hid HB9
      clear s2
      go_wp2_with fail
      rw [← hw9]
      clear hw9 fz ckj HO BC
      replace I_xs := Lib.hid (IW_xs.out.below HB9.out)
      replace I_ys := Lib.hid (IW_ys.out.below HB9.out)
      replace BY := Lib.hid (BYW.out.below HB9.out)
      replace B := Lib.hid (BW0.out.trans (HB9.out.mono BW0.out.size))
      clear BYW BW0 HB9 HW l0 l1 l2 l3 hj_ hj2_ hc_ hc2_ wc_ IW_xs IW_ys
      have I_zs := Lib.hid (Ints.of_own s1.out)
      clear s1
      have VB_n1 : Hid (-1743392200 ≤ Tm.value xs ∧ Tm.value xs ≤ 1743392200) := Lib.hid (by rw [Tm.value_eq W_xs.out]; exact Tm.val_bd_len W_xs.out 20 (by have := xs_2; omega))
      have VB_n2 : Hid (-1743392200 ≤ Tm.value zs ∧ Tm.value zs ≤ 1743392200) := Lib.hid (by rw [Tm.value_eq W_zs.out]; exact Tm.val_bd_len W_zs.out 20 (by have := zs_2; omega))
      refine (iValueOf (some ⟨bx, ox, none⟩) xs.length c0 xs _ I_xs.out).mono ?_
      rintro e w' ⟨h0, rfl⟩
      obtain ⟨n1, hv⟩ : ∃ r_, r_ = Tm.value xs := ⟨_, rfl⟩
      rw [← hv] at h0
      subst h0
      have H_n1 : Hid (n1 = Tm.value xs) := Lib.hid hv
      have bd : -1743392200 ≤ n1 ∧ n1 ≤ 1743392200 := by rw [hv]; exact VB_n1.out
      obtain ⟨n1_0, n1_1⟩ := bd
      clear hv
      have F_x := Lib.hid (Tm.frm_mid (n := n1) ⟨by omega, by omega⟩)
      go_wp2_with fail
      have hok := F_x.out.1
      refine (retFB_ex (iFloatOf n1 0 _) hok).mono ?_
      clear hok
      rintro e w10 ⟨x, e_x, b10, c10, hv, hv2, rfl, ho, hb, ln10⟩
      have H_x : Hid (x = Tm.frmD n1 0) := Lib.hid hv
      have E_x : Hid (e_x = Tm.frmE n1 0) := Lib.hid hv2
      have hsz := hb.size
      replace I_xs := Lib.hid (I_xs.out.below hb)
      replace I_ys := Lib.hid (I_ys.out.below hb)
      replace I_zs := Lib.hid (I_zs.out.below hb)
      replace BY := Lib.hid (BY.out.below hb)
      replace B := Lib.hid (B.out.trans (hb.mono B.out.size))
      clear hb hsz
      have I_x := Lib.hid (Ints.of_own ho)
      clear ho hv hv2
      have G_x : Hid (x = Tm.ofD n1 ∧ e_x = Tm.ofE n1 0) := Lib.hid ⟨by rw [H_x.out, F_x.out.2.1], by rw [E_x.out, F_x.out.2.2.1]⟩
      go_wp2_with fail
      generalize hW : World.alloc w10 _ = w11
      obtain ⟨bx, hb⟩ := box_of hW
      have BX_x := Lib.hid bx
      clear hW bx
      have hsz := hb.size
      replace I_xs := Lib.hid (I_xs.out.below hb)
      replace I_ys := Lib.hid (I_ys.out.below hb)
      replace I_zs := Lib.hid (I_zs.out.below hb)
      replace I_x := Lib.hid (I_x.out.below hb)
      replace BY := Lib.hid (BY.out.below hb)
      replace B := Lib.hid (B.out.trans (hb.mono B.out.size))
      clear hb hsz
      refine (iValueOf (some ⟨g, 0, none⟩) xs.length cz zs _ I_zs.out).mono ?_
      rintro e w' ⟨h0, rfl⟩
      obtain ⟨n2, hv⟩ : ∃ r_, r_ = Tm.value zs := ⟨_, rfl⟩
      rw [← hv] at h0
      subst h0
      have H_n2 : Hid (n2 = Tm.value zs) := Lib.hid hv
      have bd : -1743392200 ≤ n2 ∧ n2 ≤ 1743392200 := by rw [hv]; exact VB_n2.out
      obtain ⟨n2_0, n2_1⟩ := bd
      clear hv
      have F_y := Lib.hid (Tm.frm_mid (n := n2) ⟨by omega, by omega⟩)
      go_wp2_with fail
      have hok := F_y.out.1
      refine (retFB_ex (iFloatOf n2 0 _) hok).mono ?_
      clear hok
      rintro e w12 ⟨y, e_y, b12, c12, hv, hv2, rfl, ho, hb, ln12⟩
      have H_y : Hid (y = Tm.frmD n2 0) := Lib.hid hv
      have E_y : Hid (e_y = Tm.frmE n2 0) := Lib.hid hv2
      have hsz := hb.size
      replace I_xs := Lib.hid (I_xs.out.below hb)
      replace I_ys := Lib.hid (I_ys.out.below hb)
      replace I_zs := Lib.hid (I_zs.out.below hb)
      replace I_x := Lib.hid (I_x.out.below hb)
      replace BX_x := Lib.hid (BX_x.out.below hb)
      replace BY := Lib.hid (BY.out.below hb)
      replace B := Lib.hid (B.out.trans (hb.mono B.out.size))
      clear hb hsz
      have I_y := Lib.hid (Ints.of_own ho)
      clear ho hv hv2
      have G_y : Hid (y = Tm.ofD n2 ∧ e_y = Tm.ofE n2 0) := Lib.hid ⟨by rw [H_y.out, F_y.out.2.1], by rw [E_y.out, F_y.out.2.2.1]⟩
      have hvx := H_n1.out
      go_wp2_with fail
      generalize hW : World.alloc w12 _ = w13
      obtain ⟨bx, hb⟩ := box_of hW
      have BX_y := Lib.hid bx
      clear hW bx
      have hsz := hb.size
      replace I_xs := Lib.hid (I_xs.out.below hb)
      replace I_ys := Lib.hid (I_ys.out.below hb)
      replace I_zs := Lib.hid (I_zs.out.below hb)
      replace I_x := Lib.hid (I_x.out.below hb)
      replace I_y := Lib.hid (I_y.out.below hb)
      replace BX_x := Lib.hid (BX_x.out.below hb)
      replace BY := Lib.hid (BY.out.below hb)
      replace B := Lib.hid (B.out.trans (hb.mono B.out.size))
      clear hb hsz
      refine (iValueOf (some ⟨bx, ox, none⟩) xs.length c0 xs _ I_xs.out).mono ?_
      rintro e w' ⟨rfl, rfl⟩
      rw [← hvx]
      clear hvx
      have hvx := H_n2.out
      go_wp2_with fail
      refine (iValueOf (some ⟨g, 0, none⟩) xs.length cz zs _ I_zs.out).mono ?_
      rintro e w' ⟨rfl, rfl⟩
      rw [← hvx]
      clear hvx
      go_wp2_with fail
      refine (iSignOf (n1 - n2) _).mono ?_
      rintro e w' ⟨h0, rfl⟩
      obtain ⟨wt, hv⟩ : ∃ r_, r_ = Tm.sgn (n1 - n2) := ⟨_, rfl⟩
      rw [← hv] at h0
      subst h0
      have H_wt : Hid (wt = Tm.sgn (n1 - n2)) := Lib.hid hv
      clear hv
      have CO := Lib.hid (Tm.cmp_order (a := n1) (b := n2) F_x.out.2.2.2.1 F_y.out.2.2.2.1 F_x.out.2.2.2.2 F_y.out.2.2.2.2)
      have c_ := BX_x.out
      obtain ⟨l0_, x0_, y0_⟩ := c_
      have c_ := BX_y.out
      obtain ⟨l1_, x1_, y1_⟩ := c_
      go_wp2_with fail
      clear l0_ x0_ y0_
      clear l1_ x1_ y1_
      refine (iCompareFloats b10 x.length c10 x e_x b12 y.length c12 y e_y _ I_x.out I_y.out).mono ?_
      rintro e w14 ⟨h0, hb⟩
      obtain ⟨gt, hv⟩ : ∃ r_, r_ = Tm.cmpF x e_x y e_y := ⟨_, rfl⟩
      rw [← hv] at h0
      subst h0
      have H_gt : Hid (gt = Tm.cmpF x e_x y e_y) := Lib.hid hv
      have bd : -1 ≤ gt ∧ gt ≤ 1 := by rw [hv]; exact Tm.cmpF_bd _ _ _ _
      obtain ⟨gt_0, gt_1⟩ := bd
      clear hv
      have hsz := hb.size
      replace I_xs := Lib.hid (I_xs.out.below hb)
      replace I_ys := Lib.hid (I_ys.out.below hb)
      replace I_zs := Lib.hid (I_zs.out.below hb)
      replace I_x := Lib.hid (I_x.out.below hb)
      replace I_y := Lib.hid (I_y.out.below hb)
      replace BX_x := Lib.hid (BX_x.out.below hb)
      replace BX_y := Lib.hid (BX_y.out.below hb)
      replace BY := Lib.hid (BY.out.below hb)
      replace B := Lib.hid (B.out.trans (hb.mono B.out.size))
      clear hb hsz
      have GT : Hid (gt = wt ∨ (gt = 0 ∧ ((0 : Int) == wt) = false)) := Lib.hid (by
        have h1 : gt = wt ∨ gt = 0 := by
          rcases CO.out with h | h
          · left; rw [H_gt.out, H_wt.out, G_x.out.1, G_x.out.2, G_y.out.1, G_y.out.2]; exact h
          · right; rw [H_gt.out, G_x.out.1, G_x.out.2, G_y.out.1, G_y.out.2]; exact h
        by_cases e : gt = wt
        · exact .inl e
        · exact .inr ⟨h1.resolve_left e, by simp; intro h; exact e (by rw [h1.resolve_left e, h])⟩)
      go_wp2_with fail
      refine (at_any a0 len0 cap0 4 _ BY.out (by omega) (by omega) (by omega)).mono ?_
      rintro e w' ⟨u, rfl, u_0, u_1, rfl⟩
      obtain ⟨p, hp⟩ : ∃ j : Nat, u.tmod 13 = (j : Int) := ⟨_, (Int.toNat_of_nonneg (Int.tmod_nonneg _ u_0)).symm⟩
      have p_lt : p < 13 := by have := Int.tmod_lt_of_pos u (show (0 : Int) < 13 by omega); omega
      go_wp2_with fail
      refine (at_any a0 len0 cap0 5 _ BY.out (by omega) (by omega) (by omega)).mono ?_
      rintro e w' ⟨v, rfl, v_0, v_1, rfl⟩
      obtain ⟨r, hr⟩ : ∃ j : Nat, v.tmod 25 = (j : Int) := ⟨_, (Int.toNat_of_nonneg (Int.tmod_nonneg _ v_0)).symm⟩
      have r_lt : r < 25 := by have := Int.tmod_lt_of_pos v (show (0 : Int) < 25 by omega); omega
      obtain ⟨n, hn⟩ : ∃ n : Int, 1 + (p : Int) = n := ⟨_, rfl⟩
      obtain ⟨m, hm⟩ : ∃ m : Int, (r : Int) - 12 = m := ⟨_, rfl⟩
      have n_0 : 1 ≤ n := by omega
      have n_1 : n ≤ 13 := by omega
      have m_0 : -12 ≤ m := by omega
      have m_1 : m ≤ 12 := by omega
      have FN := Lib.hid (Tm.frm_small (n := n) (e := 0) ⟨by omega, by omega⟩ ⟨by omega, by omega⟩)
      have FM := Lib.hid (Tm.frm_small (n := m) (e := 0) ⟨by omega, by omega⟩ ⟨by omega, by omega⟩)
      have MX := Lib.hid (Tm.ex_mul (n := n) (m := m) ⟨by omega, by omega⟩ ⟨by omega, by omega⟩)
      have QX := Lib.hid (Tm.ex_quo (n := n) (m := m) ⟨by omega, by omega⟩ ⟨by omega, by omega⟩)
      go_wp2_with fail
      have hok := FN.out.1
      refine (retFB_ex (iFloatOf n 0 _) hok).mono ?_
      clear hok
      rintro e w15 ⟨f, e_f, b15, c15, hv, hv2, rfl, ho, hb, ln15⟩
      have H_f : Hid (f = Tm.frmD n 0) := Lib.hid hv
      have E_f : Hid (e_f = Tm.frmE n 0) := Lib.hid hv2
      have hsz := hb.size
      replace I_xs := Lib.hid (I_xs.out.below hb)
      replace I_ys := Lib.hid (I_ys.out.below hb)
      replace I_zs := Lib.hid (I_zs.out.below hb)
      replace I_x := Lib.hid (I_x.out.below hb)
      replace I_y := Lib.hid (I_y.out.below hb)
      replace BX_x := Lib.hid (BX_x.out.below hb)
      replace BX_y := Lib.hid (BX_y.out.below hb)
      replace BY := Lib.hid (BY.out.below hb)
      replace B := Lib.hid (B.out.trans (hb.mono B.out.size))
      clear hb hsz
      have I_f := Lib.hid (Ints.of_own ho)
      clear ho hv hv2
      have HA : Hid (f = Tm.ofD n ∧ e_f = Tm.ofE n 0) := Lib.hid ⟨by rw [H_f.out, FN.out.2.1], by rw [E_f.out, FN.out.2.2.1]⟩
      go_wp2_with fail
      generalize hW : World.alloc w15 _ = w16
      obtain ⟨bx, hb⟩ := box_of hW
      have BX_f := Lib.hid bx
      clear hW bx
      have hsz := hb.size
      replace I_xs := Lib.hid (I_xs.out.below hb)
      replace I_ys := Lib.hid (I_ys.out.below hb)
      replace I_zs := Lib.hid (I_zs.out.below hb)
      replace I_x := Lib.hid (I_x.out.below hb)
      replace I_y := Lib.hid (I_y.out.below hb)
      replace I_f := Lib.hid (I_f.out.below hb)
      replace BX_x := Lib.hid (BX_x.out.below hb)
      replace BX_y := Lib.hid (BX_y.out.below hb)
      replace BY := Lib.hid (BY.out.below hb)
      replace B := Lib.hid (B.out.trans (hb.mono B.out.size))
      clear hb hsz
      have hok := FM.out.1
      refine (retFB_ex (iFloatOf m 0 _) hok).mono ?_
      clear hok
      rintro e w17 ⟨g, e_g, b17, c17, hv, hv2, rfl, ho, hb, ln17⟩
      have H_g : Hid (g = Tm.frmD m 0) := Lib.hid hv
      have E_g : Hid (e_g = Tm.frmE m 0) := Lib.hid hv2
      have hsz := hb.size
      replace I_xs := Lib.hid (I_xs.out.below hb)
      replace I_ys := Lib.hid (I_ys.out.below hb)
      replace I_zs := Lib.hid (I_zs.out.below hb)
      replace I_x := Lib.hid (I_x.out.below hb)
      replace I_y := Lib.hid (I_y.out.below hb)
      replace I_f := Lib.hid (I_f.out.below hb)
      replace BX_x := Lib.hid (BX_x.out.below hb)
      replace BX_y := Lib.hid (BX_y.out.below hb)
      replace BX_f := Lib.hid (BX_f.out.below hb)
      replace BY := Lib.hid (BY.out.below hb)
      replace B := Lib.hid (B.out.trans (hb.mono B.out.size))
      clear hb hsz
      have I_g := Lib.hid (Ints.of_own ho)
      clear ho hv hv2
      have HB : Hid (g = Tm.ofD m ∧ e_g = Tm.ofE m 0) := Lib.hid ⟨by rw [H_g.out, FM.out.2.1], by rw [E_g.out, FM.out.2.2.1]⟩
      have c_ := BX_f.out
      obtain ⟨l0_, x0_, y0_⟩ := c_
      go_wp2_with fail
      generalize hW : World.alloc w17 _ = w18
      obtain ⟨bx, hb⟩ := box_of hW
      have BX_g := Lib.hid bx
      clear hW bx
      clear l0_ x0_ y0_
      have hsz := hb.size
      replace I_xs := Lib.hid (I_xs.out.below hb)
      replace I_ys := Lib.hid (I_ys.out.below hb)
      replace I_zs := Lib.hid (I_zs.out.below hb)
      replace I_x := Lib.hid (I_x.out.below hb)
      replace I_y := Lib.hid (I_y.out.below hb)
      replace I_f := Lib.hid (I_f.out.below hb)
      replace I_g := Lib.hid (I_g.out.below hb)
      replace BX_x := Lib.hid (BX_x.out.below hb)
      replace BX_y := Lib.hid (BX_y.out.below hb)
      replace BX_f := Lib.hid (BX_f.out.below hb)
      replace BY := Lib.hid (BY.out.below hb)
      replace B := Lib.hid (B.out.trans (hb.mono B.out.size))
      clear hb hsz
      have hok := show Tm.mlOk f e_f g e_g = true by rw [HA.out.1, HA.out.2, HB.out.1, HB.out.2]; exact MX.out.1
      refine (retFB_ex (iMulFloats b15 f.length c15 f e_f b17 g.length c17 g e_g _ I_f.out I_g.out) hok).mono ?_
      clear hok
      rintro e w19 ⟨pr, e_pr, b19, c19, hv, hv2, rfl, ho, hb, ln19⟩
      have H_pr : Hid (pr = Tm.mlD f e_f g e_g) := Lib.hid hv
      have E_pr : Hid (e_pr = Tm.mlE f e_f g e_g) := Lib.hid hv2
      have hsz := hb.size
      replace I_xs := Lib.hid (I_xs.out.below hb)
      replace I_ys := Lib.hid (I_ys.out.below hb)
      replace I_zs := Lib.hid (I_zs.out.below hb)
      replace I_x := Lib.hid (I_x.out.below hb)
      replace I_y := Lib.hid (I_y.out.below hb)
      replace I_f := Lib.hid (I_f.out.below hb)
      replace I_g := Lib.hid (I_g.out.below hb)
      replace BX_x := Lib.hid (BX_x.out.below hb)
      replace BX_y := Lib.hid (BX_y.out.below hb)
      replace BX_f := Lib.hid (BX_f.out.below hb)
      replace BX_g := Lib.hid (BX_g.out.below hb)
      replace BY := Lib.hid (BY.out.below hb)
      replace B := Lib.hid (B.out.trans (hb.mono B.out.size))
      clear hb hsz
      have I_pr := Lib.hid (Ints.of_own ho)
      clear ho hv hv2
      have HP : Hid (pr = Tm.frmD (n * m) 0 ∧ e_pr = Tm.frmE (n * m) 0) := Lib.hid ⟨by rw [H_pr.out]; rw [HA.out.1, HA.out.2, HB.out.1, HB.out.2]; exact MX.out.2.1, by rw [E_pr.out]; rw [HA.out.1, HA.out.2, HB.out.1, HB.out.2]; exact MX.out.2.2⟩
      have c_ := BX_f.out
      obtain ⟨l0_, x0_, y0_⟩ := c_
      go_wp2_with fail
      generalize hW : World.alloc w19 _ = w20
      obtain ⟨bx, hb⟩ := box_of hW
      have BX_pr := Lib.hid bx
      clear hW bx
      clear l0_ x0_ y0_
      have hsz := hb.size
      replace I_xs := Lib.hid (I_xs.out.below hb)
      replace I_ys := Lib.hid (I_ys.out.below hb)
      replace I_zs := Lib.hid (I_zs.out.below hb)
      replace I_x := Lib.hid (I_x.out.below hb)
      replace I_y := Lib.hid (I_y.out.below hb)
      replace I_f := Lib.hid (I_f.out.below hb)
      replace I_g := Lib.hid (I_g.out.below hb)
      replace I_pr := Lib.hid (I_pr.out.below hb)
      replace BX_x := Lib.hid (BX_x.out.below hb)
      replace BX_y := Lib.hid (BX_y.out.below hb)
      replace BX_f := Lib.hid (BX_f.out.below hb)
      replace BX_g := Lib.hid (BX_g.out.below hb)
      replace BY := Lib.hid (BY.out.below hb)
      replace B := Lib.hid (B.out.trans (hb.mono B.out.size))
      clear hb hsz
      have hok := show Tm.dvOk pr e_pr f e_f = true by rw [HP.out.1, HP.out.2, HA.out.1, HA.out.2]; exact QX.out.1
      refine (retFB_ex (iDivFloats b19 pr.length c19 pr e_pr b15 f.length c15 f e_f _ I_pr.out I_f.out) hok).mono ?_
      clear hok
      rintro e w21 ⟨qt, e_qt, b21, c21, hv, hv2, rfl, ho, hb, ln21⟩
      have H_qt : Hid (qt = Tm.dvD pr e_pr f e_f) := Lib.hid hv
      have E_qt : Hid (e_qt = Tm.dvE pr e_pr f e_f) := Lib.hid hv2
      have hsz := hb.size
      replace I_xs := Lib.hid (I_xs.out.below hb)
      replace I_ys := Lib.hid (I_ys.out.below hb)
      replace I_zs := Lib.hid (I_zs.out.below hb)
      replace I_x := Lib.hid (I_x.out.below hb)
      replace I_y := Lib.hid (I_y.out.below hb)
      replace I_f := Lib.hid (I_f.out.below hb)
      replace I_g := Lib.hid (I_g.out.below hb)
      replace I_pr := Lib.hid (I_pr.out.below hb)
      replace BX_x := Lib.hid (BX_x.out.below hb)
      replace BX_y := Lib.hid (BX_y.out.below hb)
      replace BX_f := Lib.hid (BX_f.out.below hb)
      replace BX_g := Lib.hid (BX_g.out.below hb)
      replace BX_pr := Lib.hid (BX_pr.out.below hb)
      replace BY := Lib.hid (BY.out.below hb)
      replace B := Lib.hid (B.out.trans (hb.mono B.out.size))
      clear hb hsz
      have I_qt := Lib.hid (Ints.of_own ho)
      clear ho hv hv2
      have QG : Hid (qt = g ∧ e_qt = e_g) := Lib.hid ⟨by rw [H_qt.out, HP.out.1, HP.out.2, HA.out.1, HA.out.2, HB.out.1]; exact QX.out.2.1, by rw [E_qt.out, HP.out.1, HP.out.2, HA.out.1, HA.out.2, HB.out.2]; exact QX.out.2.2⟩
      have CY : Hid (Tm.cmpF y e_y x e_x = -gt) := Lib.hid (by rw [H_gt.out]; exact Tm.cmpF_swap _ _ _ _)
      have CQ : Hid (Tm.cmpF qt e_qt g e_g = 0) := Lib.hid (by rw [QG.out.1, QG.out.2]; exact Tm.cmpF_self _ _)
      have GW := GT.out
      rcases GW with rfl | ⟨rfl, e0⟩
      · skip
        have e0 : (gt == gt) = true := by simp
        have c_ := BX_y.out
        obtain ⟨l0_, x0_, y0_⟩ := c_
        have c_ := BX_x.out
        obtain ⟨l1_, x1_, y1_⟩ := c_
        go_wp2_with fail
        generalize hW : World.alloc w21 _ = w22
        obtain ⟨bx, hb⟩ := box_of hW
        have BX_qt := Lib.hid bx
        clear hW bx
        clear l0_ x0_ y0_
        clear l1_ x1_ y1_
        have hsz := hb.size
        replace I_xs := Lib.hid (I_xs.out.below hb)
        replace I_ys := Lib.hid (I_ys.out.below hb)
        replace I_zs := Lib.hid (I_zs.out.below hb)
        replace I_x := Lib.hid (I_x.out.below hb)
        replace I_y := Lib.hid (I_y.out.below hb)
        replace I_f := Lib.hid (I_f.out.below hb)
        replace I_g := Lib.hid (I_g.out.below hb)
        replace I_pr := Lib.hid (I_pr.out.below hb)
        replace I_qt := Lib.hid (I_qt.out.below hb)
        replace BX_x := Lib.hid (BX_x.out.below hb)
        replace BX_y := Lib.hid (BX_y.out.below hb)
        replace BX_f := Lib.hid (BX_f.out.below hb)
        replace BX_g := Lib.hid (BX_g.out.below hb)
        replace BX_pr := Lib.hid (BX_pr.out.below hb)
        replace BY := Lib.hid (BY.out.below hb)
        replace B := Lib.hid (B.out.trans (hb.mono B.out.size))
        clear hb hsz
        refine (iCompareFloats b12 y.length c12 y e_y b10 x.length c10 x e_x _ I_y.out I_x.out).mono ?_
        rintro e w23 ⟨h0, hb⟩
        obtain ⟨c1, hv⟩ : ∃ r_, r_ = Tm.cmpF y e_y x e_x := ⟨_, rfl⟩
        rw [← hv] at h0
        subst h0
        have H_c1 : Hid (c1 = Tm.cmpF y e_y x e_x) := Lib.hid hv
        clear hv
        have hsz := hb.size
        replace I_xs := Lib.hid (I_xs.out.below hb)
        replace I_ys := Lib.hid (I_ys.out.below hb)
        replace I_zs := Lib.hid (I_zs.out.below hb)
        replace I_x := Lib.hid (I_x.out.below hb)
        replace I_y := Lib.hid (I_y.out.below hb)
        replace I_f := Lib.hid (I_f.out.below hb)
        replace I_g := Lib.hid (I_g.out.below hb)
        replace I_pr := Lib.hid (I_pr.out.below hb)
        replace I_qt := Lib.hid (I_qt.out.below hb)
        replace BX_x := Lib.hid (BX_x.out.below hb)
        replace BX_y := Lib.hid (BX_y.out.below hb)
        replace BX_f := Lib.hid (BX_f.out.below hb)
        replace BX_g := Lib.hid (BX_g.out.below hb)
        replace BX_pr := Lib.hid (BX_pr.out.below hb)
        replace BX_qt := Lib.hid (BX_qt.out.below hb)
        replace BY := Lib.hid (BY.out.below hb)
        replace B := Lib.hid (B.out.trans (hb.mono B.out.size))
        clear hb hsz
        have e1 : c1 = -gt := by rw [H_c1.out, CY.out]
        clear H_c1
        subst e1
        have c_ := BX_qt.out
        obtain ⟨l0_, x0_, y0_⟩ := c_
        have c_ := BX_g.out
        obtain ⟨l1_, x1_, y1_⟩ := c_
        go_wp2_with fail
        clear l0_ x0_ y0_
        clear l1_ x1_ y1_
        refine (iCompareFloats b21 qt.length c21 qt e_qt b17 g.length c17 g e_g _ I_qt.out I_g.out).mono ?_
        rintro e w24 ⟨h0, hb⟩
        obtain ⟨c2, hv⟩ : ∃ r_, r_ = Tm.cmpF qt e_qt g e_g := ⟨_, rfl⟩
        rw [← hv] at h0
        subst h0
        have H_c2 : Hid (c2 = Tm.cmpF qt e_qt g e_g) := Lib.hid hv
        clear hv
        have hsz := hb.size
        replace I_xs := Lib.hid (I_xs.out.below hb)
        replace I_ys := Lib.hid (I_ys.out.below hb)
        replace I_zs := Lib.hid (I_zs.out.below hb)
        replace I_x := Lib.hid (I_x.out.below hb)
        replace I_y := Lib.hid (I_y.out.below hb)
        replace I_f := Lib.hid (I_f.out.below hb)
        replace I_g := Lib.hid (I_g.out.below hb)
        replace I_pr := Lib.hid (I_pr.out.below hb)
        replace I_qt := Lib.hid (I_qt.out.below hb)
        replace BX_x := Lib.hid (BX_x.out.below hb)
        replace BX_y := Lib.hid (BX_y.out.below hb)
        replace BX_f := Lib.hid (BX_f.out.below hb)
        replace BX_g := Lib.hid (BX_g.out.below hb)
        replace BX_pr := Lib.hid (BX_pr.out.below hb)
        replace BX_qt := Lib.hid (BX_qt.out.below hb)
        replace BY := Lib.hid (BY.out.below hb)
        replace B := Lib.hid (B.out.trans (hb.mono B.out.size))
        clear hb hsz
        have e2 : c2 = 0 := by rw [H_c2.out, CQ.out]
        clear H_c2
        subst e2
        go_wp2
        go_ret
        exact ⟨rfl, B.out⟩
      · skip
        have c_ := BX_y.out
        obtain ⟨l0_, x0_, y0_⟩ := c_
        have c_ := BX_x.out
        obtain ⟨l1_, x1_, y1_⟩ := c_
        go_wp2_with fail
        generalize hW : World.alloc w21 _ = w22
        obtain ⟨bx, hb⟩ := box_of hW
        have BX_qt := Lib.hid bx
        clear hW bx
        clear l0_ x0_ y0_
        clear l1_ x1_ y1_
        have hsz := hb.size
        replace I_xs := Lib.hid (I_xs.out.below hb)
        replace I_ys := Lib.hid (I_ys.out.below hb)
        replace I_zs := Lib.hid (I_zs.out.below hb)
        replace I_x := Lib.hid (I_x.out.below hb)
        replace I_y := Lib.hid (I_y.out.below hb)
        replace I_f := Lib.hid (I_f.out.below hb)
        replace I_g := Lib.hid (I_g.out.below hb)
        replace I_pr := Lib.hid (I_pr.out.below hb)
        replace I_qt := Lib.hid (I_qt.out.below hb)
        replace BX_x := Lib.hid (BX_x.out.below hb)
        replace BX_y := Lib.hid (BX_y.out.below hb)
        replace BX_f := Lib.hid (BX_f.out.below hb)
        replace BX_g := Lib.hid (BX_g.out.below hb)
        replace BX_pr := Lib.hid (BX_pr.out.below hb)
        replace BY := Lib.hid (BY.out.below hb)
        replace B := Lib.hid (B.out.trans (hb.mono B.out.size))
        clear hb hsz
        refine (iCompareFloats b12 y.length c12 y e_y b10 x.length c10 x e_x _ I_y.out I_x.out).mono ?_
        rintro e w23 ⟨h0, hb⟩
        obtain ⟨c1, hv⟩ : ∃ r_, r_ = Tm.cmpF y e_y x e_x := ⟨_, rfl⟩
        rw [← hv] at h0
        subst h0
        have H_c1 : Hid (c1 = Tm.cmpF y e_y x e_x) := Lib.hid hv
        clear hv
        have hsz := hb.size
        replace I_xs := Lib.hid (I_xs.out.below hb)
        replace I_ys := Lib.hid (I_ys.out.below hb)
        replace I_zs := Lib.hid (I_zs.out.below hb)
        replace I_x := Lib.hid (I_x.out.below hb)
        replace I_y := Lib.hid (I_y.out.below hb)
        replace I_f := Lib.hid (I_f.out.below hb)
        replace I_g := Lib.hid (I_g.out.below hb)
        replace I_pr := Lib.hid (I_pr.out.below hb)
        replace I_qt := Lib.hid (I_qt.out.below hb)
        replace BX_x := Lib.hid (BX_x.out.below hb)
        replace BX_y := Lib.hid (BX_y.out.below hb)
        replace BX_f := Lib.hid (BX_f.out.below hb)
        replace BX_g := Lib.hid (BX_g.out.below hb)
        replace BX_pr := Lib.hid (BX_pr.out.below hb)
        replace BX_qt := Lib.hid (BX_qt.out.below hb)
        replace BY := Lib.hid (BY.out.below hb)
        replace B := Lib.hid (B.out.trans (hb.mono B.out.size))
        clear hb hsz
        have e1 : c1 = -0 := by rw [H_c1.out, CY.out]
        clear H_c1
        subst e1
        have c_ := BX_qt.out
        obtain ⟨l0_, x0_, y0_⟩ := c_
        have c_ := BX_g.out
        obtain ⟨l1_, x1_, y1_⟩ := c_
        go_wp2_with fail
        clear l0_ x0_ y0_
        clear l1_ x1_ y1_
        refine (iCompareFloats b21 qt.length c21 qt e_qt b17 g.length c17 g e_g _ I_qt.out I_g.out).mono ?_
        rintro e w24 ⟨h0, hb⟩
        obtain ⟨c2, hv⟩ : ∃ r_, r_ = Tm.cmpF qt e_qt g e_g := ⟨_, rfl⟩
        rw [← hv] at h0
        subst h0
        have H_c2 : Hid (c2 = Tm.cmpF qt e_qt g e_g) := Lib.hid hv
        clear hv
        have hsz := hb.size
        replace I_xs := Lib.hid (I_xs.out.below hb)
        replace I_ys := Lib.hid (I_ys.out.below hb)
        replace I_zs := Lib.hid (I_zs.out.below hb)
        replace I_x := Lib.hid (I_x.out.below hb)
        replace I_y := Lib.hid (I_y.out.below hb)
        replace I_f := Lib.hid (I_f.out.below hb)
        replace I_g := Lib.hid (I_g.out.below hb)
        replace I_pr := Lib.hid (I_pr.out.below hb)
        replace I_qt := Lib.hid (I_qt.out.below hb)
        replace BX_x := Lib.hid (BX_x.out.below hb)
        replace BX_y := Lib.hid (BX_y.out.below hb)
        replace BX_f := Lib.hid (BX_f.out.below hb)
        replace BX_g := Lib.hid (BX_g.out.below hb)
        replace BX_pr := Lib.hid (BX_pr.out.below hb)
        replace BX_qt := Lib.hid (BX_qt.out.below hb)
        replace BY := Lib.hid (BY.out.below hb)
        replace B := Lib.hid (B.out.trans (hb.mono B.out.size))
        clear hb hsz
        have e2 : c2 = 0 := by rw [H_c2.out, CQ.out]
        clear H_c2
        subst e2
        go_wp2
        go_ret
        exact ⟨rfl, B.out⟩
    · skip
      have y4 : ¬ (y % 2 = 0) := by rw [← Int.tmod_eq_emod_of_nonneg y_0]; exact y2
      have y3' : (y % 2 == 0) = false := by simpa using y4
      have y3b : (y.tmod 2 == 0) = false := by simpa using y2
      clear y2
      have VB_n1 : Hid (-1743392200 ≤ Tm.value xs ∧ Tm.value xs ≤ 1743392200) := Lib.hid (by rw [Tm.value_eq W_xs.out]; exact Tm.val_bd_len W_xs.out 20 (by have := xs_2; omega))
      have VB_n2 : Hid (-1743392200 ≤ Tm.value ys ∧ Tm.value ys ≤ 1743392200) := Lib.hid (by rw [Tm.value_eq W_ys.out]; exact Tm.val_bd_len W_ys.out 20 (by have := ys_2; omega))
      go_wp2_with fail
      refine (iValueOf b0 xs.length c0 xs _ I_xs.out).mono ?_
      rintro e w' ⟨h0, rfl⟩
      obtain ⟨n1, hv⟩ : ∃ r_, r_ = Tm.value xs := ⟨_, rfl⟩
      rw [← hv] at h0
      subst h0
      have H_n1 : Hid (n1 = Tm.value xs) := Lib.hid hv
      have bd : -1743392200 ≤ n1 ∧ n1 ≤ 1743392200 := by rw [hv]; exact VB_n1.out
      obtain ⟨n1_0, n1_1⟩ := bd
      clear hv
      have F_x := Lib.hid (Tm.frm_mid (n := n1) ⟨by omega, by omega⟩)
      go_wp2_with fail
      have hok := F_x.out.1
      refine (retFB_ex (iFloatOf n1 0 _) hok).mono ?_
      clear hok
      rintro e w3 ⟨x, e_x, b3, c3, hv, hv2, rfl, ho, hb, ln3⟩
      have H_x : Hid (x = Tm.frmD n1 0) := Lib.hid hv
      have E_x : Hid (e_x = Tm.frmE n1 0) := Lib.hid hv2
      have hsz := hb.size
      replace I_xs := Lib.hid (I_xs.out.below hb)
      replace I_ys := Lib.hid (I_ys.out.below hb)
      replace BY := Lib.hid (BY.out.below hb)
      replace B := Lib.hid (B.out.trans (hb.mono B.out.size))
      clear hb hsz
      have I_x := Lib.hid (Ints.of_own ho)
      clear ho hv hv2
      have G_x : Hid (x = Tm.ofD n1 ∧ e_x = Tm.ofE n1 0) := Lib.hid ⟨by rw [H_x.out, F_x.out.2.1], by rw [E_x.out, F_x.out.2.2.1]⟩
      go_wp2_with fail
      generalize hW : World.alloc w3 _ = w4
      obtain ⟨bx, hb⟩ := box_of hW
      have BX_x := Lib.hid bx
      clear hW bx
      have hsz := hb.size
      replace I_xs := Lib.hid (I_xs.out.below hb)
      replace I_ys := Lib.hid (I_ys.out.below hb)
      replace I_x := Lib.hid (I_x.out.below hb)
      replace BY := Lib.hid (BY.out.below hb)
      replace B := Lib.hid (B.out.trans (hb.mono B.out.size))
      clear hb hsz
      refine (iValueOf b2 ys.length c2 ys _ I_ys.out).mono ?_
      rintro e w' ⟨h0, rfl⟩
      obtain ⟨n2, hv⟩ : ∃ r_, r_ = Tm.value ys := ⟨_, rfl⟩
      rw [← hv] at h0
      subst h0
      have H_n2 : Hid (n2 = Tm.value ys) := Lib.hid hv
      have bd : -1743392200 ≤ n2 ∧ n2 ≤ 1743392200 := by rw [hv]; exact VB_n2.out
      obtain ⟨n2_0, n2_1⟩ := bd
      clear hv
      have F_y := Lib.hid (Tm.frm_mid (n := n2) ⟨by omega, by omega⟩)
      go_wp2_with fail
      have hok := F_y.out.1
      refine (retFB_ex (iFloatOf n2 0 _) hok).mono ?_
      clear hok
      rintro e w5 ⟨y, e_y, b5, c5, hv, hv2, rfl, ho, hb, ln5⟩
      have H_y : Hid (y = Tm.frmD n2 0) := Lib.hid hv
      have E_y : Hid (e_y = Tm.frmE n2 0) := Lib.hid hv2
      have hsz := hb.size
      replace I_xs := Lib.hid (I_xs.out.below hb)
      replace I_ys := Lib.hid (I_ys.out.below hb)
      replace I_x := Lib.hid (I_x.out.below hb)
      replace BX_x := Lib.hid (BX_x.out.below hb)
      replace BY := Lib.hid (BY.out.below hb)
      replace B := Lib.hid (B.out.trans (hb.mono B.out.size))
      clear hb hsz
      have I_y := Lib.hid (Ints.of_own ho)
      clear ho hv hv2
      have G_y : Hid (y = Tm.ofD n2 ∧ e_y = Tm.ofE n2 0) := Lib.hid ⟨by rw [H_y.out, F_y.out.2.1], by rw [E_y.out, F_y.out.2.2.1]⟩
      have hvx := H_n1.out
      go_wp2_with fail
      generalize hW : World.alloc w5 _ = w6
      obtain ⟨bx, hb⟩ := box_of hW
      have BX_y := Lib.hid bx
      clear hW bx
      have hsz := hb.size
      replace I_xs := Lib.hid (I_xs.out.below hb)
      replace I_ys := Lib.hid (I_ys.out.below hb)
      replace I_x := Lib.hid (I_x.out.below hb)
      replace I_y := Lib.hid (I_y.out.below hb)
      replace BX_x := Lib.hid (BX_x.out.below hb)
      replace BY := Lib.hid (BY.out.below hb)
      replace B := Lib.hid (B.out.trans (hb.mono B.out.size))
      clear hb hsz
      refine (iValueOf b0 xs.length c0 xs _ I_xs.out).mono ?_
      rintro e w' ⟨rfl, rfl⟩
      rw [← hvx]
      clear hvx
      have hvx := H_n2.out
      go_wp2_with fail
      refine (iValueOf b2 ys.length c2 ys _ I_ys.out).mono ?_
      rintro e w' ⟨rfl, rfl⟩
      rw [← hvx]
      clear hvx
      go_wp2_with fail
      refine (iSignOf (n1 - n2) _).mono ?_
      rintro e w' ⟨h0, rfl⟩
      obtain ⟨wt, hv⟩ : ∃ r_, r_ = Tm.sgn (n1 - n2) := ⟨_, rfl⟩
      rw [← hv] at h0
      subst h0
      have H_wt : Hid (wt = Tm.sgn (n1 - n2)) := Lib.hid hv
      clear hv
      have CO := Lib.hid (Tm.cmp_order (a := n1) (b := n2) F_x.out.2.2.2.1 F_y.out.2.2.2.1 F_x.out.2.2.2.2 F_y.out.2.2.2.2)
      have c_ := BX_x.out
      obtain ⟨l0_, x0_, y0_⟩ := c_
      have c_ := BX_y.out
      obtain ⟨l1_, x1_, y1_⟩ := c_
      go_wp2_with fail
      clear l0_ x0_ y0_
      clear l1_ x1_ y1_
      refine (iCompareFloats b3 x.length c3 x e_x b5 y.length c5 y e_y _ I_x.out I_y.out).mono ?_
      rintro e w7 ⟨h0, hb⟩
      obtain ⟨gt, hv⟩ : ∃ r_, r_ = Tm.cmpF x e_x y e_y := ⟨_, rfl⟩
      rw [← hv] at h0
      subst h0
      have H_gt : Hid (gt = Tm.cmpF x e_x y e_y) := Lib.hid hv
      have bd : -1 ≤ gt ∧ gt ≤ 1 := by rw [hv]; exact Tm.cmpF_bd _ _ _ _
      obtain ⟨gt_0, gt_1⟩ := bd
      clear hv
      have hsz := hb.size
      replace I_xs := Lib.hid (I_xs.out.below hb)
      replace I_ys := Lib.hid (I_ys.out.below hb)
      replace I_x := Lib.hid (I_x.out.below hb)
      replace I_y := Lib.hid (I_y.out.below hb)
      replace BX_x := Lib.hid (BX_x.out.below hb)
      replace BX_y := Lib.hid (BX_y.out.below hb)
      replace BY := Lib.hid (BY.out.below hb)
      replace B := Lib.hid (B.out.trans (hb.mono B.out.size))
      clear hb hsz
      have GT : Hid (gt = wt ∨ (gt = 0 ∧ ((0 : Int) == wt) = false)) := Lib.hid (by
        have h1 : gt = wt ∨ gt = 0 := by
          rcases CO.out with h | h
          · left; rw [H_gt.out, H_wt.out, G_x.out.1, G_x.out.2, G_y.out.1, G_y.out.2]; exact h
          · right; rw [H_gt.out, G_x.out.1, G_x.out.2, G_y.out.1, G_y.out.2]; exact h
        by_cases e : gt = wt
        · exact .inl e
        · exact .inr ⟨h1.resolve_left e, by simp; intro h; exact e (by rw [h1.resolve_left e, h])⟩)
      go_wp2_with fail
      refine (at_any a0 len0 cap0 4 _ BY.out (by omega) (by omega) (by omega)).mono ?_
      rintro e w' ⟨u, rfl, u_0, u_1, rfl⟩
      obtain ⟨p, hp⟩ : ∃ j : Nat, u.tmod 13 = (j : Int) := ⟨_, (Int.toNat_of_nonneg (Int.tmod_nonneg _ u_0)).symm⟩
      have p_lt : p < 13 := by have := Int.tmod_lt_of_pos u (show (0 : Int) < 13 by omega); omega
      go_wp2_with fail
      refine (at_any a0 len0 cap0 5 _ BY.out (by omega) (by omega) (by omega)).mono ?_
      rintro e w' ⟨v, rfl, v_0, v_1, rfl⟩
      obtain ⟨r, hr⟩ : ∃ j : Nat, v.tmod 25 = (j : Int) := ⟨_, (Int.toNat_of_nonneg (Int.tmod_nonneg _ v_0)).symm⟩
      have r_lt : r < 25 := by have := Int.tmod_lt_of_pos v (show (0 : Int) < 25 by omega); omega
      obtain ⟨n, hn⟩ : ∃ n : Int, 1 + (p : Int) = n := ⟨_, rfl⟩
      obtain ⟨m, hm⟩ : ∃ m : Int, (r : Int) - 12 = m := ⟨_, rfl⟩
      have n_0 : 1 ≤ n := by omega
      have n_1 : n ≤ 13 := by omega
      have m_0 : -12 ≤ m := by omega
      have m_1 : m ≤ 12 := by omega
      have FN := Lib.hid (Tm.frm_small (n := n) (e := 0) ⟨by omega, by omega⟩ ⟨by omega, by omega⟩)
      have FM := Lib.hid (Tm.frm_small (n := m) (e := 0) ⟨by omega, by omega⟩ ⟨by omega, by omega⟩)
      have MX := Lib.hid (Tm.ex_mul (n := n) (m := m) ⟨by omega, by omega⟩ ⟨by omega, by omega⟩)
      have QX := Lib.hid (Tm.ex_quo (n := n) (m := m) ⟨by omega, by omega⟩ ⟨by omega, by omega⟩)
      go_wp2_with fail
      have hok := FN.out.1
      refine (retFB_ex (iFloatOf n 0 _) hok).mono ?_
      clear hok
      rintro e w8 ⟨f, e_f, b8, c8, hv, hv2, rfl, ho, hb, ln8⟩
      have H_f : Hid (f = Tm.frmD n 0) := Lib.hid hv
      have E_f : Hid (e_f = Tm.frmE n 0) := Lib.hid hv2
      have hsz := hb.size
      replace I_xs := Lib.hid (I_xs.out.below hb)
      replace I_ys := Lib.hid (I_ys.out.below hb)
      replace I_x := Lib.hid (I_x.out.below hb)
      replace I_y := Lib.hid (I_y.out.below hb)
      replace BX_x := Lib.hid (BX_x.out.below hb)
      replace BX_y := Lib.hid (BX_y.out.below hb)
      replace BY := Lib.hid (BY.out.below hb)
      replace B := Lib.hid (B.out.trans (hb.mono B.out.size))
      clear hb hsz
      have I_f := Lib.hid (Ints.of_own ho)
      clear ho hv hv2
      have HA : Hid (f = Tm.ofD n ∧ e_f = Tm.ofE n 0) := Lib.hid ⟨by rw [H_f.out, FN.out.2.1], by rw [E_f.out, FN.out.2.2.1]⟩
      go_wp2_with fail
      generalize hW : World.alloc w8 _ = w9
      obtain ⟨bx, hb⟩ := box_of hW
      have BX_f := Lib.hid bx
      clear hW bx
      have hsz := hb.size
      replace I_xs := Lib.hid (I_xs.out.below hb)
      replace I_ys := Lib.hid (I_ys.out.below hb)
      replace I_x := Lib.hid (I_x.out.below hb)
      replace I_y := Lib.hid (I_y.out.below hb)
      replace I_f := Lib.hid (I_f.out.below hb)
      replace BX_x := Lib.hid (BX_x.out.below hb)
      replace BX_y := Lib.hid (BX_y.out.below hb)
      replace BY := Lib.hid (BY.out.below hb)
      replace B := Lib.hid (B.out.trans (hb.mono B.out.size))
      clear hb hsz
      have hok := FM.out.1
      refine (retFB_ex (iFloatOf m 0 _) hok).mono ?_
      clear hok
      rintro e w10 ⟨g, e_g, b10, c10, hv, hv2, rfl, ho, hb, ln10⟩
      have H_g : Hid (g = Tm.frmD m 0) := Lib.hid hv
      have E_g : Hid (e_g = Tm.frmE m 0) := Lib.hid hv2
      have hsz := hb.size
      replace I_xs := Lib.hid (I_xs.out.below hb)
      replace I_ys := Lib.hid (I_ys.out.below hb)
      replace I_x := Lib.hid (I_x.out.below hb)
      replace I_y := Lib.hid (I_y.out.below hb)
      replace I_f := Lib.hid (I_f.out.below hb)
      replace BX_x := Lib.hid (BX_x.out.below hb)
      replace BX_y := Lib.hid (BX_y.out.below hb)
      replace BX_f := Lib.hid (BX_f.out.below hb)
      replace BY := Lib.hid (BY.out.below hb)
      replace B := Lib.hid (B.out.trans (hb.mono B.out.size))
      clear hb hsz
      have I_g := Lib.hid (Ints.of_own ho)
      clear ho hv hv2
      have HB : Hid (g = Tm.ofD m ∧ e_g = Tm.ofE m 0) := Lib.hid ⟨by rw [H_g.out, FM.out.2.1], by rw [E_g.out, FM.out.2.2.1]⟩
      have c_ := BX_f.out
      obtain ⟨l0_, x0_, y0_⟩ := c_
      go_wp2_with fail
      generalize hW : World.alloc w10 _ = w11
      obtain ⟨bx, hb⟩ := box_of hW
      have BX_g := Lib.hid bx
      clear hW bx
      clear l0_ x0_ y0_
      have hsz := hb.size
      replace I_xs := Lib.hid (I_xs.out.below hb)
      replace I_ys := Lib.hid (I_ys.out.below hb)
      replace I_x := Lib.hid (I_x.out.below hb)
      replace I_y := Lib.hid (I_y.out.below hb)
      replace I_f := Lib.hid (I_f.out.below hb)
      replace I_g := Lib.hid (I_g.out.below hb)
      replace BX_x := Lib.hid (BX_x.out.below hb)
      replace BX_y := Lib.hid (BX_y.out.below hb)
      replace BX_f := Lib.hid (BX_f.out.below hb)
      replace BY := Lib.hid (BY.out.below hb)
      replace B := Lib.hid (B.out.trans (hb.mono B.out.size))
      clear hb hsz
      have hok := show Tm.mlOk f e_f g e_g = true by rw [HA.out.1, HA.out.2, HB.out.1, HB.out.2]; exact MX.out.1
      refine (retFB_ex (iMulFloats b8 f.length c8 f e_f b10 g.length c10 g e_g _ I_f.out I_g.out) hok).mono ?_
      clear hok
      rintro e w12 ⟨pr, e_pr, b12, c12, hv, hv2, rfl, ho, hb, ln12⟩
      have H_pr : Hid (pr = Tm.mlD f e_f g e_g) := Lib.hid hv
      have E_pr : Hid (e_pr = Tm.mlE f e_f g e_g) := Lib.hid hv2
      have hsz := hb.size
      replace I_xs := Lib.hid (I_xs.out.below hb)
      replace I_ys := Lib.hid (I_ys.out.below hb)
      replace I_x := Lib.hid (I_x.out.below hb)
      replace I_y := Lib.hid (I_y.out.below hb)
      replace I_f := Lib.hid (I_f.out.below hb)
      replace I_g := Lib.hid (I_g.out.below hb)
      replace BX_x := Lib.hid (BX_x.out.below hb)
      replace BX_y := Lib.hid (BX_y.out.below hb)
      replace BX_f := Lib.hid (BX_f.out.below hb)
      replace BX_g := Lib.hid (BX_g.out.below hb)
      replace BY := Lib.hid (BY.out.below hb)
      replace B := Lib.hid (B.out.trans (hb.mono B.out.size))
      clear hb hsz
      have I_pr := Lib.hid (Ints.of_own ho)
      clear ho hv hv2
      have HP : Hid (pr = Tm.frmD (n * m) 0 ∧ e_pr = Tm.frmE (n * m) 0) := Lib.hid ⟨by rw [H_pr.out]; rw [HA.out.1, HA.out.2, HB.out.1, HB.out.2]; exact MX.out.2.1, by rw [E_pr.out]; rw [HA.out.1, HA.out.2, HB.out.1, HB.out.2]; exact MX.out.2.2⟩
      have c_ := BX_f.out
      obtain ⟨l0_, x0_, y0_⟩ := c_
      go_wp2_with fail
      generalize hW : World.alloc w12 _ = w13
      obtain ⟨bx, hb⟩ := box_of hW
      have BX_pr := Lib.hid bx
      clear hW bx
      clear l0_ x0_ y0_
      have hsz := hb.size
      replace I_xs := Lib.hid (I_xs.out.below hb)
      replace I_ys := Lib.hid (I_ys.out.below hb)
      replace I_x := Lib.hid (I_x.out.below hb)
      replace I_y := Lib.hid (I_y.out.below hb)
      replace I_f := Lib.hid (I_f.out.below hb)
      replace I_g := Lib.hid (I_g.out.below hb)
      replace I_pr := Lib.hid (I_pr.out.below hb)
      replace BX_x := Lib.hid (BX_x.out.below hb)
      replace BX_y := Lib.hid (BX_y.out.below hb)
      replace BX_f := Lib.hid (BX_f.out.below hb)
      replace BX_g := Lib.hid (BX_g.out.below hb)
      replace BY := Lib.hid (BY.out.below hb)
      replace B := Lib.hid (B.out.trans (hb.mono B.out.size))
      clear hb hsz
      have hok := show Tm.dvOk pr e_pr f e_f = true by rw [HP.out.1, HP.out.2, HA.out.1, HA.out.2]; exact QX.out.1
      refine (retFB_ex (iDivFloats b12 pr.length c12 pr e_pr b8 f.length c8 f e_f _ I_pr.out I_f.out) hok).mono ?_
      clear hok
      rintro e w14 ⟨qt, e_qt, b14, c14, hv, hv2, rfl, ho, hb, ln14⟩
      have H_qt : Hid (qt = Tm.dvD pr e_pr f e_f) := Lib.hid hv
      have E_qt : Hid (e_qt = Tm.dvE pr e_pr f e_f) := Lib.hid hv2
      have hsz := hb.size
      replace I_xs := Lib.hid (I_xs.out.below hb)
      replace I_ys := Lib.hid (I_ys.out.below hb)
      replace I_x := Lib.hid (I_x.out.below hb)
      replace I_y := Lib.hid (I_y.out.below hb)
      replace I_f := Lib.hid (I_f.out.below hb)
      replace I_g := Lib.hid (I_g.out.below hb)
      replace I_pr := Lib.hid (I_pr.out.below hb)
      replace BX_x := Lib.hid (BX_x.out.below hb)
      replace BX_y := Lib.hid (BX_y.out.below hb)
      replace BX_f := Lib.hid (BX_f.out.below hb)
      replace BX_g := Lib.hid (BX_g.out.below hb)
      replace BX_pr := Lib.hid (BX_pr.out.below hb)
      replace BY := Lib.hid (BY.out.below hb)
      replace B := Lib.hid (B.out.trans (hb.mono B.out.size))
      clear hb hsz
      have I_qt := Lib.hid (Ints.of_own ho)
      clear ho hv hv2
      have QG : Hid (qt = g ∧ e_qt = e_g) := Lib.hid ⟨by rw [H_qt.out, HP.out.1, HP.out.2, HA.out.1, HA.out.2, HB.out.1]; exact QX.out.2.1, by rw [E_qt.out, HP.out.1, HP.out.2, HA.out.1, HA.out.2, HB.out.2]; exact QX.out.2.2⟩
      have CY : Hid (Tm.cmpF y e_y x e_x = -gt) := Lib.hid (by rw [H_gt.out]; exact Tm.cmpF_swap _ _ _ _)
      have CQ : Hid (Tm.cmpF qt e_qt g e_g = 0) := Lib.hid (by rw [QG.out.1, QG.out.2]; exact Tm.cmpF_self _ _)
      have GW := GT.out
      rcases GW with rfl | ⟨rfl, e0⟩
      · skip
        have e0 : (gt == gt) = true := by simp
        have c_ := BX_y.out
        obtain ⟨l0_, x0_, y0_⟩ := c_
        have c_ := BX_x.out
        obtain ⟨l1_, x1_, y1_⟩ := c_
        go_wp2_with fail
        generalize hW : World.alloc w14 _ = w15
        obtain ⟨bx, hb⟩ := box_of hW
        have BX_qt := Lib.hid bx
        clear hW bx
        clear l0_ x0_ y0_
        clear l1_ x1_ y1_
        have hsz := hb.size
        replace I_xs := Lib.hid (I_xs.out.below hb)
        replace I_ys := Lib.hid (I_ys.out.below hb)
        replace I_x := Lib.hid (I_x.out.below hb)
        replace I_y := Lib.hid (I_y.out.below hb)
        replace I_f := Lib.hid (I_f.out.below hb)
        replace I_g := Lib.hid (I_g.out.below hb)
        replace I_pr := Lib.hid (I_pr.out.below hb)
        replace I_qt := Lib.hid (I_qt.out.below hb)
        replace BX_x := Lib.hid (BX_x.out.below hb)
        replace BX_y := Lib.hid (BX_y.out.below hb)
        replace BX_f := Lib.hid (BX_f.out.below hb)
        replace BX_g := Lib.hid (BX_g.out.below hb)
        replace BX_pr := Lib.hid (BX_pr.out.below hb)
        replace BY := Lib.hid (BY.out.below hb)
        replace B := Lib.hid (B.out.trans (hb.mono B.out.size))
        clear hb hsz
        refine (iCompareFloats b5 y.length c5 y e_y b3 x.length c3 x e_x _ I_y.out I_x.out).mono ?_
        rintro e w16 ⟨h0, hb⟩
        obtain ⟨c1, hv⟩ : ∃ r_, r_ = Tm.cmpF y e_y x e_x := ⟨_, rfl⟩
        rw [← hv] at h0
        subst h0
        have H_c1 : Hid (c1 = Tm.cmpF y e_y x e_x) := Lib.hid hv
        clear hv
        have hsz := hb.size
        replace I_xs := Lib.hid (I_xs.out.below hb)
        replace I_ys := Lib.hid (I_ys.out.below hb)
        replace I_x := Lib.hid (I_x.out.below hb)
        replace I_y := Lib.hid (I_y.out.below hb)
        replace I_f := Lib.hid (I_f.out.below hb)
        replace I_g := Lib.hid (I_g.out.below hb)
        replace I_pr := Lib.hid (I_pr.out.below hb)
        replace I_qt := Lib.hid (I_qt.out.below hb)
        replace BX_x := Lib.hid (BX_x.out.below hb)
        replace BX_y := Lib.hid (BX_y.out.below hb)
        replace BX_f := Lib.hid (BX_f.out.below hb)
        replace BX_g := Lib.hid (BX_g.out.below hb)
        replace BX_pr := Lib.hid (BX_pr.out.below hb)
        replace BX_qt := Lib.hid (BX_qt.out.below hb)
        replace BY := Lib.hid (BY.out.below hb)
        replace B := Lib.hid (B.out.trans (hb.mono B.out.size))
        clear hb hsz
        have e1 : c1 = -gt := by rw [H_c1.out, CY.out]
        clear H_c1
        subst e1
        have c_ := BX_qt.out
        obtain ⟨l0_, x0_, y0_⟩ := c_
        have c_ := BX_g.out
        obtain ⟨l1_, x1_, y1_⟩ := c_
        go_wp2_with fail
        clear l0_ x0_ y0_
        clear l1_ x1_ y1_
        refine (iCompareFloats b14 qt.length c14 qt e_qt b10 g.length c10 g e_g _ I_qt.out I_g.out).mono ?_
        rintro e w17 ⟨h0, hb⟩
        obtain ⟨c2, hv⟩ : ∃ r_, r_ = Tm.cmpF qt e_qt g e_g := ⟨_, rfl⟩
        rw [← hv] at h0
        subst h0
        have H_c2 : Hid (c2 = Tm.cmpF qt e_qt g e_g) := Lib.hid hv
        clear hv
        have hsz := hb.size
        replace I_xs := Lib.hid (I_xs.out.below hb)
        replace I_ys := Lib.hid (I_ys.out.below hb)
        replace I_x := Lib.hid (I_x.out.below hb)
        replace I_y := Lib.hid (I_y.out.below hb)
        replace I_f := Lib.hid (I_f.out.below hb)
        replace I_g := Lib.hid (I_g.out.below hb)
        replace I_pr := Lib.hid (I_pr.out.below hb)
        replace I_qt := Lib.hid (I_qt.out.below hb)
        replace BX_x := Lib.hid (BX_x.out.below hb)
        replace BX_y := Lib.hid (BX_y.out.below hb)
        replace BX_f := Lib.hid (BX_f.out.below hb)
        replace BX_g := Lib.hid (BX_g.out.below hb)
        replace BX_pr := Lib.hid (BX_pr.out.below hb)
        replace BX_qt := Lib.hid (BX_qt.out.below hb)
        replace BY := Lib.hid (BY.out.below hb)
        replace B := Lib.hid (B.out.trans (hb.mono B.out.size))
        clear hb hsz
        have e2 : c2 = 0 := by rw [H_c2.out, CQ.out]
        clear H_c2
        subst e2
        go_wp2
        go_ret
        exact ⟨rfl, B.out⟩
      · skip
        have c_ := BX_y.out
        obtain ⟨l0_, x0_, y0_⟩ := c_
        have c_ := BX_x.out
        obtain ⟨l1_, x1_, y1_⟩ := c_
        go_wp2_with fail
        generalize hW : World.alloc w14 _ = w15
        obtain ⟨bx, hb⟩ := box_of hW
        have BX_qt := Lib.hid bx
        clear hW bx
        clear l0_ x0_ y0_
        clear l1_ x1_ y1_
        have hsz := hb.size
        replace I_xs := Lib.hid (I_xs.out.below hb)
        replace I_ys := Lib.hid (I_ys.out.below hb)
        replace I_x := Lib.hid (I_x.out.below hb)
        replace I_y := Lib.hid (I_y.out.below hb)
        replace I_f := Lib.hid (I_f.out.below hb)
        replace I_g := Lib.hid (I_g.out.below hb)
        replace I_pr := Lib.hid (I_pr.out.below hb)
        replace I_qt := Lib.hid (I_qt.out.below hb)
        replace BX_x := Lib.hid (BX_x.out.below hb)
        replace BX_y := Lib.hid (BX_y.out.below hb)
        replace BX_f := Lib.hid (BX_f.out.below hb)
        replace BX_g := Lib.hid (BX_g.out.below hb)
        replace BX_pr := Lib.hid (BX_pr.out.below hb)
        replace BY := Lib.hid (BY.out.below hb)
        replace B := Lib.hid (B.out.trans (hb.mono B.out.size))
        clear hb hsz
        refine (iCompareFloats b5 y.length c5 y e_y b3 x.length c3 x e_x _ I_y.out I_x.out).mono ?_
        rintro e w16 ⟨h0, hb⟩
        obtain ⟨c1, hv⟩ : ∃ r_, r_ = Tm.cmpF y e_y x e_x := ⟨_, rfl⟩
        rw [← hv] at h0
        subst h0
        have H_c1 : Hid (c1 = Tm.cmpF y e_y x e_x) := Lib.hid hv
        clear hv
        have hsz := hb.size
        replace I_xs := Lib.hid (I_xs.out.below hb)
        replace I_ys := Lib.hid (I_ys.out.below hb)
        replace I_x := Lib.hid (I_x.out.below hb)
        replace I_y := Lib.hid (I_y.out.below hb)
        replace I_f := Lib.hid (I_f.out.below hb)
        replace I_g := Lib.hid (I_g.out.below hb)
        replace I_pr := Lib.hid (I_pr.out.below hb)
        replace I_qt := Lib.hid (I_qt.out.below hb)
        replace BX_x := Lib.hid (BX_x.out.below hb)
        replace BX_y := Lib.hid (BX_y.out.below hb)
        replace BX_f := Lib.hid (BX_f.out.below hb)
        replace BX_g := Lib.hid (BX_g.out.below hb)
        replace BX_pr := Lib.hid (BX_pr.out.below hb)
        replace BX_qt := Lib.hid (BX_qt.out.below hb)
        replace BY := Lib.hid (BY.out.below hb)
        replace B := Lib.hid (B.out.trans (hb.mono B.out.size))
        clear hb hsz
        have e1 : c1 = -0 := by rw [H_c1.out, CY.out]
        clear H_c1
        subst e1
        have c_ := BX_qt.out
        obtain ⟨l0_, x0_, y0_⟩ := c_
        have c_ := BX_g.out
        obtain ⟨l1_, x1_, y1_⟩ := c_
        go_wp2_with fail
        clear l0_ x0_ y0_
        clear l1_ x1_ y1_
        refine (iCompareFloats b14 qt.length c14 qt e_qt b10 g.length c10 g e_g _ I_qt.out I_g.out).mono ?_
        rintro e w17 ⟨h0, hb⟩
        obtain ⟨c2, hv⟩ : ∃ r_, r_ = Tm.cmpF qt e_qt g e_g := ⟨_, rfl⟩
        rw [← hv] at h0
        subst h0
        have H_c2 : Hid (c2 = Tm.cmpF qt e_qt g e_g) := Lib.hid hv
        clear hv
        have hsz := hb.size
        replace I_xs := Lib.hid (I_xs.out.below hb)
        replace I_ys := Lib.hid (I_ys.out.below hb)
        replace I_x := Lib.hid (I_x.out.below hb)
        replace I_y := Lib.hid (I_y.out.below hb)
        replace I_f := Lib.hid (I_f.out.below hb)
        replace I_g := Lib.hid (I_g.out.below hb)
        replace I_pr := Lib.hid (I_pr.out.below hb)
        replace I_qt := Lib.hid (I_qt.out.below hb)
        replace BX_x := Lib.hid (BX_x.out.below hb)
        replace BX_y := Lib.hid (BX_y.out.below hb)
        replace BX_f := Lib.hid (BX_f.out.below hb)
        replace BX_g := Lib.hid (BX_g.out.below hb)
        replace BX_pr := Lib.hid (BX_pr.out.below hb)
        replace BX_qt := Lib.hid (BX_qt.out.below hb)
        replace BY := Lib.hid (BY.out.below hb)
        replace B := Lib.hid (B.out.trans (hb.mono B.out.size))
        clear hb hsz
        have e2 : c2 = 0 := by rw [H_c2.out, CQ.out]
        clear H_c2
        subst e2
        go_wp2
        go_ret
        exact ⟨rfl, B.out⟩
  · go_enter Try.func4, Try.ntmps4
    go_wp2
    go_ret
    exact ⟨rfl, B.out⟩
end Go.Proofs.Ytgkljlmfflbejaa

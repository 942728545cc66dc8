/- Walks of laws: FnCoins. -/
import Derived.Test.YteklgngooflhlaaBCoin
import Derived.Test.YteklgngooflhlaaBI2
namespace Go.Proofs.Yteklgngooflhlaa
set_option maxRecDepth 20000
open Go.RowKit
set_option maxRecDepth 20000 in
set_option maxHeartbeats 8000000 in
theorem wFnCoins (a0 : Option Addr) (len0 cap0 : Nat) (z0 : List Int) (w : World) (w0 : IsRow .u8 w a0 len0 cap0 z0) : Calls Try.prog 4 #[.slice a0 len0 cap0] w fun e w' => e = .returned (.bool true) ∧ Below w.heap.size w w' := by
  obtain ⟨i0, hi, hz0, hz1, hz2⟩ := info_parts infoInt
  have BY := Lib.hid (Byts.of_row w0)
  have m0 : len0 ≤ 9223372036854775807 := by obtain ⟨h1, h2, _⟩ := BY.out; unfold maxLen at h2; omega
  clear w0
  by_cases g0 : len0 ≤ 1048576
  · go_enter Try.func4, Try.ntmps4
    go_wp2_with fail
    refine (at_any a0 len0 cap0 1 _ BY.out (by omega) (by omega) (by omega)).mono ?_
    rintro e w' ⟨y, rfl, y_0, y_1, rfl⟩
    obtain ⟨r, hr, r0, r3⟩ : ∃ r : Int, r = y % 3 ∧ 0 ≤ r ∧ r ≤ 2 := ⟨_, rfl, by omega, by omega⟩
    have r1 : y.tmod 3 = r := by rw [Int.tmod_eq_emod_of_nonneg y_0]; exact hr.symm
    have r2 : y % 3 = r := hr.symm
    obtain ⟨K, hK⟩ : ∃ K : Nat, 2 + r = (K : Int) := ⟨(2 + r).toNat, by omega⟩
    have K2 : 2 ≤ K := by omega
    have K4 : K ≤ 4 := by omega
    have e3 : IntKind.i64.wrap (2 + r) = (K : Int) := by rw [IntWalk.i64_in _ (by omega)]; exact hK
    have SM := Tm.coinsFor_small ⟨K, by omega⟩ K2
    have SM' : Tm.coinsFor (K : Int) ≤ 39 ∧ Tm.coinsFor (K : Int) = (Tm.pow3 K - 3) / 2 ∧ Tm.pow3 K ≤ 81 ∧ 9 ≤ Tm.pow3 K ∧ Tm.coinsFor (K : Int) % 3 = 0 ∧ 3 ≤ Tm.coinsFor (K : Int) := SM
    have CF := Lib.hid (fun w => sCoinsFor (K : Int) w)
    have MP := Lib.hid (fun w => makePower K w (by omega))
    have OKC : Hid (∀ c : Int, 3 ≤ c → c % 3 = 0 → Tm.coinOk c (K : Int) = decide (c ≤ Tm.coinsFor (K : Int))) := Lib.hid fun c h1 h2 => by
      rw [Tm.coinOk, decide_eq_decide]
      constructor
      · intro h; exact h.2.2.2.1
      · intro h; exact ⟨by omega, by omega, h1, h, h2⟩
    obtain ⟨F, hF⟩ : ∃ F, F = Tm.coinsFor (K : Int) := ⟨_, rfl⟩
    obtain ⟨P, hP⟩ : ∃ P, P = Tm.pow3 K := ⟨_, rfl⟩
    rw [← hF] at SM' CF OKC
    rw [← hP] at SM' MP
    obtain ⟨f1, f2, f3, f4, f5, f6⟩ := SM'
    have t1 : F.tdiv 3 = F / 3 := Int.tdiv_eq_ediv_of_nonneg (by omega)
    have t2 : (P - 3).tdiv 2 = F := by rw [Int.tdiv_eq_ediv_of_nonneg (by omega)]; omega
    have t3 : IntKind.i64.wrap (P - 3) = P - 3 := IntWalk.i64_in _ (by omega)
    have t4 : (P - 3) / 2 = F := by omega
    have t5 : IntKind.i64.wrap (F / 3 + 1) = F / 3 + 1 := IntWalk.i64_in _ (by omega)
    have t6 : ¬ (F / 3 + 1 = 0) := by omega
    have t7 : IntKind.i64.wrap (F / 3) = F / 3 := IntWalk.i64_in _ (by omega)
    have t8 : IntKind.i64.wrap F = F := IntWalk.i64_in _ (by omega)
    have f7 : F ≤ 39 ∧ 3 ≤ F ∧ F % 3 = 0 := ⟨f1, f6, f5⟩
    have F7 := Lib.hid f7
    clear hr hK SM hF hP f2 f5 f7
    go_wp2_with fail
    refine (at_any a0 len0 cap0 2 _ BY.out (by omega) (by omega) (by omega)).mono ?_
    rintro e w' ⟨z, rfl, z_0, z_1, rfl⟩
    obtain ⟨q, hq, q0, q1⟩ : ∃ q : Int, q = z % (F / 3 + 1) ∧ 0 ≤ q ∧ q ≤ F / 3 := ⟨_, rfl, Int.emod_nonneg _ (by omega), by have := Int.emod_lt_of_pos z (show 0 < F / 3 + 1 by omega); omega⟩
    have q2 : z.tmod (F / 3 + 1) = q := by rw [Int.tmod_eq_emod_of_nonneg z_0]; exact hq.symm
    have q3 : z % (F / 3 + 1) = q := hq.symm
    obtain ⟨C, hC⟩ : ∃ C : Int, C = 3 * (1 + q) := ⟨_, rfl⟩
    have c0 : IntKind.i64.wrap q = q := IntWalk.i64_in _ (by omega)
    have c1 : IntKind.i64.wrap (1 + q) = 1 + q := IntWalk.i64_in _ (by omega)
    have c2 : IntKind.i64.wrap (3 * (1 + q)) = C := by rw [IntWalk.i64_in _ (by omega)]; exact hC.symm
    have C3 : 3 ≤ C := by omega
    have C5 : C % 3 = 0 := by omega
    have C6 : C ≤ 60 := by omega
    have OK := OKC.out C C3 C5
    clear hq hC
    go_wp2_with fail
    refine (CF.out _).mono ?_
    rintro e w1 ⟨rfl, rfl⟩
    go_wp2_with fail
    have CW := Lib.hid (iCoinWords C (K : Int) w)
    by_cases hle : C ≤ F
    · rw [decide_eq_true hle] at OK
      rw [OK] at CW
      have fa := Tm.coin_facts K2 K4 OK
      have fb := Tm.coinsOk_coin K2 K4 OK
      have FW := coinW_isW C (K : Int)
      obtain ⟨L, hL⟩ : ∃ L, L = Tm.coinW C (K : Int) := ⟨_, rfl⟩
      rw [← hL] at CW fa fb FW
      obtain ⟨ln, fr, fd, fe⟩ := fa
      obtain ⟨ck, wn⟩ := fb
      have FR := Lib.hid fr
      have FD := Lib.hid fd
      have FE := Lib.hid fe
      have WN := Lib.hid wn
      have CK := Lib.hid ck
      clear hL fr fd fe wn ck OK OKC FW
      refine CW.out.mono ?_
      rintro e w1 ⟨v, rfl, o, hb⟩
      obtain ⟨wa, wc, rfl, RW⟩ := o.rows
      have RW1 := Lib.hid RW
      have B1 := Lib.hid hb
      have BY1 := Lib.hid (BY.out.below hb)
      have s1 := hb.size
      have lne : (L.length : Int) = C := ln
      have ll : L.length ≤ 60 := by omega
      clear o RW hb CW
      go_wp2_with fail
      refine (MP.out _).mono ?_
      rintro e w2 ⟨rfl, rfl⟩
      go_wp2_with fail
      refine (iWeighingsOf wa _ wc L _ RW1.out (by omega)).mono ?_
      rw [WN.out, CK.out]
      rintro e w2 ⟨v, rfl, o, hb⟩
      obtain ⟨la, lc, rfl, LW⟩ := o.rows
      have LW2 := Lib.hid LW
      have RW2 := Lib.hid (RW1.out.below hb)
      have B2 := Lib.hid (B1.out.trans (hb.mono s1))
      have BY2 := Lib.hid (BY1.out.below hb)
      have s2 := B2.out.size
      have C7 : (((L.length : Int)) != C) = false := by rw [lne]; simp
      clear o LW hb RW1 B1 BY1
      go_wp2_with fail
      refine (at_any a0 len0 cap0 3 _ BY2.out (by omega) (by omega) (by omega)).mono ?_
      rintro e w' ⟨u, rfl, u_0, u_1, rfl⟩
      obtain ⟨o, ho, hol⟩ : ∃ o : Nat, u % C = (o : Int) ∧ o < L.length := ⟨(u % C).toNat, by have := Int.emod_nonneg u (show C ≠ 0 by omega); omega, by have := Int.emod_nonneg u (show C ≠ 0 by omega); have := Int.emod_lt_of_pos u (show 0 < C by omega); omega⟩
      have o1 : u.tmod C = (o : Int) := by rw [Int.tmod_eq_emod_of_nonneg u_0]; exact ho
      have o2 : IntKind.i64.wrap (o : Int) = (o : Int) := IntWalk.i64_in _ (by omega)
      have o3 : ¬ C = 0 := by omega
      go_wp2_with fail
      refine (trits_any _).mono ?_
      rintro e w3 ⟨ta, tc, rfl, TI, hb⟩
      have TI3 := Lib.hid TI
      have LW3 := Lib.hid (LW2.out.below hb)
      have RW3 := Lib.hid (RW2.out.below hb)
      have B3 := Lib.hid (B2.out.trans (hb.mono s2))
      have s3 := B3.out.size
      clear TI hb LW2 RW2 B2 BY2 BY
      go_wp2_with fail
      go_loopw [85] (fun i wr => ∃ j : Nat, j ≤ 3 ∧ i = .int .i64 j ∧ Hid (Below w3.heap.size w3 wr)) (fun i _ => 3 - (intOf i).toNat)
      case atStart => exact ⟨0, by omega, rfl, Lib.hid (Below.refl _ _)⟩
      case round =>
        obtain ⟨j, hj, rfl, BB⟩ := hrel
        obtain ⟨wo, hwo⟩ : ∃ wo, wo = wr := ⟨_, rfl⟩
        subst hwo
        by_cases hlt : j < 3
        · obtain ⟨tb, to, kd, rfl, tcell, -, kd1, kd2⟩ := tri_step (TI3.out.below BB.out) hlt
          have tl := World.block_lt_of_cell? (a := ⟨tb, to + j, none⟩) wo tcell
          have s4 := BB.out.size
          have HO0 : Hid ((wo.alloc (.cells #[] 3)).ownsRow wo.heap.size 3 1 (.slice (some ⟨wo.heap.size, 0, none⟩) 0 0) 0 (List.replicate 0 (Value.int .i64 10))) := Lib.hid (own_empty wo _ _ (Nat.le_refl _))
          go_wp2_with fail
          clear tcell tl
          go_loopw [12, 13] (fun v i wt => ∃ q : Nat, q ≤ L.length ∧ i = .int .i64 q ∧ Hid (wt.ownsRow wo.heap.size 3 1 v q (List.replicate q (Value.int .i64 10))) ∧ Hid (Below wo.heap.size wo wt)) (fun _ i _ => L.length - (intOf i).toNat)
          case atStart => exact ⟨0, by omega, rfl, HO0, Lib.hid (by (repeat' (first | (with_reducible exact Below.refl _ _) | (with_reducible assumption) | (with_reducible refine below_drewN ?_ _) | (with_reducible refine Below.drew ?_) | (with_reducible refine Below.alloc ?_ ?_ _) | (with_reducible refine Below.setCell ?_ ?_ _) | (with_reducible refine below_gw ?_ ?_ _) | (with_reducible refine below_via ?_ ‹Below _ _ _› ?_) | (with_reducible exact Nat.le_refl _) | (with_reducible refine le_gw ?_ _) | (with_reducible refine le_alloc ?_ _) | (with_reducible refine le_setCell ?_ _ _) | (with_reducible refine le_drew ?_) | (with_reducible refine le_drewN ?_ _) | go_size)))⟩
          case round =>
            clear HO0
            obtain ⟨q, hq, rfl, HO, HB⟩ := hrel
            have hs := HB.out.size
            by_cases hlq : q < L.length
            · have hown := HO.out
              have hqc : (q : Int) < C := by omega
              have RS : Hid (List.replicate q (Value.int .i64 10) ++ [Value.int .i64 10] = List.replicate (q + 1) (Value.int .i64 10)) := Lib.hid List.replicate_succ'.symm
              have e5 : IntKind.i64.wrap ((q : Int) + 1) = (q : Int) + 1 := IntWalk.i64_in _ (by omega)
              go_wp2_with (at_builtin; refine wpList_append_own _ rfl _ _ 24 rfl (wo.heap.size) 3 i0 (.int .i64 0) 1 8 Try.underlying24 hi hz0 hz1 hz2 rfl (by decide) _ _ _ rfl (World.ownsRow.alloc hown _) ⟨wr.heap.size, 0, none⟩ 1 1 [.int .i64 (10)] rfl rfl (app_c1 (wr) (10) _) (app_c2 _) (by unfold maxLen; omega) (by omega) (by simp; omega) ?_)
              intro v' w7 hv hg _
              have HB2 := Lib.hid ((HB.out.alloc hs _).grown hg (by simp; omega) (fun k hk => (hown.lt k hk).1))
              have HO2 := Lib.hid hv
              rw [RS.out] at HO2
              clear hown hv hg HO HB
              go_wp2_with fail
              exact ⟨⟨q + 1, by omega, val_int (by first | omega | (rw [e5]; omega)), HO2, HB2⟩, by simp [intOf]; omega⟩
            · obtain rfl : q = L.length := by omega
              have hqc : ¬ (L.length : Int) < C := by omega
              have hown := HO.out
              obtain ⟨wa2, wc2, rfl⟩ := own_form hown
              rcases hown.2 with ⟨-, e0⟩ | ⟨g, cap', cur, eg, hB, -, -, -, -, -⟩
              · omega
              simp only [Value.slice.injEq] at eg
              obtain ⟨rfl, -, ecc⟩ := eg
              subst ecc
              have ck := hown.cellAt o (by simp; omega)
              rw [show (List.replicate L.length (Value.int .i64 10))[o]? = some (.int .i64 10) from by rw [List.getElem?_replicate, if_pos hol]] at ck
              have fz := hown.frozenAt o
              have gl := (hown.lt g rfl)
              have ST := Lib.hid (hown.stored o (.int .i64 (10 + kd)))
              have WE : Hid ((List.replicate L.length (Value.int .i64 10)).set o (.int .i64 (10 + kd)) = (Tm.wts L.length o kd).map (Value.int .i64)) := Lib.hid (by
                apply List.ext_getElem (by simp [Tm.wts])
                intro i q1 q2
                have hi : i < L.length := by simpa [Tm.wts] using q2
                rw [List.getElem_set, List.getElem_map, List.getElem_replicate]
                simp only [Tm.wts, List.getElem_map, List.getElem_range]
                by_cases e : o = i
                · subst e; simp
                · rw [if_neg e, if_neg (fun h => e h.symm)])
              have e6 : IntKind.i64.wrap (10 + kd) = 10 + kd := IntWalk.i64_in _ (by omega)
              have ob0 : (0 : Int) ≤ (o : Int) := by omega
              have ob1 : (o : Int) < (L.length : Int) := by omega
              clear hown HO
              go_wp2_with fail
              obtain ⟨w7, hw7⟩ : ∃ w7, w7 = wr.setCell ⟨g, o, none⟩ (.int .i64 (10 + kd)) := ⟨_, rfl⟩
              have WI : Hid (Ints w7 (some ⟨g, 0, none⟩) L.length wc2 (Tm.wts L.length o kd)) := Lib.hid (by
                have := ST.out.1
                rw [← hw7, WE.out] at this
                exact Ints.of_own this)
              have B7 : Hid (Below w3.heap.size w3 w7) := Lib.hid (BB.out.trans ((HB.out.grown (by rw [hw7]; exact ST.out.2) hs (fun k hk => by cases hk; exact gl.1)).mono s4))
              have WL := Tm.wts_length L.length o kd
              have CO := Lib.hid (fun p h1 h2 => Tm.weigh_odd (n := L.length) (odd := o) (kd := kd) (xs := Tm.colL L p) h1 (Tm.colL_length L p) hol ⟨kd1, kd2⟩ h2)
              obtain ⟨ws, hws⟩ : ∃ ws, ws = Tm.wts L.length o kd := ⟨_, rfl⟩
              rw [← hws] at WI WL CO
              rw [← hw7]
              have S0 : Hid ((w7.alloc (.cells #[] 3)).ownsRow w7.heap.size 3 1 (.slice (some ⟨wr.heap.size, 0, none⟩) 0 0) 0 (((Tm.mulK kd (L.getD o [])).take 0).map (Value.int .i64))) := Lib.hid (by rw [show wr.heap.size = w7.heap.size from by rw [hw7]; simp]; exact own_empty w7 _ _ (Nat.le_refl _))
              have WLh := Lib.hid WL
              have s7 := B7.out.size
              have LW7 := Lib.hid (LW3.out.below B7.out)
              have RW7 := Lib.hid (RW3.out.below B7.out)
              clear hws hw7 ST WE ck fz gl HB WL
              go_wp2_with fail
              go_loopw [14, 110] (fun v i wt => ∃ q : Nat, q ≤ K ∧ i = .int .i64 q ∧ Hid (wt.ownsRow w7.heap.size 3 1 v q (((Tm.mulK kd (L.getD o [])).take q).map (Value.int .i64))) ∧ Hid (Below w7.heap.size w7 wt)) (fun _ i _ => K - (intOf i).toNat)
              case atStart => exact ⟨0, by omega, rfl, S0, Lib.hid (by (repeat' (first | (with_reducible exact Below.refl _ _) | (with_reducible assumption) | (with_reducible refine below_drewN ?_ _) | (with_reducible refine Below.drew ?_) | (with_reducible refine Below.alloc ?_ ?_ _) | (with_reducible refine Below.setCell ?_ ?_ _) | (with_reducible refine below_gw ?_ ?_ _) | (with_reducible refine below_via ?_ ‹Below _ _ _› ?_) | (with_reducible exact Nat.le_refl _) | (with_reducible refine le_gw ?_ _) | (with_reducible refine le_alloc ?_ _) | (with_reducible refine le_setCell ?_ _ _) | (with_reducible refine le_drew ?_) | (with_reducible refine le_drewN ?_ _) | go_size)))⟩
              case round =>
                clear S0
                obtain ⟨q, hq, rfl, HO, HB⟩ := hrel
                have hs := HB.out.size
                by_cases hlq : q < K
                · obtain ⟨lw1, lw2, lw3, lw4⟩ := LW7.out.below HB.out
                  have WA := Tm.weiF_at L K q hlq
                  rcases lw4 with e0 | ⟨lb, lo, rfl, hbl, hc⟩
                  · omega
                  obtain ⟨a1, m1, d1, z1, j1⟩ := hc (2 * q) (by omega)
                  obtain ⟨a2, m2, d2, z2, j2⟩ := hc (2 * q + 1) (by omega)
                  rw [Tm.weiL, WN.out, WA.1] at j1
                  rw [Tm.weiL, WN.out, WA.2] at j2
                  have TR : ∀ x ∈ Tm.colL L q, -1 ≤ x ∧ x ≤ 1 := fun x hx => by
                    rw [Tm.colL, List.mem_map] at hx
                    obtain ⟨ys, hy, rfl⟩ := hx
                    obtain ⟨i, hi, rfl⟩ := List.mem_iff_getElem.1 hy
                    have := (FR.out i hi).1
                    rw [show L.getD i [] = L[i] from by rw [List.getD_eq_getElem?_getD, List.getElem?_eq_getElem hi]; rfl] at this
                    exact Tm.isW_at this q
                  have CC := CO.out q TR (FE.out q hlq)
                  have CQ := Tm.colL_at L q o hol
                  have p1 := Tm.places_len (Tm.colL L q) 1
                  have p2 := Tm.places_len (Tm.colL L q) (-1)
                  rw [Tm.colL_length] at p1 p2
                  have FQ := FE.out q hlq
                  obtain ⟨ps, hps⟩ : ∃ ps, ps = Tm.places (Tm.colL L q) 1 := ⟨_, rfl⟩
                  obtain ⟨qs, hqs⟩ : ∃ qs, qs = Tm.places (Tm.colL L q) (-1) := ⟨_, rfl⟩
                  rw [← hps] at j1 CC p1 FQ
                  rw [← hqs] at j2 CC p2 FQ
                  rw [CQ] at CC
                  have TK := Tm.mulK_take (kd := kd) (xs := L.getD o []) (q := q) (by rw [(FR.out o hol).2.1]; exact hlq)
                  have TB := Tm.isW_at (FR.out o hol).1 q
                  obtain ⟨x, hx⟩ : ∃ x, x = (L.getD o []).getD q 0 * kd := ⟨_, rfl⟩
                  rw [← hx] at CC TK
                  have e1 : m1 = ps.length := j1.1.symm
                  subst e1
                  have e2 : m2 = ps.length := by rw [FQ]; exact j2.1.symm
                  subst e2
                  obtain ⟨W0, hW0⟩ : ∃ W0, W0 = wr.alloc (.cells #[.slice a1 ps.length d1, .slice a2 ps.length d2] 27) := ⟨_, rfl⟩
                  have BX := Lib.hid (box2_of hW0.symm)
                  have MS : Hid (Ms W0 a1 ps.length d1 ps a2 ps.length d2 qs) := Lib.hid (by rw [hW0]; exact Ms.alloc ⟨j1, j2⟩ _)
                  have IW : Hid (Ints W0 (some ⟨g, 0, none⟩) L.length wc2 ws) := Lib.hid (by rw [hW0]; exact (WI.out.below HB.out).alloc _)
                  have WC := Lib.hid (iWeighCoins (some ⟨g, 0, none⟩) _ wc2 ws a1 _ d1 ps a2 _ d2 qs W0 IW.out MS.out (by omega) (by omega))
                  rw [CC.1, CC.2] at WC
                  have sW : W0.heap.size = wr.heap.size + 1 := by rw [hW0]; simp
                  rw [show 2 * q = q * 2 from Nat.mul_comm _ _] at z1
                  rw [show lo + (2 * q + 1) = lo + q * 2 + 1 from by omega] at z2
                  have qb : (q : Int) < (K : Int) := by omega
                  have HO9 := Lib.hid (own_below HO.out ((BX.out.2).mono (Nat.le_refl _)))
                  have HB9 := Lib.hid (HB.out.trans (BX.out.2.mono hs))
                  have TKh := Lib.hid TK
                  clear hc lw1 lw2 lw3 WA j1 j2 TR CC CQ hps hqs TK HO FQ hx TB
                  go_wp2_with fail
                  rw [← hW0]
                  clear hW0
                  refine WC.out.mono ?_
                  rintro e w9 ⟨rfl, hb9⟩
                  have BX9 := BX.out.1.below hb9
                  obtain ⟨blt, x0, x1⟩ := BX9
                  have hown := own_below HO9.out hb9
                  have HBA := Lib.hid (HB9.out.trans (hb9.mono HB9.out.size))
                  have sA := HBA.out.size
                  clear hb9 HB9 HO9 BX WC MS IW z1 z2
                  go_wp2_with (at_builtin; refine wpList_append_own _ rfl _ _ 24 rfl (w7.heap.size) 3 i0 (.int .i64 0) 1 8 Try.underlying24 hi hz0 hz1 hz2 rfl (by decide) _ _ _ rfl (World.ownsRow.alloc hown _) ⟨w9.heap.size, 0, none⟩ 1 1 [.int .i64 (x)] rfl rfl (app_c1 (w9) (x) _) (app_c2 _) (by unfold maxLen; omega) (by omega) (by simp; omega) ?_)
                  intro v' w10 hv hg _
                  have HB2 := Lib.hid ((HBA.out.alloc sA _).grown hg (by simp; omega) (fun k hk => (hown.lt k hk).1))
                  have HO2 : Hid (w10.ownsRow w7.heap.size 3 1 v' (q + 1) (((Tm.mulK kd (L.getD o [])).take (q + 1)).map (Value.int .i64))) := Lib.hid (by
                    rw [TKh.out, List.map_append, List.map_take]
                    rw [show L[o] = L.getD o [] from by rw [List.getD_eq_getElem?_getD, List.getElem?_eq_getElem hol]; rfl] at hv
                    exact hv)
                  clear hv hg hown HBA x0 x1 blt
                  go_wp2_with fail
                  exact ⟨⟨q + 1, by omega, by go_num, HO2, HB2⟩, by simp [intOf]; omega⟩
                · obtain rfl : q = K := by omega
                  have RL := (FR.out o hol).2.1
                  have TA : (Tm.mulK kd (L.getD o [])).take q = Tm.mulK kd (L.getD o []) := List.take_of_length_le (by rw [Tm.mulK_length, RL]; exact Nat.le_refl _)
                  have hown := HO.out
                  rw [TA] at hown
                  obtain ⟨sa, sc, rfl⟩ := own_form hown
                  have IS := Lib.hid (Ints.of_own hown)
                  have R9 := Lib.hid (RW7.out.below HB.out)
                  have B9 := Lib.hid (B7.out.trans (HB.out.mono s7))
                  have s9 := HB.out.size
                  have OO := Lib.hid (iOutcomeOf wa _ wc L (o : Int) kd wr R9.out)
                  have OK1 : Tm.outOk L (o : Int) kd = true := by
                    rw [Tm.outOk, CK.out, decide_eq_true (show 0 ≤ (o : Int) ∧ (o : Int) < (L.length : Int) by omega), show Tm.isT kd = true from (Tm.isT_iff _).2 ⟨kd1, kd2⟩]; simp
                  have OV : Tm.outc L (o : Int) kd = Tm.mulK kd (L.getD o []) := by
                    rw [Tm.outc, if_pos OK1, Int.toNat_natCast]
                    by_cases k0 : kd = 0
                    · subst k0
                      rw [if_pos rfl, Tm.mulK_zero, RL, (FR.out 0 (by omega)).2.1]
                    · rw [if_neg k0]
                  have GV : Tm.guess L (Tm.mulK kd (L.getD o [])) = if kd = 0 then (-1, 0, true) else ((o : Int), kd, true) := by
                    by_cases k0 : kd = 0
                    · subst k0
                      rw [if_pos rfl, Tm.guess, if_pos CK.out, if_pos (by rw [Tm.mulK_zero, RL, (FR.out 0 (by omega)).2.1])]
                    · rw [if_neg k0]
                      exact Tm.guess_odd CK.out hol (by omega) (fun i hi => ⟨(FR.out i hi).1, (FR.out i hi).2.2⟩) FD.out
                  rw [OK1, OV] at OO
                  have GG := Lib.hid (fun (w : World) (h : Rows w wa L.length wc L) (h' : Ints w sa q sc (Tm.mulK kd (L.getD o []))) => iGuessOf wa _ wc L sa q sc (Tm.mulK kd (L.getD o [])) w h h')
                  rw [GV] at GG
                  obtain ⟨sn, hsn⟩ : ∃ sn, sn = Tm.mulK kd (L.getD o []) := ⟨_, rfl⟩
                  rw [← hsn] at OO GG IS
                  clear TA hown HO RL OK1 OV GV hsn HB
                  go_wp2_with fail
                  refine OO.out.mono ?_
                  rintro e w10 ⟨na, nc, rfl, ho10, hb, -⟩
                  have IN := Lib.hid (Ints.of_own ho10)
                  have IS2 := Lib.hid (IS.out.below hb)
                  have R10 := Lib.hid (R9.out.below hb)
                  have B10 := Lib.hid (B9.out.trans (hb.mono B9.out.size))
                  clear ho10 hb R9 B9 IS OO
                  by_cases k0 : kd = 0
                  · subst k0
                    rw [if_pos rfl] at GG
                    go_wp2_with fail
                    refine (GG.out _ R10.out IS2.out).mono ?_
                    rintro e w11 ⟨rfl, hb⟩
                    have IN3 := Lib.hid (IN.out.below hb)
                    have IS3 := Lib.hid (IS2.out.below hb)
                    have B11 := Lib.hid (B10.out.trans (hb.mono B10.out.size))
                    clear hb
                    go_wp2_with fail
                    refine (ints_any _ _ _ _ _ _ sn sn _ IS3.out IN3.out).mono ?_
                    rw [decide_eq_true rfl]
                    rintro e w12 ⟨rfl, hb⟩
                    have B12 := Lib.hid (B11.out.trans (hb.mono B11.out.size))
                    clear hb
                    go_wp2
                    exact ⟨⟨j + 1, by omega, by go_num, B12⟩, by simp [intOf]; omega⟩
                  · rw [if_neg k0] at GG
                    have k1 : (kd == 0) = false := by simpa using k0
                    have k2 : (kd != 0) = true := by simpa using k0
                    go_wp2_with fail
                    refine (GG.out _ R10.out IS2.out).mono ?_
                    rintro e w11 ⟨rfl, hb⟩
                    have IN3 := Lib.hid (IN.out.below hb)
                    have IS3 := Lib.hid (IS2.out.below hb)
                    have B11 := Lib.hid (B10.out.trans (hb.mono B10.out.size))
                    clear hb
                    go_wp2_with fail
                    refine (ints_any _ _ _ _ _ _ sn sn _ IS3.out IN3.out).mono ?_
                    rw [decide_eq_true rfl]
                    rintro e w12 ⟨rfl, hb⟩
                    have B12 := Lib.hid (B11.out.trans (hb.mono B11.out.size))
                    clear hb
                    go_wp2
                    exact ⟨⟨j + 1, by omega, by go_num, B12⟩, by simp [intOf]; omega⟩
        · obtain rfl : j = 3 := by omega
          have BF := Lib.hid (B3.out.trans (BB.out.mono s3))
          go_wp2
          go_ret
          exact ⟨rfl, BF.out⟩
    · have hlt : F < C := by omega
      rw [decide_eq_false hle] at OK
      have EW : Tm.coinW C (K : Int) = [] := by rw [Tm.coinW, OK]; rfl
      rw [OK, EW] at CW
      clear EW OK hle OKC
      refine CW.out.mono ?_
      rintro e w1 ⟨v, rfl, o, hb⟩
      obtain ⟨wa, wc, rfl, RW⟩ := o.rows
      have RW1 := Lib.hid RW
      have B1 := Lib.hid hb
      clear o RW hb
      have WN : Hid (Tm.weiN [] = 0 ∧ Tm.coinsOk [] = false) := Lib.hid (by decide)
      go_wp2_with fail
      refine (MP.out _).mono ?_
      rintro e w2 ⟨rfl, rfl⟩
      go_wp2_with fail
      refine (iWeighingsOf wa _ wc [] _ RW1.out (by simp)).mono ?_
      rw [WN.out.1, WN.out.2]
      rintro e w2 ⟨v, rfl, o, hb⟩
      have B2 := Lib.hid (B1.out.trans (hb.mono B1.out.size))
      clear o hb
      go_wp2
      go_ret
      exact ⟨rfl, B2.out⟩
  · go_enter Try.func4, Try.ntmps4
    go_wp2
    go_ret
    exact ⟨rfl, Below.refl _ _⟩
end Go.Proofs.Yteklgngooflhlaa

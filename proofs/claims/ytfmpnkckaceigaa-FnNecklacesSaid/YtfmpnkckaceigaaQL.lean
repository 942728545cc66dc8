/- Lyndon words: the next one, and the list of them: the model's and the program's. -/
import Derived.Test.YtfmpnkckaceigaaQT
import Derived.Test.YtfmpnkckaceigaaOwn2
import Derived.Test.YtfmpnkckaceigaaWI
import Derived.Deep.LoopGhost
namespace Go.Proofs.Ytfmpnkckaceigaa
set_option maxRecDepth 20000
open Go.RowKit
theorem own_oneX (W : World) (B e : Nat) (x : Int) (X : Nat) (hX : X = W.heap.size) (hB : B ≤ W.heap.size) : (W.alloc (.cells #[.int .i64 x] e)).ownsRow B e 1 (.slice (some ⟨X, 0, none⟩) 1 1) 1 ([x].map (Value.int .i64)) := hX ▸ own_one W B e x hB
namespace Tm
theorem up_set {xs : List Int} {e : Nat} (h1 : 1 ≤ e) (h2 : e ≤ xs.length) : ((xs.take e).map (Value.int .i64)).set (e - 1) (.int .i64 (xs.getD (e - 1) 0 + 1)) = (up xs e).map (Value.int .i64) := by
  obtain ⟨d, rfl⟩ : ∃ d, e = d + 1 := ⟨e - 1, by omega⟩
  rw [up, if_neg (by omega), Nat.add_sub_cancel, List.take_succ_eq_append_getElem (by omega), List.map_append, List.map_append]
  rw [List.set_append_right _ _ (by simp; omega), List.length_map, List.length_take, Nat.min_eq_left (by omega), Nat.sub_self]
  rfl
theorem endN_stop {xs : List Int} {e : Nat} (h : xs.getD e 0 ≠ 1) : endN xs (e + 1) = e + 1 := by rw [endN, if_neg h]
theorem endN_on {xs : List Int} {e : Nat} (h : xs.getD e 0 = 1) : endN xs (e + 1) = endN xs e := by rw [endN, if_pos h]
end Tm
set_option maxHeartbeats 2000000 in
theorem sNextL (a : Option Addr) (n cap : Nat) (xs : List Int) (k : Nat) (w : World) (h : Ints w a n cap xs) (h1 : 1 ≤ n) (h2 : n ≤ 7) (h3 : k ≤ 7) (ht : xs.all Tm.isT = true) : Calls Try.prog 61 #[.slice a n cap, .int .i64 (k : Int)] w (RetI 3 w (Tm.nx xs k)) := by
  obtain ⟨i0, hi, hz0, hz1, hz2⟩ := info_parts infoInt
  have HL := Lib.hid h.1
  have H := Lib.hid h
  have HT := Lib.hid ht
  have CL := Lib.hid (Tm.cyc_length xs)
  clear h ht
  go_enter Try.func61, Try.ntmps61
  go_wp2
  go_loopw [5, 6] (fun v i wr => ∃ (p : Nat) (a' : Option Addr) (c' : Nat), p ≤ k ∧ i = .int .i64 p ∧ v = .slice a' p c' ∧ Hid (wr.ownsRow w.heap.size 3 1 (.slice a' p c') p ((Tm.cyc xs p).map (Value.int .i64))) ∧ Hid (Below w.heap.size w wr)) (fun _ i _ => k - (intOf i).toNat)
  case atStart => exact ⟨0, _, 0, by omega, rfl, rfl, Lib.hid (own_empty w _ _ (Nat.le_refl _)), Lib.hid (by (repeat' (first | (with_reducible exact Below.refl _ _) | (with_reducible assumption) | (with_reducible refine below_drewN ?_ _) | (with_reducible refine Below.drew ?_) | (with_reducible refine Below.alloc ?_ ?_ _) | (with_reducible refine Below.setCell ?_ ?_ _) | (with_reducible refine below_gw ?_ ?_ _) | (with_reducible refine below_via ?_ ‹Below _ _ _› ?_) | (with_reducible exact Nat.le_refl _) | (with_reducible refine le_gw ?_ _) | (with_reducible refine le_alloc ?_ _) | (with_reducible refine le_setCell ?_ _ _) | (with_reducible refine le_drew ?_) | (with_reducible refine le_drewN ?_ _) | go_size)))⟩
  case round =>
    obtain ⟨p, a', c', hp, rfl, rfl, OO, BB⟩ := hrel
    have hown := OO.out
    have hnx := BB.out
    have hs := hnx.size
    by_cases hlt : p < k
    · rcases (H.out.below hnx).2.2.2 with h0 | ⟨b, o, rfl, hbl, hc⟩
      · omega
      obtain ⟨q, hq⟩ : ∃ q : Nat, p % n = q := ⟨_, rfl⟩
      have ql : q < n := by rw [← hq]; exact Nat.mod_lt _ (by omega)
      have c1 := hc q ql
      have CS : Hid (Tm.cyc xs (p + 1) = Tm.cyc xs p ++ [xs.getD q 0]) := Lib.hid (by rw [Tm.cyc_succ, HL.out, hq])
      have e1 : (p : Int).tmod (n : Int) = (q : Int) := by rw [Int.tmod_eq_emod_of_nonneg (by omega), ← hq]; omega
      have e2 : (p : Int) % (n : Int) = (q : Int) := by rw [← hq]; omega
      have nz : ¬ ((n : Int) = 0) := by omega
      obtain ⟨x, hx⟩ : ∃ x, x = xs.getD q 0 := ⟨_, rfl⟩
      rw [← hx] at c1 CS
      clear hc hx hq
      go_wp2_with (at_builtin; refine wpList_append_own _ rfl _ _ 22 rfl w.heap.size 3 i0 (.int .i64 0) 1 8 Try.underlying22 hi hz0 hz1 hz2 rfl (by decide) _ _ _ rfl (hown.alloc _) ⟨wr.heap.size, 0, none⟩ 1 1 [.int .i64 x] rfl rfl (app_c1 _ _ _) (app_c2 _) (by unfold maxLen; omega) (by omega) (by have := hnx.size; simp; omega) ?_)
      intro v' w1 hown' hgrow _
      have hnx1 : Below w.heap.size w w1 := (hnx.alloc hs _).grown hgrow (by simp; omega) (fun k hk => (hown.lt k hk).1)
      have h5 : w1.ownsRow w.heap.size 3 1 v' (p + 1) ((Tm.cyc xs (p + 1)).map (Value.int .i64)) := by rw [CS.out, List.map_append]; exact hown'
      obtain ⟨a2, c2, rfl⟩ := own_form h5
      have O2 := Lib.hid h5
      have B2 := Lib.hid hnx1
      clear hown hgrow hnx hown' hnx1 OO BB h5
      go_wp2
      exact ⟨⟨p + 1, a2, c2, by omega, by go_num, rfl, O2, B2⟩, by simp [intOf]; omega⟩
    · obtain rfl : p = k := by omega
      clear hown hnx
      obtain ⟨C, hC⟩ : ∃ C, C = Tm.cyc xs p := ⟨_, rfl⟩
      have LC : C.length = p := by rw [hC, Tm.cyc_length]
      have NX : Hid (Tm.nx xs p = Tm.up C (Tm.endN C p)) := Lib.hid (by rw [Tm.nx, hC])
      have TB : Hid (∀ j, j < p → -1 ≤ C.getD j 0 ∧ C.getD j 0 ≤ 1) := Lib.hid (fun j hj => by
        rw [hC, Tm.cyc_at xs hj]
        have hq := Nat.mod_lt j (show 0 < xs.length by rw [HL.out]; omega)
        rw [← getD_at xs _ hq]
        exact (Tm.isT_iff _).1 (List.all_eq_true.1 HT.out _ (List.getElem_mem hq)))
      rw [← hC] at OO
      have LCH := Lib.hid LC
      clear hC LC
      go_wp2_with fail
      go_loop [5] (fun v => ∃ e : Nat, e ≤ p ∧ v = .slice a' e c' ∧ Hid (Tm.endN C p = Tm.endN C e)) (fun v => Tm.lenV v)
      case atStart => exact ⟨p, by omega, rfl, Lib.hid rfl⟩
      case round =>
        obtain ⟨e, he, rfl, EE⟩ := hrel
        have EB := Tm.endN_le C e
        rcases Nat.eq_zero_or_pos e with h0 | h0
        · subst h0
          have RE : Hid (Tm.nx xs p = []) := Lib.hid (by rw [NX.out, EE.out]; rfl)
          have O3 := own_cut OO.out (Nat.zero_le p)
          rw [List.take_zero] at O3
          have O4 := Lib.hid O3
          clear O3
          go_wp2
          go_ret
          rw [RE.out]
          exact ret_own (xs := []) O4.out BB.out (by omega)
        · obtain ⟨d, rfl⟩ : ∃ d, e = d + 1 := ⟨e - 1, by omega⟩
          have FG : Hid (∃ g, a' = some ⟨g, 0, none⟩ ∧ w.heap.size ≤ g ∧ g < wr.heap.size) := Lib.hid (by
            rcases OO.out.2 with ⟨h2, h0⟩ | ⟨g, cap', cur, h2, hB, hg, hn, hcap, hsz, ht⟩
            · omega
            · simp only [Value.slice.injEq] at h2
              obtain ⟨rfl, _, rfl⟩ := h2
              exact ⟨g, rfl, hB, (Array.getElem?_eq_some_iff.1 hg).1⟩)
          obtain ⟨g, rfl, gB, gl⟩ := FG.out
          have NE : Hid (C.getD d 0 = 1 → Tm.endN C p = Tm.endN C d) := Lib.hid (fun h => by rw [EE.out, Tm.endN_on h])
          have NS : Hid (C.getD d 0 ≠ 1 → Tm.nx xs p = Tm.up C (d + 1)) := Lib.hid (fun h => by rw [NX.out, EE.out, Tm.endN_stop h])
          have tb := TB.out d (by omega)
          have US := Lib.hid (Tm.up_set (xs := C) (e := d + 1) (by omega) (by rw [LCH.out]; exact he))
          have UL := Lib.hid (Tm.up_length C (d + 1) (by rw [LCH.out]; exact he))
          have CG : Hid ((C.map (Value.int .i64))[d]? = some (.int .i64 (C.getD d 0))) := Lib.hid (by
            have hd : d < C.length := by rw [LCH.out]; omega
            rw [List.getElem?_map, List.getElem?_eq_getElem hd, ← getD_at C d hd]; rfl)
          rw [Nat.add_sub_cancel] at US
          have c1 := OO.out.cellAt d (by omega)
          rw [CG.out] at c1
          have fz := OO.out.frozenAt d
          have cc := (Ints.of_own OO.out).2.1
          have cm := (Ints.of_own OO.out).2.2.1
          unfold maxLen at cm
          have ST := Lib.hid (fun v => (own_cut OO.out he).stored d (.int .i64 v))
          have BN := Lib.hid (fun v => BB.out.setCell (p := ⟨g, d, none⟩) gB (.int .i64 v))
          obtain ⟨x, hx⟩ : ∃ x, x = C.getD d 0 := ⟨_, rfl⟩
          rw [← hx] at c1 NE NS US tb
          clear hx FG CG
          have xw : IntKind.i64.wrap (x + 1) = x + 1 := IntWalk.i64_in _ (by omega)
          by_cases x1 : x = 1
          · have N2 := Lib.hid (NE.out x1)
            have xb : (x == 1) = true := by simpa using x1
            subst x1
            clear NE NS ST BN
            go_wp2
            exact ⟨⟨d, by omega, rfl, N2⟩, by simp [Tm.lenV]⟩
          · have N2 := Lib.hid (NS.out x1)
            have xb : (x == 1) = false := by simpa using x1
            clear NE NS
            have O5 := Lib.hid (ST.out (x + 1)).1
            rw [← List.map_take, US.out] at O5
            go_wp2
            go_ret
            rw [N2.out]
            exact ret_own O5.out (BN.out _) (by omega)
set_option maxHeartbeats 2000000 in
theorem iNextL (a : Option Addr) (n cap : Nat) (xs : List Int) (k : Nat) (w : World) (h : Ints w a n cap xs) (h1 : 1 ≤ n) (h2 : n ≤ 7) (h3 : k ≤ 7) (ht : xs.all Tm.isT = true) : Calls Try.prog 62 #[.slice a n cap, .int .i64 (k : Int)] w (RetI 3 w (Tm.nx xs k)) := by
  obtain ⟨i0, hi, hz0, hz1, hz2⟩ := info_parts infoInt
  have HL := Lib.hid h.1
  have H := Lib.hid h
  have HT := Lib.hid ht
  clear h ht
  go_enter Try.func62, Try.ntmps62
  go_wp2_with (at_make; refine wpList_make_full _ rfl _ _ 22 rfl (w.heap.size) 3 i0 (.int .i64 0) 1 Try.underlying22 hi hz0 hz1 _ _ _ _ (k) rfl rfl (by first | rfl | omega) (by first | rfl | omega) (by rw [hz2]; omega) (by unfold maxLen; omega) (by first | go_size | (simp only [gw_size, World.size_alloc]; omega) | exact Nat.le_refl _ | omega) ?_)
  intro w1 hm hgrow
  have O1 := Lib.hid (rowV_own hm)
  have B1 : Hid (Below w.heap.size w w1) := Lib.hid ((Below.refl _ _).grown hgrow (Nat.le_refl _) (fun k hk => by cases hk))
  have R1 := (own_base O1.out).2
  clear hm hgrow
  go_wp2_with fail
  go_loopw [11] (fun i wr => ∃ (p : Nat) (g : Nat → Int), p ≤ k ∧ i = .int .i64 p ∧ Hid (∀ j, j < p → g j = (Tm.cyc xs k).getD j 0) ∧ Hid (wr.ownsRow w.heap.size 3 1 (.slice (some ⟨w.heap.size, 0, none⟩) k k) k (rowV k g)) ∧ Hid (Below w.heap.size w wr) ∧ w.heap.size < wr.heap.size) (fun i _ => k - (intOf i).toNat)
  case atStart => exact ⟨0, _, by omega, rfl, Lib.hid (fun j hj => by omega), O1, B1, R1⟩
  case round =>
    obtain ⟨p, g, hp, rfl, GG, OO, BB, sz⟩ := hrel
    by_cases hlt : p < k
    · rcases (H.out.below BB.out).2.2.2 with h0 | ⟨b, o, rfl, hbl, hc⟩
      · omega
      obtain ⟨q, hq⟩ : ∃ q : Nat, p % n = q := ⟨_, rfl⟩
      have ql : q < n := by rw [← hq]; exact Nat.mod_lt _ (by omega)
      have c1 := hc q ql
      have CA : Hid ((Tm.cyc xs k).getD p 0 = xs.getD q 0) := Lib.hid (by rw [Tm.cyc_at xs hlt, HL.out, hq])
      have e1 : (p : Int).tmod (n : Int) = (q : Int) := by rw [Int.tmod_eq_emod_of_nonneg (by omega), ← hq]; omega
      have e2 : (p : Int) % (n : Int) = (q : Int) := by rw [← hq]; omega
      have nz : ¬ ((n : Int) = 0) := by omega
      obtain ⟨x, hx⟩ : ∃ x, x = xs.getD q 0 := ⟨_, rfl⟩
      rw [← hx] at c1 CA
      have fz := OO.out.frozenAt p
      have hc0 := own_cell OO.out p (by omega)
      have O2 := Lib.hid (own_put OO.out p x).1
      have B2 : Hid (Below w.heap.size w (wr.setCell ⟨w.heap.size, p, none⟩ (.int .i64 x))) := Lib.hid (BB.out.setCell (Nat.le_refl _) _)
      clear hc hx hq
      go_wp2
      exact ⟨⟨p + 1, upd g p x, by omega, by go_num, Lib.hid (fun j hj => by
        by_cases e : j = p
        · subst e; rw [upd_at, CA.out]
        · rw [upd_ne _ _ _ e]; exact GG.out j (by omega)), O2, B2, by simp; omega⟩, by simp [intOf]; omega⟩
    · obtain rfl : p = k := by omega
      obtain ⟨C, hC⟩ : ∃ C, C = Tm.cyc xs p := ⟨_, rfl⟩
      have LC : C.length = p := by rw [hC, Tm.cyc_length]
      have NX : Hid (Tm.nx xs p = Tm.up C (Tm.endN C p)) := Lib.hid (by rw [Tm.nx, hC])
      have TB : Hid (∀ j, j < p → -1 ≤ C.getD j 0 ∧ C.getD j 0 ≤ 1) := Lib.hid (fun j hj => by
        rw [hC, Tm.cyc_at xs hj]
        have hq := Nat.mod_lt j (show 0 < xs.length by rw [HL.out]; omega)
        rw [← getD_at xs _ hq]
        exact (Tm.isT_iff _).1 (List.all_eq_true.1 HT.out _ (List.getElem_mem hq)))
      have O2 := OO.out
      rw [← hC] at GG
      rw [rowV_list LC GG.out] at O2
      have LCH := Lib.hid LC
      have O3 := Lib.hid O2
      clear hC LC O2 OO GG
      go_wp2_with fail
      go_loop [7] (fun v => ∃ e : Nat, e ≤ p ∧ v = .int .i64 e ∧ Hid (Tm.endN C p = Tm.endN C e)) (fun v => (intOf v).toNat)
      case atStart => exact ⟨p, by omega, rfl, Lib.hid rfl⟩
      case round =>
        obtain ⟨e, he, rfl, EE⟩ := hrel
        rcases Nat.eq_zero_or_pos e with h0 | h0
        · subst h0
          have RE : Hid (Tm.nx xs p = []) := Lib.hid (by rw [NX.out, EE.out]; rfl)
          have O4 := own_cut O3.out (Nat.zero_le p)
          rw [List.take_zero] at O4
          have O5 := Lib.hid O4
          clear O4
          go_wp2
          go_ret
          rw [RE.out]
          exact ret_own (xs := []) O5.out BB.out (by omega)
        · obtain ⟨d, rfl⟩ : ∃ d, e = d + 1 := ⟨e - 1, by omega⟩
          have NE : Hid (C.getD d 0 = 1 → Tm.endN C p = Tm.endN C d) := Lib.hid (fun h => by rw [EE.out, Tm.endN_on h])
          have NS : Hid (C.getD d 0 ≠ 1 → Tm.nx xs p = Tm.up C (d + 1)) := Lib.hid (fun h => by rw [NX.out, EE.out, Tm.endN_stop h])
          have tb := TB.out d (by omega)
          have US := Lib.hid (Tm.up_set (xs := C) (e := d + 1) (by omega) (by rw [LCH.out]; exact he))
          have UL := Lib.hid (Tm.up_length C (d + 1) (by rw [LCH.out]; exact he))
          have CG : Hid ((C.map (Value.int .i64))[d]? = some (.int .i64 (C.getD d 0))) := Lib.hid (by
            have hd : d < C.length := by rw [LCH.out]; omega
            rw [List.getElem?_map, List.getElem?_eq_getElem hd, ← getD_at C d hd]; rfl)
          rw [Nat.add_sub_cancel] at US
          have c1 := O3.out.cellAt d (by omega)
          rw [CG.out] at c1
          have fz := O3.out.frozenAt d
          have ST := Lib.hid (fun v => (own_cut O3.out he).stored d (.int .i64 v))
          have BN := Lib.hid (fun v => BB.out.setCell (p := ⟨w.heap.size, d, none⟩) (Nat.le_refl _) (.int .i64 v))
          obtain ⟨x, hx⟩ : ∃ x, x = C.getD d 0 := ⟨_, rfl⟩
          rw [← hx] at c1 NE NS US tb
          clear hx CG
          have xw : IntKind.i64.wrap (x + 1) = x + 1 := IntWalk.i64_in _ (by omega)
          by_cases x1 : x = 1
          · have N2 := Lib.hid (NE.out x1)
            have xb : (x == 1) = true := by simpa using x1
            subst x1
            clear NE NS ST BN
            go_wp2
            exact ⟨⟨d, by omega, val_int (by omega), N2⟩, by simp [intOf] <;> omega⟩
          · have N2 := Lib.hid (NS.out x1)
            have xb : (x == 1) = false := by simpa using x1
            clear NE NS
            have O5 := Lib.hid (ST.out (x + 1)).1
            rw [← List.map_take, US.out] at O5
            go_wp2
            go_ret
            rw [N2.out]
            exact ret_own O5.out (BN.out _) (by omega)
set_option maxHeartbeats 2000000 in
theorem sLyndonWords (k : Int) (w : World) : Calls Try.prog 30 #[.int .i64 k] w (RetLB 3 22 w (Tm.lyW k) (Tm.lyOk k)) := by
  obtain ⟨j0, hj, hy0, hy1, hy2⟩ := info_parts infoOwnS
  by_cases ho : Tm.lyOk k = true
  · have i1 : Tm.inB k 1 7 = true := ho
    have nb := (Tm.inB_iff _ _ _).1 i1
    obtain ⟨n0, n5⟩ := nb
    obtain ⟨K, rfl⟩ : ∃ K : Nat, k = (K : Int) := ⟨k.toNat, by omega⟩
    have K1 : 1 ≤ K := by omega
    have K7 : K ≤ 7 := by omega
    rw [Tm.lyW, if_pos ho, ho, Int.toNat_natCast]
    clear ho
    have JB := Tm.lyJ_bd K
    have LW := Lib.hid (Tm.lyw_at K1 K7)
    have TL := Lib.hid (Tm.lyT_length K)
    obtain ⟨J, hJ⟩ : ∃ J, J = Tm.lyJ K := ⟨_, rfl⟩
    rw [← hJ] at JB LW ⊢
    have HJ := Lib.hid hJ
    clear hJ
    go_enter Try.func30, Try.ntmps30
    go_wp2_with ((go_at_call 51; refine (sIn _ _ _ _).mono ?_; rintro e w1 ⟨rfl, rfl⟩))
    go_loopg [4, 5] J (fun gk v x wr => ∃ (j E : Nat) (a' : Option Addr) (c' : Nat) (a2 : Option Addr) (c2 : Nat), j ≤ J ∧ gk = J - j ∧ v = .slice a' (Tm.lyT K j).length c' ∧ x = .slice a2 (Tm.lyw K j).length c2 ∧ Hid (OwnL wr w.heap.size E 3 22 (.slice a' (Tm.lyT K j).length c') (Tm.lyT K j)) ∧ Hid (wr.ownsRow E 3 1 (.slice a2 (Tm.lyw K j).length c2) (Tm.lyw K j).length ((Tm.lyw K j).map (Value.int .i64))) ∧ w.heap.size ≤ E ∧ E ≤ wr.heap.size ∧ Hid (Below w.heap.size w wr))
    case atStart => exact ⟨0, (w.alloc (.cells #[] 22)).heap.size, _, _, _, _, by omega, by omega, rfl, rfl, Lib.hid ((ownL_empty w w.heap.size 3 22 (Nat.le_refl _)).stay (SameIn.of_below ((Below.refl _ _).alloc (Nat.le_refl _) _) (Nat.le_refl _))), Lib.hid (own_oneX _ _ _ (-1) _ (by simp) (by simp)), by simp, by simp, Lib.hid (by (repeat' (first | (with_reducible exact Below.refl _ _) | (with_reducible assumption) | (with_reducible refine below_drewN ?_ _) | (with_reducible refine Below.drew ?_) | (with_reducible refine Below.alloc ?_ ?_ _) | (with_reducible refine Below.setCell ?_ ?_ _) | (with_reducible refine below_gw ?_ ?_ _) | (with_reducible refine below_via ?_ ‹Below _ _ _› ?_) | (with_reducible exact Nat.le_refl _) | (with_reducible refine le_gw ?_ _) | (with_reducible refine le_alloc ?_ _) | (with_reducible refine le_setCell ?_ _ _) | (with_reducible refine le_drew ?_) | (with_reducible refine le_drewN ?_ _) | go_size)))⟩
    case round =>
      obtain ⟨j, E, a', c', a2, c2, hjJ, rfl, rfl, rfl, OO, XX, wE, hE, BB⟩ := hrel
      have hs := BB.out.size
      have TLj := TL.out j
      by_cases hlt : j < J
      · obtain ⟨x1, x7, xt⟩ := LW.out.2 j hlt
        have XT := Lib.hid xt
        have NX : Hid (Tm.lyw K (j + 1) = Tm.nx (Tm.lyw K j) K) := Lib.hid rfl
        have LS : Hid (Tm.lyT K (j + 1) = Tm.lyT K j ++ (if K % (Tm.lyw K j).length = 0 then [Tm.lyw K j] else [])) := Lib.hid rfl
        obtain ⟨L, hL⟩ : ∃ L, L = Tm.lyT K j := ⟨_, rfl⟩
        obtain ⟨X, hX⟩ : ∃ X, X = Tm.lyw K j := ⟨_, rfl⟩
        rw [← hL, ← hX] at LS
        rw [← hX] at NX XT x1 x7 XX
        rw [← hL] at OO TLj
        rw [← hL, ← hX]
        have HX := Lib.hid hX
        clear hL hX xt
        obtain ⟨r, hr⟩ : ∃ r : Nat, K % X.length = r := ⟨_, rfl⟩
        have e1 : (K : Int).tmod (X.length : Int) = (r : Int) := by rw [Int.tmod_eq_emod_of_nonneg (by omega), ← hr]; omega
        have e2 : (K : Int) % (X.length : Int) = (r : Int) := by rw [← hr]; omega
        have nz : ¬ ((X.length : Int) = 0) := by omega
        have xp : (0 : Int) < (X.length : Int) := by omega
        have xn : X ≠ [] := by intro e; subst e; simp at x1
        rw [hr] at LS
        clear hr
        by_cases r0 : r = 0
        · rw [if_pos r0] at LS
          subst r0
          have I0 := Lib.hid (Ints.of_own XX.out)
          have CP := Lib.hid (sCopy _ _ _ X wr I0.out (by omega) (by omega))
          go_wp2_with fail
          refine CP.out.mono ?_
          rintro e w3 ⟨a3, c3, rfl, hown, hb, -⟩
          have O3 := Lib.hid hown
          have L3 : Hid (OwnL w3 w.heap.size wr.heap.size 3 22 (.slice a' L.length c') L) := Lib.hid ((OO.out.stay (SameIn.of_below hb hE)).wide hE)
          have B3 := Lib.hid (BB.out.trans (hb.mono hs))
          have hs3 := hb.size
          have I3 := Lib.hid (I0.out.below hb)
          have EQ : ∀ q, a2 = some q → E ≤ q.block := fun q e => (XX.out.lt q.block (by rw [e]; rfl)).1
          have VL : ∀ q, (Value.slice a' L.length c').ownBlock = some q → q < E := fun q hq => by obtain ⟨_, _, h, _⟩ := OO.out.split; exact h q hq
          clear hown hb OO XX CP I0
          have hs4 := B3.out.size
          have NB : Hid (∀ b o, a2 = some ⟨b, o, none⟩ → some b ≠ (Value.slice a' L.length c').ownBlock) := Lib.hid (fun b o e h => by
            have h1 := EQ _ e
            have h2 := VL b h.symm
            have h3 : E ≤ b := h1
            omega)
          clear EQ VL
          obtain ⟨us, ow, ol, ri⟩ := L3.out.split
          have OW0 := Lib.hid ow
          have HUS : Hid (us.length = L.length) := Lib.hid (by have := ow.1; simpa using this)
          have OL := Lib.hid ol
          have RI := Lib.hid ri
          clear ow ol ri L3
          go_wp2_with (at_builtin; refine wpList_append_own_at _ rfl _ _ 33 rfl (w.heap.size) 22 j0 (.slice none 0 0) 1 24 Try.underlying33 hj hy0 hy1 hy2 rfl (by decide) _ _ _ rfl (World.ownsRow.alloc OW0.out _) ⟨w3.heap.size, 0, none⟩ 1 1 [.slice a3 _ c3] rfl rfl (app_s1 _ _ _) (app_s3 _ _ _) (by unfold maxLen; omega) (by omega) (by simp; omega) ?_)
          intro v' w4 hv hg _ hat
          have O4 : OwnL w4 w.heap.size w4.heap.size 3 22 v' (Tm.lyT K (j + 1)) := by
            rw [LS.out]
            exact OwnL.grow OL.out (RI.out.stay (SameIn.of_below ((Below.refl w3.heap.size w3).alloc (Nat.le_refl _) _) hs3)) HUS.out (own_weak (World.ownsRow.alloc O3.out _) (by omega)) (fun q hq => (O3.out.lt q hq).1) hv hg (by rw [World.size_alloc]; exact hat)
          have I4 := Lib.hid ((I3.out.alloc _).kept hg NB.out)
          have B4 := Lib.hid ((B3.out.alloc hs4 _).grown hg (by simp; omega) (fun j hj => (OW0.out.lt j hj).1))
          obtain ⟨a4, c4, rfl, -⟩ := O4.rows
          have O5 := Lib.hid O4
          have hs5 := B4.out.size
          have CN := Lib.hid (sNextL _ _ _ X K w4 I4.out x1 (by omega) K7 XT.out)
          rw [← NX.out] at CN
          clear hv hg hat O4 OW0 RI I3 I4 B3 O3
          go_wp2_with fail
          refine CN.out.mono ?_
          rintro e w6 ⟨a6, c6, rfl, hown, hb, -⟩
          have O6 := Lib.hid hown
          have L6 := Lib.hid (O5.out.stay (SameIn.of_below hb (Nat.le_refl _)))
          have B6 := Lib.hid (B4.out.trans (hb.mono hs5))
          have hs6 := hb.size
          clear hown hb O5 CN
          go_wp2_with fail
          go_roundg (J - (j + 1))
          case measure => omega
          case rel => exact ⟨j + 1, w4.heap.size, a4, c4, a6, c6, by omega, rfl, rfl, rfl, L6, O6, hs5, hs6, B6⟩
        · rw [if_neg r0, List.append_nil] at LS
          have rb : ((r : Int) == 0) = false := by rw [beq_eq_false_iff_ne]; omega
          have I1 := Lib.hid (Ints.of_own XX.out)
          have CN := Lib.hid (sNextL _ _ _ X K wr I1.out x1 (by omega) K7 XT.out)
          rw [← NX.out] at CN
          go_wp2_with fail
          refine CN.out.mono ?_
          rintro e w3 ⟨a3, c3, rfl, hown, hb, -⟩
          have O3 := Lib.hid hown
          have L3 := Lib.hid ((OO.out.stay (SameIn.of_below hb hE)).wide hE)
          have B3 := Lib.hid (BB.out.trans (hb.mono hs))
          have hs3 := hb.size
          clear hown hb OO XX CN I1
          go_wp2_with fail
          go_roundg (J - (j + 1))
          case measure => omega
          case rel => exact ⟨j + 1, wr.heap.size, a', c', a3, c3, by omega, rfl, by rw [LS.out], rfl, by rw [LS.out]; exact L3, O3, hs, hs3, B3⟩
      · obtain rfl : j = J := by omega
        have X0 := LW.out.1
        have xp : ¬ ((0 : Int) < ((Tm.lyw K j).length : Int)) := by omega
        go_wp2_with fail
        go_ret2
        exact ⟨_, rfl, OO.out.wide hE, BB.out⟩
  · simp only [Bool.not_eq_true] at ho
    have i1 : Tm.inB k 1 7 = false := ho
    rw [Tm.lyW, ho]
    clear ho
    go_enter Try.func30, Try.ntmps30
    go_wp2_with ((go_at_call 51; refine (sIn _ _ _ _).mono ?_; rintro e w1 ⟨rfl, rfl⟩))
    go_ret2
    exact ret_nil_lb (by (repeat' (first | (with_reducible exact Below.refl _ _) | (with_reducible assumption) | (with_reducible refine below_drewN ?_ _) | (with_reducible refine Below.drew ?_) | (with_reducible refine Below.alloc ?_ ?_ _) | (with_reducible refine Below.setCell ?_ ?_ _) | (with_reducible refine below_gw ?_ ?_ _) | (with_reducible refine below_via ?_ ‹Below _ _ _› ?_) | (with_reducible exact Nat.le_refl _) | (with_reducible refine le_gw ?_ _) | (with_reducible refine le_alloc ?_ _) | (with_reducible refine le_setCell ?_ _ _) | (with_reducible refine le_drew ?_) | (with_reducible refine le_drewN ?_ _) | go_size)))
set_option maxHeartbeats 2000000 in
theorem iLyndonWords (k : Int) (w : World) : Calls Try.prog 31 #[.int .i64 k] w (RetLB 3 22 w (Tm.lyW k) (Tm.lyOk k)) := by
  obtain ⟨j0, hj, hy0, hy1, hy2⟩ := info_parts infoOwnS
  by_cases ho : Tm.lyOk k = true
  · have i1 : Tm.inB k 1 7 = true := ho
    have nb := (Tm.inB_iff _ _ _).1 i1
    obtain ⟨n0, n5⟩ := nb
    obtain ⟨K, rfl⟩ : ∃ K : Nat, k = (K : Int) := ⟨k.toNat, by omega⟩
    have K1 : 1 ≤ K := by omega
    have K7 : K ≤ 7 := by omega
    rw [Tm.lyW, if_pos ho, ho, Int.toNat_natCast]
    clear ho
    have JB := Tm.lyJ_bd K
    have LW := Lib.hid (Tm.lyw_at K1 K7)
    have TL := Lib.hid (Tm.lyT_length K)
    obtain ⟨J, hJ⟩ : ∃ J, J = Tm.lyJ K := ⟨_, rfl⟩
    rw [← hJ] at JB LW ⊢
    have HJ := Lib.hid hJ
    clear hJ
    go_enter Try.func31, Try.ntmps31
    go_wp2_with fail
    go_loopg [4, 5] J (fun gk v x wr => ∃ (j E : Nat) (a' : Option Addr) (c' : Nat) (a2 : Option Addr) (c2 : Nat), j ≤ J ∧ gk = J - j ∧ v = .slice a' (Tm.lyT K j).length c' ∧ x = .slice a2 (Tm.lyw K j).length c2 ∧ Hid (OwnL wr w.heap.size E 3 22 (.slice a' (Tm.lyT K j).length c') (Tm.lyT K j)) ∧ Hid (wr.ownsRow E 3 1 (.slice a2 (Tm.lyw K j).length c2) (Tm.lyw K j).length ((Tm.lyw K j).map (Value.int .i64))) ∧ w.heap.size ≤ E ∧ E ≤ wr.heap.size ∧ Hid (Below w.heap.size w wr))
    case atStart => exact ⟨0, w.heap.size, _, _, _, _, by omega, by omega, rfl, rfl, Lib.hid ((ownL_nil _ _ _ _ _)), Lib.hid (own_oneX _ _ _ (-1) _ (by simp) (by simp)), by simp, by simp, Lib.hid (by (repeat' (first | (with_reducible exact Below.refl _ _) | (with_reducible assumption) | (with_reducible refine below_drewN ?_ _) | (with_reducible refine Below.drew ?_) | (with_reducible refine Below.alloc ?_ ?_ _) | (with_reducible refine Below.setCell ?_ ?_ _) | (with_reducible refine below_gw ?_ ?_ _) | (with_reducible refine below_via ?_ ‹Below _ _ _› ?_) | (with_reducible exact Nat.le_refl _) | (with_reducible refine le_gw ?_ _) | (with_reducible refine le_alloc ?_ _) | (with_reducible refine le_setCell ?_ _ _) | (with_reducible refine le_drew ?_) | (with_reducible refine le_drewN ?_ _) | go_size)))⟩
    case round =>
      obtain ⟨j, E, a', c', a2, c2, hjJ, rfl, rfl, rfl, OO, XX, wE, hE, BB⟩ := hrel
      have hs := BB.out.size
      have TLj := TL.out j
      by_cases hlt : j < J
      · obtain ⟨x1, x7, xt⟩ := LW.out.2 j hlt
        have XT := Lib.hid xt
        have NX : Hid (Tm.lyw K (j + 1) = Tm.nx (Tm.lyw K j) K) := Lib.hid rfl
        have LS : Hid (Tm.lyT K (j + 1) = Tm.lyT K j ++ (if K % (Tm.lyw K j).length = 0 then [Tm.lyw K j] else [])) := Lib.hid rfl
        obtain ⟨L, hL⟩ : ∃ L, L = Tm.lyT K j := ⟨_, rfl⟩
        obtain ⟨X, hX⟩ : ∃ X, X = Tm.lyw K j := ⟨_, rfl⟩
        rw [← hL, ← hX] at LS
        rw [← hX] at NX XT x1 x7 XX
        rw [← hL] at OO TLj
        rw [← hL, ← hX]
        have HX := Lib.hid hX
        clear hL hX xt
        obtain ⟨r, hr⟩ : ∃ r : Nat, K % X.length = r := ⟨_, rfl⟩
        have e1 : (K : Int).tmod (X.length : Int) = (r : Int) := by rw [Int.tmod_eq_emod_of_nonneg (by omega), ← hr]; omega
        have e2 : (K : Int) % (X.length : Int) = (r : Int) := by rw [← hr]; omega
        have nz : ¬ ((X.length : Int) = 0) := by omega
        have xp : (0 : Int) < (X.length : Int) := by omega
        have xn : X ≠ [] := by intro e; subst e; simp at x1
        rw [hr] at LS
        clear hr
        by_cases r0 : r = 0
        · rw [if_pos r0] at LS
          subst r0
          have I3 := Lib.hid (Ints.of_own XX.out)
          have O3 := XX
          have L3 := OO
          have B3 := BB
          have EQ : ∀ q, a2 = some q → E ≤ q.block := fun q e => (XX.out.lt q.block (by rw [e]; rfl)).1
          have VL : ∀ q, (Value.slice a' L.length c').ownBlock = some q → q < E := fun q hq => by obtain ⟨_, _, h, _⟩ := OO.out.split; exact h q hq
          clear OO XX
          have hs4 := B3.out.size
          have NB : Hid (∀ b o, a2 = some ⟨b, o, none⟩ → some b ≠ (Value.slice a' L.length c').ownBlock) := Lib.hid (fun b o e h => by
            have h1 := EQ _ e
            have h2 := VL b h.symm
            have h3 : E ≤ b := h1
            omega)
          clear EQ VL
          obtain ⟨us, ow, ol, ri⟩ := L3.out.split
          have OW0 := Lib.hid ow
          have HUS : Hid (us.length = L.length) := Lib.hid (by have := ow.1; simpa using this)
          have OL := Lib.hid ol
          have RI := Lib.hid ri
          clear ow ol ri L3
          go_wp2_with (at_builtin; refine wpList_append_own_at _ rfl _ _ 33 rfl (w.heap.size) 22 j0 (.slice none 0 0) 1 24 Try.underlying33 hj hy0 hy1 hy2 rfl (by decide) _ _ _ rfl (World.ownsRow.alloc OW0.out _) ⟨wr.heap.size, 0, none⟩ 1 1 [.slice a2 _ c2] rfl rfl (app_s1 _ _ _) (app_s3 _ _ _) (by unfold maxLen; omega) (by omega) (by simp; omega) ?_)
          intro v' w4 hv hg _ hat
          have O4 : OwnL w4 w.heap.size w4.heap.size 3 22 v' (Tm.lyT K (j + 1)) := by
            rw [LS.out]
            exact OwnL.grow OL.out (RI.out.stay (SameIn.of_below ((Below.refl wr.heap.size wr).alloc (Nat.le_refl _) _) hE)) HUS.out (own_weak (World.ownsRow.alloc O3.out _) (by omega)) (fun q hq => (O3.out.lt q hq).1) hv hg (by rw [World.size_alloc]; exact hat)
          have I4 := Lib.hid ((I3.out.alloc _).kept hg NB.out)
          have B4 := Lib.hid ((B3.out.alloc hs4 _).grown hg (by simp; omega) (fun j hj => (OW0.out.lt j hj).1))
          obtain ⟨a4, c4, rfl, -⟩ := O4.rows
          have O5 := Lib.hid O4
          have hs5 := B4.out.size
          have CN := Lib.hid (iNextL _ _ _ X K w4 I4.out x1 (by omega) K7 XT.out)
          rw [← NX.out] at CN
          clear hv hg hat O4 OW0 RI I3 I4 B3 O3
          go_wp2_with fail
          refine CN.out.mono ?_
          rintro e w6 ⟨a6, c6, rfl, hown, hb, -⟩
          have O6 := Lib.hid hown
          have L6 := Lib.hid (O5.out.stay (SameIn.of_below hb (Nat.le_refl _)))
          have B6 := Lib.hid (B4.out.trans (hb.mono hs5))
          have hs6 := hb.size
          clear hown hb O5 CN
          go_wp2_with fail
          go_roundg (J - (j + 1))
          case measure => omega
          case rel => exact ⟨j + 1, w4.heap.size, a4, c4, a6, c6, by omega, rfl, rfl, rfl, L6, O6, hs5, hs6, B6⟩
        · rw [if_neg r0, List.append_nil] at LS
          have rb : ((r : Int) == 0) = false := by rw [beq_eq_false_iff_ne]; omega
          have I1 := Lib.hid (Ints.of_own XX.out)
          have CN := Lib.hid (iNextL _ _ _ X K wr I1.out x1 (by omega) K7 XT.out)
          rw [← NX.out] at CN
          go_wp2_with fail
          refine CN.out.mono ?_
          rintro e w3 ⟨a3, c3, rfl, hown, hb, -⟩
          have O3 := Lib.hid hown
          have L3 := Lib.hid ((OO.out.stay (SameIn.of_below hb hE)).wide hE)
          have B3 := Lib.hid (BB.out.trans (hb.mono hs))
          have hs3 := hb.size
          clear hown hb OO XX CN I1
          go_wp2_with fail
          go_roundg (J - (j + 1))
          case measure => omega
          case rel => exact ⟨j + 1, wr.heap.size, a', c', a3, c3, by omega, rfl, by rw [LS.out], rfl, by rw [LS.out]; exact L3, O3, hs, hs3, B3⟩
      · obtain rfl : j = J := by omega
        have X0 := LW.out.1
        have xp : ¬ ((0 : Int) < ((Tm.lyw K j).length : Int)) := by omega
        go_wp2_with fail
        go_ret2
        exact ⟨_, rfl, OO.out.wide hE, BB.out⟩
  · simp only [Bool.not_eq_true] at ho
    have nb := (Tm.inB_no _ _ _).1 (show Tm.inB k 1 7 = false from ho)
    rw [Tm.lyW, ho]
    clear ho
    by_cases h1 : k < 1
    · go_enter Try.func31, Try.ntmps31
      go_wp2
      go_ret2
      exact ret_nil_lb (by (repeat' (first | (with_reducible exact Below.refl _ _) | (with_reducible assumption) | (with_reducible refine below_drewN ?_ _) | (with_reducible refine Below.drew ?_) | (with_reducible refine Below.alloc ?_ ?_ _) | (with_reducible refine Below.setCell ?_ ?_ _) | (with_reducible refine below_gw ?_ ?_ _) | (with_reducible refine below_via ?_ ‹Below _ _ _› ?_) | (with_reducible exact Nat.le_refl _) | (with_reducible refine le_gw ?_ _) | (with_reducible refine le_alloc ?_ _) | (with_reducible refine le_setCell ?_ _ _) | (with_reducible refine le_drew ?_) | (with_reducible refine le_drewN ?_ _) | go_size)))
    · have h2 : 7 < k := by omega
      go_enter Try.func31, Try.ntmps31
      go_wp2
      go_ret2
      exact ret_nil_lb (by (repeat' (first | (with_reducible exact Below.refl _ _) | (with_reducible assumption) | (with_reducible refine below_drewN ?_ _) | (with_reducible refine Below.drew ?_) | (with_reducible refine Below.alloc ?_ ?_ _) | (with_reducible refine Below.setCell ?_ ?_ _) | (with_reducible refine below_gw ?_ ?_ _) | (with_reducible refine below_via ?_ ‹Below _ _ _› ?_) | (with_reducible exact Nat.le_refl _) | (with_reducible refine le_gw ?_ _) | (with_reducible refine le_alloc ?_ _) | (with_reducible refine le_setCell ?_ _ _) | (with_reducible refine le_drew ?_) | (with_reducible refine le_drewN ?_ _) | go_size)))
theorem cnt_seven {L : List (List Int)} (h : ∀ x ∈ L, x.length ≤ 7) (n : Nat) : cnt L n ≤ 7 * n := by
  induction n with
  | zero => simp [cnt]
  | succ n ih =>
    have : (L.getD n []).length ≤ 7 := by
      rw [List.getD_eq_getElem?_getD]
      by_cases e : n < L.length
      · rw [List.getElem?_eq_getElem e]; exact h _ (List.getElem_mem e)
      · rw [List.getElem?_eq_none (by omega)]; simp
    rw [cnt]; omega
theorem ly_small (k : Int) : (Tm.lyW k).length + cnt (Tm.lyW k) (Tm.lyW k).length ≤ 1048576 := by
  have h1 := Tm.lyW_length k
  have h2 := cnt_seven (L := Tm.lyW k) (fun x hx => (Tm.lyW_mem hx).2.1) (Tm.lyW k).length
  omega
end Go.Proofs.Ytfmpnkckaceigaa

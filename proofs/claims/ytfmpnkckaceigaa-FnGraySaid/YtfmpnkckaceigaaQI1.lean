/- The program's sequence of words, and ranks in it. -/
import Derived.Test.YtfmpnkckaceigaaQS1
import Derived.Test.YtfmpnkckaceigaaWI
import Derived.Test.YtfmpnkckaceigaaGI0
namespace Go.Proofs.Ytfmpnkckaceigaa
set_option maxRecDepth 20000
open Go.RowKit
theorem iPow3 (k : Nat) (w : World) (h2 : k ≤ 30) : Calls Try.prog 54 #[.int .i64 k] w fun e w' => e = .returned (.int .i64 (Tm.pow3 k)) ∧ w = w' := by
  have L := Lib.hid (fun w => iLimitOf k w)
  have e : Tm.lim (k : Int) = Tm.limN k := by
    rcases Nat.eq_zero_or_pos k with h0 | h0
    · subst h0; rfl
    · exact Tm.lim_nat h0 h2
  rw [e] at L
  have b1 := Tm.limN_le h2
  have b2 := Tm.limN_nonneg k
  rw [Tm.pow3_limN]
  obtain ⟨l, hl⟩ : ∃ l, l = Tm.limN k := ⟨_, rfl⟩
  rw [← hl] at L b1 b2 ⊢
  clear hl e
  go_enter Try.func54, Try.ntmps54
  go_wp2_with fail
  refine (L.out _).mono ?_
  rintro e w' ⟨rfl, rfl⟩
  go_wp2
  go_ret
  exact ⟨ret_int (by omega), rfl⟩
theorem iInThird (i h n : Int) (w : World) (h0 : 0 ≤ i) (h1 : i < n) (h2 : n ≤ 205891132094649) : Calls Try.prog 55 #[.int .i64 i, .int .i64 h, .int .i64 n] w fun e w' => e = .returned (.int .i64 (Tm.inThird i h n)) ∧ w = w' := by
  rw [Tm.inThird]
  have e1 : IntKind.i64.wrap (n - 1) = n - 1 := IntWalk.i64_in _ (by omega)
  have e2 : IntKind.i64.wrap (n - 1 - i) = n - 1 - i := IntWalk.i64_in _ (by omega)
  by_cases c : h = 0
  · rw [if_pos c]
    go_enter Try.func55, Try.ntmps55
    go_wp2
    go_ret
    exact ⟨rfl, rfl⟩
  · rw [if_neg c]
    go_enter Try.func55, Try.ntmps55
    go_wp2
    go_ret
    exact ⟨rfl, rfl⟩
theorem iInThirdB (i h n : Int) (h0 : 0 ≤ i) (h1 : i < n) (h2 : n ≤ 205891132094649) (w : World) : Calls Try.prog 55 #[.int .i64 i, .int .i64 h, .int .i64 n] w fun e w' => e = .returned (.int .i64 (Tm.inThird i h n)) ∧ Below w.heap.size w w' :=
  (iInThird i h n w h0 h1 h2).mono fun _ _ ⟨a, b⟩ => ⟨a, b ▸ Below.refl _ _⟩
theorem linesOk_one (e x : Int) : Tm.linesOk e [x] = decide (0 ≤ x ∧ x < e) := by
  rw [Tm.linesOk, List.all_cons, List.all_nil, Bool.and_true, Tm.inB]
  exact decide_eq_decide.2 ⟨fun h => ⟨h.1, by omega⟩, fun h => ⟨h.1, by omega⟩⟩
theorem ints_lit1 (w : World) (x : Int) : Ints (w.alloc (.cells #[.int .i64 x] 3)) (some ⟨w.heap.size, 0, none⟩) 1 1 [x] :=
  Ints.of_own (own_one w 0 _ x (Nat.zero_le _))
set_option maxHeartbeats 1000000 in
theorem iGrayWord (x k : Int) (w : World) : Calls Try.prog 17 #[.int .i64 x, .int .i64 k] w (RetIB 3 w (Tm.gray x k) (Tm.grayOk x k)) := by
  obtain ⟨i0, hi, hz0, hz1, hz2⟩ := info_parts infoInt
  cases hk : Tm.inB k 1 30 with
  | false =>
    have ho := Tm.grayOk_out x hk
    rw [Tm.gray, ho]
    clear ho
    go_enter Try.func17, Try.ntmps17
    go_wp2_with ((go_at_call 52; refine (iWordLen _ _).mono ?_; rintro e w1 ⟨rfl, rfl⟩))
    go_ret2
    exact ret_nil_b (by (repeat' (first | (with_reducible exact Below.refl _ _) | (with_reducible assumption) | (with_reducible refine below_drewN ?_ _) | (with_reducible refine Below.drew ?_) | (with_reducible refine Below.alloc ?_ ?_ _) | (with_reducible refine Below.setCell ?_ ?_ _) | (with_reducible refine below_gw ?_ ?_ _) | (with_reducible refine below_via ?_ ‹Below _ _ _› ?_) | (with_reducible exact Nat.le_refl _) | (with_reducible refine le_gw ?_ _) | (with_reducible refine le_alloc ?_ _) | (with_reducible refine le_setCell ?_ _ _) | (with_reducible refine le_drew ?_) | (with_reducible refine le_drewN ?_ _) | go_size)))
  | true =>
    have hk' := (Tm.inB_iff _ _ _).1 hk
    obtain ⟨k1, k2⟩ := hk'
    obtain ⟨K, rfl⟩ : ∃ K : Nat, k = (K : Int) := ⟨k.toNat, by omega⟩
    have PB := Tm.pow3_le (show K ≤ 30 by omega)
    rw [Tm.pow3_30] at PB
    have K30 : K ≤ 30 := by omega
    have LK := Lib.hid (iAreBefore (Tm.pow3 K) _ 1 1 [x] _ (ints_lit1 w x))
    rw [linesOk_one] at LK
    by_cases ho : Tm.grayOk x (K : Int) = true
    · have f := (Tm.grayOk_iff _ _).1 ho
      obtain ⟨K1, K2, x0, x1⟩ := f
      rw [decide_eq_true ⟨x0, x1⟩] at LK
      rw [Tm.gray, if_pos ho, ho, Int.toNat_natCast]
      have X0 := Lib.hid x0
      have X1 := Lib.hid x1
      have xb : x < 205891132094649 := by omega
      clear ho
      go_enter Try.func17, Try.ntmps17
      go_wp2_with (first | (go_at_call 52; refine (iWordLen _ _).mono ?_; rintro e w1 ⟨rfl, rfl⟩) | (go_at_call 54; refine (iPow3 _ _ K30).mono ?_; rintro e w1 ⟨rfl, rfl⟩) | (go_at_call 53; refine LK.out.mono ?_; rintro e w1 ⟨rfl, rfl⟩) | (at_make; refine wpList_make_full _ rfl _ _ 22 rfl (w.heap.size) 3 i0 (.int .i64 0) 1 Try.underlying22 hi hz0 hz1 _ _ _ _ (K) rfl rfl (by first | rfl | omega) (by first | rfl | omega) (by rw [hz2]; omega) (by unfold maxLen; omega) (by first | go_size | (simp only [gw_size, World.size_alloc]; omega) | exact Nat.le_refl _ | omega) ?_))
      intro w1 hm hgrow
      have O1 := Lib.hid (rowV_own hm)
      have B1 : Hid (Below w.heap.size w w1) := Lib.hid (((Below.refl w.heap.size w).alloc (Nat.le_refl _) (.cells #[.int .i64 x] 3)).grown hgrow (by simp) (fun k hk => by cases hk))
      have hs1 := B1.out.size
      clear hm hgrow LK x0 x1 PB
      have hjm : K ≤ 30 := K30
      go_wp2_with fail
      go_loopw [0, 7] (fun iv pv wr => ∃ (p : Nat) (i : Int) (g : Nat → Int), p ≤ K ∧ pv = .int .i64 ((p : Int) - 1) ∧ iv = .int .i64 i ∧ Hid (Tm.GrayAt K x p i g) ∧ Hid (wr.ownsRow w.heap.size 3 1 (.slice (some ⟨w.heap.size + 1, 0, none⟩) K K) K (rowV K g)) ∧ Hid (Below w.heap.size w wr) ∧ w.heap.size + 1 < wr.heap.size) (fun _ pv _ => (intOf pv + 1).toNat)
      case atStart => exact ⟨K, x, _, by omega, rfl, rfl, Lib.hid (Tm.GrayAt.start X0.out X1.out _), O1, B1, (own_base O1.out).2⟩
      case round =>
        obtain ⟨p, i, g, hp, rfl, rfl, GA, O2, B3, sz⟩ := hrel
        rcases Nat.eq_zero_or_pos p with h0 | h0
        · subst h0
          have E := Lib.hid (rowV_list (Tm.grayL_length K x) GA.out.done)
          go_wp2
          go_ret2
          have O3 := O2.out
          rw [E.out] at O3
          exact ret_own_b O3 B3.out (by omega)
        · obtain ⟨p, rfl⟩ : ∃ q, p = q + 1 := ⟨p - 1, by omega⟩
          rw [show (((p + 1 : Nat) : Int) - 1) = (p : Int) from by omega]
          have P30 : p ≤ 30 := by omega
          have P3 := Lib.hid (fun w => iPow3 p w P30)
          have tb := Tm.third_bd GA.out.2.1 GA.out.2.2.1
          have PB := Tm.pow3_le P30
          rw [Tm.pow3_30] at PB
          have GN : ∀ g', g' p = i / Tm.pow3 p - 1 → (∀ j, p < j → g' j = g j) → Tm.GrayAt K x p (Tm.inThird (i % Tm.pow3 p) (i / Tm.pow3 p - 1) (Tm.pow3 p)) g' := fun g' h1 h2 => GA.out.step h1 h2
          have i0 := GA.out.2.1
          obtain ⟨P, hP⟩ : ∃ P, P = Tm.pow3 p := ⟨_, rfl⟩
          have P0 := Tm.pow3_pos p
          rw [← hP] at tb PB GN P0 P3
          clear hP
          have d1 : i.tdiv P = i / P := Int.tdiv_eq_ediv_of_nonneg i0
          have d2 : i.tmod P = i % P := Int.tmod_eq_emod_of_nonneg i0
          obtain ⟨t1, t2, t3, t4⟩ := tb
          have TC := Lib.hid (fun h => iInThirdB (i % P) h P t3 t4 PB)
          obtain ⟨q, hq⟩ : ∃ q, q = i / P := ⟨_, rfl⟩
          obtain ⟨m, hm⟩ : ∃ m, m = i % P := ⟨_, rfl⟩
          rw [← hq] at d1 t1 t2 GN
          rw [← hm] at d2 t3 t4 GN TC
          have e1 : IntKind.i64.wrap (q - 1) = q - 1 := IntWalk.i64_in _ (by omega)
          have GS := Lib.hid (GN (upd g p (q - 1)) (upd_at _ _ _) (fun j hj => upd_ne _ _ _ (by omega)))
          have PUT := Lib.hid (own_put O2.out p (q - 1)).1
          have PC := own_cell PUT.out p (by omega)
          rw [upd_at] at PC
          have fz := O2.out.frozenAt p
          have hc0 := own_cell O2.out p (by omega)
          have B4 : Hid (Below w.heap.size w (wr.setCell ⟨w.heap.size + 1, p, none⟩ (.int .i64 (q - 1)))) := Lib.hid (B3.out.setCell (by simp) _)
          clear hq hm GN GA
          have P1 : P ≠ 0 := by omega
          go_wp2_with (first | (go_at_call 54; refine (P3.out _).mono ?_; rintro e w1 ⟨rfl, rfl⟩))
          (refine wp_region_quiet_below (by kernel_rfl) (by kernel_rfl) ?_; (repeat (go_big_quiet_step ((go_at_call 55; exact met_below (fun _ => TC.out _ _))))); refine wpQuiet_nil ?_; intro wq hwq; obtain ⟨pq, hpq⟩ := hwq; have hpq' : wq = gw _ pq := hpq; clear hpq; subst hpq')
          go_wp2
          exact ⟨⟨p, _, upd g p (q - 1), by omega, rfl, rfl, GS, Lib.hid (own_below PUT.out (below_gw (Below.refl _ _) (Nat.le_refl _) _)), Lib.hid (below_gw B4.out B4.out.size _), by simp [gw_size]; omega⟩, by simp [intOf] <;> omega⟩
    · have hno : ¬ (0 ≤ x ∧ x < Tm.pow3 K) := fun h => ho ((Tm.grayOk_iff _ _).2 ⟨by omega, by omega, h.1, h.2⟩)
      rw [decide_eq_false hno] at LK
      simp only [Bool.not_eq_true] at ho
      rw [Tm.gray, ho]
      clear ho hno PB
      go_enter Try.func17, Try.ntmps17
      go_wp2_with (first | (go_at_call 52; refine (iWordLen _ _).mono ?_; rintro e w1 ⟨rfl, rfl⟩) | (go_at_call 54; refine (iPow3 _ _ K30).mono ?_; rintro e w1 ⟨rfl, rfl⟩) | (go_at_call 53; refine LK.out.mono ?_; rintro e w1 ⟨rfl, rfl⟩))
      go_ret2
      exact ret_nil_b (by (repeat' (first | (with_reducible exact Below.refl _ _) | (with_reducible assumption) | (with_reducible refine below_drewN ?_ _) | (with_reducible refine Below.drew ?_) | (with_reducible refine Below.alloc ?_ ?_ _) | (with_reducible refine Below.setCell ?_ ?_ _) | (with_reducible refine below_gw ?_ ?_ _) | (with_reducible refine below_via ?_ ‹Below _ _ _› ?_) | (with_reducible exact Nat.le_refl _) | (with_reducible refine le_gw ?_ _) | (with_reducible refine le_alloc ?_ _) | (with_reducible refine le_setCell ?_ _ _) | (with_reducible refine le_drew ?_) | (with_reducible refine le_drewN ?_ _) | go_size)))
set_option maxHeartbeats 1000000 in
theorem iGrayRank (a : Option Addr) (n cap : Nat) (xs : List Int) (w : World) (h : Ints w a n cap xs) : Calls Try.prog 23 #[.slice a n cap] w fun e w' => e = .returned (.int .i64 (Tm.rank xs)) ∧ w = w' := by
  have H := Lib.hid h
  obtain rfl : n = xs.length := h.1.symm
  clear h
  cases hw : Tm.isW xs with
  | false =>
    rw [Tm.rank, hw]
    go_enter Try.func23, Try.ntmps23
    go_wp2_with ((go_at_call 56; refine (iIsWord _ _ _ xs _ H.out).mono ?_; rintro e w1 ⟨rfl, rfl⟩))
    go_ret
    exact ⟨rfl, rfl⟩
  | true =>
    have W := Lib.hid hw
    have hl := (Tm.isW_iff xs).1 hw
    obtain ⟨-, l1, l2⟩ := hl
    have RK : Hid (Tm.rank xs = Tm.rkN xs xs.length) := Lib.hid (by rw [Tm.rank, if_pos hw])
    go_enter Try.func23, Try.ntmps23
    go_wp2_with ((go_at_call 56; refine (iIsWord _ _ _ xs _ H.out).mono ?_; rintro e w1 ⟨rfl, rfl⟩))
    clear hw
    go_loop [3, 12] (fun nv pv => ∃ (p : Nat), p ≤ xs.length ∧ pv = .int .i64 (p : Int) ∧ nv = .int .i64 (Tm.rkN xs p)) (fun _ pv => xs.length - (intOf pv).toNat)
    case atStart => exact ⟨0, by omega, rfl, rfl⟩
    case round =>
      obtain ⟨p, hp, rfl, rfl⟩ := hrel
      by_cases hlt : p < xs.length
      · rcases H.out.2.2.2 with h1 | ⟨bb, o, rfl, hbl, hc⟩
        · omega
        have c1 := hc p (by omega)
        have tb := Tm.isW_at W.out p
        have rb := Tm.rkN_bd (Tm.isW_at W.out) p
        have rb' := Tm.rkN_bd (Tm.isW_at W.out) (p + 1)
        have ib := Tm.inThird_bd (h := xs.getD p 0) rb.1 rb.2
        have P30 : p ≤ 30 := by omega
        have PB := Tm.pow3_le P30
        have PB' := Tm.pow3_le (show p + 1 ≤ 30 by omega)
        rw [Tm.pow3_30] at PB PB'
        have RS : Hid (Tm.rkN xs (p + 1) = (xs.getD p 0 + 1) * Tm.pow3 p + Tm.inThird (Tm.rkN xs p) (xs.getD p 0) (Tm.pow3 p)) := Lib.hid rfl
        rw [RS.out] at rb'
        have CT := Lib.hid (iInThird (Tm.rkN xs p) (xs.getD p 0) (Tm.pow3 p) w rb.1 rb.2 PB)
        have P3 := Lib.hid (iPow3 p w P30)
        obtain ⟨t, ht⟩ : ∃ t, t = xs.getD p 0 := ⟨_, rfl⟩
        obtain ⟨P, hP⟩ : ∃ P, P = Tm.pow3 p := ⟨_, rfl⟩
        obtain ⟨r, hr⟩ : ∃ r, r = Tm.rkN xs p := ⟨_, rfl⟩
        rw [← ht] at c1 tb rb' RS CT ib
        rw [← hP] at PB rb rb' RS CT ib P3
        rw [← hr] at rb rb' RS CT ib ⊢
        obtain ⟨m, hm⟩ : ∃ m, m = Tm.inThird r t P := ⟨_, rfl⟩
        rw [← hm] at rb' RS CT ib
        obtain ⟨t1, t2⟩ := tb
        have hP0 : 0 < P := by omega
        have tp : 0 ≤ (t + 1) * P ∧ (t + 1) * P ≤ 2 * P := by
          have : t = -1 ∨ t = 0 ∨ t = 1 := by omega
          rcases this with rfl | rfl | rfl <;> omega
        have e1 : IntKind.i64.wrap (t + 1) = t + 1 := IntWalk.i64_in _ (by omega)
        have e2 : IntKind.i64.wrap ((t + 1) * P) = (t + 1) * P := IntWalk.i64_in _ (by omega)
        have e3 : IntKind.i64.wrap ((t + 1) * P + m) = (t + 1) * P + m := IntWalk.i64_in _ (by omega)
        clear hc ht hP hr hm rb' PB' ib tp
        go_wp2_with (first | (go_at_call 54; refine P3.out.mono ?_; rintro e w1 ⟨rfl, rfl⟩) | (go_at_call 55; refine CT.out.mono ?_; rintro e w1 ⟨rfl, rfl⟩))
        exact ⟨⟨p + 1, by omega, by go_num, val_int RS.out.symm⟩, by simp [intOf]; omega⟩
      · obtain rfl : p = xs.length := by omega
        go_wp2
        go_ret
        exact ⟨ret_int (by rw [RK.out]), rfl⟩
end Go.Proofs.Ytfmpnkckaceigaa

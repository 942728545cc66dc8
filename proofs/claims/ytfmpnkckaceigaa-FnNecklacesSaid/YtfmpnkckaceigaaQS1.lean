/- The model's sequence of words, and ranks in it. -/
import Derived.Test.YtfmpnkckaceigaaQMath
import Derived.Test.YtfmpnkckaceigaaWVal
import Derived.Test.YtfmpnkckaceigaaWS
import Derived.Test.YtfmpnkckaceigaaFill
import Derived.Test.YtfmpnkckaceigaaTr
namespace Go.Proofs.Ytfmpnkckaceigaa
set_option maxRecDepth 20000
open Go.RowKit
namespace Tm
def lenV : Value → Nat
  | .slice _ n _ => n
  | _ => 0
def digV (i : Int) (j : Nat) : List Value := (List.range j).map fun q => .int .i64 (i / pow3 q % 3)
theorem digV_succ (i : Int) (j : Nat) : digV i j ++ [Value.int .i64 (i / pow3 j % 3)] = digV i (j + 1) := by simp [digV, List.range_succ]
theorem digV_get (i : Int) (j q : Nat) (h : q < j) : (digV i j)[q]? = some (.int .i64 (i / pow3 q % 3)) := by simp [digV, h]
theorem div_pow_succ (i : Int) (j : Nat) : i / pow3 (j + 1) = i / pow3 j / 3 := by
  rw [pow3_succ, Int.mul_comm, Int.ediv_ediv_of_nonneg (by have := pow3_pos j; omega)]
theorem grayOk_iff (i : Int) (K : Nat) : grayOk i (K : Int) = true ↔ 1 ≤ K ∧ K ≤ 30 ∧ 0 ≤ i ∧ i < pow3 K := by
  simp only [grayOk, decide_eq_true_eq, Int.toNat_natCast]; omega
theorem grayOk_out (i : Int) {k : Int} (h : inB k 1 30 = false) : grayOk i k = false := by
  have := (inB_no _ _ _).1 h
  simp only [grayOk, decide_eq_false_iff_not]; omega
end Tm
set_option maxHeartbeats 1000000 in
theorem sGrayWord (x k : Int) (w : World) : Calls Try.prog 16 #[.int .i64 x, .int .i64 k] w (RetIB 3 w (Tm.gray x k) (Tm.grayOk x k)) := by
  obtain ⟨i0, hi, hz0, hz1, hz2⟩ := info_parts infoInt
  cases hk : Tm.inB k 1 30 with
  | false =>
    have ho := Tm.grayOk_out x hk
    rw [Tm.gray, ho]
    clear ho
    go_enter Try.func16, Try.ntmps16
    go_wp2_with ((go_at_call 51; refine (sIn _ _ _ _).mono ?_; rintro e w1 ⟨rfl, rfl⟩))
    go_ret2
    exact ret_nil_b (by (repeat' (first | (with_reducible exact Below.refl _ _) | (with_reducible assumption) | (with_reducible refine below_drewN ?_ _) | (with_reducible refine Below.drew ?_) | (with_reducible refine Below.alloc ?_ ?_ _) | (with_reducible refine Below.setCell ?_ ?_ _) | (with_reducible refine below_gw ?_ ?_ _) | (with_reducible refine below_via ?_ ‹Below _ _ _› ?_) | (with_reducible exact Nat.le_refl _) | (with_reducible refine le_gw ?_ _) | (with_reducible refine le_alloc ?_ _) | (with_reducible refine le_setCell ?_ _ _) | (with_reducible refine le_drew ?_) | (with_reducible refine le_drewN ?_ _) | go_size)))
  | true =>
    have hk' := (Tm.inB_iff _ _ _).1 hk
    obtain ⟨k1, k2⟩ := hk'
    obtain ⟨K, rfl⟩ : ∃ K : Nat, k = (K : Int) := ⟨k.toNat, by omega⟩
    have l1 : Tm.lim (K : Int) = Tm.limN K := Tm.lim_nat (by omega) (by omega)
    have LB := Tm.limN_le (k := K) (by omega)
    have LN := Tm.limN_nonneg K
    have PL := Tm.pow3_limN K
    by_cases ho : Tm.grayOk x (K : Int) = true
    · have f := (Tm.grayOk_iff _ _).1 ho
      obtain ⟨K1, K2, x0, x1⟩ := f
      have i2 : Tm.inB x 0 (2 * Tm.limN K) = true := (Tm.inB_iff _ _ _).2 ⟨x0, by omega⟩
      rw [Tm.gray, if_pos ho, ho, Int.toNat_natCast]
      have X0 := Lib.hid x0
      have X1 := Lib.hid x1
      have xb : x < 205891132094649 := by omega
      clear ho
      go_enter Try.func16, Try.ntmps16
      go_wp2_with (first | (go_at_call 51; refine (sIn _ _ _ _).mono ?_; rintro e w1 ⟨rfl, rfl⟩) | (go_at_call 49; refine (sLimitOf _ _).mono ?_; rw [l1]; rintro e w1 ⟨rfl, rfl⟩))
      clear i2 hk l1 LB LN PL
      go_loopw [0, 6] (fun iv d wr => ∃ (j : Nat) (a' : Option Addr) (c' : Nat), j ≤ K ∧ iv = .int .i64 (x / Tm.pow3 j) ∧ d = .slice a' j c' ∧ Hid (wr.ownsRow w.heap.size 3 1 (.slice a' j c') j (Tm.digV x j)) ∧ Hid (Below w.heap.size w wr)) (fun _ d _ => K - Tm.lenV d)
      case atStart => exact ⟨0, _, 0, by omega, val_int (by simp [Tm.pow3]), rfl, Lib.hid (own_empty w _ _ (Nat.le_refl _)), Lib.hid (by (repeat' (first | (with_reducible exact Below.refl _ _) | (with_reducible assumption) | (with_reducible refine below_drewN ?_ _) | (with_reducible refine Below.drew ?_) | (with_reducible refine Below.alloc ?_ ?_ _) | (with_reducible refine Below.setCell ?_ ?_ _) | (with_reducible refine below_gw ?_ ?_ _) | (with_reducible refine below_via ?_ ‹Below _ _ _› ?_) | (with_reducible exact Nat.le_refl _) | (with_reducible refine le_gw ?_ _) | (with_reducible refine le_alloc ?_ _) | (with_reducible refine le_setCell ?_ _ _) | (with_reducible refine le_drew ?_) | (with_reducible refine le_drewN ?_ _) | go_size)))⟩
      case round =>
        obtain ⟨j, a', c', hj, rfl, rfl, OO, BB⟩ := hrel
        have hown := OO.out
        have hnx := BB.out
        have hs := hnx.size
        by_cases hlt : j < K
        · have q0 : 0 ≤ x / Tm.pow3 j := Int.ediv_nonneg X0.out (by have := Tm.pow3_pos j; omega)
          have q1 : x / Tm.pow3 j < 205891132094649 := by
            have : x / Tm.pow3 j ≤ x := Int.ediv_le_self _ X0.out
            omega
          have DS := Lib.hid (Tm.digV_succ x j)
          have DP := Lib.hid (Tm.div_pow_succ x j)
          obtain ⟨q, hq⟩ : ∃ q, q = x / Tm.pow3 j := ⟨_, rfl⟩
          rw [← hq] at q0 q1 DS DP ⊢
          have m1 : q.tmod 3 = q % 3 := Int.tmod_eq_emod_of_nonneg q0
          have m2 : q.tdiv 3 = q / 3 := Int.tdiv_eq_ediv_of_nonneg q0
          clear hq
          go_wp2_with (at_builtin; refine wpList_append_own _ rfl _ _ 22 rfl w.heap.size 3 i0 (.int .i64 0) 1 8 Try.underlying22 hi hz0 hz1 hz2 rfl (by decide) _ _ _ rfl (hown.alloc _) ⟨wr.heap.size, 0, none⟩ 1 1 [.int .i64 (q % 3)] rfl rfl (app_c1 _ _ _) (app_c2 _) (by unfold maxLen; omega) (by omega) (by have := hnx.size; simp; omega) ?_)
          intro v' w1 hown' hgrow _
          have hnx1 : Below w.heap.size w w1 := (hnx.alloc hs _).grown hgrow (by simp; omega) (fun k hk => (hown.lt k hk).1)
          rw [DS.out] at hown'
          obtain ⟨a2, c2, rfl⟩ := own_form hown'
          have O2 := Lib.hid hown'
          have B2 := Lib.hid hnx1
          clear hown hgrow hnx hown' hnx1 OO BB
          go_wp2
          exact ⟨⟨j + 1, a2, c2, by omega, val_int (by rw [DP.out]), rfl, O2, B2⟩, by simp [Tm.lenV]; omega⟩
        · obtain rfl : j = K := by omega
          clear hlt hj hown hnx
          go_wp2_with (at_make; refine wpList_make_full _ rfl _ _ 22 rfl (w.heap.size) 3 i0 (.int .i64 0) 1 Try.underlying22 hi hz0 hz1 _ _ _ _ (j) rfl rfl (by first | rfl | omega) (by first | rfl | omega) (by rw [hz2]; omega) (by unfold maxLen; omega) (by first | go_size | (simp only [gw_size, World.size_alloc]; omega) | exact Nat.le_refl _ | omega) ?_)
          intro w1 hm hgrow
          have hg0 := rowV_own hm
          have B1 : Hid (Below wr.heap.size wr w1) := Lib.hid ((Below.refl _ _).grown hgrow (Nat.le_refl _) (fun k hk => by cases hk))
          have O1 := Lib.hid hg0
          have hs1 := B1.out.size
          have R1 : wr.heap.size < w1.heap.size := (own_base hg0).2
          have D1 := Lib.hid (own_below OO.out B1.out)
          have D0 := OO
          have BB' := BB
          have B2 := Lib.hid (BB.out.trans (B1.out.mono hs))
          clear hm hgrow hg0 OO BB B1
          clear hs BB'
          have FG : Hid (∃ g0, a' = some ⟨g0, 0, none⟩ ∧ g0 < wr.heap.size ∧ ∀ q, q < j → w1.cell? ⟨g0, q, none⟩ = some (.int .i64 (x / Tm.pow3 q % 3))) := Lib.hid (by
            rcases D0.out.2 with ⟨h2, h0⟩ | ⟨g, cap', cur, h2, hB, hg, hn, hcap, hsz, ht⟩
            · omega
            · simp only [Value.slice.injEq] at h2
              obtain ⟨rfl, _, rfl⟩ := h2
              refine ⟨g, rfl, (Array.getElem?_eq_some_iff.1 hg).1, fun q hq => ?_⟩
              rw [D1.out.cellAt q (by omega), Tm.digV_get _ _ _ hq])
          obtain ⟨g0, rfl, hgb, hgc⟩ := FG.out
          have GC := Lib.hid hgc
          clear hgc D1 D0
          obtain ⟨b0, hb0⟩ : ∃ b0, b0 = wr.heap.size := ⟨_, rfl⟩
          rw [← hb0] at hgb R1 O1
          clear FG
          have ne1 : g0 ≠ b0 := by omega
          have ne2 : b0 ≠ g0 := by omega
          have gl1 : g0 < w1.heap.size := by omega
          have WB : w.heap.size ≤ b0 := (own_base O1.out).1
          have hjm : j ≤ 30 := K2
          go_wp2_with fail
          rw [← hb0]
          clear hb0
          go_loopw [8, 9] (fun bv pv w2 => ∃ (p : Nat) (b : Bool) (g : Nat → Int), p ≤ j ∧ pv = .int .i64 ((p : Int) - 1) ∧ bv = .bool b ∧ Hid (Tm.GrayAt j x p (Tm.back x p b) g) ∧ Hid (w2.ownsRow w.heap.size 3 1 (.slice (some ⟨b0, 0, none⟩) j j) j (rowV j g)) ∧ Hid (∀ q, q < j → w2.cell? ⟨g0, q, none⟩ = some (.int .i64 (x / Tm.pow3 q % 3))) ∧ Hid (Below w.heap.size w w2) ∧ w2.heap.size = w1.heap.size) (fun _ pv _ => (intOf pv + 1).toNat)
          case atStart => exact ⟨j, false, _, by omega, rfl, rfl, Lib.hid (by rw [Tm.back_start x j X0.out X1.out]; exact Tm.GrayAt.start X0.out X1.out _), O1, GC, B2, rfl⟩
          case round =>
            obtain ⟨p, b, g, hp, rfl, rfl, GA, O2, G2, B3, sz⟩ := hrel
            rcases Nat.eq_zero_or_pos p with h0 | h0
            · subst h0
              have E := Lib.hid (rowV_list (Tm.grayL_length j x) GA.out.done)
              go_wp2
              go_ret2
              have O3 := O2.out
              rw [E.out] at O3
              exact ret_own_b O3 B3.out (by omega)
            · obtain ⟨p, rfl⟩ : ∃ q, p = q + 1 := ⟨p - 1, by omega⟩
              rw [show (((p + 1 : Nat) : Int) - 1) = (p : Int) from by omega]
              have c1 := G2.out p (by omega)
              have gl : g0 < wr.heap.size := by omega
              have bl : b0 < wr.heap.size := by omega
              obtain ⟨s1, s2⟩ := Tm.back_step x p b
              have d0 := Int.emod_nonneg (x / Tm.pow3 p) (show (3 : Int) ≠ 0 by decide)
              have d1 := Int.emod_lt_of_pos (x / Tm.pow3 p) (show (0 : Int) < 3 by decide)
              have GN : ∀ v, v = Tm.back x (p + 1) b / Tm.pow3 p - 1 → Tm.GrayAt j x p (Tm.back x p (b != decide (x / Tm.pow3 p % 3 = 1))) (upd g p v) := fun v hv => by
                rw [← s2]
                exact GA.out.step (by rw [upd_at, hv]) (fun q hq => upd_ne _ _ _ (by omega))
              rw [s1] at GN
              obtain ⟨d, hd⟩ : ∃ d, d = x / Tm.pow3 p % 3 := ⟨_, rfl⟩
              rw [← hd] at c1 d0 d1 GN
              have GS := Lib.hid GN
              have PUT := Lib.hid (fun v => own_put O2.out p v)
              have cc := O2.out.lt b0 rfl
              have hc0 := own_cell O2.out p (by omega)
              have fz := O2.out.frozenAt p
              clear hd s1 s2 GN GA
              have NX : Hid (∀ v, Below w.heap.size w (wr.setCell ⟨b0, p, none⟩ (.int .i64 v)) ∧ ∀ q, q < j → (wr.setCell ⟨b0, p, none⟩ (.int .i64 v)).cell? ⟨g0, q, none⟩ = some (.int .i64 (x / Tm.pow3 q % 3))) := Lib.hid (fun v => ⟨B3.out.setCell WB _, fun q hq => by rw [World.cell?_of_block (a := ⟨g0, q, none⟩) ((own_put O2.out p v).2.block g0 gl (by simp [ne1]))]; exact G2.out q hq⟩)
              cases b with
              | false =>
                have e1 : IntKind.i64.wrap (d - 1) = d - 1 := IntWalk.i64_in _ (by omega)
                go_wp2
                exact ⟨⟨p, _, upd g p (d - 1), by omega, rfl, rfl, Lib.hid (by have := GS.out (d - 1) (by simp); rw [Bool.false_bne] at this; exact this), Lib.hid (PUT.out _).1, Lib.hid (NX.out _).2, Lib.hid (NX.out _).1, by simp; omega⟩, by simp [intOf] <;> omega⟩
              | true =>
                have e1 : IntKind.i64.wrap (2 - d - 1) = 2 - d - 1 := IntWalk.i64_in _ (by omega)
                have e2 : IntKind.i64.wrap (2 - d) = 2 - d := IntWalk.i64_in _ (by omega)
                go_wp2
                exact ⟨⟨p, _, upd g p (2 - d - 1), by omega, rfl, rfl, Lib.hid (by have := GS.out (2 - d - 1) (by simp); rw [Bool.true_bne] at this; exact this), Lib.hid (PUT.out _).1, Lib.hid (NX.out _).2, Lib.hid (NX.out _).1, by simp; omega⟩, by simp [intOf] <;> omega⟩
    · have i2 : Tm.inB x 0 (2 * Tm.limN K) = false := (Tm.inB_no _ _ _).2 (by
        have : ¬ (1 ≤ K ∧ K ≤ 30 ∧ 0 ≤ x ∧ x < Tm.pow3 K) := fun h => ho ((Tm.grayOk_iff _ _).2 h)
        omega)
      simp only [Bool.not_eq_true] at ho
      rw [Tm.gray, ho]
      clear ho PL
      go_enter Try.func16, Try.ntmps16
      go_wp2_with (first | (go_at_call 51; refine (sIn _ _ _ _).mono ?_; rintro e w1 ⟨rfl, rfl⟩) | (go_at_call 49; refine (sLimitOf _ _).mono ?_; rw [l1]; rintro e w1 ⟨rfl, rfl⟩))
      go_ret2
      exact ret_nil_b (by (repeat' (first | (with_reducible exact Below.refl _ _) | (with_reducible assumption) | (with_reducible refine below_drewN ?_ _) | (with_reducible refine Below.drew ?_) | (with_reducible refine Below.alloc ?_ ?_ _) | (with_reducible refine Below.setCell ?_ ?_ _) | (with_reducible refine below_gw ?_ ?_ _) | (with_reducible refine below_via ?_ ‹Below _ _ _› ?_) | (with_reducible exact Nat.le_refl _) | (with_reducible refine le_gw ?_ _) | (with_reducible refine le_alloc ?_ _) | (with_reducible refine le_setCell ?_ _ _) | (with_reducible refine le_drew ?_) | (with_reducible refine le_drewN ?_ _) | go_size)))
set_option maxHeartbeats 1000000 in
theorem sGrayRank (a : Option Addr) (n cap : Nat) (xs : List Int) (w : World) (h : Ints w a n cap xs) : Calls Try.prog 21 #[.slice a n cap] w fun e w' => e = .returned (.int .i64 (Tm.rank xs)) ∧ w = w' := by
  have H := Lib.hid h
  obtain rfl : n = xs.length := h.1.symm
  clear h
  cases hw : Tm.isW xs with
  | false =>
    rw [Tm.rank, hw]
    go_enter Try.func21, Try.ntmps21
    go_wp2_with ((go_at_call 47; refine (sIsWord _ _ _ xs _ H.out).mono ?_; rintro e w1 ⟨rfl, rfl⟩))
    go_ret
    exact ⟨rfl, rfl⟩
  | true =>
    have W := Lib.hid hw
    have hl := (Tm.isW_iff xs).1 hw
    obtain ⟨-, l1, l2⟩ := hl
    have RK : Hid (Tm.rank xs = Tm.rkN xs xs.length) := Lib.hid (by rw [Tm.rank, if_pos hw])
    go_enter Try.func21, Try.ntmps21
    go_wp2_with ((go_at_call 47; refine (sIsWord _ _ _ xs _ H.out).mono ?_; rintro e w1 ⟨rfl, rfl⟩))
    clear hw
    go_loop [3, 4, 5] (fun nv bv pv => ∃ (p : Nat) (m : Int) (b : Bool), p ≤ xs.length ∧ pv = .int .i64 ((p : Int) - 1) ∧ nv = .int .i64 m ∧ bv = .bool b ∧ Hid (Tm.rkAt xs p m b)) (fun _ _ pv => (intOf pv + 1).toNat)
    case atStart => exact ⟨xs.length, 0, false, by omega, rfl, rfl, rfl, Lib.hid (Tm.rkAt_start xs)⟩
    case round =>
      obtain ⟨p, m, b, hp, rfl, rfl, rfl, RA⟩ := hrel
      rcases Nat.eq_zero_or_pos p with h0 | h0
      · subst h0
        have E := Lib.hid (Tm.rkAt_end RA.out)
        go_wp2
        go_ret
        exact ⟨ret_int (by rw [RK.out, E.out]), rfl⟩
      · obtain ⟨j, rfl⟩ : ∃ j, p = j + 1 := ⟨p - 1, by omega⟩
        rw [show (((j + 1 : Nat) : Int) - 1) = (j : Int) from by omega]
        rcases H.out.2.2.2 with h1 | ⟨bb, o, rfl, hbl, hc⟩
        · omega
        have c1 := hc j (by omega)
        have tb := Tm.isW_at W.out j
        have ST := Tm.rkAt_step (Tm.isW_at W.out) RA.out
        obtain ⟨m0, m1⟩ := Tm.rkAt_bd W.out ST
        obtain ⟨t, ht⟩ : ∃ t, t = xs.getD j 0 := ⟨_, rfl⟩
        rw [← ht] at c1 tb ST m0 m1
        obtain ⟨t1, t2⟩ := tb
        have b0 := Tm.rkAt_bd W.out RA.out
        obtain ⟨b0, b1⟩ := b0
        clear hc ht
        cases b with
        | false =>
          simp only [Bool.false_eq_true, if_false] at ST m0 m1
          have SS := Lib.hid ST
          clear ST
          go_wp2
          exact ⟨⟨j, _, _, by omega, rfl, rfl, rfl, Lib.hid (by have := SS.out; grind)⟩, by simp [intOf] <;> omega⟩
        | true =>
          simp only [if_true] at ST m0 m1
          have SS := Lib.hid ST
          clear ST
          go_wp2
          exact ⟨⟨j, _, _, by omega, rfl, rfl, rfl, Lib.hid (by have := SS.out; grind)⟩, by simp [intOf] <;> omega⟩
end Go.Proofs.Ytfmpnkckaceigaa

/- The model's coin words. -/
import Derived.Test.YteklgngooflhlaaBS1
namespace Go.Proofs.Yteklgngooflhlaa
set_option maxRecDepth 20000
open Go.RowKit
set_option maxHeartbeats 2000000 in
theorem sCoinWords (c k : Int) (w : World) : Calls Try.prog 47 #[.int .i64 c, .int .i64 k] w (RetLB 3 24 w (Tm.coinW c k) (Tm.coinOk c k)) := by
  obtain ⟨j0, hj, hy0, hy1, hy2⟩ := info_parts infoOwnS
  have CB := Tm.coinsFor_bd k
  by_cases ho : Tm.coinOk c k = true
  · have f := (Tm.coinOk_iff _ _).1 ho
    obtain ⟨k2, k5, c3, c4, c5⟩ := f
    obtain ⟨K, rfl⟩ : ∃ K : Nat, k = (K : Int) := ⟨k.toNat, by omega⟩
    have K2 : 2 ≤ K := by omega
    have K5 : K ≤ 5 := by omega
    have i1 : Tm.inB (K : Int) 2 5 = true := (Tm.inB_iff _ _ _).2 ⟨k2, k5⟩
    have i2 : Tm.inB c 3 (Tm.coinsFor (K : Int)) = true := (Tm.inB_iff _ _ _).2 ⟨c3, c4⟩
    have i3 : c.tmod 3 = 0 := by rw [Int.tmod_eq_emod_of_nonneg (by omega)]; exact c5
    have l1 : Tm.lim (K : Int) = Tm.limN K := Tm.lim_nat (by omega) (by omega)
    have LB := Tm.limN_5b K5
    have e1 : IntKind.i64.wrap (-(Tm.limN K)) = -(Tm.limN K) := IntWalk.i64_in _ (by omega)
    rw [Tm.coinW, if_pos ho, ho, Int.toNat_natCast]
    have JB := Tm.coinJ_bd K5
    clear ho
    go_enter Try.func47, Try.ntmps47
    go_wp2_with (first | (go_at_call 73; refine (sIn _ _ _ _).mono ?_; rintro e w1 ⟨rfl, rfl⟩) | (go_at_call 24; refine (sCoinsFor _ _).mono ?_; rintro e w1 ⟨rfl, rfl⟩) | (go_at_call 74; refine (sLimitOf _ _).mono ?_; rw [l1]; rintro e w1 ⟨rfl, rfl⟩))
    go_loopw [6, 7] (fun v i wr => ∃ (j : Nat) (a' : Option Addr) (c' : Nat), v = .slice a' (Tm.coinL K j).length c' ∧ i = .int .i64 (-(Tm.limN K) + (j : Int)) ∧ j ≤ Tm.coinJ K ∧ ((Tm.coinL K j).length : Int) ≤ c ∧ Hid (OwnL wr w.heap.size wr.heap.size 3 24 v (Tm.coinL K j)) ∧ Hid (Below w.heap.size w wr)) (fun _ i _ => Tm.coinJ K - (intOf i + Tm.limN K).toNat)
    case atStart => exact ⟨0, _, 0, rfl, val_int (by simp), by omega, by simp [Tm.coinL]; omega, Lib.hid (ownL_empty w w.heap.size 3 24 (Nat.le_refl _)), Lib.hid (by (repeat' (first | (with_reducible exact Below.refl _ _) | (with_reducible assumption) | (with_reducible refine below_drewN ?_ _) | (with_reducible refine Below.drew ?_) | (with_reducible refine Below.alloc ?_ ?_ _) | (with_reducible refine Below.setCell ?_ ?_ _) | (with_reducible refine below_gw ?_ ?_ _) | (with_reducible refine below_via ?_ ‹Below _ _ _› ?_) | (with_reducible exact Nat.le_refl _) | (with_reducible refine le_gw ?_ _) | (with_reducible refine le_alloc ?_ _) | (with_reducible refine le_setCell ?_ _ _) | (with_reducible refine le_drew ?_) | (with_reducible refine le_drewN ?_ _) | go_size)))⟩
    case round =>
      obtain ⟨j, a', c', rfl, rfl, hjJ, hc, OO, BB⟩ := hrel
      by_cases hlt : ((Tm.coinL K j).length : Int) < c
      · have hjlt := Tm.coin_left K2 K5 c4 hjJ hlt
        have hs := BB.out.size
        have L3 := Tm.coinL_three K j
        have CY := Lib.hid (fun h => Tm.coinL_yes (k := K) (j := j) h)
        have CN := Lib.hid (fun h => Tm.coinL_no (k := K) (j := j) h)
        have NW := Lib.hid (fun h => Tm.coin_news (k := K) (j := j) K2 K5 hjlt h)
        have LW := Lib.hid (Tm.coinL_isW (k := K) (by omega) (by omega) j)
        have WL := Lib.hid (sWordL (-(Tm.limN K) + (j : Int)) (K : Int))
        have XW := Lib.hid (Tm.wordL_isW (n := -(Tm.limN K) + (j : Int)) (k := K) (by omega) (by omega))
        have XL : (Tm.wordL (-(Tm.limN K) + (j : Int)) K).length ≤ 5 := by rw [Tm.wordL_length]; exact K5
        have e2 : IntKind.i64.wrap (-(Tm.limN K) + (j : Int) + 1) = -(Tm.limN K) + (j : Int) + 1 := IntWalk.i64_in _ (by omega)
        rw [Int.toNat_natCast] at WL
        obtain ⟨xs, hxs⟩ : ∃ xs, xs = Tm.wordL (-(Tm.limN K) + (j : Int)) K := ⟨_, rfl⟩
        rw [← hxs] at CY CN NW WL XW XL
        obtain ⟨L, hL⟩ : ∃ L, L = Tm.coinL K j := ⟨_, rfl⟩
        rw [← hL] at CY CN NW LW OO L3 hlt hc ⊢
        have HL := Lib.hid hL
        clear hxs hL
        go_wp2_with fail
        refine (WL.out _ (by omega) (by omega) (by omega)).mono ?_
        rintro e w2 ⟨a2, c2, rfl, hown, hb, -⟩
        have I2 := Lib.hid (Ints.of_own hown)
        have O2 := Lib.hid hown
        have B2 := Lib.hid hb
        clear hown hb
        cases hf : Tm.fwd xs with
        | false =>
          have CE := Lib.hid (CN.out hf)
          clear CN CY NW
          go_wp2_with fail
          refine (sForward _ _ _ xs _ I2.out).mono ?_
          rw [hf]
          rintro e w3 ⟨rfl, d, rfl⟩
          go_wp2_with fail
          have hs2 := B2.out.size
          exact ⟨⟨j + 1, a', c', by rw [CE.out], val_int (by omega), by omega, by rw [CE.out]; exact hc, Lib.hid (by rw [CE.out, size_drewN]; exact (OO.out.stay (SameIn.of_below (below_drewN B2.out d) (Nat.le_refl _))).wide hs2), Lib.hid (BB.out.trans ((below_drewN B2.out d).mono hs))⟩, by simp [intOf]; omega⟩
        | true =>
          have CE := Lib.hid (CY.out hf)
          have NN := Lib.hid (NW.out hf)
          clear CN CY NW
          have RR := Lib.hid (OO.out.rowsAt rfl)
          go_wp2_with fail
          refine (sForward _ _ _ xs _ I2.out).mono ?_
          rw [hf]
          rintro e w3 ⟨rfl, d, rfl⟩
          have O3 : Hid ((w2.drewN d).ownsRow wr.heap.size 3 1 (.slice a2 xs.length c2) xs.length (xs.map (Value.int .i64))) := Lib.hid (own_below O2.out (below_drewN (Below.refl _ _) d))
          have B3 : Hid (Below wr.heap.size wr (w2.drewN d)) := Lib.hid (below_drewN B2.out d)
          clear O2 B2 I2
          obtain ⟨w3, hw3⟩ : ∃ w3, w3 = w2.drewN d := ⟨_, rfl⟩
          rw [← hw3] at O3 B3
          have I3 := Lib.hid (Ints.of_own O3.out)
          have R3 := Lib.hid (RR.out.below B3.out)
          have hs3 := B3.out.size
          clear RR
          go_wp2_with fail
          rw [← hw3]
          clear hw3
          refine (sHasW _ _ _ L _ _ _ xs _ R3.out I3.out LW.out XW.out NN.out).mono ?_
          rintro e w4 ⟨rfl, rfl⟩
          go_wp2_with fail
          refine (sTurned _ _ _ xs _ I3.out (by omega)).mono ?_
          rintro e w5 ⟨a5, c5, rfl, hown, hb, -⟩
          have O5 := Lib.hid hown
          have B5 := Lib.hid hb
          have I5 := Lib.hid (Ints.of_own hown)
          have hs5 := hb.size
          have tl : (Tm.turned xs).length ≤ 5 := by rw [Tm.turned_length]; exact XL
          obtain ⟨ys, hys⟩ : ∃ ys, ys = Tm.turned xs := ⟨_, rfl⟩
          rw [← hys] at O5 I5 CE tl ⊢
          clear hys hown hb I3 R3
          go_wp2_with fail
          refine (sTurned _ _ _ ys _ I5.out (by omega)).mono ?_
          rintro e w6 ⟨a6, c6, rfl, hown, hb, -⟩
          have O6 := Lib.hid hown
          have B6 := Lib.hid hb
          have hs6 := hb.size
          have tl2 : (Tm.turned ys).length ≤ 5 := by rw [Tm.turned_length]; exact tl
          obtain ⟨zs, hzs⟩ : ∃ zs, zs = Tm.turned ys := ⟨_, rfl⟩
          rw [← hzs] at O6 CE tl2 ⊢
          clear hzs hown hb I5
          have BW : Hid (Below wr.heap.size wr w6) := Lib.hid (B3.out.trans ((B5.out.trans (B6.out.mono hs5)).mono hs3))
          have P3 := Lib.hid (own_below (own_below O3.out B5.out) B6.out)
          have P5 := Lib.hid (own_below O5.out B6.out)
          obtain ⟨us, ow, ol, ri⟩ := (OO.out.stay (SameIn.of_below BW.out (Nat.le_refl _))).split
          have hsW := BW.out.size
          have r1 := ri.snoc (by have := ow.1; simpa using this) (own_weak P3.out hs) (E' := w3.heap.size) (fun q hq => ⟨(O3.out.lt q hq).1, (O3.out.lt q hq).2⟩) ol hs3
          have r2 := r1.snoc (by have := ow.1; simp at this ⊢; omega) (own_weak P5.out (by omega)) (E' := w5.heap.size) (fun q hq => ⟨(O5.out.lt q hq).1, (O5.out.lt q hq).2⟩) (fun q hq => Nat.lt_of_lt_of_le (ol q hq) hs3) hs5
          have r3 := r2.snoc (by have := ow.1; simp at this ⊢; omega) (own_weak O6.out (by omega)) (E' := w6.heap.size) (fun q hq => ⟨(O6.out.lt q hq).1, (O6.out.lt q hq).2⟩) (fun q hq => Nat.lt_of_lt_of_le (ol q hq) (by omega)) hs6
          rw [List.append_assoc, List.append_assoc, List.append_assoc, List.append_assoc] at r3
          have OW0 := Lib.hid ow
          have RI := Lib.hid r3
          have B7 := Lib.hid (BB.out.trans (BW.out.mono hs))
          have hs7 := B7.out.size
          clear ow ol ri r1 r2 r3 BW P3 P5 O3 O5 O6 B3 B5 B6 OO
          go_wp2_with (at_builtin; refine wpList_append_own_at _ rfl _ _ 37 rfl (w.heap.size) 24 j0 (.slice none 0 0) 1 24 Try.underlying37 hj hy0 hy1 hy2 rfl (by decide) _ _ _ rfl (World.ownsRow.alloc OW0.out _) ⟨w6.heap.size, 0, none⟩ 3 3 [.slice a2 _ c2, .slice a5 _ c5, .slice a6 _ c6] rfl rfl (app_t1 _ _ _ _ _) (app_t2 _ _ _ _ _ _ _ _ _) (by unfold maxLen; omega) (by omega) (by simp; omega) ?_)
          intro v' w8 hv hg _ hat
          have O8 : OwnL w8 w.heap.size w8.heap.size 3 24 v' (Tm.coinL K (j + 1)) := by
            rw [CE.out]
            exact OwnL.grown (RI.out.stay (SameIn.of_below ((Below.refl w6.heap.size w6).alloc (Nat.le_refl _) _) (Nat.le_refl _))) (by simpa using hv) hg (by rw [World.size_alloc]; exact hat)
          have B8 := Lib.hid ((B7.out.alloc hs7 _).grown hg (by simp; omega) (fun j hj => (OW0.out.lt j hj).1))
          obtain ⟨a8, c8, ev, -⟩ := O8.rows
          subst ev
          have O9 := Lib.hid O8
          have EL : (Tm.coinL K (j + 1)).length = L.length + 3 := by rw [CE.out]; simp
          clear hv hg hat OW0 RI B7 O8 hs7
          go_wp2_with fail
          exact ⟨⟨j + 1, a8, c8, rfl, val_int (by omega), by omega, by rw [EL]; omega, O9, B8⟩, by simp [intOf]; omega⟩
      · have DE := Lib.hid (Tm.coin_done (k := K) (j := j) (c := c) hjJ (by omega))
        go_wp2_with fail
        go_ret2
        exact ⟨_, rfl, by rw [← DE.out]; exact OO.out, BB.out⟩
  · have NO := Lib.hid (fun h => ho ((Tm.coinOk_iff c k).2 h))
    simp only [Bool.not_eq_true] at ho
    rw [Tm.coinW, ho]
    clear ho
    cases i1 : Tm.inB k 2 5 with
    | false =>
      go_enter Try.func47, Try.ntmps47
      go_wp2_with (first | (go_at_call 73; refine (sIn _ _ _ _).mono ?_; rintro e w1 ⟨rfl, rfl⟩))
      go_ret2
      exact ret_nil_lb (by (repeat' (first | (with_reducible exact Below.refl _ _) | (with_reducible assumption) | (with_reducible refine below_drewN ?_ _) | (with_reducible refine Below.drew ?_) | (with_reducible refine Below.alloc ?_ ?_ _) | (with_reducible refine Below.setCell ?_ ?_ _) | (with_reducible refine below_gw ?_ ?_ _) | (with_reducible refine below_via ?_ ‹Below _ _ _› ?_) | (with_reducible exact Nat.le_refl _) | (with_reducible refine le_gw ?_ _) | (with_reducible refine le_alloc ?_ _) | (with_reducible refine le_setCell ?_ _ _) | (with_reducible refine le_drew ?_) | (with_reducible refine le_drewN ?_ _) | go_size)))
    | true =>
      cases i2 : Tm.inB c 3 (Tm.coinsFor k) with
      | false =>
        go_enter Try.func47, Try.ntmps47
        go_wp2_with (first | (go_at_call 73; refine (sIn _ _ _ _).mono ?_; rintro e w1 ⟨rfl, rfl⟩) | (go_at_call 24; refine (sCoinsFor _ _).mono ?_; rintro e w1 ⟨rfl, rfl⟩))
        go_ret2
        exact ret_nil_lb (by (repeat' (first | (with_reducible exact Below.refl _ _) | (with_reducible assumption) | (with_reducible refine below_drewN ?_ _) | (with_reducible refine Below.drew ?_) | (with_reducible refine Below.alloc ?_ ?_ _) | (with_reducible refine Below.setCell ?_ ?_ _) | (with_reducible refine below_gw ?_ ?_ _) | (with_reducible refine below_via ?_ ‹Below _ _ _› ?_) | (with_reducible exact Nat.le_refl _) | (with_reducible refine le_gw ?_ _) | (with_reducible refine le_alloc ?_ _) | (with_reducible refine le_setCell ?_ _ _) | (with_reducible refine le_drew ?_) | (with_reducible refine le_drewN ?_ _) | go_size)))
      | true =>
        have b1 := (Tm.inB_iff _ _ _).1 i1
        have b2 := (Tm.inB_iff _ _ _).1 i2
        have i3 : (c.tmod 3 != 0) = true := by
          rw [bne_iff_ne]; intro h
          rw [Int.tmod_eq_emod_of_nonneg (by omega)] at h
          exact NO.out ⟨b1.1, b1.2, b2.1, b2.2, h⟩
        have i4 : c.tmod 3 ≠ 0 := by simpa using i3
        clear b1 b2 NO
        go_enter Try.func47, Try.ntmps47
        go_wp2_with (first | (go_at_call 73; refine (sIn _ _ _ _).mono ?_; rintro e w1 ⟨rfl, rfl⟩) | (go_at_call 24; refine (sCoinsFor _ _).mono ?_; rintro e w1 ⟨rfl, rfl⟩))
        go_ret2
        exact ret_nil_lb (by (repeat' (first | (with_reducible exact Below.refl _ _) | (with_reducible assumption) | (with_reducible refine below_drewN ?_ _) | (with_reducible refine Below.drew ?_) | (with_reducible refine Below.alloc ?_ ?_ _) | (with_reducible refine Below.setCell ?_ ?_ _) | (with_reducible refine below_gw ?_ ?_ _) | (with_reducible refine below_via ?_ ‹Below _ _ _› ?_) | (with_reducible exact Nat.le_refl _) | (with_reducible refine le_gw ?_ _) | (with_reducible refine le_alloc ?_ _) | (with_reducible refine le_setCell ?_ _ _) | (with_reducible refine le_drew ?_) | (with_reducible refine le_drewN ?_ _) | go_size)))
end Go.Proofs.Yteklgngooflhlaa

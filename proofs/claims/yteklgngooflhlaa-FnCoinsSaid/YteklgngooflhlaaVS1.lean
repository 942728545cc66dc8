/- The model's weighings of things. -/
import Derived.Test.YteklgngooflhlaaVMath
import Derived.Test.YteklgngooflhlaaMs
import Derived.Test.YteklgngooflhlaaOwn2
namespace Go.Proofs.Yteklgngooflhlaa
set_option maxRecDepth 20000
open Go.RowKit
set_option maxHeartbeats 1000000 in
theorem sWeighThing (n : Int) (w : World) : Calls Try.prog 37 #[.int .i64 n] w (RetWB w (Tm.weighL n (-1)) (Tm.weighL n 1) (Tm.weighOk n)) := by
  obtain ⟨i0, hi, hz0, hz1, hz2⟩ := info_parts infoInt
  have SL := Lib.hid (fun w => sLengthOf n w)
  by_cases hw : Tm.weighOk n = true
  · have f := hw
    rw [Tm.weighOk, decide_eq_true_eq] at f
    obtain ⟨s0, s1, s2, s3, -⟩ := Tm.lenN_spec (n := n) ⟨by omega, by omega⟩
    rw [s0] at SL
    rw [Tm.weigh_word hw (by decide), Tm.weigh_word hw (by decide), hw]
    have LL := Tm.limN_le s2
    have WL := Lib.hid (fun w => sWordL n (Tm.lenN n : Int) w (by omega) (by omega) (by omega))
    rw [Int.toNat_natCast] at WL
    have XL : (Tm.wordL n (Tm.lenN n)).length ≤ 30 := by rw [Tm.wordL_length]; exact s2
    obtain ⟨K, hK⟩ : ∃ K, K = Tm.lenN n := ⟨_, rfl⟩
    rw [← hK] at SL WL XL s1 s2 ⊢
    obtain ⟨xs, hxs⟩ : ∃ xs, xs = Tm.wordL n K := ⟨_, rfl⟩
    rw [← hxs] at WL XL ⊢
    have n0 : ¬ n < 0 := by omega
    have k0 : ((K : Int) == 0) = false := by simp; omega
    have k1 : K ≠ 0 := by omega
    clear hw f s0 s3 LL hK hxs
    go_enter Try.func37, Try.ntmps37
    go_wp2_with (go_at_call 21; refine (SL.out _).mono ?_; rintro e w1 ⟨rfl, rfl⟩)
    refine (WL.out _).mono ?_
    rintro e w1 ⟨a1, c1, rfl, hown, hb, -⟩
    have I1 := Lib.hid (Ints.of_own hown)
    have NP : Hid (∀ b o, a1 = some ⟨b, o, none⟩ → b < w1.heap.size ∧ b ≠ w.heap.size + 1) := Lib.hid fun b o e => by
      subst e
      have := hown.lt b rfl
      simp at this
      omega
    have BK : Hid (Blk2 w1 (w.heap.size + 1) (.slice none 0 0) (.slice none 0 0) 27) := Lib.hid (by
      have := blk2_new (w.alloc (.cells #[.slice none 0 0, .slice none 0 0] 27)) (.slice none 0 0) (.slice none 0 0) 27
      have := this.later hb
      simpa using this)
    have RC : Hid (Blk2 w1 w.heap.size (.slice none 0 0) (.slice none 0 0) 27) := Lib.hid (((blk2_new w (.slice none 0 0) (.slice none 0 0) 27).later ((Below.refl _ _).alloc (Nat.le_refl _) _)).later hb)
    have B1 := Lib.hid ((((Below.refl w.heap.size w).alloc (Nat.le_refl _) (.cells #[.slice none 0 0, .slice none 0 0] 27)).alloc (by simp) (.cells #[.slice none 0 0, .slice none 0 0] 27)).trans (hb.mono (by simp; omega)))
    have W0 : Hid (WSt w1 w1.heap.size (w.heap.size + 1) (.slice none 0 0) [] (.slice none 0 0) []) := Lib.hid ⟨BK.out, World.ownsRow_nil _ _ _ _, World.ownsRow_nil _ _ _ _, fun q h => (by cases h), fun h => (by cases h), fun h => (by cases h)⟩
    have z1 : w.heap.size + 2 ≤ w1.heap.size := by have := hb.size; simp at this; omega
    clear hown hb BK
    go_wp2_with fail
    go_loopw [22] (fun i wr => ∃ (k : Nat) (v u : Value), k ≤ xs.length ∧ i = .int .i64 k ∧ w1.heap.size ≤ wr.heap.size ∧ Hid (WSt wr w1.heap.size (w.heap.size + 1) v (Tm.placesF xs (-1) k) u (Tm.placesF xs 1 k)) ∧ Hid (KeepB (w.heap.size + 1) w1.heap.size w1 wr)) (fun i _ => xs.length - (intOf i).toNat)
    case atStart => exact ⟨0, _, _, by omega, rfl, Nat.le_refl _, W0, Lib.hid (KeepB.refl _ _ _)⟩
    case round =>
      clear W0
      obtain ⟨k, v, u, hk, rfl, hz, WW, KB⟩ := hrel
      obtain ⟨va, vc, rfl⟩ := own_form WW.out.sv
      obtain ⟨ua, uc, rfl⟩ := own_form WW.out.ou
      by_cases hlt : k < xs.length
      · obtain ⟨x1, x2, x3, x4⟩ := I1.out.keepB KB.out NP.out
        rcases x4 with e0 | ⟨b, o, rfl, hbl, hc⟩
        · omega
        have cx := hc k hlt
        have PL := Tm.placesF_len xs (-1) k
        have PR := Tm.placesF_len xs 1 k
        have SL : Hid (∀ t, Tm.placesF xs t (k + 1) = if xs.getD k 0 = t then Tm.placesF xs t k ++ [(k : Int)] else Tm.placesF xs t k) := Lib.hid fun t => rfl
        obtain ⟨x, hx⟩ : ∃ x, x = xs.getD k 0 := ⟨_, rfl⟩
        rw [← hx] at cx SL
        obtain ⟨b0, b1⟩ := WW.out.blk.cells
        have lt := WW.out.blk.lt
        have hown := WW.out.sv
        have hown2 := WW.out.ou
        clear x1 x2 x3 hc hx
        by_cases xn : x = -1
        · have e1 : (x == -1) = true := by simpa using xn
          have e2 : (x == 1) = false := by simp; omega
          have S1 := Lib.hid (SL.out (-1))
          have S2 := Lib.hid (SL.out 1)
          rw [if_pos xn] at S1
          rw [if_neg (by omega)] at S2
          go_wp2_with (at_builtin; refine wpList_append_own_at _ rfl _ _ 24 rfl (w1.heap.size) 3 i0 (.int .i64 0) 1 8 Try.underlying24 hi hz0 hz1 hz2 rfl (by decide) _ _ _ rfl (World.ownsRow.alloc hown _) ⟨wr.heap.size, 0, none⟩ 1 1 [.int .i64 ((k : Int))] rfl rfl (app_c1 (wr) ((k : Int)) _) (app_c2 _) (by unfold maxLen; omega) (by omega) (by simp; omega) ?_)
          intro v' w2 hv hg _ hat
          have hv2 : w2.ownsRow w1.heap.size 3 1 v' (Tm.placesF xs (-1) (k + 1)).length ((Tm.placesF xs (-1) (k + 1)).map (Value.int .i64)) := by rw [S1.out]; simpa using hv
          obtain ⟨bk, ws, kb⟩ := WW.out.left hz ((Below.refl wr.heap.size wr).alloc (Nat.le_refl _) _) hv2 hg (by rw [World.size_alloc]; exact hat)
          obtain ⟨va', vc', rfl⟩ := own_form hv
          obtain ⟨d0, d1⟩ := bk.cells
          have lt2 := bk.lt
          have fz := bk.frozen 0
          have WS := Lib.hid ws
          have KB2 := Lib.hid (KB.out.trans kb)
          have sz2 := KB2.out.size
          clear hv hv2 hg hat bk ws kb hown hown2 b0 b1 lt
          go_wp2_with fail
          exact ⟨⟨k + 1, _, _, by omega, by go_num, sz2, Lib.hid (by rw [S2.out]; exact WS.out), KB2⟩, by simp [intOf]; omega⟩
        · by_cases xp : x = 1
          · have e1 : (x == -1) = false := by simp; omega
            have e2 : (x == 1) = true := by simpa using xp
            have S1 := Lib.hid (SL.out (-1))
            have S2 := Lib.hid (SL.out 1)
            rw [if_neg xn] at S1
            rw [if_pos xp] at S2
            go_wp2_with (at_builtin; refine wpList_append_own_at _ rfl _ _ 24 rfl (w1.heap.size) 3 i0 (.int .i64 0) 1 8 Try.underlying24 hi hz0 hz1 hz2 rfl (by decide) _ _ _ rfl (World.ownsRow.alloc hown2 _) ⟨wr.heap.size, 0, none⟩ 1 1 [.int .i64 ((k : Int))] rfl rfl (app_c1 (wr) ((k : Int)) _) (app_c2 _) (by unfold maxLen; omega) (by omega) (by simp; omega) ?_)
            intro v' w2 hv hg _ hat
            have hv2 : w2.ownsRow w1.heap.size 3 1 v' (Tm.placesF xs 1 (k + 1)).length ((Tm.placesF xs 1 (k + 1)).map (Value.int .i64)) := by rw [S2.out]; simpa using hv
            obtain ⟨bk, ws, kb⟩ := WW.out.right hz ((Below.refl wr.heap.size wr).alloc (Nat.le_refl _) _) hv2 hg (by rw [World.size_alloc]; exact hat)
            obtain ⟨va', vc', rfl⟩ := own_form hv
            obtain ⟨d0, d1⟩ := bk.cells
            have lt2 := bk.lt
            have fz := bk.frozen 1
            have WS := Lib.hid ws
            have KB2 := Lib.hid (KB.out.trans kb)
            have sz2 := KB2.out.size
            clear hv hv2 hg hat bk ws kb hown hown2 b0 b1 lt
            go_wp2_with fail
            exact ⟨⟨k + 1, _, _, by omega, by go_num, sz2, Lib.hid (by rw [S1.out]; exact WS.out), KB2⟩, by simp [intOf]; omega⟩
          · have e1 : (x == -1) = false := by simpa using xn
            have e2 : (x == 1) = false := by simpa using xp
            have S1 := Lib.hid (SL.out (-1))
            have S2 := Lib.hid (SL.out 1)
            rw [if_neg xn] at S1
            rw [if_neg xp] at S2
            clear hown hown2 b0 b1 lt
            go_wp2_with fail
            exact ⟨⟨k + 1, _, _, by omega, by go_num, hz, Lib.hid (by rw [S1.out, S2.out]; exact WW.out), KB⟩, by simp [intOf]; omega⟩
      · obtain rfl : k = xs.length := by omega
        have PL := Tm.placesF_len xs (-1) xs.length
        have PR := Tm.placesF_len xs 1 xs.length
        obtain ⟨b0, b1⟩ := WW.out.blk.cells
        have lt := WW.out.blk.lt
        have RK : Blk2 wr w.heap.size (.slice none 0 0) (.slice none 0 0) 27 := RC.out.keep (KB.out.block _ (by omega) (by omega))
        obtain ⟨r0, r1⟩ := RK.cells
        have fz := RK.frozen
        have lt2 := RK.lt
        go_wp2
        have R2 := Lib.hid ((RK.set0 (.slice va (Tm.placesF xs (-1) xs.length).length vc)).set1 (.slice ua (Tm.placesF xs 1 xs.length).length uc))
        obtain ⟨m1, m2⟩ := R2.out.cells
        have OW := Lib.hid (WW.out.own rfl rfl)
        have BF : Hid (Below w.heap.size w wr) := Lib.hid (KeepB.below B1.out KB.out (by omega) (by omega))
        refine bodyPost_ret (by simp [results, Try.results37, go_sem, m1, m2]; try rfl) rfl ?_
        have SI : SameIn w1.heap.size wr.heap.size wr ((wr.setCell ⟨w.heap.size, 0, none⟩ (.slice va (Tm.placesF xs (-1) xs.length).length vc)).setCell ⟨w.heap.size, 1, none⟩ (.slice ua (Tm.placesF xs 1 xs.length).length uc)) := ⟨by simp, fun q h1 h2 => by
          rw [heap_setCell_other _ ⟨w.heap.size, 1, none⟩ q _ (by show q ≠ w.heap.size; omega), heap_setCell_other _ ⟨w.heap.size, 0, none⟩ q _ (by show q ≠ w.heap.size; omega)]⟩
        exact ⟨va, vc, ua, uc, rfl, (OW.out.stay SI).wide (by omega) (by simp), (BF.out.setCell (Nat.le_refl _) _).setCell (Nat.le_refl _) _, by have := Tm.places_len xs (-1); omega, by have := Tm.places_len xs 1; omega⟩
  · simp only [Bool.not_eq_true] at hw
    have f := hw
    rw [Tm.weighOk, decide_eq_false_iff_not] at f
    rw [Tm.weighL, Tm.weighL, hw]
    clear hw
    by_cases n0 : n < 0
    · go_enter Try.func37, Try.ntmps37
      go_wp2_with (go_at_call 21; refine (SL.out _).mono ?_; rintro e w1 ⟨rfl, rfl⟩)
      go_returns
      exact ⟨none, 0, none, 0, rfl, ownM_nil _ _ _, by (repeat' (first | (with_reducible exact Below.refl _ _) | (with_reducible assumption) | (with_reducible refine below_drewN ?_ _) | (with_reducible refine Below.drew ?_) | (with_reducible refine Below.alloc ?_ ?_ _) | (with_reducible refine Below.setCell ?_ ?_ _) | (with_reducible refine below_gw ?_ ?_ _) | (with_reducible refine below_via ?_ ‹Below _ _ _› ?_) | (with_reducible exact Nat.le_refl _) | (with_reducible refine le_gw ?_ _) | (with_reducible refine le_alloc ?_ _) | (with_reducible refine le_setCell ?_ _ _) | (with_reducible refine le_drew ?_) | (with_reducible refine le_drewN ?_ _) | go_size)), by simp, by simp⟩
    · have e0 : Tm.lenOf n = 0 := Tm.lenOf_none (fun h => f ⟨by omega, h.2⟩)
      rw [e0] at SL
      clear f e0
      go_enter Try.func37, Try.ntmps37
      go_wp2_with (go_at_call 21; refine (SL.out _).mono ?_; rintro e w1 ⟨rfl, rfl⟩)
      go_returns
      exact ⟨none, 0, none, 0, rfl, ownM_nil _ _ _, by (repeat' (first | (with_reducible exact Below.refl _ _) | (with_reducible assumption) | (with_reducible refine below_drewN ?_ _) | (with_reducible refine Below.drew ?_) | (with_reducible refine Below.alloc ?_ ?_ _) | (with_reducible refine Below.setCell ?_ ?_ _) | (with_reducible refine below_gw ?_ ?_ _) | (with_reducible refine below_via ?_ ‹Below _ _ _› ?_) | (with_reducible exact Nat.le_refl _) | (with_reducible refine le_gw ?_ _) | (with_reducible refine le_alloc ?_ _) | (with_reducible refine le_setCell ?_ _ _) | (with_reducible refine le_drew ?_) | (with_reducible refine le_drewN ?_ _) | go_size)), by simp, by simp⟩
end Go.Proofs.Yteklgngooflhlaa

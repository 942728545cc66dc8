/- The program's floating numbers: what is valid, the float of a number, the negative. -/
import Derived.Test.YtpmdkifnejkofaaDoorFS2
import Derived.Test.YtpmdkifnejkofaaDoorFMath4
import Derived.Test.YtpmdkifnejkofaaDoorWI2
import Derived.Test.YtpmdkifnejkofaaDoorWI3
import Derived.Test.YtpmdkifnejkofaaDoorPI2
namespace Go.Proofs.YtpmdkifnejkofaaDoor
set_option maxRecDepth 20000
open Go.RowKit
theorem iIsFloat (a : Option Addr) (n cap : Nat) (xs : List Int) (e : Int) (w : World) (h : Ints w a n cap xs) : Calls Tryd.prog 21 #[.agg #[.slice a n cap, .int .i64 e]] w fun r w' => r = .returned (.bool (Tm.isF xs e)) ∧ Below w.heap.size w w' := by
  have H := Lib.hid h
  obtain rfl : n = xs.length := h.1.symm
  clear h
  by_cases h6 : xs.length = 6
  · have I6 : Hid (Ints w a 6 cap xs) := Lib.hid (by rw [← h6]; exact H.out)
    have e6 : ((xs.length : Int) != 6) = false := by rw [h6]; rfl
    have IW := Lib.hid (fun (w : World) (h : Ints w a xs.length cap xs) => iIsWord a xs.length cap xs w h)
    by_cases hx : Tm.isW xs = true
    · rw [hx] at IW
      by_cases he : -20 ≤ e ∧ e ≤ 20
      · obtain ⟨e1, e2⟩ := he
        rcases H.out.2.2.2 with h0 | ⟨b, o, rfl, hbl, hc⟩
        · omega
        have c5 := hc 5 (by omega)
        have SX := Lib.hid (fun (w : World) (h : Ints w (some ⟨b, o, none⟩) xs.length cap xs) => iSignWord (some ⟨b, o, none⟩) _ cap xs w h)
        rw [Tm.value_eq hx] at SX
        have l5 : 5 < xs.length := by omega
        obtain ⟨x, hx5⟩ : ∃ x, x = xs.getD 5 0 := ⟨_, rfl⟩
        rw [← hx5] at c5
        obtain ⟨v, hv⟩ : ∃ v, v = Tm.val xs := ⟨_, rfl⟩
        rw [← hv] at SX
        have RR : Hid (Tm.isF xs e = (decide (x ≠ 0) || (decide (e = 0) && decide (v = 0)))) := Lib.hid (by rw [Tm.isF, hx, (Tm.inB_iff _ _ _).2 ⟨e1, e2⟩, ← hx5, ← hv, decide_eq_true h6]; simp)
        obtain ⟨s, hs⟩ : ∃ s, s = Tm.sgn v := ⟨_, rfl⟩
        rw [← hs] at SX
        have SV : Hid (s = 0 ↔ v = 0) := Lib.hid (by rw [hs, Tm.sgn]; split <;> (try split) <;> omega)
        clear hx5 hv hc h6 hs
        by_cases x0 : x = 0
        · subst x0
          by_cases ee : e = 0
          · subst ee
            go_enter Tryd.func21, Tryd.ntmps21
            go_wp2_with fail
            refine (IW.out _ (H.out.alloc _)).mono ?_
            rintro e w' ⟨rfl, rfl⟩
            go_wp2_with fail
            refine (SX.out _ (H.out.alloc _)).mono ?_
            rintro e w' ⟨rfl, rfl⟩
            go_wp2
            go_ret
            exact ⟨ret_bool (by rw [RR.out, Bool.eq_iff_iff]; simp [SV.out]), by (repeat' (first | (with_reducible exact Below.refl _ _) | (with_reducible assumption) | (with_reducible refine below_drewN ?_ _) | (with_reducible refine Below.drew ?_) | (with_reducible refine Below.alloc ?_ ?_ _) | (with_reducible refine Below.setCell ?_ ?_ _) | (with_reducible refine below_gw ?_ ?_ _) | (with_reducible refine below_via ?_ ‹Below _ _ _› ?_) | (with_reducible exact Nat.le_refl _) | (with_reducible refine le_gw ?_ _) | (with_reducible refine le_alloc ?_ _) | (with_reducible refine le_setCell ?_ _ _) | (with_reducible refine le_drew ?_) | (with_reducible refine le_drewN ?_ _) | go_size))⟩
          · go_enter Tryd.func21, Tryd.ntmps21
            go_wp2_with fail
            refine (IW.out _ (H.out.alloc _)).mono ?_
            rintro e w' ⟨rfl, rfl⟩
            go_wp2
            go_ret
            exact ⟨ret_bool (by rw [RR.out]; simp [ee]), by (repeat' (first | (with_reducible exact Below.refl _ _) | (with_reducible assumption) | (with_reducible refine below_drewN ?_ _) | (with_reducible refine Below.drew ?_) | (with_reducible refine Below.alloc ?_ ?_ _) | (with_reducible refine Below.setCell ?_ ?_ _) | (with_reducible refine below_gw ?_ ?_ _) | (with_reducible refine below_via ?_ ‹Below _ _ _› ?_) | (with_reducible exact Nat.le_refl _) | (with_reducible refine le_gw ?_ _) | (with_reducible refine le_alloc ?_ _) | (with_reducible refine le_setCell ?_ _ _) | (with_reducible refine le_drew ?_) | (with_reducible refine le_drewN ?_ _) | go_size))⟩
        · go_enter Tryd.func21, Tryd.ntmps21
          go_wp2_with fail
          refine (IW.out _ (H.out.alloc _)).mono ?_
          rintro e w' ⟨rfl, rfl⟩
          go_wp2
          go_ret
          exact ⟨ret_bool (by rw [RR.out]; simp [x0]), by (repeat' (first | (with_reducible exact Below.refl _ _) | (with_reducible assumption) | (with_reducible refine below_drewN ?_ _) | (with_reducible refine Below.drew ?_) | (with_reducible refine Below.alloc ?_ ?_ _) | (with_reducible refine Below.setCell ?_ ?_ _) | (with_reducible refine below_gw ?_ ?_ _) | (with_reducible refine below_via ?_ ‹Below _ _ _› ?_) | (with_reducible exact Nat.le_refl _) | (with_reducible refine le_gw ?_ _) | (with_reducible refine le_alloc ?_ _) | (with_reducible refine le_setCell ?_ _ _) | (with_reducible refine le_drew ?_) | (with_reducible refine le_drewN ?_ _) | go_size))⟩
      · have RR : Tm.isF xs e = false := by rw [Tm.isF, (Tm.inB_no _ _ _).2 (by omega)]; simp
        rw [RR]
        clear RR hx h6
        rcases Int.lt_or_le e (-20) with c | c
        · clear he
          go_enter Tryd.func21, Tryd.ntmps21
          go_wp2_with fail
          refine (IW.out _ (H.out.alloc _)).mono ?_
          rintro e w' ⟨rfl, rfl⟩
          go_wp2
          go_ret
          exact ⟨rfl, by (repeat' (first | (with_reducible exact Below.refl _ _) | (with_reducible assumption) | (with_reducible refine below_drewN ?_ _) | (with_reducible refine Below.drew ?_) | (with_reducible refine Below.alloc ?_ ?_ _) | (with_reducible refine Below.setCell ?_ ?_ _) | (with_reducible refine below_gw ?_ ?_ _) | (with_reducible refine below_via ?_ ‹Below _ _ _› ?_) | (with_reducible exact Nat.le_refl _) | (with_reducible refine le_gw ?_ _) | (with_reducible refine le_alloc ?_ _) | (with_reducible refine le_setCell ?_ _ _) | (with_reducible refine le_drew ?_) | (with_reducible refine le_drewN ?_ _) | go_size))⟩
        · have c2 : 20 < e := by omega
          clear he
          go_enter Tryd.func21, Tryd.ntmps21
          go_wp2_with fail
          refine (IW.out _ (H.out.alloc _)).mono ?_
          rintro e w' ⟨rfl, rfl⟩
          go_wp2
          go_ret
          exact ⟨rfl, by (repeat' (first | (with_reducible exact Below.refl _ _) | (with_reducible assumption) | (with_reducible refine below_drewN ?_ _) | (with_reducible refine Below.drew ?_) | (with_reducible refine Below.alloc ?_ ?_ _) | (with_reducible refine Below.setCell ?_ ?_ _) | (with_reducible refine below_gw ?_ ?_ _) | (with_reducible refine below_via ?_ ‹Below _ _ _› ?_) | (with_reducible exact Nat.le_refl _) | (with_reducible refine le_gw ?_ _) | (with_reducible refine le_alloc ?_ _) | (with_reducible refine le_setCell ?_ _ _) | (with_reducible refine le_drew ?_) | (with_reducible refine le_drewN ?_ _) | go_size))⟩
    · simp only [Bool.not_eq_true] at hx
      rw [hx] at IW
      have RR : Tm.isF xs e = false := by rw [Tm.isF, hx]; simp
      rw [RR]
      clear RR hx h6
      go_enter Tryd.func21, Tryd.ntmps21
      go_wp2_with fail
      refine (IW.out _ (H.out.alloc _)).mono ?_
      rintro e w' ⟨rfl, rfl⟩
      go_wp2
      go_ret
      exact ⟨rfl, by (repeat' (first | (with_reducible exact Below.refl _ _) | (with_reducible assumption) | (with_reducible refine below_drewN ?_ _) | (with_reducible refine Below.drew ?_) | (with_reducible refine Below.alloc ?_ ?_ _) | (with_reducible refine Below.setCell ?_ ?_ _) | (with_reducible refine below_gw ?_ ?_ _) | (with_reducible refine below_via ?_ ‹Below _ _ _› ?_) | (with_reducible exact Nat.le_refl _) | (with_reducible refine le_gw ?_ _) | (with_reducible refine le_alloc ?_ _) | (with_reducible refine le_setCell ?_ _ _) | (with_reducible refine le_drew ?_) | (with_reducible refine le_drewN ?_ _) | go_size))⟩
  · have RR : Tm.isF xs e = false := by rw [Tm.isF, decide_eq_false h6]; simp
    rw [RR]
    clear RR
    have e6 : ((xs.length : Int) != 6) = true := by simp; omega
    clear h6
    go_enter Tryd.func21, Tryd.ntmps21
    go_wp2
    go_ret
    exact ⟨rfl, by (repeat' (first | (with_reducible exact Below.refl _ _) | (with_reducible assumption) | (with_reducible refine below_drewN ?_ _) | (with_reducible refine Below.drew ?_) | (with_reducible refine Below.alloc ?_ ?_ _) | (with_reducible refine Below.setCell ?_ ?_ _) | (with_reducible refine below_gw ?_ ?_ _) | (with_reducible refine below_via ?_ ‹Below _ _ _› ?_) | (with_reducible exact Nat.le_refl _) | (with_reducible refine le_gw ?_ _) | (with_reducible refine le_alloc ?_ _) | (with_reducible refine le_setCell ?_ _ _) | (with_reducible refine le_drew ?_) | (with_reducible refine le_drewN ?_ _) | go_size))⟩
theorem iIsPower (e : Int) (w : World) : Calls Tryd.prog 18 #[.int .i64 e] w fun r w' => r = .returned (.bool (Tm.inB e (-100) 100)) ∧ w = w' := by
  go_enter Tryd.func18, Tryd.ntmps18
  go_wp2
  all_goals (go_ret; exact ⟨ret_bool (by grind [Tm.inB]), rfl⟩)
set_option maxHeartbeats 2000000 in
theorem iFloatOf (n e : Int) (w : World) : Calls Tryd.prog 6 #[.int .i64 n, .int .i64 e] w (RetFB 3 w (Tm.frmD n e) (Tm.frmE n e) (Tm.frmOk n e)) := by
  obtain ⟨i0, hi, hz0, hz1, hz2⟩ := info_parts infoInt
  by_cases hn : Tm.fits n
  · have ls := Tm.lenN_spec hn
    obtain ⟨s0, s1, s2, s3, -⟩ := ls
    have LO := Lib.hid (fun w => iLengthOf n w)
    rw [s0] at LO
    obtain ⟨K, hK⟩ : ∃ K, K = Tm.lenN n := ⟨_, rfl⟩
    rw [← hK] at LO s1 s2 s3
    have hK1 : ((K : Int) == 0) = false := by simp; omega
    have IP := Lib.hid (fun w => iIsPower e w)
    by_cases he : Tm.inB e (-100) 100 = true
    · have e1 := (Tm.inB_iff _ _ _).1 he
      obtain ⟨e1, e2⟩ := e1
      rw [he] at IP
      have ok : Tm.okF n e = true := by rw [Tm.okF, he, decide_eq_true (show -102945566047324 ≤ n ∧ n ≤ 102945566047324 from hn)]; rfl
      rw [Tm.frmD, Tm.frmE, Tm.frmOk, if_pos ok, if_pos ok, ok, Bool.true_and]
      clear ok
      by_cases h0 : n = 0
      · subst h0
        have z : Tm.ofOk 0 e = true := by rw [Tm.ofOk, Tm.ofE, if_pos rfl]; rfl
        rw [Tm.fD, Tm.fE, if_pos z, if_pos z, z, Tm.ofE, Tm.ofD, if_pos rfl, if_pos rfl]
        clear hK s0 z s3
        go_enter Tryd.func6, Tryd.ntmps6
        go_wp2_with fail
        refine (LO.out _).mono ?_
        rintro r w' ⟨rfl, rfl⟩
        go_wp2_with fail
        refine (IP.out _).mono ?_
        rintro r w' ⟨rfl, rfl⟩
        go_wp2_with (at_make; refine wpList_make_full _ rfl _ _ 23 rfl (w.heap.size + 1) 3 i0 (.int .i64 0) 1 Tryd.underlying23 hi hz0 hz1 _ _ _ _ (6) rfl rfl (by first | rfl | omega) (by first | rfl | omega) (by rw [hz2]; omega) (by unfold maxLen; omega) (by first | go_size | (simp only [gw_size, World.size_alloc]; omega) | exact Nat.le_refl _ | omega) ?_)
        intro w1 hown hgrow
        have hb1 := (Below.refl (w.alloc (.cells #[.slice none 0 0, .int .i64 0] 27)).heap.size _).grown hgrow (Nat.le_refl _) (fun k hk => by cases hk)
        obtain ⟨p, rfl⟩ := gw_of_below hb1
        clear hgrow hb1
        have HO := Lib.hid hown
        clear hown
        go_wp2
        go_returns
        exact ret_own_fb (xs := List.replicate 6 0) (n := 6) (own_weak (own_gw (by have := HO.out; rw [toList_madeCells_one] at this; exact this) (Nat.le_refl _)) (by omega)) (by (repeat' (first | (with_reducible exact Below.refl _ _) | (with_reducible assumption) | (with_reducible refine below_drewN ?_ _) | (with_reducible refine Below.drew ?_) | (with_reducible refine Below.alloc ?_ ?_ _) | (with_reducible refine Below.setCell ?_ ?_ _) | (with_reducible refine below_gw ?_ ?_ _) | (with_reducible refine below_via ?_ ‹Below _ _ _› ?_) | (with_reducible exact Nat.le_refl _) | (with_reducible refine le_gw ?_ _) | (with_reducible refine le_alloc ?_ _) | (with_reducible refine le_setCell ?_ _ _) | (with_reducible refine le_drew ?_) | (with_reducible refine le_drewN ?_ _) | go_size))) (by omega)
      · have h0' : (n == 0) = false := by simpa using h0
        have SH := Tm.shf_top6 hn
        have EE : Hid (Tm.ofE n e = e + K - 6) := Lib.hid (by rw [Tm.ofE, if_neg h0, hK])
        have ED : Hid (Tm.ofD n = Tm.top6 n K) := Lib.hid (by rw [Tm.ofD, if_neg h0, hK])
        rw [← hK] at SH
        have WO := Lib.hid (fun w => iWordOf n (K : Int) w)
        rw [Tm.word_nat s1 s2 s3, Tm.wordOk_nat s1 s2 s3] at WO
        have IF := Lib.hid (fun (a : Option Addr) (c : Nat) (w : World) (h : Ints w a (Tm.ofD n).length c (Tm.ofD n)) => iIsFloat a (Tm.ofD n).length c (Tm.ofD n) (Tm.ofE n e) w h)
        rw [Tm.of_isF e hn] at IF
        obtain ⟨E, hE⟩ : ∃ E, E = Tm.ofE n e := ⟨_, rfl⟩
        have hE2 : e + (K : Int) - 6 = E := by rw [hE, EE.out]
        rw [← hE] at IF
        have SW := Lib.hid (fun (a : Option Addr) (c : Nat) (w : World) (h : Ints w a (Tm.wordL n K).length c (Tm.wordL n K)) => iShiftWord a _ c (Tm.wordL n K) (6 - (K : Int)) w h)
        rw [SH.1, SH.2, ← ED.out] at SW
        have FD : Hid (Tm.fD n e = (if Tm.ofOk n e then Tm.ofD n else []) ∧ Tm.fE n e = (if Tm.ofOk n e then E else 0)) := Lib.hid (by rw [Tm.fD, Tm.fE, hE]; exact ⟨rfl, rfl⟩)
        clear hK s0 s3 SH hE EE ED
        go_enter Tryd.func6, Tryd.ntmps6
        go_wp2_with fail
        refine (LO.out _).mono ?_
        rintro r w' ⟨rfl, rfl⟩
        go_wp2_with fail
        refine (IP.out _).mono ?_
        rintro r w' ⟨rfl, rfl⟩
        go_wp2_with fail
        refine (WO.out _).mono ?_
        rintro r w1 ⟨a1, c1, rfl, hown, hb, ln⟩
        have I1 := Lib.hid (Ints.of_own hown)
        obtain ⟨p, rfl⟩ := gw_of_below hb
        clear hown hb
        go_wp2_with fail
        refine (SW.out a1 c1 _ I1.out).mono ?_
        rintro r w2 ⟨a2, c2, rfl, hown, hb, ln2⟩
        have O2 := Lib.hid hown
        have I2 := Lib.hid (Ints.of_own hown)
        obtain ⟨q, hq⟩ := gw_of_below hb
        rw [gw_gw] at hq
        subst hq
        clear hown hb I1
        go_wp2_with fail
        refine (IF.out a2 c2 _ ((I2.out).alloc _)).mono ?_
        rintro r w4 ⟨rfl, hb⟩
        obtain ⟨q2, hq2⟩ := gw_of_below hb
        subst hq2
        clear hb
        cases ok : Tm.ofOk n e with
        | true =>
          rw [ok, if_pos rfl, if_pos rfl] at FD
          have OK := Lib.hid ok
          clear ok
          go_wp2
          go_returns
          rw [FD.out.1, FD.out.2, OK.out]
          refine ret_own_fb (own_below (own_weak (own_gw O2.out (by rw [gw_size, World.size_alloc]; omega)) (by rw [gw_size, World.size_alloc]; omega)) (by (repeat' (first | (with_reducible exact Below.refl _ _) | (with_reducible assumption) | (with_reducible refine below_drewN ?_ _) | (with_reducible refine Below.drew ?_) | (with_reducible refine Below.alloc ?_ ?_ _) | (with_reducible refine Below.setCell ?_ ?_ _) | (with_reducible refine below_gw ?_ ?_ _) | (with_reducible refine below_via ?_ ‹Below _ _ _› ?_) | (with_reducible exact Nat.le_refl _) | (with_reducible refine le_gw ?_ _) | (with_reducible refine le_alloc ?_ _) | (with_reducible refine le_setCell ?_ _ _) | (with_reducible refine le_drew ?_) | (with_reducible refine le_drewN ?_ _) | go_size)))) (by (repeat' (first | (with_reducible exact Below.refl _ _) | (with_reducible assumption) | (with_reducible refine below_drewN ?_ _) | (with_reducible refine Below.drew ?_) | (with_reducible refine Below.alloc ?_ ?_ _) | (with_reducible refine Below.setCell ?_ ?_ _) | (with_reducible refine below_gw ?_ ?_ _) | (with_reducible refine below_via ?_ ‹Below _ _ _› ?_) | (with_reducible exact Nat.le_refl _) | (with_reducible refine le_gw ?_ _) | (with_reducible refine le_alloc ?_ _) | (with_reducible refine le_setCell ?_ _ _) | (with_reducible refine le_drew ?_) | (with_reducible refine le_drewN ?_ _) | go_size))) ln2
        | false =>
          rw [ok] at FD
          have OK := Lib.hid ok
          clear ok
          go_wp2
          go_returns
          rw [FD.out.1, FD.out.2, OK.out]
          exact ret_nil_fb (by (repeat' (first | (with_reducible exact Below.refl _ _) | (with_reducible assumption) | (with_reducible refine below_drewN ?_ _) | (with_reducible refine Below.drew ?_) | (with_reducible refine Below.alloc ?_ ?_ _) | (with_reducible refine Below.setCell ?_ ?_ _) | (with_reducible refine below_gw ?_ ?_ _) | (with_reducible refine below_via ?_ ‹Below _ _ _› ?_) | (with_reducible exact Nat.le_refl _) | (with_reducible refine le_gw ?_ _) | (with_reducible refine le_alloc ?_ _) | (with_reducible refine le_setCell ?_ _ _) | (with_reducible refine le_drew ?_) | (with_reducible refine le_drewN ?_ _) | go_size)))
    · simp only [Bool.not_eq_true] at he
      rw [he] at IP
      have ok : Tm.okF n e = false := by rw [Tm.okF, he]; simp
      rw [Tm.frmD, Tm.frmE, Tm.frmOk, ok]
      clear ok hK s0 s3
      go_enter Tryd.func6, Tryd.ntmps6
      go_wp2_with fail
      refine (LO.out _).mono ?_
      rintro r w' ⟨rfl, rfl⟩
      go_wp2_with fail
      refine (IP.out _).mono ?_
      rintro r w' ⟨rfl, rfl⟩
      go_wp2
      go_returns
      exact ret_nil_fb (by (repeat' (first | (with_reducible exact Below.refl _ _) | (with_reducible assumption) | (with_reducible refine below_drewN ?_ _) | (with_reducible refine Below.drew ?_) | (with_reducible refine Below.alloc ?_ ?_ _) | (with_reducible refine Below.setCell ?_ ?_ _) | (with_reducible refine below_gw ?_ ?_ _) | (with_reducible refine below_via ?_ ‹Below _ _ _› ?_) | (with_reducible exact Nat.le_refl _) | (with_reducible refine le_gw ?_ _) | (with_reducible refine le_alloc ?_ _) | (with_reducible refine le_setCell ?_ _ _) | (with_reducible refine le_drew ?_) | (with_reducible refine le_drewN ?_ _) | go_size)))
  · have ok : Tm.okF n e = false := by rw [Tm.okF, decide_eq_false (show ¬ (-102945566047324 ≤ n ∧ n ≤ 102945566047324) from hn)]; rfl
    rw [Tm.frmD, Tm.frmE, Tm.frmOk, ok]
    have LO := Lib.hid (fun w => iLengthOf n w)
    rw [Tm.lenOf_none hn] at LO
    clear ok hn
    go_enter Tryd.func6, Tryd.ntmps6
    go_wp2_with fail
    refine (LO.out _).mono ?_
    rintro r w' ⟨rfl, rfl⟩
    go_wp2
    go_returns
    exact ret_nil_fb (by (repeat' (first | (with_reducible exact Below.refl _ _) | (with_reducible assumption) | (with_reducible refine below_drewN ?_ _) | (with_reducible refine Below.drew ?_) | (with_reducible refine Below.alloc ?_ ?_ _) | (with_reducible refine Below.setCell ?_ ?_ _) | (with_reducible refine below_gw ?_ ?_ _) | (with_reducible refine below_via ?_ ‹Below _ _ _› ?_) | (with_reducible exact Nat.le_refl _) | (with_reducible refine le_gw ?_ _) | (with_reducible refine le_alloc ?_ _) | (with_reducible refine le_setCell ?_ _ _) | (with_reducible refine le_drew ?_) | (with_reducible refine le_drewN ?_ _) | go_size)))
end Go.Proofs.YtpmdkifnejkofaaDoor

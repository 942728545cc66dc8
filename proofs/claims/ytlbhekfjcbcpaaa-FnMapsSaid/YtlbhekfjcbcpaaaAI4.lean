/- The program's next word; its redundant numbers. -/
import Derived.Test.YtlbhekfjcbcpaaaAI1
import Derived.Deep.QuietTactic
import Derived.Test.YtlbhekfjcbcpaaaAS
namespace Go.Proofs.Ytlbhekfjcbcpaaa
set_option maxRecDepth 20000
open Go.RowKit
theorem iIncrementWord (a : Option Addr) (n cap : Nat) (xs : List Int) (w : World) (h : Ints w a n cap xs) : Calls Try.prog 37 #[.slice a n cap] w (RetIB 3 w (Tm.inc xs) (Tm.incOk xs)) := by
  have H := Lib.hid h
  obtain rfl : n = xs.length := h.1.symm
  clear h
  by_cases hw : Tm.isW xs = true
  · rw [Tm.inc, if_pos hw, show Tm.incOk xs = Tm.wordOk (Tm.val xs + 1) xs.length by simp [Tm.incOk, hw]]
    have vb := Tm.val_bd_len hw 30 (Tm.isW_len hw)
    rw [show Tm.limN 30 = 102945566047324 by decide] at vb
    have ev : Tm.value xs = Tm.val xs := by rw [Tm.value, if_pos hw]
    rw [← ev] at vb ⊢
    obtain ⟨v0, v1⟩ := vb
    clear ev
    go_enter Try.func37, Try.ntmps37
    go_wp2_with (first | (go_at_call 57; refine (iIsWord _ _ _ xs _ H.out).mono ?_; rintro e w1 ⟨rfl, rfl⟩) | (go_at_call 13; refine (iValueOf a _ cap xs _ H.out).mono ?_; rintro e w1 ⟨rfl, rfl⟩))
    refine (iWordOf _ _ _).mono ?_
    rintro e w1 ⟨a2, c2, rfl, hown, hb, ln⟩
    go_wp2
    go_ret2
    exact ⟨a2, c2, rfl, hown, hb, ln⟩
  · simp only [Bool.not_eq_true] at hw
    have ho : Tm.incOk xs = false := by simp [Tm.incOk, hw]
    rw [Tm.inc, hw, ho]
    clear ho
    go_enter Try.func37, Try.ntmps37
    go_wp2_with ((go_at_call 57; refine (iIsWord _ _ _ xs _ H.out).mono ?_; rintro e w1 ⟨rfl, rfl⟩))
    go_ret2
    exact ret_nil_b (by (repeat' (first | (with_reducible exact Below.refl _ _) | (with_reducible assumption) | (with_reducible refine below_drewN ?_ _) | (with_reducible refine Below.drew ?_) | (with_reducible refine Below.alloc ?_ ?_ _) | (with_reducible refine Below.setCell ?_ ?_ _) | (with_reducible refine below_gw ?_ ?_ _) | (with_reducible refine below_via ?_ ‹Below _ _ _› ?_) | (with_reducible exact Nat.le_refl _) | (with_reducible refine le_gw ?_ _) | (with_reducible refine le_alloc ?_ _) | (with_reducible refine le_setCell ?_ _ _) | (with_reducible refine le_drew ?_) | (with_reducible refine le_drewN ?_ _) | go_size)))
theorem isR_short {xs : List Int} (h : Tm.inB xs.length 1 30 = false) : Tm.isR xs = false := by
  have := (Tm.inB_no _ _ _).1 h
  cases e : Tm.isR xs with
  | false => rfl
  | true => have := (Tm.isR_iff xs).1 e; omega
theorem isD_iff (x : Int) : Tm.isD x = true ↔ -2 ≤ x ∧ x ≤ 2 := Tm.inB_iff x (-2) 2
theorem iIsRedundant (a : Option Addr) (n cap : Nat) (xs : List Int) (w : World) (h : Ints w a n cap xs) : Calls Try.prog 44 #[.slice a n cap] w fun e w' => e = .returned (.bool (Tm.isR xs)) ∧ w = w' := by
  obtain ⟨x1, x2, x3, x4⟩ := h
  subst x1
  unfold maxLen at x3
  by_cases hl : Tm.inB xs.length 1 30 = true
  · have hl' := (Tm.inB_iff _ _ _).1 hl
    have HL := Lib.hid hl
    obtain ⟨l1, l2⟩ := hl'
    go_enter Try.func44, Try.ntmps44
    go_wp2_with ((go_at_call 61; refine (iWordLen _ _).mono ?_; rintro e w1 ⟨rfl, rfl⟩))
    clear hl
    go_loop [11] (fun i => ∃ k : Nat, k ≤ xs.length ∧ i = .int .i64 k ∧ Hid (AllD xs k)) (fun i => xs.length - (intOf i).toNat)
    case atStart => exact ⟨0, by omega, rfl, Lib.hid (AllD_zero xs)⟩
    case round =>
      obtain ⟨k, hk, rfl, ha⟩ := hrel
      by_cases hlt : k < xs.length
      · rcases x4 with h0 | ⟨b, o, rfl, hbl, hc⟩
        · omega
        have c1 := hc k hlt
        clear hc
        obtain ⟨x, hx⟩ : ∃ x, x = xs.getD k 0 := ⟨_, rfl⟩
        rw [← hx] at c1
        have HX := Lib.hid hx
        clear hx
        by_cases hd : Tm.isD x = true
        · have AA := Lib.hid (AllD_succ ha.out (by rw [← HX.out]; exact hd))
          have hd' := (isD_iff x).1 hd
          obtain ⟨d1, d2⟩ := hd'
          clear hd
          go_wp2
          exact ⟨⟨k + 1, by omega, by go_num, AA⟩, by simp [intOf]; omega⟩
        · simp only [Bool.not_eq_true] at hd
          have NO := Lib.hid (isR_no (k := k) hlt (by rw [← HX.out]; exact hd))
          have hd' : x < -2 ∨ (-2 ≤ x ∧ 2 < x) := by
            have : ¬ (-2 ≤ x ∧ x ≤ 2) := fun e => by rw [(isD_iff x).2 e] at hd; cases hd
            omega
          clear hd
          rcases hd' with d | ⟨d, d2⟩
          all_goals
            go_wp2
            go_ret
            exact ⟨ret_bool NO.out.symm, rfl⟩
      · obtain rfl : k = xs.length := by omega
        go_wp2
        go_ret
        exact ⟨ret_bool (by rw [isR_all ha.out, HL.out]), rfl⟩
  · simp only [Bool.not_eq_true] at hl
    rw [isR_short hl]
    go_enter Try.func44, Try.ntmps44
    go_wp2_with ((go_at_call 61; refine (iWordLen _ _).mono ?_; rintro e w1 ⟨rfl, rfl⟩))
    go_ret
    exact ⟨rfl, rfl⟩
theorem iDigitsR (a : Option Addr) (n cap : Nat) (xs : List Int) (w : World) (h : Ints w a n cap xs) (hw : Tm.isR xs = true) : Calls Try.prog 58 #[.slice a n cap] w fun e w' => e = .returned (.int .i64 (Tm.val xs)) ∧ w = w' := by
  obtain ⟨x1, x2, x3, x4⟩ := h
  unfold maxLen at x3
  have HW := Lib.hid ((Tm.isR_iff xs).1 hw)
  clear hw
  go_enter Try.func58, Try.ntmps58
  go_wp2
  go_loop [3, 4] (fun v i => ∃ k : Nat, k ≤ n ∧ i = .int .i64 ((k : Int) - 1) ∧ v = .int .i64 (Tm.val (xs.drop k))) (fun _ i => (intOf i + 1).toNat)
  case atStart => exact ⟨n, by omega, rfl, by rw [List.drop_of_length_le (by omega)]; rfl⟩
  case round =>
    obtain ⟨k, hk, rfl, rfl⟩ := hrel
    have vb := Tm.valD_drop HW.out.1 HW.out.2.2 k
    obtain ⟨v1, v2⟩ := vb
    rcases Nat.eq_zero_or_pos k with h0 | h0
    · subst h0
      go_wp2
      go_ret
      exact ⟨rfl, rfl⟩
    · obtain ⟨j, rfl⟩ : ∃ j, k = j + 1 := ⟨k - 1, by omega⟩
      rw [show (((j + 1 : Nat) : Int) - 1) = (j : Int) from by omega]
      rcases x4 with h1 | ⟨b, o, rfl, hbl, hc⟩
      · omega
      have c1 := hc j (by omega)
      have tb := Tm.dig_at HW.out.1 j
      obtain ⟨t1, t2⟩ := tb
      have vd := Tm.val_drop xs j (by omega)
      have ex := getD_at xs j (by omega)
      rw [← ex] at c1 t1 t2 vd
      have VD := Lib.hid vd
      clear hc vd ex
      go_wp2
      exact ⟨⟨j, by omega, rfl, val_int (by rw [VD.out]; omega)⟩, by simp [intOf] <;> omega⟩
theorem iValueRedundant (a : Option Addr) (n cap : Nat) (xs : List Int) (w : World) (h : Ints w a n cap xs) : Calls Try.prog 45 #[.slice a n cap] w fun e w' => e = .returned (.int .i64 (Tm.valR xs)) ∧ w = w' := by
  by_cases hw : Tm.isR xs = true
  · rw [Tm.valR, if_pos hw]
    have HW := Lib.hid hw
    go_enter Try.func45, Try.ntmps45
    go_wp2_with (first | (go_at_call 44; refine (iIsRedundant _ _ _ xs _ h).mono ?_; rintro e w1 ⟨rfl, rfl⟩) | (go_at_call 58; refine (iDigitsR _ _ _ xs _ h HW.out).mono ?_; rintro e w1 ⟨rfl, rfl⟩))
    go_ret
    exact ⟨rfl, rfl⟩
  · simp only [Bool.not_eq_true] at hw
    rw [Tm.valR, hw]
    go_enter Try.func45, Try.ntmps45
    go_wp2_with (first | (go_at_call 44; refine (iIsRedundant _ _ _ xs _ h).mono ?_; rintro e w1 ⟨rfl, rfl⟩))
    go_ret
    exact ⟨rfl, rfl⟩
theorem iNormalRedundant (a : Option Addr) (n cap : Nat) (xs : List Int) (w : World) (h : Ints w a n cap xs) : Calls Try.prog 46 #[.slice a n cap] w (RetIB 3 w (Tm.nrm xs) (Tm.nrmOk xs)) := by
  have H := Lib.hid h
  obtain rfl : n = xs.length := h.1.symm
  clear h
  by_cases hw : Tm.isR xs = true
  · have ev : Tm.valR xs = Tm.val xs := by rw [Tm.valR, if_pos hw]
    rw [Tm.nrm, if_pos hw, show Tm.nrmOk xs = Tm.wordOk (Tm.val xs) xs.length by simp [Tm.nrmOk, hw], ← ev]
    clear ev
    go_enter Try.func46, Try.ntmps46
    go_wp2_with (first | (go_at_call 44; refine (iIsRedundant _ _ _ xs _ H.out).mono ?_; rintro e w1 ⟨rfl, rfl⟩) | (go_at_call 45; refine (iValueRedundant a _ cap xs _ H.out).mono ?_; rintro e w1 ⟨rfl, rfl⟩))
    refine (iWordOf _ _ _).mono ?_
    rintro e w1 ⟨a2, c2, rfl, hown, hb, ln⟩
    go_wp2
    go_ret2
    exact ⟨a2, c2, rfl, hown, hb, ln⟩
  · simp only [Bool.not_eq_true] at hw
    have ho : Tm.nrmOk xs = false := by simp [Tm.nrmOk, hw]
    rw [Tm.nrm, hw, ho]
    clear ho
    go_enter Try.func46, Try.ntmps46
    go_wp2_with ((go_at_call 44; refine (iIsRedundant _ _ _ xs _ H.out).mono ?_; rintro e w1 ⟨rfl, rfl⟩))
    go_ret2
    exact ret_nil_b (by (repeat' (first | (with_reducible exact Below.refl _ _) | (with_reducible assumption) | (with_reducible refine below_drewN ?_ _) | (with_reducible refine Below.drew ?_) | (with_reducible refine Below.alloc ?_ ?_ _) | (with_reducible refine Below.setCell ?_ ?_ _) | (with_reducible refine below_gw ?_ ?_ _) | (with_reducible refine below_via ?_ ‹Below _ _ _› ?_) | (with_reducible exact Nat.le_refl _) | (with_reducible refine le_gw ?_ _) | (with_reducible refine le_alloc ?_ _) | (with_reducible refine le_setCell ?_ _ _) | (with_reducible refine le_drew ?_) | (with_reducible refine le_drewN ?_ _) | go_size)))
namespace Tm
theorem sp_trs (xs ys : List Int) (i : Nat) (s : Int) (hs : s = xs.getD i 0 + ys.getD i 0) : sp2 s = trs xs ys i ∧ sp1 s = s - 3 * trs xs ys i := by
  subst hs
  rw [sp1, sp2, trs]
  repeat' split
  all_goals first | omega | exact ⟨rfl, by omega⟩
theorem dgt_end {xs ys : List Int} (h : xs.length = ys.length) : dgt xs ys xs.length = blw xs ys xs.length := by
  simp [dgt, trs, h]
end Tm
set_option maxHeartbeats 2000000 in
theorem iAddRedundant (a : Option Addr) (n cap : Nat) (xs : List Int) (b : Option Addr) (m cap2 : Nat) (ys : List Int) (w : World) (h : Ints w a n cap xs) (h2 : Ints w b m cap2 ys) : Calls Try.prog 43 #[.slice a n cap, .slice b m cap2] w (RetIB 3 w (Tm.rad xs ys) (Tm.radOk xs ys)) := by
  obtain ⟨i0, hi, hz0, hz1, hz2⟩ := info_parts infoInt
  have H := Lib.hid h
  have H2 := Lib.hid h2
  have c1 := h.2.2.1
  have c2 := h.2.1
  have d1 := h2.2.2.1
  have d2 := h2.2.1
  unfold maxLen at c1 d1
  obtain rfl : n = xs.length := h.1.symm
  obtain rfl : m = ys.length := h2.1.symm
  clear h h2
  by_cases hx : Tm.isR xs = true
  · by_cases hy : Tm.isR ys = true
    · by_cases hl : xs.length = ys.length
      · by_cases h30 : xs.length = 30
        · have ho : Tm.radOk xs ys = false := by simp [Tm.radOk, h30]
          rw [Tm.rad, ho]
          have z1 : ((xs.length : Int) != (ys.length : Int)) = false := by simp [hl]
          have z2 : ((xs.length : Int) == 30) = true := by simp [h30]
          clear ho hl h30
          go_enter Try.func43, Try.ntmps43
          go_wp2_with fail
          refine (iIsRedundant a _ cap xs _ H.out).mono ?_
          rintro e w' ⟨rfl, rfl⟩
          go_wp2_with fail
          refine (iIsRedundant b _ cap2 ys _ H2.out).mono ?_
          rintro e w' ⟨rfl, rfl⟩
          go_wp2_with fail
          go_ret2
          exact ret_nil_b (by (repeat' (first | (with_reducible exact Below.refl _ _) | (with_reducible assumption) | (with_reducible refine below_drewN ?_ _) | (with_reducible refine Below.drew ?_) | (with_reducible refine Below.alloc ?_ ?_ _) | (with_reducible refine Below.setCell ?_ ?_ _) | (with_reducible refine below_gw ?_ ?_ _) | (with_reducible refine below_via ?_ ‹Below _ _ _› ?_) | (with_reducible exact Nat.le_refl _) | (with_reducible refine le_gw ?_ _) | (with_reducible refine le_alloc ?_ _) | (with_reducible refine le_setCell ?_ _ _) | (with_reducible refine le_drew ?_) | (with_reducible refine le_drewN ?_ _) | go_size)))
        · have l30 := ((Tm.isR_iff xs).1 hx).2.2
          have ho : Tm.radOk xs ys = true := by simp [Tm.radOk, hx, hy]; omega
          rw [Tm.rad, if_pos ho, ho]
          have z1 : ((xs.length : Int) != (ys.length : Int)) = false := by simp [hl]
          have z2 : ((xs.length : Int) == 30) = false := by simp; omega
          have RX := Lib.hid ((Tm.isR_iff xs).1 hx).1
          have RY := Lib.hid ((Tm.isR_iff ys).1 hy).1
          have DE := Lib.hid (Tm.dgt_end hl)
          obtain ⟨n, hn⟩ : ∃ n, n = xs.length := ⟨_, rfl⟩
          have hm : ys.length = n := by omega
          rw [← hn] at z1 z2 c2 l30 H DE ⊢
          rw [hm] at z1 d2 H2 ⊢
          have lx : n < 30 := by omega
          clear ho hl h30 hm hn l30
          go_enter Try.func43, Try.ntmps43
          go_wp2_with fail
          refine (iIsRedundant a _ cap xs _ H.out).mono ?_
          rintro e w' ⟨rfl, rfl⟩
          go_wp2_with fail
          refine (iIsRedundant b _ cap2 ys _ H2.out).mono ?_
          rintro e w' ⟨rfl, rfl⟩
          go_wp2_with (at_make; refine wpList_make_full _ rfl _ _ 23 rfl w.heap.size 3 i0 (.int .i64 0) 1 Try.underlying23 hi hz0 hz1 _ _ _ _ (n + 1) rfl rfl (by omega) (by omega) (by rw [hz2]; omega) (by unfold maxLen; omega) (by omega) ?_)
          intro w1 hown hgrow
          have hown0 := rowV_own hown
          have hb0 : Below w.heap.size w w1 := (Below.refl _ _).grown hgrow (Nat.le_refl _) (fun k hk => by cases hk)
          obtain ⟨G, hG⟩ : ∃ G, G = w.heap.size := ⟨_, rfl⟩
          rw [← hG] at hown0 hb0 ⊢
          have HG := Lib.hid hG
          have hg1 : w.heap.size ≤ G := by omega
          have hg2 : G ≤ w.heap.size := by omega
          clear hown hgrow hx hy z1 z2 hG
          go_wp2_with fail
          go_loopw [36] (fun i wr => ∃ (j : Nat) (g : Nat → Int), j ≤ n ∧ i = .int .i64 j ∧ Hid (wr.ownsRow G 3 1 (.slice (some ⟨G, 0, none⟩) (n + 1) (n + 1)) (n + 1) (rowV (n + 1) g)) ∧ Hid (∀ q, q < j → g q = Tm.dgt xs ys q) ∧ Hid (g j = Tm.blw xs ys j) ∧ Hid (Below G w wr)) (fun i _ => n - (intOf i).toNat)
          case atStart => exact ⟨0, _, by omega, rfl, Lib.hid hown0, Lib.hid (fun q hq => by omega), Lib.hid rfl, Lib.hid hb0⟩
          case round =>
            obtain ⟨k, g, hk, rfl, OW, GG, GK, BB⟩ := hrel
            clear hown0 hb0
            by_cases hlt : k < n
            · have HB := H.out.below (by rw [← HG.out]; exact BB.out)
              have HB2 := H2.out.below (by rw [← HG.out]; exact BB.out)
              rcases H.out.2.2.2 with h0 | ⟨b1, o1, e1, hbl, -⟩
              · omega
              rcases H2.out.2.2.2 with h0 | ⟨b2, o2, e2, hbl2, -⟩
              · omega
              subst e1 e2
              rw [← HG.out] at hbl hbl2
              have cx := Ints.cell_below H.out hbl hlt BB.out
              have cy := Ints.cell_below H2.out hbl2 hlt BB.out
              have bx := Tm.dig_at RX.out k
              have by_ := Tm.dig_at RY.out k
              have sp := Tm.sp_trs xs ys k _ rfl
              have bb := Tm.blw_bd RX.out RY.out k
              have tb := (Tm.trs_bd RX.out RY.out k)
              have SB := Lib.hid (show Tm.blw xs ys (k + 1) = Tm.trs xs ys k from rfl)
              have SD := Lib.hid (show Tm.dgt xs ys k = xs.getD k 0 + ys.getD k 0 - 3 * Tm.trs xs ys k + Tm.blw xs ys k from rfl)
              obtain ⟨x, hxx⟩ : ∃ x, x = xs.getD k 0 := ⟨_, rfl⟩
              obtain ⟨y, hyy⟩ : ∃ y, y = ys.getD k 0 := ⟨_, rfl⟩
              obtain ⟨s, hs⟩ : ∃ s, s = Tm.trs xs ys k := ⟨_, rfl⟩
              rw [← hxx] at cx bx sp tb SD
              rw [← hyy] at cy by_ sp tb SD
              rw [← hs] at sp tb SB SD
              clear hxx hyy hs HB HB2
              obtain ⟨sp2, sp1⟩ := sp
              obtain ⟨bx1, bx2⟩ := bx
              obtain ⟨by1, by2⟩ := by_
              obtain ⟨t1, t2, t3, t4⟩ := tb
              have gb : -1 ≤ g k ∧ g k ≤ 1 := by rw [GK.out]; exact bb
              have hd : Tm.dgt xs ys k = g k + Tm.sp1 (x + y) := by rw [SD.out, sp1, GK.out]; omega
              obtain ⟨gk, hgk⟩ : ∃ gk, gk = g k := ⟨_, rfl⟩
              rw [← hgk] at gb hd
              have GE := Lib.hid hgk
              obtain ⟨r, hr⟩ : ∃ r, r = Tm.sp1 (x + y) := ⟨_, rfl⟩
              rw [← hr] at hd sp1
              obtain ⟨g0, g1⟩ := gb
              have fw : IntKind.i64.wrap (x + y) = x + y := IntWalk.i64_in _ ⟨by omega, by omega⟩
              have SP : Hid (∀ w, Calls Try.prog 60 #[.int .i64 (x + y)] w fun e w' => e = .returned (.tuple #[.int .i64 r, .int .i64 s]) ∧ w = w') := Lib.hid fun w => by
                rw [hr, ← sp2]; exact iSplit (x + y) w (by omega) (by omega)
              have SPW := Lib.hid (And.intro hd (show r = x + y - 3 * s by omega))
              have SR : -1 ≤ r ∧ r ≤ 1 := by omega
              obtain ⟨r0, r1⟩ := SR
              clear sp2 sp1 hr hd hgk bb
              go_wp2_with fail
              go_quiet ((go_at_call 60; exact quiet_same fun _ => SP.out _))
              obtain ⟨wd, hwd⟩ : ∃ wd, wd = wr.drewN nq := ⟨_, rfl⟩
              have OD : Hid (wd.ownsRow G 3 1 (.slice (some ⟨G, 0, none⟩) (n + 1) (n + 1)) (n + 1) (rowV (n + 1) g)) := Lib.hid (by rw [hwd]; exact own_below OW.out (below_drewN (Below.refl _ _) nq))
              have BD : Hid (Below G w wd) := Lib.hid (by rw [hwd]; exact below_drewN BB.out nq)
              rw [← hwd]
              clear hwd OW BB cx cy
              have ck := own_cell OD.out k (by omega)
              rw [← GE.out] at ck
              have fz := OD.out.frozenAt k
              have ck2 := own_cell OD.out (k + 1) (by omega)
              have fz2 := OD.out.frozenAt (k + 1)
              have PT := own_put OD.out k (gk + r)
              have PT2 := own_put PT.1 (k + 1) s
              have B2 := Lib.hid ((BD.out.grown PT.2 (by have := BD.out.size; omega) (fun j hj => by cases hj; exact Nat.le_refl _)).grown PT2.2 (by rw [World.size_setCell]; have := BD.out.size; omega) (fun j hj => by cases hj; exact Nat.le_refl _))
              have P2 := Lib.hid PT2.1
              clear PT PT2
              go_wp2
              refine ⟨⟨k + 1, _, by omega, by go_num, P2, Lib.hid (fun q hq => ?_), Lib.hid ?_, B2⟩, by simp [intOf]; omega⟩
              · rw [upd_ne _ _ _ (by omega)]
                by_cases e : q = k
                · subst e; rw [upd_at, SPW.out.1]
                · rw [upd_ne _ _ _ e]; exact GG.out q (by omega)
              · rw [upd_at, SB.out]
            · obtain rfl : k = n := by omega
              go_wp2
              go_ret2
              have hr := OW.out
              rw [rowV_congr (h := Tm.dgt xs ys) (fun i hi => by
                by_cases e : i = k
                · subst e; rw [GK.out, DE.out]
                · exact GG.out i (by omega)), rowV_gen] at hr
              exact ret_own_b (own_weak hr (by omega)) (BB.out.mono (by omega)) (by omega)
      · have ho : Tm.radOk xs ys = false := by simp [Tm.radOk, hl]
        rw [Tm.rad, ho]
        have z1 : ((xs.length : Int) != (ys.length : Int)) = true := by simp; omega
        clear ho hl
        go_enter Try.func43, Try.ntmps43
        go_wp2_with fail
        refine (iIsRedundant a _ cap xs _ H.out).mono ?_
        rintro e w' ⟨rfl, rfl⟩
        go_wp2_with fail
        refine (iIsRedundant b _ cap2 ys _ H2.out).mono ?_
        rintro e w' ⟨rfl, rfl⟩
        go_wp2_with fail
        go_ret2
        exact ret_nil_b (by (repeat' (first | (with_reducible exact Below.refl _ _) | (with_reducible assumption) | (with_reducible refine below_drewN ?_ _) | (with_reducible refine Below.drew ?_) | (with_reducible refine Below.alloc ?_ ?_ _) | (with_reducible refine Below.setCell ?_ ?_ _) | (with_reducible refine below_gw ?_ ?_ _) | (with_reducible refine below_via ?_ ‹Below _ _ _› ?_) | (with_reducible exact Nat.le_refl _) | (with_reducible refine le_gw ?_ _) | (with_reducible refine le_alloc ?_ _) | (with_reducible refine le_setCell ?_ _ _) | (with_reducible refine le_drew ?_) | (with_reducible refine le_drewN ?_ _) | go_size)))
    · simp only [Bool.not_eq_true] at hy
      have ho : Tm.radOk xs ys = false := by simp [Tm.radOk, hy]
      rw [Tm.rad, ho]
      clear ho
      go_enter Try.func43, Try.ntmps43
      go_wp2_with fail
      refine (iIsRedundant a _ cap xs _ H.out).mono ?_
      rintro e w' ⟨rfl, rfl⟩
      go_wp2_with fail
      refine (iIsRedundant b _ cap2 ys _ H2.out).mono ?_
      rintro e w' ⟨rfl, rfl⟩
      go_wp2_with fail
      go_ret2
      exact ret_nil_b (by (repeat' (first | (with_reducible exact Below.refl _ _) | (with_reducible assumption) | (with_reducible refine below_drewN ?_ _) | (with_reducible refine Below.drew ?_) | (with_reducible refine Below.alloc ?_ ?_ _) | (with_reducible refine Below.setCell ?_ ?_ _) | (with_reducible refine below_gw ?_ ?_ _) | (with_reducible refine below_via ?_ ‹Below _ _ _› ?_) | (with_reducible exact Nat.le_refl _) | (with_reducible refine le_gw ?_ _) | (with_reducible refine le_alloc ?_ _) | (with_reducible refine le_setCell ?_ _ _) | (with_reducible refine le_drew ?_) | (with_reducible refine le_drewN ?_ _) | go_size)))
  · simp only [Bool.not_eq_true] at hx
    have ho : Tm.radOk xs ys = false := by simp [Tm.radOk, hx]
    rw [Tm.rad, ho]
    clear ho
    go_enter Try.func43, Try.ntmps43
    go_wp2_with fail
    refine (iIsRedundant a _ cap xs _ H.out).mono ?_
    rintro e w' ⟨rfl, rfl⟩
    go_wp2_with fail
    go_ret2
    exact ret_nil_b (by (repeat' (first | (with_reducible exact Below.refl _ _) | (with_reducible assumption) | (with_reducible refine below_drewN ?_ _) | (with_reducible refine Below.drew ?_) | (with_reducible refine Below.alloc ?_ ?_ _) | (with_reducible refine Below.setCell ?_ ?_ _) | (with_reducible refine below_gw ?_ ?_ _) | (with_reducible refine below_via ?_ ‹Below _ _ _› ?_) | (with_reducible exact Nat.le_refl _) | (with_reducible refine le_gw ?_ _) | (with_reducible refine le_alloc ?_ _) | (with_reducible refine le_setCell ?_ _ _) | (with_reducible refine le_drew ?_) | (with_reducible refine le_drewN ?_ _) | go_size)))
end Go.Proofs.Ytlbhekfjcbcpaaa

/- Contracts of the program's functions of words. -/
import Derived.Test.YtfnhoiomdjmjhaaDoorWS4
import Derived.Test.YtfnhoiomdjmjhaaDoorFill
namespace Go.Proofs.YtfnhoiomdjmjhaaDoor
set_option maxRecDepth 20000
open Go.RowKit
theorem iWordLen (k : Int) (w : World) : Calls Tryd.prog 73 #[.int .i64 k] w fun e w' => e = .returned (.bool (Tm.inB k 1 30)) ∧ w = w' := by
  go_enter Tryd.func73, Tryd.ntmps73
  go_wp2
  all_goals (go_ret; exact ⟨ret_bool (by grind [Tm.inB]), rfl⟩)
theorem isW_short {xs : List Int} (h : Tm.inB xs.length 1 30 = false) : Tm.isW xs = false := by
  have := (Tm.inB_no _ _ _).1 h
  cases e : Tm.isW xs with
  | false => rfl
  | true => have := (Tm.isW_iff xs).1 e; omega
theorem allT_no {xs : List Int} {k : Nat} (hk : k < xs.length) (ht : (!Tm.isT xs[k]) = true) : xs.all Tm.isT = false := by
  cases e : xs.all Tm.isT with
  | false => rfl
  | true =>
    rw [List.all_eq_true] at e
    have := e xs[k] (List.getElem_mem hk)
    rw [this] at ht; cases ht
theorem allT_all {xs : List Int} (h : Tm.AllT xs xs.length) : xs.all Tm.isT = true := by
  rw [List.all_eq_true]
  intro x hx
  obtain ⟨i, hi, rfl⟩ := List.getElem_of_mem hx
  have := h i hi
  rw [List.getD_eq_getElem?_getD, List.getElem?_eq_getElem hi] at this
  exact this
theorem iAllTrits (a : Option Addr) (n cap : Nat) (xs : List Int) (w : World) (h : Ints w a n cap xs) : Calls Tryd.prog 89 #[.slice a n cap] w fun e w' => e = .returned (.bool (xs.all Tm.isT)) ∧ w = w' := by
  obtain ⟨x1, x2, x3, x4⟩ := h
  subst x1
  unfold maxLen at x3
  go_enter Tryd.func89, Tryd.ntmps89
  go_wp2
  go_loop [7] (fun i => ∃ k : Nat, k ≤ xs.length ∧ i = .int .i64 k ∧ Tm.AllT xs k) (fun i => xs.length - (intOf i).toNat)
  case atStart => exact ⟨0, by omega, rfl, Tm.AllT_zero xs⟩
  case round =>
    obtain ⟨k, hk, rfl, ha⟩ := hrel
    by_cases hlt : k < xs.length
    · rcases x4 with h0 | ⟨b, o, rfl, hbl, hc⟩
      · omega
      have c1 := hc k hlt
      clear hc
      go_wp2_with ((go_at_call 95; refine (iIsTrit _ _).mono ?_; rintro e w1 ⟨rfl, rfl⟩))
      · go_ret
        exact ⟨ret_bool (allT_no (k := k) (by omega) (by assumption)).symm, rfl⟩
      · exact ⟨⟨k + 1, by omega, by go_num, Tm.AllT_succ ha (by omega) (by assumption)⟩, by simp [intOf]; omega⟩
    · obtain rfl : k = xs.length := by omega
      go_wp2
      all_goals (go_ret; exact ⟨ret_bool (allT_all ha).symm, rfl⟩)
theorem iIsWord (a : Option Addr) (n cap : Nat) (xs : List Int) (w : World) (h : Ints w a n cap xs) : Calls Tryd.prog 79 #[.slice a n cap] w fun e w' => e = .returned (.bool (Tm.isW xs)) ∧ w = w' := by
  have H := Lib.hid h
  obtain rfl : n = xs.length := h.1.symm
  clear h
  by_cases hl : Tm.inB xs.length 1 30 = true
  · have e : Tm.isW xs = xs.all Tm.isT := by rw [Tm.isW, decide_eq_true ((Tm.inB_iff _ _ _).1 hl |> fun h => ⟨by omega, by omega⟩), Bool.and_true]
    rw [e]
    have WL := Lib.hid (fun w => iWordLen (xs.length : Int) w)
    rw [hl] at WL
    clear hl e
    go_enter Tryd.func79, Tryd.ntmps79
    go_wp2_with fail
    refine (WL.out _).mono ?_
    rintro e w1 ⟨rfl, rfl⟩
    go_wp2_with fail
    refine (iAllTrits _ _ _ xs _ H.out).mono ?_
    rintro e w1 ⟨rfl, rfl⟩
    go_wp2
    go_ret
    exact ⟨rfl, rfl⟩
  · simp only [Bool.not_eq_true] at hl
    have e := isW_short hl
    rw [e]
    have WL := Lib.hid (fun w => iWordLen (xs.length : Int) w)
    rw [hl] at WL
    clear hl e
    go_enter Tryd.func79, Tryd.ntmps79
    go_wp2_with fail
    refine (WL.out _).mono ?_
    rintro e w1 ⟨rfl, rfl⟩
    go_wp2
    go_ret
    exact ⟨rfl, rfl⟩
theorem iDigitsW (a : Option Addr) (n cap : Nat) (xs : List Int) (w : World) (h : Ints w a n cap xs) (hw : Tm.isW xs = true) : Calls Tryd.prog 85 #[.slice a n cap] w fun e w' => e = .returned (.int .i64 (Tm.val xs)) ∧ w = w' := by
  have H := Lib.hid h
  obtain rfl : n = xs.length := h.1.symm
  clear h
  have hl := (Tm.isW_iff xs).1 hw
  obtain ⟨-, l1, l2⟩ := hl
  have HW := Lib.hid hw
  clear hw
  go_enter Tryd.func85, Tryd.ntmps85
  go_wp2
  go_loop [3, 4] (fun v i => ∃ k : Nat, k ≤ xs.length ∧ i = .int .i64 ((k : Int) - 1) ∧ v = .int .i64 (Tm.val (xs.drop k))) (fun _ i => (intOf i + 1).toNat)
  case atStart => exact ⟨xs.length, by omega, rfl, by rw [List.drop_of_length_le (Nat.le_refl _)]; rfl⟩
  case round =>
    obtain ⟨k, hk, rfl, rfl⟩ := hrel
    have vb := Tm.val_drop_bd HW.out k
    obtain ⟨v1, v2⟩ := vb
    rcases Nat.eq_zero_or_pos k with h0 | h0
    · subst h0
      go_wp2
      go_ret
      exact ⟨ret_int (by simp), rfl⟩
    · obtain ⟨j, rfl⟩ : ∃ j, k = j + 1 := ⟨k - 1, by omega⟩
      rw [show (((j + 1 : Nat) : Int) - 1) = (j : Int) from by omega]
      rcases H.out.2.2.2 with h1 | ⟨b, o, rfl, hbl, hc⟩
      · omega
      have c1 := hc j (by omega)
      have tb := Tm.isW_at HW.out j
      obtain ⟨t1, t2⟩ := tb
      have vd := Tm.val_drop xs j (by omega)
      have ex := getD_at xs j (by omega)
      rw [← ex] at c1 t1 t2 vd
      have VD := Lib.hid vd
      clear hc vd ex
      go_wp2
      exact ⟨⟨j, by omega, rfl, val_int (by have := VD.out; omega)⟩, by simp [intOf] <;> omega⟩
theorem iValueOf (a : Option Addr) (n cap : Nat) (xs : List Int) (w : World) (h : Ints w a n cap xs) : Calls Tryd.prog 76 #[.slice a n cap] w fun e w' => e = .returned (.int .i64 (Tm.value xs)) ∧ w = w' := by
  by_cases hw : Tm.isW xs = true
  · have HW := Lib.hid hw
    go_enter Tryd.func76, Tryd.ntmps76
    go_wp2_with (first | (go_at_call 79; refine (iIsWord _ _ _ xs _ h).mono ?_; rintro e w1 ⟨rfl, rfl⟩) | (go_at_call 85; refine (iDigitsW _ _ _ xs _ h HW.out).mono ?_; rintro e w1 ⟨rfl, rfl⟩))
    go_ret
    exact ⟨ret_int (by simp [Tm.value, HW.out]), rfl⟩
  · simp only [Bool.not_eq_true] at hw
    go_enter Tryd.func76, Tryd.ntmps76
    go_wp2_with ((go_at_call 79; refine (iIsWord _ _ _ xs _ h).mono ?_; rintro e w1 ⟨rfl, rfl⟩))
    go_ret
    exact ⟨ret_int (by rw [Tm.value, hw]; rfl), rfl⟩
theorem iLimitOf (k : Int) (w : World) : Calls Tryd.prog 59 #[.int .i64 k] w fun e w' => e = .returned (.int .i64 (Tm.lim k)) ∧ w = w' := by
  by_cases hk : Tm.inB k 1 30 = true
  · have hk' := (Tm.inB_iff _ _ _).1 hk
    obtain ⟨k1, k2⟩ := hk'
    obtain ⟨m, rfl⟩ := Int.eq_ofNat_of_zero_le (show 0 ≤ k by omega)
    go_enter Tryd.func59, Tryd.ntmps59
    go_wp2_with ((go_at_call 73; refine (iWordLen _ _).mono ?_; rintro e w1 ⟨rfl, rfl⟩))
    clear hk
    go_loop [3, 8] (fun v i => ∃ j : Nat, j ≤ m ∧ i = .int .i64 j ∧ v = .int .i64 (Tm.limN j)) (fun _ i => m - (intOf i).toNat)
    case atStart => exact ⟨0, by omega, rfl, rfl⟩
    case round =>
      obtain ⟨j, hj, rfl, rfl⟩ := hrel
      have b1 := Tm.limN_le (k := j) (by omega)
      have b2 := Tm.limN_nonneg j
      by_cases hlt : j < m
      · go_wp2
        exact ⟨⟨j + 1, by omega, by go_num, by simp only [Tm.limN]⟩, by simp [intOf]; omega⟩
      · obtain rfl : j = m := by omega
        go_wp2
        go_ret
        exact ⟨ret_int (by rw [Tm.lim, if_pos ⟨by omega, by omega⟩]; rfl), rfl⟩
  · simp only [Bool.not_eq_true] at hk
    go_enter Tryd.func59, Tryd.ntmps59
    go_wp2_with ((go_at_call 73; refine (iWordLen _ _).mono ?_; rintro e w1 ⟨rfl, rfl⟩))
    go_ret
    exact ⟨ret_int (by rw [Tm.lim, if_neg (by have := (Tm.inB_no _ _ _).1 hk; omega)]), rfl⟩
theorem lim_bd (k : Int) : 0 ≤ Tm.lim k ∧ Tm.lim k ≤ 102945566047324 := by
  rw [Tm.lim]
  split
  · exact ⟨Tm.limN_nonneg _, Tm.limN_le (by omega)⟩
  · omega
theorem iHasWord (n k : Int) (w : World) : Calls Tryd.prog 87 #[.int .i64 n, .int .i64 k] w fun e w' => e = .returned (.bool (Tm.wordOk n k)) ∧ w = w' := by
  have lb := lim_bd k
  obtain ⟨b0, b1⟩ := lb
  by_cases hk : Tm.inB k 1 30 = true
  · have hk' := (Tm.inB_iff _ _ _).1 hk
    go_enter Tryd.func87, Tryd.ntmps87
    go_wp2_with (first | (go_at_call 73; refine (iWordLen _ _).mono ?_; rintro e w1 ⟨rfl, rfl⟩) | (go_at_call 59; refine (iLimitOf _ _).mono ?_; rintro e w1 ⟨rfl, rfl⟩))
    all_goals (go_ret; exact ⟨ret_bool (by simp only [Tm.wordOk]; rw [Bool.eq_iff_iff]; simp; omega), rfl⟩)
  · simp only [Bool.not_eq_true] at hk
    have hk' := (Tm.inB_no _ _ _).1 hk
    go_enter Tryd.func87, Tryd.ntmps87
    go_wp2_with (first | (go_at_call 73; refine (iWordLen _ _).mono ?_; rintro e w1 ⟨rfl, rfl⟩) | (go_at_call 59; refine (iLimitOf _ _).mono ?_; rintro e w1 ⟨rfl, rfl⟩))
    all_goals (go_ret; exact ⟨ret_bool (by simp only [Tm.wordOk]; rw [Bool.eq_iff_iff]; simp; omega), rfl⟩)
namespace Tm
theorem sp1_low (n : Int) : sp1 (n.tmod 3) = low n := by rw [low_tmod]; rfl
theorem sp2_low (n : Int) : n.tdiv 3 + sp2 (n.tmod 3) = (n - low n) / 3 := by
  have h := Int.tmod_add_mul_tdiv n 3
  have b := tmod3_bd n
  rw [low_tmod]
  simp only [sp2]
  generalize n.tmod 3 = t at *
  generalize n.tdiv 3 = q at *
  split
  · omega
  · split <;> omega
theorem wordL_get (n : Int) (k i : Nat) (h : i < k) : (wordL n k).getD i 0 = low (remN n i) := by
  induction i generalizing n k with
  | zero => cases k with
    | zero => omega
    | succ k => rfl
  | succ i ih => cases k with
    | zero => omega
    | succ k => rw [wordL, remN, ← ih _ k (by omega)]; rfl
end Tm
set_option maxHeartbeats 800000 in
theorem iWordOf (n k : Int) (w : World) : Calls Tryd.prog 78 #[.int .i64 n, .int .i64 k] w (RetIB 3 w (Tm.word n k) (Tm.wordOk n k)) := by
  obtain ⟨i0, hi, hz0, hz1, hz2⟩ := info_parts infoInt
  by_cases ho : Tm.wordOk n k = true
  · have ho' : 1 ≤ k ∧ k ≤ 30 ∧ -Tm.lim k ≤ n ∧ n ≤ Tm.lim k := by simpa only [Tm.wordOk, decide_eq_true_eq] using ho
    have lb := lim_bd k
    have hn : -102945566047324 ≤ n ∧ n ≤ 102945566047324 := by omega
    obtain ⟨k1, k2, -, -⟩ := ho'
    rw [Tm.word, if_pos ho, ho]
    have HO := Lib.hid ho
    clear lb ho
    obtain ⟨m, rfl⟩ := Int.eq_ofNat_of_zero_le (show 0 ≤ k by omega)
    rw [Int.toNat_natCast]
    have ho := HO.out
    go_enter Tryd.func78, Tryd.ntmps78
    go_wp2_with (first | (go_at_call 87; refine (iHasWord _ _ _).mono ?_; rintro e w1 ⟨rfl, rfl⟩) | (at_make; refine wpList_make_full _ rfl _ _ 25 rfl (w.heap.size) 3 i0 (.int .i64 0) 1 Tryd.underlying25 hi hz0 hz1 _ _ _ _ (m) rfl rfl (by first | rfl | omega) (by first | rfl | omega) (by rw [hz2]; omega) (by unfold maxLen; omega) (by first | go_size | (simp only [gw_size, World.size_alloc]; omega) | exact Nat.le_refl _ | omega) ?_))
    clear ho
    intro w1 hown hgrow
    have hown0 := rowV_own hown
    have hb0 : Below w.heap.size w w1 := (Below.refl _ _).grown hgrow (Nat.le_refl _) (fun k hk => by cases hk)
    clear hown hgrow
    go_wp2
    go_loopw [0, 18] (fun x i wr => ∃ (j : Nat) (g : Nat → Int), j ≤ m ∧ i = .int .i64 j ∧ x = .int .i64 (Tm.remN n j) ∧ wr.ownsRow w.heap.size 3 1 (.slice (some ⟨w.heap.size, 0, none⟩) m m) m (rowV m g) ∧ Hid (∀ q, q < j → g q = (Tm.wordL n m).getD q 0) ∧ Below w.heap.size w wr) (fun _ i _ => m - (intOf i).toNat)
    case atStart => exact ⟨0, _, by omega, rfl, rfl, hown0, Lib.hid (fun q hq => by omega), hb0⟩
    case round =>
      obtain ⟨j, g, hj, rfl, rfl, hown, G, hnx⟩ := hrel
      clear hown0 hb0
      by_cases hlt : j < m
      · have hs := hnx.size
        have rb := Tm.remN_bd n hn j
        have S1 := Lib.hid (Tm.sp1_low (Tm.remN n j))
        have S2 := Lib.hid (Tm.sp2_low (Tm.remN n j))
        have RS := Lib.hid (Tm.remN_succ n j)
        have WG := Lib.hid (Tm.wordL_get n m j hlt)
        obtain ⟨r, hr⟩ : ∃ r, r = Tm.remN n j := ⟨_, rfl⟩
        rw [← hr] at rb S1 S2 RS WG
        rw [← hr]
        obtain ⟨r1, r2⟩ := rb
        have t1 := Tm.tmod3_bd r
        obtain ⟨t1, t2⟩ := t1
        have td := Int.tmod_add_mul_tdiv r 3
        have td : -34315188682442 ≤ r.tdiv 3 ∧ r.tdiv 3 ≤ 34315188682442 := by omega
        obtain ⟨d1, d2⟩ := td
        clear hr
        have fz := hown.frozenAt j
        have ck := own_cell hown j hlt
        obtain ⟨s1, s2⟩ := own_put hown j (Tm.sp1 (r.tmod 3))
        have hnx1 := hnx.grown s2 (by omega) (fun q hq => by cases hq; exact Nat.le_refl _)
        have q2 : -1 ≤ Tm.sp2 (r.tmod 3) ∧ Tm.sp2 (r.tmod 3) ≤ 1 := by unfold Tm.sp2; split <;> (try split) <;> omega
        obtain ⟨q2, q3⟩ := q2
        clear hown hnx s2
        go_wp2_with ((go_at_call 88; refine (iSplit _ _ (by omega) (by omega)).mono ?_; rintro e w1 ⟨rfl, rfl⟩))
        refine ⟨⟨j + 1, _, by omega, by go_num, val_int (by rw [RS.out, ← S2.out]), s1, Lib.hid (fun q hq => ?_), hnx1⟩, by simp [intOf]; omega⟩
        by_cases e : q = j
        · subst e; rw [upd_at, S1.out, WG.out]
        · rw [upd_ne _ _ _ e]; exact G.out q (by omega)
      · obtain rfl : j = m := by omega
        go_wp2
        go_ret2
        rw [rowV_list (Tm.wordL_length n j) G.out] at hown
        exact ret_own_b hown hnx (by omega)
  · simp only [Bool.not_eq_true] at ho
    rw [Tm.word, ho]
    go_enter Tryd.func78, Tryd.ntmps78
    go_wp2_with ((go_at_call 87; refine (iHasWord _ _ _).mono ?_; rintro e w1 ⟨rfl, rfl⟩))
    go_ret2
    exact ret_nil_b (by (repeat' (first | (with_reducible exact Below.refl _ _) | (with_reducible assumption) | (with_reducible refine below_drewN ?_ _) | (with_reducible refine Below.drew ?_) | (with_reducible refine Below.alloc ?_ ?_ _) | (with_reducible refine Below.setCell ?_ ?_ _) | (with_reducible refine below_gw ?_ ?_ _) | (with_reducible refine below_via ?_ ‹Below _ _ _› ?_) | (with_reducible exact Nat.le_refl _) | (with_reducible refine le_gw ?_ _) | (with_reducible refine le_alloc ?_ _) | (with_reducible refine le_setCell ?_ _ _) | (with_reducible refine le_drew ?_) | (with_reducible refine le_drewN ?_ _) | go_size)))
end Go.Proofs.YtfnhoiomdjmjhaaDoor

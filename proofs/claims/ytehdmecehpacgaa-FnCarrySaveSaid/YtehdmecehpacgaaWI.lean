/- Contracts of the program's functions of words. -/
import Derived.Test.YtehdmecehpacgaaWS4
import Derived.Test.YtehdmecehpacgaaFill
namespace Go.Proofs.Ytehdmecehpacgaa
open Go.RowKit
theorem iWordLen (k : Int) (w : World) : Calls Try.prog 16 #[.int .i64 k] w fun e w' => e = .returned (.bool (Tm.inB k 1 30)) ∧ w = w' := by
  go_enter Try.func16, Try.ntmps16
  go_wp2
  all_goals (go_ret; exact ⟨ret_bool (by grind [Tm.inB]), rfl⟩)
theorem isW_short {xs : List Int} (h : Tm.inB xs.length 1 30 = false) : Tm.isW xs = false := by
  have := (Tm.inB_no _ _ _).1 h
  cases e : Tm.isW xs with
  | false => rfl
  | true => have := (Tm.isW_iff xs).1 e; omega
theorem iIsWord (a : Option Addr) (n cap : Nat) (xs : List Int) (w : World) (h : Ints w a n cap xs) : Calls Try.prog 14 #[.slice a n cap] w fun e w' => e = .returned (.bool (Tm.isW xs)) ∧ w = w' := by
  obtain ⟨x1, x2, x3, x4⟩ := h
  subst x1
  unfold maxLen at x3
  by_cases hl : Tm.inB xs.length 1 30 = true
  · have hl' := (Tm.inB_iff _ _ _).1 hl
    obtain ⟨l1, l2⟩ := hl'
    go_enter Try.func14, Try.ntmps14
    go_wp2_with ((go_at_call 16; refine (iWordLen _ _).mono ?_; rintro e w1 ⟨rfl, rfl⟩))
    clear hl
    go_loop [11] (fun i => ∃ k : Nat, k ≤ xs.length ∧ i = .int .i64 k ∧ Tm.AllT xs k) (fun i => xs.length - (intOf i).toNat)
    case atStart => exact ⟨0, by omega, rfl, Tm.AllT_zero xs⟩
    case round =>
      obtain ⟨k, hk, rfl, ha⟩ := hrel
      by_cases hlt : k < xs.length
      · rcases x4 with h0 | ⟨b, o, rfl, hbl, hc⟩
        · omega
        have c1 := hc k hlt
        clear hc
        go_wp2_with ((go_at_call 23; refine (iIsTrit _ _).mono ?_; rintro e w1 ⟨rfl, rfl⟩))
        · go_ret
          exact ⟨ret_bool (Tm.isW_no (k := k) (by omega) (by assumption)).symm, rfl⟩
        · exact ⟨⟨k + 1, by omega, by go_num, Tm.AllT_succ ha (by omega) (by assumption)⟩, by simp [intOf]; omega⟩
      · obtain rfl : k = xs.length := by omega
        go_wp2
        all_goals (go_ret; exact ⟨ret_bool (by rw [Tm.isW_all ha, Bool.eq_iff_iff]; simp; try omega), rfl⟩)
  · simp only [Bool.not_eq_true] at hl
    have e := isW_short hl
    rw [e]
    go_enter Try.func14, Try.ntmps14
    go_wp2_with ((go_at_call 16; refine (iWordLen _ _).mono ?_; rintro e w1 ⟨rfl, rfl⟩))
    go_ret
    exact ⟨rfl, rfl⟩
theorem iDigitsW (a : Option Addr) (n cap : Nat) (xs : List Int) (w : World) (h : Ints w a n cap xs) (hw : Tm.isW xs = true) : Calls Try.prog 15 #[.slice a n cap] w fun e w' => e = .returned (.int .i64 (Tm.val xs)) ∧ w = w' := by
  have H := Lib.hid h
  obtain rfl : n = xs.length := h.1.symm
  clear h
  have hl := (Tm.isW_iff xs).1 hw
  obtain ⟨-, l1, l2⟩ := hl
  have HW := Lib.hid hw
  clear hw
  go_enter Try.func15, Try.ntmps15
  go_wp2
  go_loop [3, 4] (fun v i => ∃ k : Nat, k ≤ xs.length ∧ i = .int .i64 ((k : Int) - 1) ∧ v = .int .i64 (Tm.val (xs.drop k))) (fun _ i => (intOf i + 1).toNat)
  case atStart => exact ⟨xs.length, by omega, rfl, by rw [List.drop_of_length_le (Nat.le_refl _)]; rfl⟩
  case round =>
    obtain ⟨k, hk, rfl, rfl⟩ := hrel
    have vb := Tm.val_drop_bd HW.out k
    obtain ⟨v1, v2⟩ := vb
    rcases Nat.eq_zero_or_pos k with h0 | h0
    · subst h0
      go_wp2
      go_ret
      exact ⟨ret_int (by simp), rfl⟩
    · obtain ⟨j, rfl⟩ : ∃ j, k = j + 1 := ⟨k - 1, by omega⟩
      rw [show (((j + 1 : Nat) : Int) - 1) = (j : Int) from by omega]
      rcases H.out.2.2.2 with h1 | ⟨b, o, rfl, hbl, hc⟩
      · omega
      have c1 := hc j (by omega)
      have tb := Tm.isW_at HW.out j
      obtain ⟨t1, t2⟩ := tb
      have vd := Tm.val_drop xs j (by omega)
      have ex := getD_at xs j (by omega)
      rw [← ex] at c1 t1 t2 vd
      have VD := Lib.hid vd
      clear hc vd ex
      go_wp2
      exact ⟨⟨j, by omega, rfl, val_int (by have := VD.out; omega)⟩, by simp [intOf] <;> omega⟩
theorem iValueOf (a : Option Addr) (n cap : Nat) (xs : List Int) (w : World) (h : Ints w a n cap xs) : Calls Try.prog 7 #[.slice a n cap] w fun e w' => e = .returned (.int .i64 (Tm.value xs)) ∧ w = w' := by
  by_cases hw : Tm.isW xs = true
  · have HW := Lib.hid hw
    go_enter Try.func7, Try.ntmps7
    go_wp2_with (first | (go_at_call 14; refine (iIsWord _ _ _ xs _ h).mono ?_; rintro e w1 ⟨rfl, rfl⟩) | (go_at_call 15; refine (iDigitsW _ _ _ xs _ h HW.out).mono ?_; rintro e w1 ⟨rfl, rfl⟩))
    go_ret
    exact ⟨ret_int (by simp [Tm.value, HW.out]), rfl⟩
  · simp only [Bool.not_eq_true] at hw
    go_enter Try.func7, Try.ntmps7
    go_wp2_with ((go_at_call 14; refine (iIsWord _ _ _ xs _ h).mono ?_; rintro e w1 ⟨rfl, rfl⟩))
    go_ret
    exact ⟨ret_int (by rw [Tm.value, hw]; rfl), rfl⟩
theorem iLimitOf (k : Int) (w : World) : Calls Try.prog 8 #[.int .i64 k] w fun e w' => e = .returned (.int .i64 (Tm.lim k)) ∧ w = w' := by
  by_cases hk : Tm.inB k 1 30 = true
  · have hk' := (Tm.inB_iff _ _ _).1 hk
    obtain ⟨k1, k2⟩ := hk'
    obtain ⟨m, rfl⟩ := Int.eq_ofNat_of_zero_le (show 0 ≤ k by omega)
    go_enter Try.func8, Try.ntmps8
    go_wp2_with ((go_at_call 16; refine (iWordLen _ _).mono ?_; rintro e w1 ⟨rfl, rfl⟩))
    clear hk
    go_loop [3, 8] (fun v i => ∃ j : Nat, j ≤ m ∧ i = .int .i64 j ∧ v = .int .i64 (Tm.limN j)) (fun _ i => m - (intOf i).toNat)
    case atStart => exact ⟨0, by omega, rfl, rfl⟩
    case round =>
      obtain ⟨j, hj, rfl, rfl⟩ := hrel
      have b1 := Tm.limN_le (k := j) (by omega)
      have b2 := Tm.limN_nonneg j
      by_cases hlt : j < m
      · go_wp2
        exact ⟨⟨j + 1, by omega, by go_num, by simp only [Tm.limN]⟩, by simp [intOf]; omega⟩
      · obtain rfl : j = m := by omega
        go_wp2
        go_ret
        exact ⟨ret_int (by rw [Tm.lim, if_pos ⟨by omega, by omega⟩]; rfl), rfl⟩
  · simp only [Bool.not_eq_true] at hk
    go_enter Try.func8, Try.ntmps8
    go_wp2_with ((go_at_call 16; refine (iWordLen _ _).mono ?_; rintro e w1 ⟨rfl, rfl⟩))
    go_ret
    exact ⟨ret_int (by rw [Tm.lim, if_neg (by have := (Tm.inB_no _ _ _).1 hk; omega)]), rfl⟩
namespace Tm
theorem sp1_low (n : Int) : sp1 (n.tmod 3) = low n := by rw [low_tmod]; rfl
theorem sp2_low (n : Int) : n.tdiv 3 + sp2 (n.tmod 3) = (n - low n) / 3 := by
  have h := Int.tmod_add_mul_tdiv n 3
  have b := tmod3_bd n
  rw [low_tmod]
  simp only [sp2]
  generalize n.tmod 3 = t at *
  generalize n.tdiv 3 = q at *
  split
  · omega
  · split <;> omega
theorem wordL_get (n : Int) (k i : Nat) (h : i < k) : (wordL n k).getD i 0 = low (remN n i) := by
  induction i generalizing n k with
  | zero => cases k with
    | zero => omega
    | succ k => rfl
  | succ i ih => cases k with
    | zero => omega
    | succ k => rw [wordL, remN, ← ih _ k (by omega)]; rfl
end Tm
end Go.Proofs.Ytehdmecehpacgaa

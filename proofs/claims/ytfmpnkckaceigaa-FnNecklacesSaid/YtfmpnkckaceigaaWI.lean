/- Contracts of the program's functions of words. -/
import Derived.Test.YtfmpnkckaceigaaWS4
import Derived.Test.YtfmpnkckaceigaaFill
namespace Go.Proofs.Ytfmpnkckaceigaa
set_option maxRecDepth 20000
open Go.RowKit
theorem iWordLen (k : Int) (w : World) : Calls Try.prog 52 #[.int .i64 k] w fun e w' => e = .returned (.bool (Tm.inB k 1 30)) ∧ w = w' := by
  go_enter Try.func52, Try.ntmps52
  go_wp2
  all_goals (go_ret; exact ⟨ret_bool (by grind [Tm.inB]), rfl⟩)
theorem isW_short {xs : List Int} (h : Tm.inB xs.length 1 30 = false) : Tm.isW xs = false := by
  have := (Tm.inB_no _ _ _).1 h
  cases e : Tm.isW xs with
  | false => rfl
  | true => have := (Tm.isW_iff xs).1 e; omega
theorem allT_no {xs : List Int} {k : Nat} (hk : k < xs.length) (ht : (!Tm.isT xs[k]) = true) : xs.all Tm.isT = false := by
  cases e : xs.all Tm.isT with
  | false => rfl
  | true =>
    rw [List.all_eq_true] at e
    have := e xs[k] (List.getElem_mem hk)
    rw [this] at ht; cases ht
theorem allT_all {xs : List Int} (h : Tm.AllT xs xs.length) : xs.all Tm.isT = true := by
  rw [List.all_eq_true]
  intro x hx
  obtain ⟨i, hi, rfl⟩ := List.getElem_of_mem hx
  have := h i hi
  rw [List.getD_eq_getElem?_getD, List.getElem?_eq_getElem hi] at this
  exact this
theorem iAllTrits (a : Option Addr) (n cap : Nat) (xs : List Int) (w : World) (h : Ints w a n cap xs) : Calls Try.prog 73 #[.slice a n cap] w fun e w' => e = .returned (.bool (xs.all Tm.isT)) ∧ w = w' := by
  obtain ⟨x1, x2, x3, x4⟩ := h
  subst x1
  unfold maxLen at x3
  go_enter Try.func73, Try.ntmps73
  go_wp2
  go_loop [7] (fun i => ∃ k : Nat, k ≤ xs.length ∧ i = .int .i64 k ∧ Tm.AllT xs k) (fun i => xs.length - (intOf i).toNat)
  case atStart => exact ⟨0, by omega, rfl, Tm.AllT_zero xs⟩
  case round =>
    obtain ⟨k, hk, rfl, ha⟩ := hrel
    by_cases hlt : k < xs.length
    · rcases x4 with h0 | ⟨b, o, rfl, hbl, hc⟩
      · omega
      have c1 := hc k hlt
      clear hc
      go_wp2_with ((go_at_call 77; refine (iIsTrit _ _).mono ?_; rintro e w1 ⟨rfl, rfl⟩))
      · go_ret
        exact ⟨ret_bool (allT_no (k := k) (by omega) (by assumption)).symm, rfl⟩
      · exact ⟨⟨k + 1, by omega, by go_num, Tm.AllT_succ ha (by omega) (by assumption)⟩, by simp [intOf]; omega⟩
    · obtain rfl : k = xs.length := by omega
      go_wp2
      all_goals (go_ret; exact ⟨ret_bool (allT_all ha).symm, rfl⟩)
theorem iIsWord (a : Option Addr) (n cap : Nat) (xs : List Int) (w : World) (h : Ints w a n cap xs) : Calls Try.prog 56 #[.slice a n cap] w fun e w' => e = .returned (.bool (Tm.isW xs)) ∧ w = w' := by
  have H := Lib.hid h
  obtain rfl : n = xs.length := h.1.symm
  clear h
  by_cases hl : Tm.inB xs.length 1 30 = true
  · have e : Tm.isW xs = xs.all Tm.isT := by rw [Tm.isW, decide_eq_true ((Tm.inB_iff _ _ _).1 hl |> fun h => ⟨by omega, by omega⟩), Bool.and_true]
    rw [e]
    have WL := Lib.hid (fun w => iWordLen (xs.length : Int) w)
    rw [hl] at WL
    clear hl e
    go_enter Try.func56, Try.ntmps56
    go_wp2_with fail
    refine (WL.out _).mono ?_
    rintro e w1 ⟨rfl, rfl⟩
    go_wp2_with fail
    refine (iAllTrits _ _ _ xs _ H.out).mono ?_
    rintro e w1 ⟨rfl, rfl⟩
    go_wp2
    go_ret
    exact ⟨rfl, rfl⟩
  · simp only [Bool.not_eq_true] at hl
    have e := isW_short hl
    rw [e]
    have WL := Lib.hid (fun w => iWordLen (xs.length : Int) w)
    rw [hl] at WL
    clear hl e
    go_enter Try.func56, Try.ntmps56
    go_wp2_with fail
    refine (WL.out _).mono ?_
    rintro e w1 ⟨rfl, rfl⟩
    go_wp2
    go_ret
    exact ⟨rfl, rfl⟩
theorem iLimitOf (k : Int) (w : World) : Calls Try.prog 72 #[.int .i64 k] w fun e w' => e = .returned (.int .i64 (Tm.lim k)) ∧ w = w' := by
  by_cases hk : Tm.inB k 1 30 = true
  · have hk' := (Tm.inB_iff _ _ _).1 hk
    obtain ⟨k1, k2⟩ := hk'
    obtain ⟨m, rfl⟩ := Int.eq_ofNat_of_zero_le (show 0 ≤ k by omega)
    go_enter Try.func72, Try.ntmps72
    go_wp2_with ((go_at_call 52; refine (iWordLen _ _).mono ?_; rintro e w1 ⟨rfl, rfl⟩))
    clear hk
    go_loop [3, 8] (fun v i => ∃ j : Nat, j ≤ m ∧ i = .int .i64 j ∧ v = .int .i64 (Tm.limN j)) (fun _ i => m - (intOf i).toNat)
    case atStart => exact ⟨0, by omega, rfl, rfl⟩
    case round =>
      obtain ⟨j, hj, rfl, rfl⟩ := hrel
      have b1 := Tm.limN_le (k := j) (by omega)
      have b2 := Tm.limN_nonneg j
      by_cases hlt : j < m
      · go_wp2
        exact ⟨⟨j + 1, by omega, by go_num, by simp only [Tm.limN]⟩, by simp [intOf]; omega⟩
      · obtain rfl : j = m := by omega
        go_wp2
        go_ret
        exact ⟨ret_int (by rw [Tm.lim, if_pos ⟨by omega, by omega⟩]; rfl), rfl⟩
  · simp only [Bool.not_eq_true] at hk
    go_enter Try.func72, Try.ntmps72
    go_wp2_with ((go_at_call 52; refine (iWordLen _ _).mono ?_; rintro e w1 ⟨rfl, rfl⟩))
    go_ret
    exact ⟨ret_int (by rw [Tm.lim, if_neg (by have := (Tm.inB_no _ _ _).1 hk; omega)]), rfl⟩
namespace Tm
theorem sp1_low (n : Int) : sp1 (n.tmod 3) = low n := by rw [low_tmod]; rfl
theorem sp2_low (n : Int) : n.tdiv 3 + sp2 (n.tmod 3) = (n - low n) / 3 := by
  have h := Int.tmod_add_mul_tdiv n 3
  have b := tmod3_bd n
  rw [low_tmod]
  simp only [sp2]
  generalize n.tmod 3 = t at *
  generalize n.tdiv 3 = q at *
  split
  · omega
  · split <;> omega
theorem wordL_get (n : Int) (k i : Nat) (h : i < k) : (wordL n k).getD i 0 = low (remN n i) := by
  induction i generalizing n k with
  | zero => cases k with
    | zero => omega
    | succ k => rfl
  | succ i ih => cases k with
    | zero => omega
    | succ k => rw [wordL, remN, ← ih _ k (by omega)]; rfl
end Tm
end Go.Proofs.Ytfmpnkckaceigaa

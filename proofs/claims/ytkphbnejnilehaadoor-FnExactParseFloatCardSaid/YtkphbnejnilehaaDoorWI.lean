/- Contracts of the program's functions of words. -/
import Derived.Test.YtkphbnejnilehaaDoorWS4
import Derived.Test.YtkphbnejnilehaaDoorFill
namespace Go.Proofs.YtkphbnejnilehaaDoor
open Go.RowKit
theorem iWordLen (k : Int) (w : World) : Calls Tryd.prog 39 #[.int .i64 k] w fun e w' => e = .returned (.bool (Tm.inB k 1 30)) ∧ w = w' := by
  go_enter Tryd.func39, Tryd.ntmps39
  go_wp2
  all_goals (go_ret; exact ⟨ret_bool (by grind [Tm.inB]), rfl⟩)
theorem isW_short {xs : List Int} (h : Tm.inB xs.length 1 30 = false) : Tm.isW xs = false := by
  have := (Tm.inB_no _ _ _).1 h
  cases e : Tm.isW xs with
  | false => rfl
  | true => have := (Tm.isW_iff xs).1 e; omega
theorem iIsWord (a : Option Addr) (n cap : Nat) (xs : List Int) (w : World) (h : Ints w a n cap xs) : Calls Tryd.prog 34 #[.slice a n cap] w fun e w' => e = .returned (.bool (Tm.isW xs)) ∧ w = w' := by
  obtain ⟨x1, x2, x3, x4⟩ := h
  subst x1
  unfold maxLen at x3
  by_cases hl : Tm.inB xs.length 1 30 = true
  · have hl' := (Tm.inB_iff _ _ _).1 hl
    obtain ⟨l1, l2⟩ := hl'
    go_enter Tryd.func34, Tryd.ntmps34
    go_wp2_with ((go_at_call 39; refine (iWordLen _ _).mono ?_; rintro e w1 ⟨rfl, rfl⟩))
    clear hl
    go_loop [11] (fun i => ∃ k : Nat, k ≤ xs.length ∧ i = .int .i64 k ∧ Tm.AllT xs k) (fun i => xs.length - (intOf i).toNat)
    case atStart => exact ⟨0, by omega, rfl, Tm.AllT_zero xs⟩
    case round =>
      obtain ⟨k, hk, rfl, ha⟩ := hrel
      by_cases hlt : k < xs.length
      · rcases x4 with h0 | ⟨b, o, rfl, hbl, hc⟩
        · omega
        have c1 := hc k hlt
        clear hc
        go_wp2_with ((go_at_call 44; refine (iIsTrit _ _).mono ?_; rintro e w1 ⟨rfl, rfl⟩))
        · go_ret
          exact ⟨ret_bool (Tm.isW_no (k := k) (by omega) (by assumption)).symm, rfl⟩
        · exact ⟨⟨k + 1, by omega, by go_num, Tm.AllT_succ ha (by omega) (by assumption)⟩, by simp [intOf]; omega⟩
      · obtain rfl : k = xs.length := by omega
        go_wp2
        all_goals (go_ret; exact ⟨ret_bool (by rw [Tm.isW_all ha, Bool.eq_iff_iff]; simp; try omega), rfl⟩)
  · simp only [Bool.not_eq_true] at hl
    have e := isW_short hl
    rw [e]
    go_enter Tryd.func34, Tryd.ntmps34
    go_wp2_with ((go_at_call 39; refine (iWordLen _ _).mono ?_; rintro e w1 ⟨rfl, rfl⟩))
    go_ret
    exact ⟨rfl, rfl⟩
namespace Tm
theorem sp1_low (n : Int) : sp1 (n.tmod 3) = low n := by rw [low_tmod]; rfl
theorem sp2_low (n : Int) : n.tdiv 3 + sp2 (n.tmod 3) = (n - low n) / 3 := by
  have h := Int.tmod_add_mul_tdiv n 3
  have b := tmod3_bd n
  rw [low_tmod]
  simp only [sp2]
  generalize n.tmod 3 = t at *
  generalize n.tdiv 3 = q at *
  split
  · omega
  · split <;> omega
theorem wordL_get (n : Int) (k i : Nat) (h : i < k) : (wordL n k).getD i 0 = low (remN n i) := by
  induction i generalizing n k with
  | zero => cases k with
    | zero => omega
    | succ k => rfl
  | succ i ih => cases k with
    | zero => omega
    | succ k => rw [wordL, remN, ← ih _ k (by omega)]; rfl
end Tm
end Go.Proofs.YtkphbnejnilehaaDoor

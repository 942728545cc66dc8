/- Contracts of the program's functions of words. -/
import Derived.Test.YtmpcmbagegfobaaWS4
import Derived.Test.YtmpcmbagegfobaaFill
namespace Go.Proofs.Ytmpcmbagegfobaa
set_option maxRecDepth 20000
open Go.RowKit
theorem iWordLen (k : Int) (w : World) : Calls Try.prog 18 #[.int .i64 k] w fun e w' => e = .returned (.bool (Tm.inB k 1 30)) ∧ w = w' := by
  go_enter Try.func18, Try.ntmps18
  go_wp2
  all_goals (go_ret; exact ⟨ret_bool (by grind [Tm.inB]), rfl⟩)
theorem iLimitOf (k : Int) (w : World) : Calls Try.prog 17 #[.int .i64 k] w fun e w' => e = .returned (.int .i64 (Tm.lim k)) ∧ w = w' := by
  by_cases hk : Tm.inB k 1 30 = true
  · have hk' := (Tm.inB_iff _ _ _).1 hk
    obtain ⟨k1, k2⟩ := hk'
    obtain ⟨m, rfl⟩ := Int.eq_ofNat_of_zero_le (show 0 ≤ k by omega)
    go_enter Try.func17, Try.ntmps17
    go_wp2_with ((go_at_call 18; refine (iWordLen _ _).mono ?_; rintro e w1 ⟨rfl, rfl⟩))
    clear hk
    go_loop [3, 8] (fun v i => ∃ j : Nat, j ≤ m ∧ i = .int .i64 j ∧ v = .int .i64 (Tm.limN j)) (fun _ i => m - (intOf i).toNat)
    case atStart => exact ⟨0, by omega, rfl, rfl⟩
    case round =>
      obtain ⟨j, hj, rfl, rfl⟩ := hrel
      have b1 := Tm.limN_le (k := j) (by omega)
      have b2 := Tm.limN_nonneg j
      by_cases hlt : j < m
      · go_wp2
        exact ⟨⟨j + 1, by omega, by go_num, by simp only [Tm.limN]⟩, by simp [intOf]; omega⟩
      · obtain rfl : j = m := by omega
        go_wp2
        go_ret
        exact ⟨ret_int (by rw [Tm.lim, if_pos ⟨by omega, by omega⟩]; rfl), rfl⟩
  · simp only [Bool.not_eq_true] at hk
    go_enter Try.func17, Try.ntmps17
    go_wp2_with ((go_at_call 18; refine (iWordLen _ _).mono ?_; rintro e w1 ⟨rfl, rfl⟩))
    go_ret
    exact ⟨ret_int (by rw [Tm.lim, if_neg (by have := (Tm.inB_no _ _ _).1 hk; omega)]), rfl⟩
namespace Tm
theorem sp1_low (n : Int) : sp1 (n.tmod 3) = low n := by rw [low_tmod]; rfl
theorem sp2_low (n : Int) : n.tdiv 3 + sp2 (n.tmod 3) = (n - low n) / 3 := by
  have h := Int.tmod_add_mul_tdiv n 3
  have b := tmod3_bd n
  rw [low_tmod]
  simp only [sp2]
  generalize n.tmod 3 = t at *
  generalize n.tdiv 3 = q at *
  split
  · omega
  · split <;> omega
theorem wordL_get (n : Int) (k i : Nat) (h : i < k) : (wordL n k).getD i 0 = low (remN n i) := by
  induction i generalizing n k with
  | zero => cases k with
    | zero => omega
    | succ k => rfl
  | succ i ih => cases k with
    | zero => omega
    | succ k => rw [wordL, remN, ← ih _ k (by omega)]; rfl
end Tm
end Go.Proofs.Ytmpcmbagegfobaa

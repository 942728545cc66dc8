/- Contracts of the functions of single trits, of the program and of the model: both are the same plain functions. -/
import Derived.Test.YtgaenbpbfhpioaaChecked
import Derived.Test.YtgaenbpbfhpioaaBase
namespace Go.Proofs.Ytgaenbpbfhpioaa
open Go.RowKit


theorem iIsTrit (a : Int) (w : World) : Calls Try.prog 26 #[.int .i64 a] w fun e w' => e = .returned (.bool (Tm.isT a)) ∧ w = w' := by
  go_enter Try.func26, Try.ntmps26
  go_wp2
  all_goals (go_ret; exact ⟨ret_bool (by grind [Tm.isT]), rfl⟩)
theorem iAreTrits (a b : Int) (w : World) : Calls Try.prog 70 #[.int .i64 a, .int .i64 b] w fun e w' => e = .returned (.bool (Tm.isT a && Tm.isT b)) ∧ w = w' := by
  go_enter Try.func70, Try.ntmps70
  go_wp2
  all_goals (go_ret; exact ⟨ret_bool (by grind [Tm.isT]), rfl⟩)
theorem iSignOf (a : Int) (w : World) : Calls Try.prog 23 #[.int .i64 a] w fun e w' => e = .returned (.int .i64 (Tm.sgn a)) ∧ w = w' := by
  go_enter Try.func23, Try.ntmps23
  go_wp2
  all_goals (go_ret; exact ⟨ret_int (by grind [Tm.sgn]), rfl⟩)
theorem iNotTrit (a : Int) (w : World) : Calls Try.prog 16 #[.int .i64 a] w fun e w' => e = .returned (.int .i64 (Tm.neg a)) ∧ w = w' := by
  by_cases h : (-1 ≤ a ∧ a ≤ 1)
  · obtain ⟨h1, h2⟩ := h
    go_enter Try.func16, Try.ntmps16
    go_wp2
    all_goals (go_ret; exact ⟨ret_int (by grind [Tm.neg, Tm.isT]), rfl⟩)
  · go_enter Try.func16, Try.ntmps16
    go_wp2
    all_goals (go_ret; exact ⟨ret_int (by grind [Tm.neg, Tm.isT]), rfl⟩)
theorem iTurnTrit (a : Int) (w : World) : Calls Try.prog 17 #[.int .i64 a] w fun e w' => e = .returned (.int .i64 (Tm.turn a)) ∧ w = w' := by
  go_enter Try.func17, Try.ntmps17
  go_wp2
  all_goals (go_ret; exact ⟨ret_int (by grind [Tm.turn, Tm.isT]), rfl⟩)
theorem iMinTrits (a b : Int) (w : World) : Calls Try.prog 19 #[.int .i64 a, .int .i64 b] w fun e w' => e = .returned (.int .i64 (Tm.mn a b)) ∧ w = w' := by
  go_enter Try.func19, Try.ntmps19
  go_wp2
  all_goals (go_ret; exact ⟨ret_int (by grind [Tm.mn, Tm.isT]), rfl⟩)
theorem iMaxTrits (a b : Int) (w : World) : Calls Try.prog 20 #[.int .i64 a, .int .i64 b] w fun e w' => e = .returned (.int .i64 (Tm.mx a b)) ∧ w = w' := by
  go_enter Try.func20, Try.ntmps20
  go_wp2
  all_goals (go_ret; exact ⟨ret_int (by grind [Tm.mx, Tm.isT]), rfl⟩)
theorem iAgreeTrits (a b : Int) (w : World) : Calls Try.prog 21 #[.int .i64 a, .int .i64 b] w fun e w' => e = .returned (.int .i64 (Tm.agree a b)) ∧ w = w' := by
  go_enter Try.func21, Try.ntmps21
  go_wp2
  all_goals (go_ret; exact ⟨ret_int (by grind [Tm.agree, Tm.isT]), rfl⟩)
theorem iAnyTrits (a b : Int) (w : World) : Calls Try.prog 22 #[.int .i64 a, .int .i64 b] w fun e w' => e = .returned (.int .i64 (Tm.anyT a b)) ∧ w = w' := by
  by_cases h : (-1 ≤ a ∧ a ≤ 1) ∧ (-1 ≤ b ∧ b ≤ 1)
  · obtain ⟨⟨h1, h2⟩, h3, h4⟩ := h
    go_enter Try.func22, Try.ntmps22
    go_wp2
    all_goals (go_ret; exact ⟨ret_int (by grind [Tm.anyT, Tm.isT, Tm.sgn]), rfl⟩)
  · go_enter Try.func22, Try.ntmps22
    go_wp2
    all_goals (go_ret; exact ⟨ret_int (by grind [Tm.anyT, Tm.isT, Tm.sgn]), rfl⟩)
theorem iTimesTrits (a b : Int) (w : World) : Calls Try.prog 24 #[.int .i64 a, .int .i64 b] w fun e w' => e = .returned (.int .i64 (Tm.times a b)) ∧ w = w' := by
  by_cases h : (-1 ≤ a ∧ a ≤ 1) ∧ (-1 ≤ b ∧ b ≤ 1)
  · obtain ⟨⟨h1, h2⟩, h3, h4⟩ := h
    obtain ⟨h5, h6⟩ := Tm.times_tt a b h1 h2 h3 h4
    go_enter Try.func24, Try.ntmps24
    go_wp2
    all_goals (go_ret; exact ⟨ret_int (by grind [Tm.times, Tm.isT]), rfl⟩)
  · go_enter Try.func24, Try.ntmps24
    go_wp2
    all_goals (go_ret; exact ⟨ret_int (by grind [Tm.times, Tm.isT]), rfl⟩)
theorem sIsTrit (a : Int) (w : World) : Calls Try.prog 90 #[.int .i64 a] w fun e w' => e = .returned (.bool (Tm.isT a)) ∧ w = w' := by
  go_enter Try.func90, Try.ntmps90
  go_wp2
  all_goals (go_ret; exact ⟨ret_bool (by grind [Tm.isT]), rfl⟩)
theorem sTwo (a b : Int) (w : World) : Calls Try.prog 106 #[.int .i64 a, .int .i64 b] w fun e w' => e = .returned (.bool (Tm.isT a && Tm.isT b)) ∧ w = w' := by
  go_enter Try.func106, Try.ntmps106
  go_wp2
  all_goals (go_ret; exact ⟨ret_bool (by grind [Tm.isT]), rfl⟩)
theorem sSignOf (a : Int) (w : World) : Calls Try.prog 108 #[.int .i64 a] w fun e w' => e = .returned (.int .i64 (Tm.sgn a)) ∧ w = w' := by
  go_enter Try.func108, Try.ntmps108
  go_wp2
  all_goals (go_ret; exact ⟨ret_int (by grind [Tm.sgn]), rfl⟩)
theorem sAgreeTrits (a b : Int) (w : World) : Calls Try.prog 103 #[.int .i64 a, .int .i64 b] w fun e w' => e = .returned (.int .i64 (Tm.agree a b)) ∧ w = w' := by
  go_enter Try.func103, Try.ntmps103
  go_wp2
  all_goals (go_ret; exact ⟨ret_int (by grind [Tm.agree, Tm.isT]), rfl⟩)
theorem sAnyTrits (a b : Int) (w : World) : Calls Try.prog 104 #[.int .i64 a, .int .i64 b] w fun e w' => e = .returned (.int .i64 (Tm.anyT a b)) ∧ w = w' := by
  by_cases h : (-1 ≤ a ∧ a ≤ 1) ∧ (-1 ≤ b ∧ b ≤ 1)
  · obtain ⟨⟨h1, h2⟩, h3, h4⟩ := h
    go_enter Try.func104, Try.ntmps104
    go_wp2
    all_goals (go_ret; exact ⟨ret_int (by grind [Tm.anyT, Tm.isT, Tm.sgn]), rfl⟩)
  · go_enter Try.func104, Try.ntmps104
    go_wp2
    all_goals (go_ret; exact ⟨ret_int (by grind [Tm.anyT, Tm.isT, Tm.sgn]), rfl⟩)
theorem iSplit (n : Int) (w : World) (h1 : -4 ≤ n) (h2 : n ≤ 4) : Calls Try.prog 71 #[.int .i64 n] w fun e w' => e = .returned (.tuple #[.int .i64 (Tm.sp1 n), .int .i64 (Tm.sp2 n)]) ∧ w = w' := by
  have : n = -4 ∨ n = -3 ∨ n = -2 ∨ n = -1 ∨ n = 0 ∨ n = 1 ∨ n = 2 ∨ n = 3 ∨ n = 4 := by omega
  clear h1 h2
  rcases this with rfl | rfl | rfl | rfl | rfl | rfl | rfl | rfl | rfl
  all_goals
    go_enter Try.func71, Try.ntmps71
    go_wp2
    go_ret2
    exact ⟨by simp [Tm.sp1, Tm.sp2], rfl⟩
theorem sParts (n : Int) (w : World) (h1 : -4 ≤ n) (h2 : n ≤ 4) : Calls Try.prog 107 #[.int .i64 n] w fun e w' => e = .returned (.tuple #[.int .i64 (Tm.sp1 n), .int .i64 (Tm.sp2 n)]) ∧ w = w' := by
  have : n = -4 ∨ n = -3 ∨ n = -2 ∨ n = -1 ∨ n = 0 ∨ n = 1 ∨ n = 2 ∨ n = 3 ∨ n = 4 := by omega
  clear h1 h2
  rcases this with rfl | rfl | rfl | rfl | rfl | rfl | rfl | rfl | rfl
  all_goals
    go_enter Try.func107, Try.ntmps107
    go_wp2
    go_rounds 2
    go_rounds 2
    go_ret2
    exact ⟨by simp [Tm.sp1, Tm.sp2], rfl⟩
theorem iHalfAdd (a b : Int) (w : World) : Calls Try.prog 18 #[.int .i64 a, .int .i64 b] w fun e w' => e = .returned (.tuple #[.int .i64 (Tm.half1 a b), .int .i64 (Tm.half2 a b)]) ∧ w = w' := by
  by_cases h : (-1 ≤ a ∧ a ≤ 1) ∧ (-1 ≤ b ∧ b ≤ 1)
  · obtain ⟨⟨h1, h2⟩, h3, h4⟩ := h
    go_enter Try.func18, Try.ntmps18
    go_wp2_with (first | (go_at_call 71; refine (iSplit _ _ (by omega) (by omega)).mono ?_; rintro e w' ⟨rfl, rfl⟩) | (go_at_call 70; go_in) | (go_at_call 26; go_in))
    all_goals (go_ret2; exact ⟨ret_int2 (by grind [Tm.half1, Tm.isT]) (by grind [Tm.half2, Tm.isT]), rfl⟩)
  · go_enter Try.func18, Try.ntmps18
    go_wp2_with (first | (go_at_call 71; exfalso; grind) | (go_at_call 70; go_in) | (go_at_call 26; go_in))
    all_goals (go_ret2; exact ⟨ret_int2 (by grind [Tm.half1, Tm.isT]) (by grind [Tm.half2, Tm.isT]), rfl⟩)
theorem iFullAdd (a b c : Int) (w : World) : Calls Try.prog 25 #[.int .i64 a, .int .i64 b, .int .i64 c] w fun e w' => e = .returned (.tuple #[.int .i64 (Tm.full1 a b c), .int .i64 (Tm.full2 a b c)]) ∧ w = w' := by
  by_cases h : (-1 ≤ a ∧ a ≤ 1) ∧ (-1 ≤ b ∧ b ≤ 1) ∧ (-1 ≤ c ∧ c ≤ 1)
  · obtain ⟨⟨h1, h2⟩, ⟨h3, h4⟩, h5, h6⟩ := h
    go_enter Try.func25, Try.ntmps25
    go_wp2_with (first | (go_at_call 71; refine (iSplit _ _ (by omega) (by omega)).mono ?_; rintro e w' ⟨rfl, rfl⟩) | (go_at_call 70; go_in) | (go_at_call 26; go_in))
    all_goals (go_ret2; exact ⟨ret_int2 (by grind [Tm.full1, Tm.isT]) (by grind [Tm.full2, Tm.isT]), rfl⟩)
  · go_enter Try.func25, Try.ntmps25
    go_wp2_with (first | (go_at_call 71; exfalso; grind) | (go_at_call 70; go_in) | (go_at_call 26; go_in))
    all_goals (go_ret2; exact ⟨ret_int2 (by grind [Tm.full1, Tm.isT]) (by grind [Tm.full2, Tm.isT]), rfl⟩)
theorem sHalfAdd (a b : Int) (w : World) : Calls Try.prog 102 #[.int .i64 a, .int .i64 b] w fun e w' => e = .returned (.tuple #[.int .i64 (Tm.half1 a b), .int .i64 (Tm.half2 a b)]) ∧ w = w' := by
  by_cases h : (-1 ≤ a ∧ a ≤ 1) ∧ (-1 ≤ b ∧ b ≤ 1)
  · obtain ⟨⟨h1, h2⟩, h3, h4⟩ := h
    go_enter Try.func102, Try.ntmps102
    go_wp2_with (first | (go_at_call 107; refine (sParts _ _ (by omega) (by omega)).mono ?_; rintro e w' ⟨rfl, rfl⟩) | (go_at_call 106; go_in) | (go_at_call 90; go_in) | (go_at_call 91; go_in))
    all_goals (go_ret2; exact ⟨ret_int2 (by grind [Tm.half1, Tm.isT]) (by grind [Tm.half2, Tm.isT]), rfl⟩)
  · go_enter Try.func102, Try.ntmps102
    go_wp2_with (first | (go_at_call 107; exfalso; grind) | (go_at_call 106; go_in) | (go_at_call 90; go_in) | (go_at_call 91; go_in))
    all_goals (go_ret2; exact ⟨ret_int2 (by grind [Tm.half1, Tm.isT]) (by grind [Tm.half2, Tm.isT]), rfl⟩)
theorem sIn (x a b : Int) (w : World) : Calls Try.prog 91 #[.int .i64 x, .int .i64 a, .int .i64 b] w fun e w' => e = .returned (.bool (Tm.inB x a b)) ∧ w = w' := by
  go_enter Try.func91, Try.ntmps91
  go_wp2
  all_goals (go_ret; exact ⟨ret_bool (by grind [Tm.inB]), rfl⟩)
end Go.Proofs.Ytgaenbpbfhpioaa

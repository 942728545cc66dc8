/- The program's test that numbers lie below a bound. -/
import Derived.Test.YteklgngooflhlaaGMath
import Derived.Test.YteklgngooflhlaaRow
namespace Go.Proofs.Yteklgngooflhlaa
set_option maxRecDepth 20000
open Go.RowKit
theorem iAreBefore (e : Int) (a : Option Addr) (n cap : Nat) (xs : List Int) (w : World) (h : Ints w a n cap xs) : Calls Try.prog 81 #[.int .i64 e, .slice a n cap] w fun r w' => r = .returned (.bool (Tm.linesOk e xs)) ∧ w = w' := by
  obtain ⟨x1, x2, x3, x4⟩ := h
  subst x1
  unfold maxLen at x3
  go_enter Try.func81, Try.ntmps81
  go_wp2
  go_loop [9] (fun i => ∃ k : Nat, k ≤ xs.length ∧ i = .int .i64 k ∧ Hid (∀ q, q < k → 0 ≤ xs.getD q 0 ∧ xs.getD q 0 < e)) (fun i => xs.length - (intOf i).toNat)
  case atStart => exact ⟨0, by omega, rfl, Lib.hid (fun q hq => by omega)⟩
  case round =>
    obtain ⟨k, hk, rfl, GK⟩ := hrel
    by_cases hlt : k < xs.length
    · rcases x4 with h0 | ⟨b, o, rfl, hbl, hc⟩
      · omega
      have c1 := hc k hlt
      obtain ⟨x, hx⟩ : ∃ x, x = xs.getD k 0 := ⟨_, rfl⟩
      rw [← hx] at c1
      have XX := Lib.hid hx
      clear hc hx
      by_cases c : 0 ≤ x ∧ x < e
      · obtain ⟨c0, c2⟩ := c
        have GK2 : Hid (∀ q, q < k + 1 → 0 ≤ xs.getD q 0 ∧ xs.getD q 0 < e) := Lib.hid fun q hq => by
          by_cases e : q = k
          · subst e; rw [← XX.out]; omega
          · exact GK.out q (by omega)
        clear GK
        go_wp2
        go_round
        case rel => exact ⟨k + 1, by omega, by go_num, GK2⟩
        case measure => simp [intOf]; omega
      · have NO : Hid (false = Tm.linesOk e xs) := Lib.hid (by rw [Tm.linesOk_no hlt (by rw [← XX.out]; exact c)])
        rcases Int.lt_or_le x 0 with c0 | c0
        · clear c
          go_wp2
          go_ret
          exact ⟨ret_bool NO.out, rfl⟩
        · have c2 : e ≤ x := by omega
          clear c
          go_wp2
          go_ret
          exact ⟨ret_bool NO.out, rfl⟩
    · obtain rfl : k = xs.length := by omega
      go_wp2
      go_ret
      exact ⟨ret_bool (by rw [Tm.linesOk_of GK.out]), rfl⟩
end Go.Proofs.Yteklgngooflhlaa

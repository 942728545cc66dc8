/- The program's test that numbers lie below a bound. The program's spans: numbers that lie outside. slices.Equal of integers. -/
import Derived.Test.YtjbmgppgkgacpaaGMath
import Derived.Test.YtjbmgppgkgacpaaRow
import Derived.Test.YtjbmgppgkgacpaaMath
namespace Go.Proofs.Ytjbmgppgkgacpaa
set_option maxRecDepth 20000
open Go.RowKit
theorem iAreBefore (e : Int) (a : Option Addr) (n cap : Nat) (xs : List Int) (w : World) (h : Ints w a n cap xs) : Calls Try.prog 73 #[.int .i64 e, .slice a n cap] w fun r w' => r = .returned (.bool (Tm.linesOk e xs)) ∧ w = w' := by
  obtain ⟨x1, x2, x3, x4⟩ := h
  subst x1
  unfold maxLen at x3
  go_enter Try.func73, Try.ntmps73
  go_wp2
  go_loop [9] (fun i => ∃ k : Nat, k ≤ xs.length ∧ i = .int .i64 k ∧ Hid (∀ q, q < k → 0 ≤ xs.getD q 0 ∧ xs.getD q 0 < e)) (fun i => xs.length - (intOf i).toNat)
  case atStart => exact ⟨0, by omega, rfl, Lib.hid (fun q hq => by omega)⟩
  case round =>
    obtain ⟨k, hk, rfl, GK⟩ := hrel
    by_cases hlt : k < xs.length
    · rcases x4 with h0 | ⟨b, o, rfl, hbl, hc⟩
      · omega
      have c1 := hc k hlt
      obtain ⟨x, hx⟩ : ∃ x, x = xs.getD k 0 := ⟨_, rfl⟩
      rw [← hx] at c1
      have XX := Lib.hid hx
      clear hc hx
      by_cases c : 0 ≤ x ∧ x < e
      · obtain ⟨c0, c2⟩ := c
        have GK2 : Hid (∀ q, q < k + 1 → 0 ≤ xs.getD q 0 ∧ xs.getD q 0 < e) := Lib.hid fun q hq => by
          by_cases e : q = k
          · subst e; rw [← XX.out]; omega
          · exact GK.out q (by omega)
        clear GK
        go_wp2
        go_round
        case rel => exact ⟨k + 1, by omega, by go_num, GK2⟩
        case measure => simp [intOf]; omega
      · have NO : Hid (false = Tm.linesOk e xs) := Lib.hid (by rw [Tm.linesOk_no hlt (by rw [← XX.out]; exact c)])
        rcases Int.lt_or_le x 0 with c0 | c0
        · clear c
          go_wp2
          go_ret
          exact ⟨ret_bool NO.out, rfl⟩
        · have c2 : e ≤ x := by omega
          clear c
          go_wp2
          go_ret
          exact ⟨ret_bool NO.out, rfl⟩
    · obtain rfl : k = xs.length := by omega
      go_wp2
      go_ret
      exact ⟨ret_bool (by rw [Tm.linesOk_of GK.out]), rfl⟩
namespace Tm
/-- Some number is not from lo to hi. -/
def outs (lo hi : Int) (xs : List Int) : Bool := xs.any fun x => !inB x lo hi
theorem outs_no {lo hi : Int} {xs : List Int} (h : ∀ q, q < xs.length → inB (xs.getD q 0) lo hi = true) : outs lo hi xs = false := by
  rw [outs, List.any_eq_false]
  intro x hx
  obtain ⟨i, hi, rfl⟩ := List.getElem_of_mem hx
  have := h i hi
  rw [List.getD_eq_getElem?_getD, List.getElem?_eq_getElem hi] at this
  simp only [Option.getD_some] at this
  rw [this]; simp
theorem outs_yes {lo hi : Int} {xs : List Int} {q : Nat} (hq : q < xs.length) (h : inB (xs.getD q 0) lo hi = false) : outs lo hi xs = true := by
  rw [outs, List.any_eq_true]
  rw [List.getD_eq_getElem?_getD, List.getElem?_eq_getElem hq] at h
  simp only [Option.getD_some] at h
  exact ⟨_, List.getElem_mem hq, by rw [h]; rfl⟩
end Tm
end Go.Proofs.Ytjbmgppgkgacpaa

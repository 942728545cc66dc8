/- Contracts of the program's functions of words, on: rounded and joined words, sums, reversed words. -/
import Derived.Test.YteklgngooflhlaaWI2
import Derived.Deep.RegionLaw
namespace Go.Proofs.Yteklgngooflhlaa
set_option maxRecDepth 20000
open Go.RowKit
theorem sq_one {a : Int} (h : -1 ≤ a ∧ a ≤ 1) (h0 : a ≠ 0) : a * a = 1 := by
  rcases (show a = -1 ∨ a = 0 ∨ a = 1 by omega) with rfl | rfl | rfl <;> simp_all
theorem iWeightOf (a : Option Addr) (n cap : Nat) (xs : List Int) (w : World) (h : Ints w a n cap xs) : Calls Try.prog 86 #[.slice a n cap] w fun e w' => e = .returned (.int .i64 (Tm.wgtW xs)) ∧ w = w' := by
  have H := Lib.hid h
  obtain rfl : n = xs.length := h.1.symm
  clear h
  by_cases hw : Tm.isW xs = true
  · have hl := (Tm.isW_iff xs).1 hw
    obtain ⟨-, l1, l2⟩ := hl
    go_enter Try.func86, Try.ntmps86
    go_wp2_with ((go_at_call 88; refine (iIsWord _ _ _ xs _ H.out).mono ?_; rintro e w1 ⟨rfl, rfl⟩))
    have HW := Lib.hid hw
    clear hw
    go_loop [3, 11] (fun v i => ∃ k : Nat, k ≤ xs.length ∧ i = .int .i64 k ∧ v = .int .i64 (Tm.sqT xs k)) (fun _ i => xs.length - (intOf i).toNat)
    case atStart => exact ⟨0, by omega, rfl, rfl⟩
    case round =>
      obtain ⟨k, hk, rfl, rfl⟩ := hrel
      by_cases hlt : k < xs.length
      · rcases H.out.2.2.2 with e | ⟨b, o, rfl, hbl, hc⟩
        · omega
        have c1 := hc k hlt
        have sb := Tm.sqT_bd HW.out k
        have ex := getD_at xs k hlt
        have E : Hid (Tm.sqT xs (k + 1) = Tm.sqT xs k + xs[k] * xs[k]) := by rw [ex]; rfl
        have T := Lib.hid (Tm.isW_at HW.out k)
        rw [← ex] at c1 T
        obtain ⟨s1, s2⟩ := sb
        clear hc ex
        by_cases h0 : xs[k] = 0
        · have h0' : (xs[k] != 0) = false := by simp [h0]
          have E2 : Hid (Tm.sqT xs (k + 1) = Tm.sqT xs k) := by refine Lib.hid ?_; rw [E.out, h0]; simp
          clear h0
          go_wp2
          exact ⟨⟨k + 1, by omega, by go_num, val_int (by rw [E2.out])⟩, by simp [intOf]; omega⟩
        · have h0' : (xs[k] != 0) = true := by simp [h0]
          have E2 : Hid (Tm.sqT xs (k + 1) = Tm.sqT xs k + 1) := by refine Lib.hid ?_; rw [E.out, sq_one T.out h0]
          clear h0
          go_wp2
          exact ⟨⟨k + 1, by omega, by go_num, val_int (by rw [E2.out])⟩, by simp [intOf]; omega⟩
      · obtain rfl : k = xs.length := by omega
        go_wp2
        go_ret
        exact ⟨ret_int (by rw [Tm.wgtW, if_pos HW.out]), rfl⟩
  · simp only [Bool.not_eq_true] at hw
    go_enter Try.func86, Try.ntmps86
    go_wp2_with ((go_at_call 88; refine (iIsWord _ _ _ xs _ H.out).mono ?_; rintro e w1 ⟨rfl, rfl⟩))
    go_ret
    exact ⟨ret_int (by rw [Tm.wgtW, hw]; rfl), rfl⟩
end Go.Proofs.Yteklgngooflhlaa

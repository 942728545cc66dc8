/- The program's sum of the trits of a word. -/
import Derived.Test.YtfmpnkckaceigaaWI
namespace Go.Proofs.Ytfmpnkckaceigaa
set_option maxRecDepth 20000
open Go.RowKit
theorem iSumOf (a : Option Addr) (n cap : Nat) (xs : List Int) (w : World) (h : Ints w a n cap xs) : Calls Try.prog 50 #[.slice a n cap] w fun e w' => e = .returned (.int .i64 (Tm.sumW xs)) ∧ w = w' := by
  have H := Lib.hid h
  obtain rfl : n = xs.length := h.1.symm
  clear h
  by_cases hw : Tm.isW xs = true
  · have hl := (Tm.isW_iff xs).1 hw
    obtain ⟨-, l1, l2⟩ := hl
    go_enter Try.func50, Try.ntmps50
    go_wp2_with ((go_at_call 56; refine (iIsWord _ _ _ xs _ H.out).mono ?_; rintro e w1 ⟨rfl, rfl⟩))
    have HW := Lib.hid hw
    clear hw
    go_loop [3, 11] (fun v i => ∃ k : Nat, k ≤ xs.length ∧ i = .int .i64 k ∧ v = .int .i64 (Tm.sumT xs k)) (fun _ i => xs.length - (intOf i).toNat)
    case atStart => exact ⟨0, by omega, rfl, rfl⟩
    case round =>
      obtain ⟨k, hk, rfl, rfl⟩ := hrel
      by_cases hlt : k < xs.length
      · rcases H.out.2.2.2 with e | ⟨b, o, rfl, hbl, hc⟩
        · omega
        have c1 := hc k hlt
        have tb := Tm.isW_at HW.out k
        have sb := Tm.sumT_bd HW.out k
        have ex := getD_at xs k hlt
        have E : Hid (Tm.sumT xs (k + 1) = Tm.sumT xs k + xs[k]) := by rw [ex]; rfl
        rw [← ex] at c1 tb
        obtain ⟨t1, t2⟩ := tb
        obtain ⟨s1, s2⟩ := sb
        clear hc ex
        go_wp2
        exact ⟨⟨k + 1, by omega, by go_num, val_int (by rw [E.out])⟩, by simp [intOf]; omega⟩
      · obtain rfl : k = xs.length := by omega
        go_wp2
        go_ret
        exact ⟨ret_int (by rw [Tm.sumW, if_pos HW.out]), rfl⟩
  · simp only [Bool.not_eq_true] at hw
    go_enter Try.func50, Try.ntmps50
    go_wp2_with ((go_at_call 56; refine (iIsWord _ _ _ xs _ H.out).mono ?_; rintro e w1 ⟨rfl, rfl⟩))
    go_ret
    exact ⟨ret_int (by rw [Tm.sumW, hw]; rfl), rfl⟩
end Go.Proofs.Ytfmpnkckaceigaa

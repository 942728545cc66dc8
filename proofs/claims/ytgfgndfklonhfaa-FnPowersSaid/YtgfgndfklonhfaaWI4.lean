/- Contracts of the program's functions of words, on: rounded and joined words, sums, reversed words. -/
import Derived.Test.YtgfgndfklonhfaaWI2
import Derived.Deep.RegionLaw
namespace Go.Proofs.Ytgfgndfklonhfaa
set_option maxRecDepth 20000
open Go.RowKit
theorem iCanJoin (a : Option Addr) (n cap : Nat) (xs : List Int) (b : Option Addr) (m cap2 : Nat) (ys : List Int) (w : World) (h : Ints w a n cap xs) (h2 : Ints w b m cap2 ys) : Calls Try.prog 29 #[.slice a n cap, .slice b m cap2] w fun e w' => e = .returned (.bool (Tm.joinOk xs ys)) ∧ w = w' := by
  have H := Lib.hid h
  have H2 := Lib.hid h2
  obtain rfl : n = xs.length := h.1.symm
  obtain rfl : m = ys.length := h2.1.symm
  clear h h2
  by_cases hx : Tm.isW xs = true
  · by_cases hy : Tm.isW ys = true
    · have l1 := ((Tm.isW_iff xs).1 hx).2.2
      have l2 := ((Tm.isW_iff ys).1 hy).2.2
      go_enter Try.func29, Try.ntmps29
      go_wp2_with fail
      refine (iIsWord a _ cap xs _ H.out).mono ?_
      rintro e w' ⟨rfl, rfl⟩
      go_wp2_with fail
      refine (iIsWord b _ cap2 ys _ H2.out).mono ?_
      rintro e w' ⟨rfl, rfl⟩
      go_wp2
      go_ret
      exact ⟨ret_bool (by rw [Tm.joinOk, hx, hy, Bool.eq_iff_iff]; simp; try omega), rfl⟩
    · simp only [Bool.not_eq_true] at hy
      go_enter Try.func29, Try.ntmps29
      go_wp2_with fail
      refine (iIsWord a _ cap xs _ H.out).mono ?_
      rintro e w' ⟨rfl, rfl⟩
      go_wp2_with fail
      refine (iIsWord b _ cap2 ys _ H2.out).mono ?_
      rintro e w' ⟨rfl, rfl⟩
      go_wp2
      go_ret
      exact ⟨ret_bool (by simp [Tm.joinOk, hy]), rfl⟩
  · simp only [Bool.not_eq_true] at hx
    go_enter Try.func29, Try.ntmps29
    go_wp2_with fail
    refine (iIsWord a _ cap xs _ H.out).mono ?_
    rintro e w' ⟨rfl, rfl⟩
    go_wp2
    go_ret
    exact ⟨ret_bool (by simp [Tm.joinOk, hx]), rfl⟩
end Go.Proofs.Ytgfgndfklonhfaa

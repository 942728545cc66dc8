/- The model's floating numbers: comparing, scaling, sums, products, quotients. -/
import Derived.Test.YtgkljlmfflbejaaFS2
namespace Go.Proofs.Ytgkljlmfflbejaa
set_option maxRecDepth 20000
open Go.RowKit
theorem quiet_here {P : Program} {f : FuncId} {args : Array Value} {w : World} {n : Nat} {v : Value}
    (h : Calls P f args (w.drewN n) fun e w' => e = .returned v ∧ w.drewN n = w') : Calls P f args (w.drewN n) fun e w'' => e = .returned v ∧ ∃ m, w'' = w.drewN m :=
  h.mono fun _ _ ⟨he, hm⟩ => ⟨he, n, hm.symm⟩
namespace Tm
theorem ad_eq {xs ys : List Int} {a b : Int} (h : isF xs a = true) (k : isF ys b = true) : adOk xs a ys b = ofOk (sumN xs a ys b) (sumE xs a ys b) ∧ adD xs a ys b = fD (sumN xs a ys b) (sumE xs a ys b) ∧ adE xs a ys b = fE (sumN xs a ys b) (sumE xs a ys b) := by
  have e : adOk xs a ys b = ofOk (sumN xs a ys b) (sumE xs a ys b) := by rw [adOk, h, k]; rfl
  exact ⟨e, by rw [adD, e, fD], by rw [adE, e, fE]⟩
theorem ml_eq {xs ys : List Int} {a b : Int} (h : isF xs a = true) (k : isF ys b = true) : mlOk xs a ys b = ofOk (val xs * val ys) (a + b) ∧ mlD xs a ys b = fD (val xs * val ys) (a + b) ∧ mlE xs a ys b = fE (val xs * val ys) (a + b) := by
  have e : mlOk xs a ys b = ofOk (val xs * val ys) (a + b) := by rw [mlOk, h, k]; rfl
  exact ⟨e, by rw [mlD, e, fD], by rw [mlE, e, fE]⟩
theorem scl_eq {xs : List Int} {a by_ : Int} (h : isF xs a = true) (k : inB by_ (-100) 100 = true) : sclOk xs a by_ = ofOk (val xs) (a + by_) ∧ sclD xs a by_ = fD (val xs) (a + by_) ∧ sclE xs a by_ = fE (val xs) (a + by_) := by
  have e : sclOk xs a by_ = ofOk (val xs) (a + by_) := by rw [sclOk, h, k]; rfl
  exact ⟨e, by rw [sclD, e, fD], by rw [sclE, e, fE]⟩
theorem dv_eq {xs ys : List Int} {a b : Int} (h : isF xs a = true) (k : isF ys b = true) (z : val ys ≠ 0) : dvOk xs a ys b = ofOk (dvN xs ys) (a - b - 9) ∧ dvD xs a ys b = fD (dvN xs ys) (a - b - 9) ∧ dvE xs a ys b = fE (dvN xs ys) (a - b - 9) := by
  have e : dvOk xs a ys b = ofOk (dvN xs ys) (a - b - 9) := by rw [dvOk, h, k, decide_eq_true z]; rfl
  exact ⟨e, by rw [dvD, e, fD], by rw [dvE, e, fE]⟩
theorem near_e_bd {x y a b : Int} (ha : -20 ≤ a ∧ a ≤ 20) (hb : -20 ≤ b ∧ b ≤ 20) : -20 ≤ nearE x y a b ∧ nearE x y a b ≤ 20 := by
  unfold nearE
  repeat' split
  all_goals omega
end Tm
end Go.Proofs.Ytgkljlmfflbejaa

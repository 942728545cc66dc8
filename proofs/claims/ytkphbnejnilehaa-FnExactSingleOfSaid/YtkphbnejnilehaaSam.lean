/- The laws' own comparison of floating-point numbers: a number is the same as itself. -/
import Derived.Test.YtkphbnejnilehaaWide
import Derived.Test.YtkphbnejnilehaaFS4
import Derived.Test.YtkphbnejnilehaaBox
namespace Go.Proofs.Ytkphbnejnilehaa
open Go.RowKit
set_option maxRecDepth 20000 in
set_option maxHeartbeats 4000000 in
theorem samFlt (v : Nat) (w : World) (g : Tm.Good v) : Calls Try.prog 41 #[.float .f64 v, .float .f64 v] w fun r w' => r = .returned (.bool true) ∧ Below w.heap.size w w' := by
  obtain ⟨hn, hz⟩ := g
  by_cases c : FloatKind.f64.format.order v 0 = some Ordering.eq
  · rcases hz c with rfl | rfl
    · clear hz hn
      have Q : Hid (∀ w, (binOp .quo 46 (.float .f64 4607182418800017408) (.float .f64 0)).run Try.prog w = .ok (.float .f64 9218868437227405312) w) := Lib.hid fun w => run_float_arith w .quo _ .f64 _ _ _ (by kernel_rfl)
      have gt : FloatKind.f64.format.order 9218868437227405312 0 = some Ordering.gt := by kernel_rfl
      have q_ := Q.out
      go_enter Try.func41, Try.ntmps41
      go_wp2_with fail
      go_ret
      exact ⟨rfl, Below.refl _ _⟩
    · clear hz
      have Q : Hid (∀ w, (binOp .quo 46 (.float .f64 4607182418800017408) (.float .f64 9223372036854775808)).run Try.prog w = .ok (.float .f64 18442240474082181120) w) := Lib.hid fun w => run_float_arith w .quo _ .f64 _ _ _ (by kernel_rfl)
      have lt : FloatKind.f64.format.order 18442240474082181120 0 = some Ordering.lt := by kernel_rfl
      have q_ := Q.out
      go_enter Try.func41, Try.ntmps41
      go_wp2_with fail
      go_ret
      exact ⟨by simp, Below.refl _ _⟩
  · clear hz
    go_enter Try.func41, Try.ntmps41
    go_wp2_with fail
    go_ret
    exact ⟨by simp, Below.refl _ _⟩
end Go.Proofs.Ytkphbnejnilehaa

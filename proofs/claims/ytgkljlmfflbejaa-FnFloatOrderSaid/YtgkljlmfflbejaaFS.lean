/- The model's floating numbers. -/
import Derived.Test.YtgkljlmfflbejaaFMath
import Derived.Test.YtgkljlmfflbejaaPS
import Derived.Test.YtgkljlmfflbejaaOwn
import Derived.Test.YtgkljlmfflbejaaTurn
namespace Go.Proofs.Ytgkljlmfflbejaa
set_option maxRecDepth 20000
open Go.RowKit
@[go_sem] theorem lt_one (a s : Nat) : (a < a + 1 + s) = True := by simp; omega
@[go_sem] theorem lt_two (a s t : Nat) : (a < a + 1 + s + t) = True := by simp; omega
@[go_sem] theorem lt_three (a s t u : Nat) : (a < a + 1 + s + t + u) = True := by simp; omega
@[go_sem] theorem lt_one2 (a s : Nat) : (a + 1 < a + 1 + 1 + s) = True := by simp; omega
@[go_sem] theorem lt_two2 (a s t : Nat) : (a + 1 < a + 1 + 1 + s + t) = True := by simp; omega
@[go_sem] theorem lt_zero2 (a s : Nat) : (a < a + 1 + 1 + s) = True := by simp; omega
@[go_sem] theorem lt_zero3 (a s t : Nat) : (a < a + 1 + 1 + s + t) = True := by simp; omega
/-- A float is handed back, its digits new. -/
def RetF (e : Nat) (w : World) (xs : List Int) (x : Int) (r : Ending) (w' : World) : Prop :=
  ∃ a cap, r = .returned (.agg #[.slice a xs.length cap, .int .i64 x]) ∧ w'.ownsRow w.heap.size e 1 (.slice a xs.length cap) xs.length (xs.map (Value.int .i64)) ∧ Below w.heap.size w w' ∧ xs.length ≤ 1048576
def RetFB (e : Nat) (w : World) (xs : List Int) (x : Int) (ok : Bool) (r : Ending) (w' : World) : Prop :=
  ∃ a cap, r = .returned (.tuple #[.agg #[.slice a xs.length cap, .int .i64 x], .bool ok]) ∧ w'.ownsRow w.heap.size e 1 (.slice a xs.length cap) xs.length (xs.map (Value.int .i64)) ∧ Below w.heap.size w w' ∧ xs.length ≤ 1048576
theorem ret_own_f {e : Nat} {w w' : World} {xs : List Int} {x : Int} {v : Value} {n : Nat} (h : w'.ownsRow w.heap.size e 1 v n (xs.map (Value.int .i64))) (hb : Below w.heap.size w w') (hl : n ≤ 1048576 := by omega) : RetF e w xs x (.returned (.agg #[v, .int .i64 x])) w' := by
  obtain ⟨a, cap, rfl⟩ := own_form h
  have hn : n = xs.length := by have := h.1; simp at this; omega
  subst hn
  exact ⟨a, cap, rfl, h, hb, hl⟩
theorem ret_own_fb {e : Nat} {w w' : World} {xs : List Int} {x : Int} {v : Value} {n : Nat} {ok : Bool} (h : w'.ownsRow w.heap.size e 1 v n (xs.map (Value.int .i64))) (hb : Below w.heap.size w w') (hl : n ≤ 1048576 := by omega) : RetFB e w xs x ok (.returned (.tuple #[.agg #[v, .int .i64 x], .bool ok])) w' := by
  obtain ⟨a, cap, rfl⟩ := own_form h
  have hn : n = xs.length := by have := h.1; simp at this; omega
  subst hn
  exact ⟨a, cap, rfl, h, hb, hl⟩
theorem ret_nil_f {e : Nat} {w w' : World} (hb : Below w.heap.size w w') {x : Int} : RetF e w [] x (.returned (.agg #[.slice none 0 0, .int .i64 x])) w' := ret_own_f (World.ownsRow_nil _ _ _ _) hb
theorem ret_nil_fb {e : Nat} {w w' : World} (hb : Below w.heap.size w w') {x : Int} {ok : Bool} : RetFB e w [] x ok (.returned (.tuple #[.agg #[.slice none 0 0, .int .i64 x], .bool ok])) w' := ret_own_fb (World.ownsRow_nil _ _ _ _) hb
namespace Tm
theorem top6_pad (n : Int) (k j : Nat) (h : j = 6 - k) : (List.replicate j 0 ++ wordL n k).drop (j + k - 6) = top6 n k := by
  subst h
  rw [top6]; congr 1; omega
end Tm
end Go.Proofs.Ytgkljlmfflbejaa

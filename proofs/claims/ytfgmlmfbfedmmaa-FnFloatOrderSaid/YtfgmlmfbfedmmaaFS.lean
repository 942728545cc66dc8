/- The model's floating numbers. -/
import Derived.Test.YtfgmlmfbfedmmaaFMath
import Derived.Test.YtfgmlmfbfedmmaaPS
import Derived.Test.YtfgmlmfbfedmmaaOwn
namespace Go.Proofs.Ytfgmlmfbfedmmaa
open Go.RowKit
@[go_sem] theorem lt_one (a s : Nat) : (a < a + 1 + s) = True := by simp; omega
@[go_sem] theorem lt_two (a s t : Nat) : (a < a + 1 + s + t) = True := by simp; omega
@[go_sem] theorem lt_three (a s t u : Nat) : (a < a + 1 + s + t + u) = True := by simp; omega
@[go_sem] theorem lt_one2 (a s : Nat) : (a + 1 < a + 1 + 1 + s) = True := by simp; omega
@[go_sem] theorem lt_two2 (a s t : Nat) : (a + 1 < a + 1 + 1 + s + t) = True := by simp; omega
@[go_sem] theorem lt_zero2 (a s : Nat) : (a < a + 1 + 1 + s) = True := by simp; omega
@[go_sem] theorem lt_zero3 (a s t : Nat) : (a < a + 1 + 1 + s + t) = True := by simp; omega
/-- A float is handed back, its digits new. -/
def RetF (e : Nat) (w : World) (xs : List Int) (x : Int) (r : Ending) (w' : World) : Prop :=
  ∃ a cap, r = .returned (.agg #[.slice a xs.length cap, .int .i64 x]) ∧ w'.ownsRow w.heap.size e 1 (.slice a xs.length cap) xs.length (xs.map (Value.int .i64)) ∧ Below w.heap.size w w' ∧ xs.length ≤ 1048576
def RetFB (e : Nat) (w : World) (xs : List Int) (x : Int) (ok : Bool) (r : Ending) (w' : World) : Prop :=
  ∃ a cap, r = .returned (.tuple #[.agg #[.slice a xs.length cap, .int .i64 x], .bool ok]) ∧ w'.ownsRow w.heap.size e 1 (.slice a xs.length cap) xs.length (xs.map (Value.int .i64)) ∧ Below w.heap.size w w' ∧ xs.length ≤ 1048576
theorem ret_own_f {e : Nat} {w w' : World} {xs : List Int} {x : Int} {v : Value} {n : Nat} (h : w'.ownsRow w.heap.size e 1 v n (xs.map (Value.int .i64))) (hb : Below w.heap.size w w') (hl : n ≤ 1048576 := by omega) : RetF e w xs x (.returned (.agg #[v, .int .i64 x])) w' := by
  obtain ⟨a, cap, rfl⟩ := own_form h
  have hn : n = xs.length := by have := h.1; simp at this; omega
  subst hn
  exact ⟨a, cap, rfl, h, hb, hl⟩
theorem ret_own_fb {e : Nat} {w w' : World} {xs : List Int} {x : Int} {v : Value} {n : Nat} {ok : Bool} (h : w'.ownsRow w.heap.size e 1 v n (xs.map (Value.int .i64))) (hb : Below w.heap.size w w') (hl : n ≤ 1048576 := by omega) : RetFB e w xs x ok (.returned (.tuple #[.agg #[v, .int .i64 x], .bool ok])) w' := by
  obtain ⟨a, cap, rfl⟩ := own_form h
  have hn : n = xs.length := by have := h.1; simp at this; omega
  subst hn
  exact ⟨a, cap, rfl, h, hb, hl⟩
theorem ret_nil_f {e : Nat} {w w' : World} (hb : Below w.heap.size w w') {x : Int} : RetF e w [] x (.returned (.agg #[.slice none 0 0, .int .i64 x])) w' := ret_own_f (World.ownsRow_nil _ _ _ _) hb
theorem ret_nil_fb {e : Nat} {w w' : World} (hb : Below w.heap.size w w') {x : Int} {ok : Bool} : RetFB e w [] x ok (.returned (.tuple #[.agg #[.slice none 0 0, .int .i64 x], .bool ok])) w' := ret_own_fb (World.ownsRow_nil _ _ _ _) hb
/-- A cell of the call's own that holds the result: what it holds makes no difference to the blocks behind it. -/
theorem gw_alloc_heap (w : World) (o1 o2 : Obj) (p : Regrown) (k : Nat) (h : k ≠ w.heap.size) : (gw (w.alloc o2) p).heap[k]? = (gw (w.alloc o1) p).heap[k]? := by
  have e : ∀ o : Obj, (gw (w.alloc o) p).heap = (w.heap.push o) ++ p.os := fun o => rfl
  rw [e, e]
  rcases Nat.lt_or_ge k w.heap.size with c | c
  · rw [Array.getElem?_append_left (by simp; omega), Array.getElem?_append_left (by simp; omega), Array.getElem?_push_lt c, Array.getElem?_push_lt c]
  · rw [Array.getElem?_append_right (by simp; omega), Array.getElem?_append_right (by simp; omega)]; simp
theorem own_gw {w : World} {o1 o2 : Obj} {p : Regrown} {B e s n : Nat} {v : Value} {xs : List Value} (h : (gw (w.alloc o1) p).ownsRow B e s v n xs) (hB : w.heap.size + 1 ≤ B) : (gw (w.alloc o2) p).ownsRow B e s v n xs :=
  own_stable h fun k hk => gw_alloc_heap w o1 o2 p k (by have := (h.lt k hk).1; omega)
theorem sZero5 (w : World) : Calls Try.prog 44 #[] w (RetF 3 w (List.replicate 6 0) 0) := by
  obtain ⟨i0, hi, hz0, hz1, hz2⟩ := info_parts infoInt
  go_enter Try.func44, Try.ntmps44
  go_wp2_with (at_make; refine wpList_make_full _ rfl _ _ 23 rfl (w.heap.size + 1) 3 i0 (.int .i64 0) 1 Try.underlying23 hi hz0 hz1 _ _ _ _ (6) rfl rfl (by first | rfl | omega) (by first | rfl | omega) (by rw [hz2]; omega) (by unfold maxLen; omega) (by go_size) ?_)
  intro w1 hown hgrow
  have hb1 := (Below.refl (w.alloc (.cells #[.slice none 0 0, .int .i64 0] 25)).heap.size _).grown hgrow (Nat.le_refl _) (fun k hk => by cases hk)
  obtain ⟨p, rfl⟩ := gw_of_below hb1
  clear hgrow hb1
  have HO := Lib.hid hown
  clear hown
  go_wp2
  go_returns
  exact ret_own_f (xs := List.replicate 6 0) (n := 6) (own_weak (own_gw (by have := HO.out; rw [toList_madeCells_one] at this; exact this) (Nat.le_refl _)) (by omega)) (by (repeat' (first | (with_reducible exact Below.refl _ _) | (with_reducible assumption) | (with_reducible refine below_drewN ?_ _) | (with_reducible refine Below.drew ?_) | (with_reducible refine Below.alloc ?_ ?_ _) | (with_reducible refine Below.setCell ?_ ?_ _) | (with_reducible refine below_gw ?_ ?_ _) | (with_reducible refine below_via ?_ ‹Below _ _ _› ?_) | (with_reducible exact Nat.le_refl _) | (with_reducible refine le_gw ?_ _) | (with_reducible refine le_alloc ?_ _) | (with_reducible refine le_setCell ?_ _ _) | (with_reducible refine le_drew ?_) | (with_reducible refine le_drewN ?_ _) | go_size))) (by omega)
namespace Tm
theorem top6_pad (n : Int) (k j : Nat) (h : j = 6 - k) : (List.replicate j 0 ++ wordL n k).drop (j + k - 6) = top6 n k := by
  subst h
  rw [top6]; congr 1; omega
end Tm
end Go.Proofs.Ytfgmlmfbfedmmaa

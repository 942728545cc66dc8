/- The laws' own small functions, and what they draw. -/
import Derived.Test.YtfnhoiomdjmjhaaDoorDraw
import Derived.Test.YtfnhoiomdjmjhaaDoorRow
namespace Go.Proofs.YtfnhoiomdjmjhaaDoor
set_option maxRecDepth 20000
open Go.RowKit
namespace Tm
def absI (x : Int) : Int := if 0 ≤ x then x else -x
end Tm
set_option maxHeartbeats 800000 in
theorem ints_any (a a' : Option Addr) (n n' cap cap' : Nat) (xs ys : List Int) (w : World) (h : Ints w a n cap xs) (h' : Ints w a' n' cap' ys) : Calls Tryd.prog 10 #[.slice a n cap, .slice a' n' cap'] w fun e w' => e = .returned (.bool (decide (xs = ys))) ∧ Below w.heap.size w w' := by
  obtain ⟨x1, x2, x3, x4⟩ := h
  obtain ⟨y1, y2, y3, y4⟩ := h'
  unfold maxLen at x3 y3
  by_cases hl : n = n'
  · subst hl
    have X1 := Lib.hid x1
    have Y1 := Lib.hid y1
    clear x1 y1
    go_enter Tryd.func10, Tryd.ntmps10
    go_wp2
    go_loopw [13] (fun i wr => ∃ k : Nat, k ≤ n ∧ i = .int .i64 k ∧ Hid (∀ j, j < k → xs.getD j 0 = ys.getD j 0) ∧ ∃ d, wr = w.drewN d) (fun i _ => n - (intOf i).toNat)
    case atStart => exact ⟨0, by omega, rfl, Lib.hid (fun j hj => by omega), 0, rfl⟩
    case round =>
      obtain ⟨k, hk, rfl, E, d, rfl⟩ := hrel
      by_cases hlt : k < n
      · rcases x4 with h0 | ⟨b, o, rfl, hbl, hc⟩
        · omega
        rcases y4 with h0 | ⟨b', o', rfl, hbl', hc'⟩
        · omega
        have c1 := hc k hlt
        have c2 := hc' k hlt
        clear hc hc'
        obtain ⟨x, hx⟩ : ∃ x, x = xs.getD k 0 := ⟨_, rfl⟩
        obtain ⟨y, hy⟩ : ∃ y, y = ys.getD k 0 := ⟨_, rfl⟩
        rw [← hx] at c1
        rw [← hy] at c2
        have HX := Lib.hid hx
        have HY := Lib.hid hy
        clear hx hy
        by_cases e : x = y
        · have e' : (x != y) = false := by simp [e]
          have EE := Lib.hid e
          clear e
          go_wp2
          go_quiet (fail)
          go_wp2
          refine ⟨⟨k + 1, by omega, by go_num, Lib.hid (fun j hj => ?_), d + nq, rfl⟩, by simp [intOf]; omega⟩
          by_cases ej : j = k
          · subst ej; rw [← HX.out, ← HY.out, EE.out]
          · exact E.out j (by omega)
        · have e' : (x != y) = true := by simp [e]
          have EE := Lib.hid e
          clear e
          go_wp2
          go_quiet (fail)
          go_wp2
          go_ret
          refine ⟨ret_bool ?_, by (repeat' (first | (with_reducible exact Below.refl _ _) | (with_reducible assumption) | (with_reducible refine below_drewN ?_ _) | (with_reducible refine Below.drew ?_) | (with_reducible refine Below.alloc ?_ ?_ _) | (with_reducible refine Below.setCell ?_ ?_ _) | (with_reducible refine below_gw ?_ ?_ _) | (with_reducible refine below_via ?_ ‹Below _ _ _› ?_) | (with_reducible exact Nat.le_refl _) | (with_reducible refine le_gw ?_ _) | (with_reducible refine le_alloc ?_ _) | (with_reducible refine le_setCell ?_ _ _) | (with_reducible refine le_drew ?_) | (with_reducible refine le_drewN ?_ _) | go_size))⟩
          symm
          rw [decide_eq_false_iff_not]
          intro e
          apply EE.out
          rw [HX.out, HY.out, e]
      · obtain rfl : k = n := by omega
        go_wp2
        go_ret
        refine ⟨ret_bool ?_, by (repeat' (first | (with_reducible exact Below.refl _ _) | (with_reducible assumption) | (with_reducible refine below_drewN ?_ _) | (with_reducible refine Below.drew ?_) | (with_reducible refine Below.alloc ?_ ?_ _) | (with_reducible refine Below.setCell ?_ ?_ _) | (with_reducible refine below_gw ?_ ?_ _) | (with_reducible refine below_via ?_ ‹Below _ _ _› ?_) | (with_reducible exact Nat.le_refl _) | (with_reducible refine le_gw ?_ _) | (with_reducible refine le_alloc ?_ _) | (with_reducible refine le_setCell ?_ _ _) | (with_reducible refine le_drew ?_) | (with_reducible refine le_drewN ?_ _) | go_size))⟩
        symm
        rw [decide_eq_true_eq]
        apply List.ext_getElem (by rw [X1.out, Y1.out])
        intro j h1 h2
        rw [getD_at xs j h1, getD_at ys j h2]
        exact E.out j (by rw [X1.out] at h1; exact h1)
  · go_enter Tryd.func10, Tryd.ntmps10
    go_wp2
    go_ret
    refine ⟨ret_bool ?_, by (repeat' (first | (with_reducible exact Below.refl _ _) | (with_reducible assumption) | (with_reducible refine below_drewN ?_ _) | (with_reducible refine Below.drew ?_) | (with_reducible refine Below.alloc ?_ ?_ _) | (with_reducible refine Below.setCell ?_ ?_ _) | (with_reducible refine below_gw ?_ ?_ _) | (with_reducible refine below_via ?_ ‹Below _ _ _› ?_) | (with_reducible exact Nat.le_refl _) | (with_reducible refine le_gw ?_ _) | (with_reducible refine le_alloc ?_ _) | (with_reducible refine le_setCell ?_ _ _) | (with_reducible refine le_drew ?_) | (with_reducible refine le_drewN ?_ _) | go_size))⟩
    symm
    rw [decide_eq_false_iff_not]
    intro e
    rw [e] at x1
    omega
/-- A new word. -/
def NewW (p : List Int → Prop) (w : World) (e : Ending) (w' : World) : Prop :=
  ∃ (xs : List Int) (b : Option Addr) (c : Nat), e = .returned (.slice b xs.length c) ∧ Tm.isW xs = true ∧ p xs ∧ w'.ownsRow w.heap.size 3 1 (.slice b xs.length c) xs.length (xs.map (Value.int .i64)) ∧ Below w.heap.size w w'
namespace Tm
def pow3 (k : Nat) : Int := 3 ^ k
theorem pow3_succ (k : Nat) : pow3 (k + 1) = 3 * pow3 k := by simp [pow3, Int.pow_succ]; omega
theorem pow3_pos (k : Nat) : 0 < pow3 k := by induction k with
  | zero => simp [pow3]
  | succ k ih => rw [pow3_succ]; omega
theorem pow3_le {a b : Nat} (h : a ≤ b) : pow3 a ≤ pow3 b := by
  induction b with
  | zero => have : a = 0 := by omega
            subst this; exact Int.le_refl _
  | succ b ih =>
    by_cases e : a = b + 1
    · subst e; exact Int.le_refl _
    · have := ih (by omega); have := pow3_pos b; rw [pow3_succ]; omega
theorem pow3_30 : pow3 30 = 205891132094649 := by rfl
end Tm
namespace Tm
theorem tri_at {k : Nat} (h : k < 3) : isT (([-1, 0, 1] : List Int).getD k 0) = true := by
  match k, h with
  | 0, _ | 1, _ | 2, _ => rfl
end Tm
end Go.Proofs.YtfnhoiomdjmjhaaDoor

/- The laws' own small functions, and what they draw. -/
import Derived.Test.YtfmpnkckaceigaaDraw
import Derived.Test.YtfmpnkckaceigaaRow
namespace Go.Proofs.Ytfmpnkckaceigaa
set_option maxRecDepth 20000
open Go.RowKit
/-- A number of one byte. -/
def AByte (w : World) (e : Ending) (w' : World) : Prop := ∃ x : Int, e = .returned (.int .i64 x) ∧ 0 ≤ x ∧ x ≤ 255 ∧ w = w'
theorem at_any (a : Option Addr) (n cap : Nat) (i : Int) (w : World) (hb : Byts w a n cap) (hn : n ≤ 1048576) (i0 : 0 ≤ i) (i1 : i ≤ 1000) : Calls Try.prog 41 #[.slice a n cap, .int .i64 i] w (AByte w) := by
  obtain ⟨b1, b2, b3⟩ := hb
  unfold maxLen at b2
  obtain ⟨k, rfl⟩ := Int.eq_ofNat_of_zero_le i0
  by_cases hlt : k < n
  · rcases b3 with e | ⟨b, o, rfl, hbl, hc⟩
    · omega
    obtain ⟨x, x0, x1, hx⟩ := hc k hlt
    clear hc
    go_enter Try.func41, Try.ntmps41
    go_wp2
    go_ret
    exact ⟨_, rfl, by omega, by omega, rfl⟩
  · clear b3
    have m := Int.emod_nonneg ((k : Int) * 37 + (n : Int) * 11) (show (256 : Int) ≠ 0 by omega)
    have m2 := Int.emod_lt_of_pos ((k : Int) * 37 + (n : Int) * 11) (show (0 : Int) < 256 by omega)
    go_enter Try.func41, Try.ntmps41
    go_wp2
    go_ret
    refine ⟨_, rfl, ?_, ?_, rfl⟩ <;> (try rw [Int.tmod_eq_emod_of_nonneg (by omega)]) <;> omega
namespace Tm
def absI (x : Int) : Int := if 0 ≤ x then x else -x
end Tm
theorem abs_any (x : Int) (w : World) (h0 : -9223372036854775808 < x) (h1 : x ≤ 9223372036854775807) : Calls Try.prog 46 #[.int .i64 x] w fun e w' => e = .returned (.int .i64 (Tm.absI x)) ∧ w = w' := by
  go_enter Try.func46, Try.ntmps46
  go_wp2
  all_goals (go_ret; exact ⟨ret_int (by unfold Tm.absI; split <;> omega), rfl⟩)
set_option maxHeartbeats 800000 in
theorem ints_any (a a' : Option Addr) (n n' cap cap' : Nat) (xs ys : List Int) (w : World) (h : Ints w a n cap xs) (h' : Ints w a' n' cap' ys) : Calls Try.prog 45 #[.slice a n cap, .slice a' n' cap'] w fun e w' => e = .returned (.bool (decide (xs = ys))) ∧ Below w.heap.size w w' := by
  obtain ⟨x1, x2, x3, x4⟩ := h
  obtain ⟨y1, y2, y3, y4⟩ := h'
  unfold maxLen at x3 y3
  by_cases hl : n = n'
  · subst hl
    have X1 := Lib.hid x1
    have Y1 := Lib.hid y1
    clear x1 y1
    go_enter Try.func45, Try.ntmps45
    go_wp2
    go_loopw [13] (fun i wr => ∃ k : Nat, k ≤ n ∧ i = .int .i64 k ∧ Hid (∀ j, j < k → xs.getD j 0 = ys.getD j 0) ∧ ∃ d, wr = w.drewN d) (fun i _ => n - (intOf i).toNat)
    case atStart => exact ⟨0, by omega, rfl, Lib.hid (fun j hj => by omega), 0, rfl⟩
    case round =>
      obtain ⟨k, hk, rfl, E, d, rfl⟩ := hrel
      by_cases hlt : k < n
      · rcases x4 with h0 | ⟨b, o, rfl, hbl, hc⟩
        · omega
        rcases y4 with h0 | ⟨b', o', rfl, hbl', hc'⟩
        · omega
        have c1 := hc k hlt
        have c2 := hc' k hlt
        clear hc hc'
        obtain ⟨x, hx⟩ : ∃ x, x = xs.getD k 0 := ⟨_, rfl⟩
        obtain ⟨y, hy⟩ : ∃ y, y = ys.getD k 0 := ⟨_, rfl⟩
        rw [← hx] at c1
        rw [← hy] at c2
        have HX := Lib.hid hx
        have HY := Lib.hid hy
        clear hx hy
        by_cases e : x = y
        · have e' : (x != y) = false := by simp [e]
          have EE := Lib.hid e
          clear e
          go_wp2
          go_quiet (fail)
          go_wp2
          refine ⟨⟨k + 1, by omega, by go_num, Lib.hid (fun j hj => ?_), d + nq, rfl⟩, by simp [intOf]; omega⟩
          by_cases ej : j = k
          · subst ej; rw [← HX.out, ← HY.out, EE.out]
          · exact E.out j (by omega)
        · have e' : (x != y) = true := by simp [e]
          have EE := Lib.hid e
          clear e
          go_wp2
          go_quiet (fail)
          go_wp2
          go_ret
          refine ⟨ret_bool ?_, by (repeat' (first | (with_reducible exact Below.refl _ _) | (with_reducible assumption) | (with_reducible refine below_drewN ?_ _) | (with_reducible refine Below.drew ?_) | (with_reducible refine Below.alloc ?_ ?_ _) | (with_reducible refine Below.setCell ?_ ?_ _) | (with_reducible refine below_gw ?_ ?_ _) | (with_reducible refine below_via ?_ ‹Below _ _ _› ?_) | (with_reducible exact Nat.le_refl _) | (with_reducible refine le_gw ?_ _) | (with_reducible refine le_alloc ?_ _) | (with_reducible refine le_setCell ?_ _ _) | (with_reducible refine le_drew ?_) | (with_reducible refine le_drewN ?_ _) | go_size))⟩
          symm
          rw [decide_eq_false_iff_not]
          intro e
          apply EE.out
          rw [HX.out, HY.out, e]
      · obtain rfl : k = n := by omega
        go_wp2
        go_ret
        refine ⟨ret_bool ?_, by (repeat' (first | (with_reducible exact Below.refl _ _) | (with_reducible assumption) | (with_reducible refine below_drewN ?_ _) | (with_reducible refine Below.drew ?_) | (with_reducible refine Below.alloc ?_ ?_ _) | (with_reducible refine Below.setCell ?_ ?_ _) | (with_reducible refine below_gw ?_ ?_ _) | (with_reducible refine below_via ?_ ‹Below _ _ _› ?_) | (with_reducible exact Nat.le_refl _) | (with_reducible refine le_gw ?_ _) | (with_reducible refine le_alloc ?_ _) | (with_reducible refine le_setCell ?_ _ _) | (with_reducible refine le_drew ?_) | (with_reducible refine le_drewN ?_ _) | go_size))⟩
        symm
        rw [decide_eq_true_eq]
        apply List.ext_getElem (by rw [X1.out, Y1.out])
        intro j h1 h2
        rw [getD_at xs j h1, getD_at ys j h2]
        exact E.out j (by rw [X1.out] at h1; exact h1)
  · go_enter Try.func45, Try.ntmps45
    go_wp2
    go_ret
    refine ⟨ret_bool ?_, by (repeat' (first | (with_reducible exact Below.refl _ _) | (with_reducible assumption) | (with_reducible refine below_drewN ?_ _) | (with_reducible refine Below.drew ?_) | (with_reducible refine Below.alloc ?_ ?_ _) | (with_reducible refine Below.setCell ?_ ?_ _) | (with_reducible refine below_gw ?_ ?_ _) | (with_reducible refine below_via ?_ ‹Below _ _ _› ?_) | (with_reducible exact Nat.le_refl _) | (with_reducible refine le_gw ?_ _) | (with_reducible refine le_alloc ?_ _) | (with_reducible refine le_setCell ?_ _ _) | (with_reducible refine le_drew ?_) | (with_reducible refine le_drewN ?_ _) | go_size))⟩
    symm
    rw [decide_eq_false_iff_not]
    intro e
    rw [e] at x1
    omega
/-- A new word. -/
def NewW (p : List Int → Prop) (w : World) (e : Ending) (w' : World) : Prop :=
  ∃ (xs : List Int) (b : Option Addr) (c : Nat), e = .returned (.slice b xs.length c) ∧ Tm.isW xs = true ∧ p xs ∧ w'.ownsRow w.heap.size 3 1 (.slice b xs.length c) xs.length (xs.map (Value.int .i64)) ∧ Below w.heap.size w w'
theorem makeWord_any (a : Option Addr) (n cap : Nat) (most : Int) (w : World) (hb : Byts w a n cap) (hn : n ≤ 1048576) (h1 : 1 ≤ most) (h30 : most ≤ 30) : Calls Try.prog 43 #[.slice a n cap, .int .i64 most] w (NewW (fun xs => (xs.length : Int) ≤ most) w) := by
  have HB := Lib.hid hb
  clear hb
  rcases (show most = 1 ∨ 2 ≤ most by omega) with rfl | h2
  · skip
    go_enter Try.func43, Try.ntmps43
    go_wp2_with fail
    refine (sNew a n cap _ HB.out hn).mono ?_
    rintro e w1 ⟨p, rfl, hp, hc, hbl⟩
    have C1 := Lib.hid hc
    have hs := hbl.size
    have B1 := Lib.hid hbl
    clear hc hbl
    go_wp2_with (go_at_call 68; refine (sDraw2 _ p a n cap 1 _ C1.out (by omega) (by omega)).mono ?_; rintro e w2 ⟨xs, b, c, rfl, hw, hl, ho, hc2, hg⟩)
    have hb2 := B1.out.trans (grown_below hg hp hs)
    have ho2 := own_weak ho hs
    have HO := Lib.hid ho2
    clear hc2 hg ho ho2
    go_wp2
    go_ret
    exact ⟨xs, b, c, rfl, hw, hl, HO.out, hb2⟩
  · skip
    go_enter Try.func43, Try.ntmps43
    go_wp2_with fail
    refine (sNew a n cap _ HB.out hn).mono ?_
    rintro e w1 ⟨p, rfl, hp, hc, hbl⟩
    have C1 := Lib.hid hc
    have hs := hbl.size
    have B1 := Lib.hid hbl
    clear hc hbl
    go_wp2_with (go_at_call 68; refine (sDraw2 _ p a n cap most _ C1.out h1 h30).mono ?_; rintro e w2 ⟨xs, b, c, rfl, hw, hl, ho, hc2, hg⟩)
    have hb2 := B1.out.trans (grown_below hg hp hs)
    have ho2 := own_weak ho hs
    have HO := Lib.hid ho2
    clear hc2 hg ho ho2
    go_wp2
    go_ret
    exact ⟨xs, b, c, rfl, hw, hl, HO.out, hb2⟩
namespace Tm
def pow3 (k : Nat) : Int := 3 ^ k
theorem pow3_succ (k : Nat) : pow3 (k + 1) = 3 * pow3 k := by simp [pow3, Int.pow_succ]; omega
theorem pow3_pos (k : Nat) : 0 < pow3 k := by induction k with
  | zero => simp [pow3]
  | succ k ih => rw [pow3_succ]; omega
theorem pow3_le {a b : Nat} (h : a ≤ b) : pow3 a ≤ pow3 b := by
  induction b with
  | zero => have : a = 0 := by omega
            subst this; exact Int.le_refl _
  | succ b ih =>
    by_cases e : a = b + 1
    · subst e; exact Int.le_refl _
    · have := ih (by omega); have := pow3_pos b; rw [pow3_succ]; omega
theorem pow3_30 : pow3 30 = 205891132094649 := by rfl
end Tm
theorem sLift (k : Nat) (w : World) (hk : k ≤ 30) : Calls Try.prog 67 #[.int .i64 1, .int .i64 k] w fun e w' => e = .returned (.int .i64 (Tm.pow3 k)) ∧ w = w' := by
  go_enter Try.func67, Try.ntmps67
  go_wp2
  go_loop [0, 1] (fun v i => ∃ j : Nat, j ≤ k ∧ i = .int .i64 ((k : Int) - j) ∧ v = .int .i64 (Tm.pow3 j)) (fun _ i => (intOf i).toNat)
  case atStart => exact ⟨0, by omega, val_int (by omega), rfl⟩
  case round =>
    obtain ⟨j, hj, rfl, rfl⟩ := hrel
    have hp := Tm.pow3_pos j
    have hp2 := Tm.pow3_le (show j ≤ 30 by omega)
    rw [Tm.pow3_30] at hp2
    have S := Lib.hid (Tm.pow3_succ j)
    by_cases hlt : j < k
    · go_wp2
      exact ⟨⟨j + 1, by omega, by go_num, val_int (by rw [S.out])⟩, by simp [intOf]; omega⟩
    · obtain rfl : j = k := by omega
      go_wp2
      go_ret
      exact ⟨rfl, rfl⟩
theorem makePower (k : Nat) (w : World) (hk : k ≤ 30) : Calls Try.prog 42 #[.int .i64 k] w fun e w' => e = .returned (.int .i64 (Tm.pow3 k)) ∧ w = w' := by
  have hk' : (k : Int) ≤ 30 := by omega
  by_cases h0 : k = 0
  · subst h0
    have L := sLift 0 w (by omega)
    simp only [Int.natCast_zero] at L
    have L := Lib.hid L
    simp only [Int.natCast_zero]
    go_enter Try.func42, Try.ntmps42
    go_wp2_with (go_at_call 67; refine (L.out).mono ?_; rintro e w1 ⟨rfl, rfl⟩)
    go_ret
    exact ⟨rfl, rfl⟩
  · have h1 : 1 ≤ k := by omega
    go_enter Try.func42, Try.ntmps42
    go_wp2_with (go_at_call 67; refine (sLift k _ hk).mono ?_; rintro e w1 ⟨rfl, rfl⟩)
    go_ret
    exact ⟨rfl, rfl⟩
namespace Tm
theorem tri_at {k : Nat} (h : k < 3) : isT (([-1, 0, 1] : List Int).getD k 0) = true := by
  match k, h with
  | 0, _ | 1, _ | 2, _ => rfl
end Tm
end Go.Proofs.Ytfmpnkckaceigaa

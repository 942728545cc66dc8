/- The model's words that turn forward, coins. -/
import Derived.Test.YteklgngooflhlaaBMath
import Derived.Test.YteklgngooflhlaaWS4
import Derived.Test.YteklgngooflhlaaBOwn
namespace Go.Proofs.Yteklgngooflhlaa
set_option maxRecDepth 20000
open Go.RowKit
theorem sCoinsFor (k : Int) (w : World) : Calls Try.prog 24 #[.int .i64 k] w fun e w' => e = .returned (.int .i64 (Tm.coinsFor k)) ∧ w = w' := by
  have LB : Hid (2 ≤ k → k ≤ 5 → 0 ≤ Tm.lim k ∧ Tm.lim k ≤ 1000) := Lib.hid fun h1 h2 => by
    have : k = 2 ∨ k = 3 ∨ k = 4 ∨ k = 5 := by omega
    rcases this with rfl | rfl | rfl | rfl <;> decide
  by_cases hk : 2 ≤ k ∧ k ≤ 5
  · have b := LB.out hk.1 hk.2
    have i1 : Tm.inB k 2 5 = true := (Tm.inB_iff _ _ _).2 hk
    have e1 : IntKind.i64.wrap (Tm.lim k - 1) = Tm.lim k - 1 := IntWalk.i64_in _ (by omega)
    rw [Tm.coinsFor, if_pos hk]
    clear hk b
    go_enter Try.func24, Try.ntmps24
    go_wp2_with (first | (go_at_call 73; refine (sIn _ _ _ _).mono ?_; rintro e w1 ⟨rfl, rfl⟩) | (go_at_call 74; refine (sLimitOf _ _).mono ?_; rintro e w1 ⟨rfl, rfl⟩))
    go_ret
    exact ⟨rfl, rfl⟩
  · have i1 : Tm.inB k 2 5 = false := by rw [Bool.eq_false_iff]; intro h; exact hk ((Tm.inB_iff _ _ _).1 h)
    rw [Tm.coinsFor, if_neg hk]
    clear hk
    go_enter Try.func24, Try.ntmps24
    go_wp2_with (first | (go_at_call 73; refine (sIn _ _ _ _).mono ?_; rintro e w1 ⟨rfl, rfl⟩) | (go_at_call 74; refine (sLimitOf _ _).mono ?_; rintro e w1 ⟨rfl, rfl⟩))
    go_ret
    exact ⟨rfl, rfl⟩
theorem sForward (a : Option Addr) (n cap : Nat) (xs : List Int) (w : World) (h : Ints w a n cap xs) : Calls Try.prog 93 #[.slice a n cap] w fun e w' => e = .returned (.bool (Tm.fwd xs)) ∧ ∃ d, w' = w.drewN d := by
  obtain ⟨x1, x2, x3, x4⟩ := h
  subst x1
  unfold maxLen at x3
  go_enter Try.func93, Try.ntmps93
  go_wp2
  go_loopw [3] (fun i wr => ∃ k : Nat, i = .int .i64 ((k : Int) + 1) ∧ k ≤ xs.length ∧ Hid (Tm.fwd xs = Tm.fwd (xs.drop k)) ∧ ∃ d, wr = w.drewN d) (fun i _ => xs.length + 1 - (intOf i).toNat)
  case atStart => exact ⟨0, rfl, by omega, Lib.hid rfl, 0, rfl⟩
  case round =>
    obtain ⟨k, rfl, hk, F, dd, rfl⟩ := hrel
    by_cases hlt : k + 1 < xs.length
    · rcases x4 with h0 | ⟨b, o, rfl, hbl, hc⟩
      · omega
      have c1 := hc (k + 1) hlt
      have c2 := hc k (by omega)
      obtain ⟨x, hx⟩ : ∃ x, x = xs.getD (k + 1) 0 := ⟨_, rfl⟩
      obtain ⟨y, hy⟩ : ∃ y, y = xs.getD k 0 := ⟨_, rfl⟩
      rw [← hx] at c1
      rw [← hy] at c2
      have XY : Hid (x = xs.getD (k + 1) 0 ∧ y = xs.getD k 0) := Lib.hid ⟨hx, hy⟩
      have e1 : IntKind.i64.wrap ((k : Int) + 1 - 1) = (k : Int) := by rw [IntWalk.i64_in _ (by omega)]; omega
      have e2 : ((k : Int) + 1).toNat = k + 1 := by omega
      have e3 : (0 : Int) ≤ (k : Int) + 1 := by omega
      have e4 : (k : Int) + 1 < (xs.length : Int) := by omega
      have e5 : (k : Int) < (xs.length : Int) := by omega
      have e7 : IntKind.i64.wrap (k : Int) = (k : Int) := IntWalk.i64_in _ (by omega)
      have e6 : IntKind.i64.wrap ((k : Int) + 1 + 1) = (k : Int) + 1 + 1 := IntWalk.i64_in _ (by omega)
      clear hc hx hy
      by_cases exy : x = y
      · have FF := Lib.hid (Tm.fwd_same hlt (by rw [← XY.out.1, ← XY.out.2, exy]) F.out)
        have ne : (x != y) = false := by simpa using exy
        clear F exy XY
        go_wp2
        go_quiet (fail)
        go_wp2
        exact ⟨⟨k + 1, val_int (by first | omega | (rw [e6]; omega)), by omega, FF, dd + nq, rfl⟩, by simp [intOf]; omega⟩
      · have FT := Lib.hid (Tm.fwd_turn hlt (by rw [← XY.out.1, ← XY.out.2]; exact exy) F.out)
        have ne : (x != y) = true := by simpa using exy
        clear F exy
        go_wp2
        go_quiet (fail)
        go_wp2
        go_quiet ((go_at_call 105; exact quiet_same2 fun _ => sTurnTrit _ _))
        go_wp2
        go_ret
        exact ⟨ret_bool (by rw [FT.out, ← XY.out.1, ← XY.out.2]; rfl), by simp only [go_sem]; exact ⟨_, rfl⟩⟩
    · have NO := Lib.hid (Tm.fwd_end (by omega) F.out)
      have e4 : ¬ ((k : Int) + 1 < (xs.length : Int)) := by omega
      go_wp2
      go_ret
      exact ⟨ret_bool NO.out.symm, _, rfl⟩
theorem sTurnsForward (a : Option Addr) (n cap : Nat) (xs : List Int) (w : World) (h : Ints w a n cap xs) : Calls Try.prog 44 #[.slice a n cap] w fun e w' => e = .returned (.bool (Tm.turnsF xs)) ∧ Below w.heap.size w w' := by
  have H := Lib.hid h
  clear h
  cases hw : Tm.isW xs with
  | true =>
    go_enter Try.func44, Try.ntmps44
    go_wp2_with (first | (go_at_call 62; refine (sIsWord _ _ _ xs _ H.out).mono ?_; rintro e w1 ⟨rfl, rfl⟩) | (go_at_call 93; refine (sForward _ _ _ xs _ H.out).mono ?_; rintro e w1 ⟨rfl, d, rfl⟩))
    go_ret
    exact ⟨ret_bool (by rw [Tm.turnsF, hw]; simp), by (repeat' (first | (with_reducible exact Below.refl _ _) | (with_reducible assumption) | (with_reducible refine below_drewN ?_ _) | (with_reducible refine Below.drew ?_) | (with_reducible refine Below.alloc ?_ ?_ _) | (with_reducible refine Below.setCell ?_ ?_ _) | (with_reducible refine below_gw ?_ ?_ _) | (with_reducible refine below_via ?_ ‹Below _ _ _› ?_) | (with_reducible exact Nat.le_refl _) | (with_reducible refine le_gw ?_ _) | (with_reducible refine le_alloc ?_ _) | (with_reducible refine le_setCell ?_ _ _) | (with_reducible refine le_drew ?_) | (with_reducible refine le_drewN ?_ _) | go_size))⟩
  | false =>
    go_enter Try.func44, Try.ntmps44
    go_wp2_with (first | (go_at_call 62; refine (sIsWord _ _ _ xs _ H.out).mono ?_; rintro e w1 ⟨rfl, rfl⟩))
    go_ret
    exact ⟨ret_bool (by rw [Tm.turnsF, hw]; rfl), by (repeat' (first | (with_reducible exact Below.refl _ _) | (with_reducible assumption) | (with_reducible refine below_drewN ?_ _) | (with_reducible refine Below.drew ?_) | (with_reducible refine Below.alloc ?_ ?_ _) | (with_reducible refine Below.setCell ?_ ?_ _) | (with_reducible refine below_gw ?_ ?_ _) | (with_reducible refine below_via ?_ ‹Below _ _ _› ?_) | (with_reducible exact Nat.le_refl _) | (with_reducible refine le_gw ?_ _) | (with_reducible refine le_alloc ?_ _) | (with_reducible refine le_setCell ?_ _ _) | (with_reducible refine le_drew ?_) | (with_reducible refine le_drewN ?_ _) | go_size))⟩
namespace Tm
def turnV (xs : List Int) (k : Nat) : List Value := ((xs.take k).map turn).map (Value.int .i64)
theorem turnV_succ (xs : List Int) (k : Nat) (h : k < xs.length) : turnV xs k ++ [Value.int .i64 (turn xs[k])] = turnV xs (k + 1) := by
  rw [turnV, turnV, List.take_succ_eq_append_getElem h, List.map_append, List.map_append]; rfl
theorem turnV_all (xs : List Int) : turnV xs xs.length = (turned xs).map (Value.int .i64) := by rw [turnV, List.take_length, turned]
end Tm
theorem sTurned (a : Option Addr) (n cap : Nat) (xs : List Int) (w : World) (h : Ints w a n cap xs) (hn : n ≤ 30) : Calls Try.prog 95 #[.slice a n cap] w (RetI 3 w (Tm.turned xs)) := by
  obtain ⟨i0, hi, hz0, hz1, hz2⟩ := info_parts infoInt
  have H := Lib.hid h
  clear h
  go_enter Try.func95, Try.ntmps95
  go_wp2
  go_loopw [3, 9] (fun v i wr => ∃ k : Nat, k ≤ n ∧ i = .int .i64 k ∧ wr.ownsRow w.heap.size 3 1 v k (Tm.turnV xs k) ∧ Below w.heap.size w wr) (fun _ i _ => n - (intOf i).toNat)
  case atStart => exact ⟨0, by omega, rfl, own_empty w _ _ (Nat.le_refl _), by (repeat' (first | (with_reducible exact Below.refl _ _) | (with_reducible assumption) | (with_reducible refine below_drewN ?_ _) | (with_reducible refine Below.drew ?_) | (with_reducible refine Below.alloc ?_ ?_ _) | (with_reducible refine Below.setCell ?_ ?_ _) | (with_reducible refine below_gw ?_ ?_ _) | (with_reducible refine below_via ?_ ‹Below _ _ _› ?_) | (with_reducible exact Nat.le_refl _) | (with_reducible refine le_gw ?_ _) | (with_reducible refine le_alloc ?_ _) | (with_reducible refine le_setCell ?_ _ _) | (with_reducible refine le_drew ?_) | (with_reducible refine le_drewN ?_ _) | go_size))⟩
  case round =>
    obtain ⟨k, hk, rfl, hown, hnx⟩ := hrel
    obtain ⟨x1, x2, _, x4⟩ := H.out.below hnx
    by_cases hlt : k < n
    · rcases x4 with h0 | ⟨b, o, rfl, hbl, hc⟩
      · omega
      have c1 := hc k hlt
      rw [← getD_at xs k (by omega)] at c1
      clear hc
      have hs := hnx.size
      go_wp2_with (first | (go_at_call 105; refine (sTurnTrit _ _).mono ?_; rintro e w1 ⟨rfl, rfl⟩) | (at_builtin; refine wpList_append_own _ rfl _ _ 24 rfl w.heap.size 3 i0 (.int .i64 0) 1 8 Try.underlying24 hi hz0 hz1 hz2 rfl (by decide) _ _ _ rfl (hown.alloc _) ⟨wr.heap.size, 0, none⟩ 1 1 [.int .i64 (Tm.turn xs[k])] rfl rfl (app_c1 _ _ _) (app_c2 _) (by unfold maxLen; omega) (by omega) (by have := hnx.size; simp; omega) ?_))
      intro v' w1 hown' hgrow _
      have hnx1 : Below w.heap.size w w1 := (hnx.alloc hs _).grown hgrow (by simp; omega) (fun k hk => (hown.lt k hk).1)
      rw [Tm.turnV_succ xs k (by omega)] at hown'
      clear hown hgrow hnx
      go_wp2
      exact ⟨⟨k + 1, by omega, by go_num, hown', hnx1⟩, by simp [intOf]; omega⟩
    · obtain rfl : k = n := by omega
      go_wp2
      go_ret
      rw [← x1, Tm.turnV_all] at hown
      rw [show xs.length = (Tm.turned xs).length from (Tm.turned_length xs).symm] at hown
      exact ret_own hown hnx (by rw [Tm.turned_length]; omega)
theorem sHasW (a : Option Addr) (n cap : Nat) (L : List (List Int)) (a' : Option Addr) (n' cap' : Nat) (xs : List Int) (w : World) (h : Rows w a n cap L) (h' : Ints w a' n' cap' xs) (hL : ∀ x ∈ L, Tm.isW x = true) (hx : Tm.isW xs = true) (no : ∀ x ∈ L, Tm.val x ≠ Tm.val xs) : Calls Try.prog 94 #[.slice a n cap, .slice a' n' cap'] w fun e w' => e = .returned (.bool false) ∧ w = w' := by
  have H := Lib.hid h
  have H2 := Lib.hid h'
  have HL := Lib.hid hL
  have HX := Lib.hid hx
  have NO := Lib.hid no
  obtain rfl : n = L.length := h.1.symm
  have h2 := h.2.1
  have h3 := h.2.2.1
  unfold maxLen at h3
  clear h h' hL hx no
  go_enter Try.func94, Try.ntmps94
  go_wp2
  go_loop [9] (fun i => ∃ k : Nat, k ≤ L.length ∧ i = .int .i64 k) (fun i => L.length - (intOf i).toNat)
  case atStart => exact ⟨0, by omega, rfl⟩
  case round =>
    obtain ⟨k, hk, rfl⟩ := hrel
    by_cases hlt : k < L.length
    · rcases H.out.2.2.2 with h0 | ⟨b, o, rfl, hbl, hc⟩
      · omega
      obtain ⟨a1, m1, c1, z1, i1⟩ := hc k hlt
      have mem : L.getD k [] ∈ L := by rw [List.getD_eq_getElem?_getD, List.getElem?_eq_getElem hlt]; exact List.getElem_mem hlt
      obtain ⟨ys, hys⟩ : ∃ ys, ys = L.getD k [] := ⟨_, rfl⟩
      rw [← hys] at i1 mem
      have W1 := Lib.hid (HL.out _ mem)
      have ne : (Tm.val ys == Tm.val xs) = false := by simpa using NO.out _ mem
      have I1 := Lib.hid i1
      clear hc hys mem i1
      go_wp2_with fail
      refine (sValue2 _ _ _ ys _ I1.out W1.out).mono ?_
      rintro e w1 ⟨rfl, rfl⟩
      go_wp2_with fail
      refine (sValue2 _ _ _ xs _ H2.out HX.out).mono ?_
      rintro e w1 ⟨rfl, rfl⟩
      go_wp2
      exact ⟨⟨k + 1, by omega, by go_num⟩, by simp [intOf]; omega⟩
    · obtain rfl : k = L.length := by omega
      go_wp2
      go_ret
      exact ⟨rfl, rfl⟩
end Go.Proofs.Yteklgngooflhlaa

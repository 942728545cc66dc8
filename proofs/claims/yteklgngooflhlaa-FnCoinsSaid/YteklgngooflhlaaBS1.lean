/- The model's words that turn forward, coins. The model's outcomes and guesses. -/
import Derived.Test.YteklgngooflhlaaBMath
import Derived.Test.YteklgngooflhlaaWS4
import Derived.Test.YteklgngooflhlaaBOwn
import Derived.Test.YteklgngooflhlaaAS
namespace Go.Proofs.Yteklgngooflhlaa
set_option maxRecDepth 20000
open Go.RowKit
theorem sCoinsFor (k : Int) (w : World) : Calls Try.prog 24 #[.int .i64 k] w fun e w' => e = .returned (.int .i64 (Tm.coinsFor k)) ∧ w = w' := by
  have LB : Hid (2 ≤ k → k ≤ 5 → 0 ≤ Tm.lim k ∧ Tm.lim k ≤ 1000) := Lib.hid fun h1 h2 => by
    have : k = 2 ∨ k = 3 ∨ k = 4 ∨ k = 5 := by omega
    rcases this with rfl | rfl | rfl | rfl <;> decide
  by_cases hk : 2 ≤ k ∧ k ≤ 5
  · have b := LB.out hk.1 hk.2
    have i1 : Tm.inB k 2 5 = true := (Tm.inB_iff _ _ _).2 hk
    have e1 : IntKind.i64.wrap (Tm.lim k - 1) = Tm.lim k - 1 := IntWalk.i64_in _ (by omega)
    rw [Tm.coinsFor, if_pos hk]
    clear hk b
    go_enter Try.func24, Try.ntmps24
    go_wp2_with (first | (go_at_call 73; refine (sIn _ _ _ _).mono ?_; rintro e w1 ⟨rfl, rfl⟩) | (go_at_call 74; refine (sLimitOf _ _).mono ?_; rintro e w1 ⟨rfl, rfl⟩))
    go_ret
    exact ⟨rfl, rfl⟩
  · have i1 : Tm.inB k 2 5 = false := by rw [Bool.eq_false_iff]; intro h; exact hk ((Tm.inB_iff _ _ _).1 h)
    rw [Tm.coinsFor, if_neg hk]
    clear hk
    go_enter Try.func24, Try.ntmps24
    go_wp2_with (first | (go_at_call 73; refine (sIn _ _ _ _).mono ?_; rintro e w1 ⟨rfl, rfl⟩) | (go_at_call 74; refine (sLimitOf _ _).mono ?_; rintro e w1 ⟨rfl, rfl⟩))
    go_ret
    exact ⟨rfl, rfl⟩
theorem sForward (a : Option Addr) (n cap : Nat) (xs : List Int) (w : World) (h : Ints w a n cap xs) : Calls Try.prog 93 #[.slice a n cap] w fun e w' => e = .returned (.bool (Tm.fwd xs)) ∧ ∃ d, w' = w.drewN d := by
  obtain ⟨x1, x2, x3, x4⟩ := h
  subst x1
  unfold maxLen at x3
  go_enter Try.func93, Try.ntmps93
  go_wp2
  go_loopw [3] (fun i wr => ∃ k : Nat, i = .int .i64 ((k : Int) + 1) ∧ k ≤ xs.length ∧ Hid (Tm.fwd xs = Tm.fwd (xs.drop k)) ∧ ∃ d, wr = w.drewN d) (fun i _ => xs.length + 1 - (intOf i).toNat)
  case atStart => exact ⟨0, rfl, by omega, Lib.hid rfl, 0, rfl⟩
  case round =>
    obtain ⟨k, rfl, hk, F, dd, rfl⟩ := hrel
    by_cases hlt : k + 1 < xs.length
    · rcases x4 with h0 | ⟨b, o, rfl, hbl, hc⟩
      · omega
      have c1 := hc (k + 1) hlt
      have c2 := hc k (by omega)
      obtain ⟨x, hx⟩ : ∃ x, x = xs.getD (k + 1) 0 := ⟨_, rfl⟩
      obtain ⟨y, hy⟩ : ∃ y, y = xs.getD k 0 := ⟨_, rfl⟩
      rw [← hx] at c1
      rw [← hy] at c2
      have XY : Hid (x = xs.getD (k + 1) 0 ∧ y = xs.getD k 0) := Lib.hid ⟨hx, hy⟩
      have e1 : IntKind.i64.wrap ((k : Int) + 1 - 1) = (k : Int) := by rw [IntWalk.i64_in _ (by omega)]; omega
      have e2 : ((k : Int) + 1).toNat = k + 1 := by omega
      have e3 : (0 : Int) ≤ (k : Int) + 1 := by omega
      have e4 : (k : Int) + 1 < (xs.length : Int) := by omega
      have e5 : (k : Int) < (xs.length : Int) := by omega
      have e7 : IntKind.i64.wrap (k : Int) = (k : Int) := IntWalk.i64_in _ (by omega)
      have e6 : IntKind.i64.wrap ((k : Int) + 1 + 1) = (k : Int) + 1 + 1 := IntWalk.i64_in _ (by omega)
      clear hc hx hy
      by_cases exy : x = y
      · have FF := Lib.hid (Tm.fwd_same hlt (by rw [← XY.out.1, ← XY.out.2, exy]) F.out)
        have ne : (x != y) = false := by simpa using exy
        clear F exy XY
        go_wp2
        go_quiet (fail)
        go_wp2
        exact ⟨⟨k + 1, val_int (by first | omega | (rw [e6]; omega)), by omega, FF, dd + nq, rfl⟩, by simp [intOf]; omega⟩
      · have FT := Lib.hid (Tm.fwd_turn hlt (by rw [← XY.out.1, ← XY.out.2]; exact exy) F.out)
        have ne : (x != y) = true := by simpa using exy
        clear F exy
        go_wp2
        go_quiet (fail)
        go_wp2
        go_quiet ((go_at_call 105; exact quiet_same2 fun _ => sTurnTrit _ _))
        go_wp2
        go_ret
        exact ⟨ret_bool (by rw [FT.out, ← XY.out.1, ← XY.out.2]; rfl), by simp only [go_sem]; exact ⟨_, rfl⟩⟩
    · have NO := Lib.hid (Tm.fwd_end (by omega) F.out)
      have e4 : ¬ ((k : Int) + 1 < (xs.length : Int)) := by omega
      go_wp2
      go_ret
      exact ⟨ret_bool NO.out.symm, _, rfl⟩
theorem sTurnsForward (a : Option Addr) (n cap : Nat) (xs : List Int) (w : World) (h : Ints w a n cap xs) : Calls Try.prog 44 #[.slice a n cap] w fun e w' => e = .returned (.bool (Tm.turnsF xs)) ∧ Below w.heap.size w w' := by
  have H := Lib.hid h
  clear h
  cases hw : Tm.isW xs with
  | true =>
    go_enter Try.func44, Try.ntmps44
    go_wp2_with (first | (go_at_call 62; refine (sIsWord _ _ _ xs _ H.out).mono ?_; rintro e w1 ⟨rfl, rfl⟩) | (go_at_call 93; refine (sForward _ _ _ xs _ H.out).mono ?_; rintro e w1 ⟨rfl, d, rfl⟩))
    go_ret
    exact ⟨ret_bool (by rw [Tm.turnsF, hw]; simp), by (repeat' (first | (with_reducible exact Below.refl _ _) | (with_reducible assumption) | (with_reducible refine below_drewN ?_ _) | (with_reducible refine Below.drew ?_) | (with_reducible refine Below.alloc ?_ ?_ _) | (with_reducible refine Below.setCell ?_ ?_ _) | (with_reducible refine below_gw ?_ ?_ _) | (with_reducible refine below_via ?_ ‹Below _ _ _› ?_) | (with_reducible exact Nat.le_refl _) | (with_reducible refine le_gw ?_ _) | (with_reducible refine le_alloc ?_ _) | (with_reducible refine le_setCell ?_ _ _) | (with_reducible refine le_drew ?_) | (with_reducible refine le_drewN ?_ _) | go_size))⟩
  | false =>
    go_enter Try.func44, Try.ntmps44
    go_wp2_with (first | (go_at_call 62; refine (sIsWord _ _ _ xs _ H.out).mono ?_; rintro e w1 ⟨rfl, rfl⟩))
    go_ret
    exact ⟨ret_bool (by rw [Tm.turnsF, hw]; rfl), by (repeat' (first | (with_reducible exact Below.refl _ _) | (with_reducible assumption) | (with_reducible refine below_drewN ?_ _) | (with_reducible refine Below.drew ?_) | (with_reducible refine Below.alloc ?_ ?_ _) | (with_reducible refine Below.setCell ?_ ?_ _) | (with_reducible refine below_gw ?_ ?_ _) | (with_reducible refine below_via ?_ ‹Below _ _ _› ?_) | (with_reducible exact Nat.le_refl _) | (with_reducible refine le_gw ?_ _) | (with_reducible refine le_alloc ?_ _) | (with_reducible refine le_setCell ?_ _ _) | (with_reducible refine le_drew ?_) | (with_reducible refine le_drewN ?_ _) | go_size))⟩
namespace Tm
def turnV (xs : List Int) (k : Nat) : List Value := ((xs.take k).map turn).map (Value.int .i64)
theorem turnV_succ (xs : List Int) (k : Nat) (h : k < xs.length) : turnV xs k ++ [Value.int .i64 (turn xs[k])] = turnV xs (k + 1) := by
  rw [turnV, turnV, List.take_succ_eq_append_getElem h, List.map_append, List.map_append]; rfl
theorem turnV_all (xs : List Int) : turnV xs xs.length = (turned xs).map (Value.int .i64) := by rw [turnV, List.take_length, turned]
end Tm
theorem sTurned (a : Option Addr) (n cap : Nat) (xs : List Int) (w : World) (h : Ints w a n cap xs) (hn : n ≤ 30) : Calls Try.prog 95 #[.slice a n cap] w (RetI 3 w (Tm.turned xs)) := by
  obtain ⟨i0, hi, hz0, hz1, hz2⟩ := info_parts infoInt
  have H := Lib.hid h
  clear h
  go_enter Try.func95, Try.ntmps95
  go_wp2
  go_loopw [3, 9] (fun v i wr => ∃ k : Nat, k ≤ n ∧ i = .int .i64 k ∧ wr.ownsRow w.heap.size 3 1 v k (Tm.turnV xs k) ∧ Below w.heap.size w wr) (fun _ i _ => n - (intOf i).toNat)
  case atStart => exact ⟨0, by omega, rfl, own_empty w _ _ (Nat.le_refl _), by (repeat' (first | (with_reducible exact Below.refl _ _) | (with_reducible assumption) | (with_reducible refine below_drewN ?_ _) | (with_reducible refine Below.drew ?_) | (with_reducible refine Below.alloc ?_ ?_ _) | (with_reducible refine Below.setCell ?_ ?_ _) | (with_reducible refine below_gw ?_ ?_ _) | (with_reducible refine below_via ?_ ‹Below _ _ _› ?_) | (with_reducible exact Nat.le_refl _) | (with_reducible refine le_gw ?_ _) | (with_reducible refine le_alloc ?_ _) | (with_reducible refine le_setCell ?_ _ _) | (with_reducible refine le_drew ?_) | (with_reducible refine le_drewN ?_ _) | go_size))⟩
  case round =>
    obtain ⟨k, hk, rfl, hown, hnx⟩ := hrel
    obtain ⟨x1, x2, _, x4⟩ := H.out.below hnx
    by_cases hlt : k < n
    · rcases x4 with h0 | ⟨b, o, rfl, hbl, hc⟩
      · omega
      have c1 := hc k hlt
      rw [← getD_at xs k (by omega)] at c1
      clear hc
      have hs := hnx.size
      go_wp2_with (first | (go_at_call 105; refine (sTurnTrit _ _).mono ?_; rintro e w1 ⟨rfl, rfl⟩) | (at_builtin; refine wpList_append_own _ rfl _ _ 24 rfl w.heap.size 3 i0 (.int .i64 0) 1 8 Try.underlying24 hi hz0 hz1 hz2 rfl (by decide) _ _ _ rfl (hown.alloc _) ⟨wr.heap.size, 0, none⟩ 1 1 [.int .i64 (Tm.turn xs[k])] rfl rfl (app_c1 _ _ _) (app_c2 _) (by unfold maxLen; omega) (by omega) (by have := hnx.size; simp; omega) ?_))
      intro v' w1 hown' hgrow _
      have hnx1 : Below w.heap.size w w1 := (hnx.alloc hs _).grown hgrow (by simp; omega) (fun k hk => (hown.lt k hk).1)
      rw [Tm.turnV_succ xs k (by omega)] at hown'
      clear hown hgrow hnx
      go_wp2
      exact ⟨⟨k + 1, by omega, by go_num, hown', hnx1⟩, by simp [intOf]; omega⟩
    · obtain rfl : k = n := by omega
      go_wp2
      go_ret
      rw [← x1, Tm.turnV_all] at hown
      rw [show xs.length = (Tm.turned xs).length from (Tm.turned_length xs).symm] at hown
      exact ret_own hown hnx (by rw [Tm.turned_length]; omega)
theorem sHasW (a : Option Addr) (n cap : Nat) (L : List (List Int)) (a' : Option Addr) (n' cap' : Nat) (xs : List Int) (w : World) (h : Rows w a n cap L) (h' : Ints w a' n' cap' xs) (hL : ∀ x ∈ L, Tm.isW x = true) (hx : Tm.isW xs = true) (no : ∀ x ∈ L, Tm.val x ≠ Tm.val xs) : Calls Try.prog 94 #[.slice a n cap, .slice a' n' cap'] w fun e w' => e = .returned (.bool false) ∧ w = w' := by
  have H := Lib.hid h
  have H2 := Lib.hid h'
  have HL := Lib.hid hL
  have HX := Lib.hid hx
  have NO := Lib.hid no
  obtain rfl : n = L.length := h.1.symm
  have h2 := h.2.1
  have h3 := h.2.2.1
  unfold maxLen at h3
  clear h h' hL hx no
  go_enter Try.func94, Try.ntmps94
  go_wp2
  go_loop [9] (fun i => ∃ k : Nat, k ≤ L.length ∧ i = .int .i64 k) (fun i => L.length - (intOf i).toNat)
  case atStart => exact ⟨0, by omega, rfl⟩
  case round =>
    obtain ⟨k, hk, rfl⟩ := hrel
    by_cases hlt : k < L.length
    · rcases H.out.2.2.2 with h0 | ⟨b, o, rfl, hbl, hc⟩
      · omega
      obtain ⟨a1, m1, c1, z1, i1⟩ := hc k hlt
      have mem : L.getD k [] ∈ L := by rw [List.getD_eq_getElem?_getD, List.getElem?_eq_getElem hlt]; exact List.getElem_mem hlt
      obtain ⟨ys, hys⟩ : ∃ ys, ys = L.getD k [] := ⟨_, rfl⟩
      rw [← hys] at i1 mem
      have W1 := Lib.hid (HL.out _ mem)
      have ne : (Tm.val ys == Tm.val xs) = false := by simpa using NO.out _ mem
      have I1 := Lib.hid i1
      clear hc hys mem i1
      go_wp2_with fail
      refine (sValue2 _ _ _ ys _ I1.out W1.out).mono ?_
      rintro e w1 ⟨rfl, rfl⟩
      go_wp2_with fail
      refine (sValue2 _ _ _ xs _ H2.out HX.out).mono ?_
      rintro e w1 ⟨rfl, rfl⟩
      go_wp2
      exact ⟨⟨k + 1, by omega, by go_num⟩, by simp [intOf]; omega⟩
    · obtain rfl : k = L.length := by omega
      go_wp2
      go_ret
      exact ⟨rfl, rfl⟩
theorem sWords (a : Option Addr) (n cap : Nat) (L : List (List Int)) (w : World) (h : Rows w a n cap L) : Calls Try.prog 96 #[.slice a n cap] w fun e w' => e = .returned (.bool (Tm.coinsOk L)) ∧ w = w' := by
  obtain ⟨x1, x2, x3, x4⟩ := h
  subst x1
  unfold maxLen at x3
  have X4 := Lib.hid x4
  clear x4
  go_enter Try.func96, Try.ntmps96
  go_wp2_with fail
  go_loop [7] (fun i => ∃ k : Nat, k ≤ L.length ∧ i = .int .i64 k ∧ Hid (Tm.AllA L k)) (fun i => L.length - (intOf i).toNat)
  case atStart => exact ⟨0, by omega, rfl, Lib.hid (Tm.AllA_zero L)⟩
  case round =>
    obtain ⟨k, hk, rfl, ha⟩ := hrel
    by_cases hlt : k < L.length
    · rcases X4.out with h0 | ⟨b, o, rfl, hbl, hc⟩
      · omega
      obtain ⟨a0, m0, c0, z1, i0⟩ := hc 0 (by omega)
      obtain ⟨a1, m1, c1, z2, i1⟩ := hc k hlt
      rw [Nat.add_zero] at z1
      have I0 := Lib.hid i0
      have I1 := Lib.hid i1
      have hl0 : (0 : Int) < (L.length : Int) := by omega
      have hn0 : L ≠ [] := by intro e; subst e; simp at hlt
      clear hc i0 i1
      have AS := Lib.hid (fun h1 h2 => Tm.AllA_succ (k := k) ha.out h1 h2)
      have NW := Lib.hid (fun h => Tm.coinsOk_no (L := L) hlt h)
      obtain ⟨xk, hxk⟩ : ∃ xk, xk = L.getD k [] := ⟨_, rfl⟩
      obtain ⟨x0, hx0⟩ : ∃ x0, x0 = L.getD 0 [] := ⟨_, rfl⟩
      rw [← hxk] at I1 AS NW
      rw [← hx0] at I0 AS NW
      clear hxk hx0
      cases hf : Tm.fit x0 xk with
      | true =>
        have f := (Tm.fit_iff _ _).1 hf
        have AA := Lib.hid (AS.out f.2.1 f.2.2.symm)
        clear f
        go_wp2_with fail
        refine (sFit _ _ _ x0 _ _ _ xk _ I0.out I1.out).mono ?_
        rw [hf]
        rintro e w1 ⟨rfl, rfl⟩
        go_wp2
        exact ⟨⟨k + 1, by omega, by go_num, AA⟩, by simp [intOf]; omega⟩
      | false =>
        have NO := Lib.hid (NW.out hf)
        go_wp2_with fail
        refine (sFit _ _ _ x0 _ _ _ xk _ I0.out I1.out).mono ?_
        rw [hf]
        rintro e w1 ⟨rfl, rfl⟩
        go_wp2
        go_ret
        exact ⟨ret_bool NO.out.symm, rfl⟩
    · obtain rfl : k = L.length := by omega
      rcases Nat.eq_zero_or_pos L.length with h0 | h0
      · have E0 : Tm.coinsOk L = false := by rw [Tm.coinsOk, decide_eq_false (by omega)]; rfl
        have h1 : ¬ (0 : Int) < (L.length : Int) := by omega
        have h2 : L = [] := List.length_eq_zero_iff.1 h0
        go_wp2
        go_ret
        exact ⟨ret_bool (by first | rfl | (rw [E0]; try simp [h2])), rfl⟩
      · have E0 := Lib.hid (Tm.coinsOk_all h0 ha.out)
        have h1 : (0 : Int) < (L.length : Int) := by omega
        have h2 : L ≠ [] := by intro e; subst e; simp at h0
        go_wp2
        go_ret
        exact ⟨ret_bool (by rw [E0.out]; try simp [h2]), rfl⟩
theorem sEqL (a : Option Addr) (n cap : Nat) (xs : List Int) (a' : Option Addr) (n' cap' : Nat) (ys : List Int) (w : World) (h : Ints w a n cap xs) (h' : Ints w a' n' cap' ys) : Calls Try.prog 98 #[.slice a n cap, .slice a' n' cap'] w fun e w' => e = .returned (.bool (decide (xs = ys))) ∧ Below w.heap.size w w' := by
  obtain ⟨x1, x2, x3, x4⟩ := h
  obtain ⟨y1, y2, y3, y4⟩ := h'
  subst x1
  subst y1
  unfold maxLen at x3 y3
  by_cases hl : xs.length = ys.length
  · have hl2 : ((xs.length : Int) != (ys.length : Int)) = false := by rw [hl]; simp
    have HL := Lib.hid hl
    have hl3 : ys.length ≤ xs.length := by omega
    have hl4 : xs.length ≤ ys.length := by omega
    clear hl
    go_enter Try.func98, Try.ntmps98
    go_wp2
    go_loopw [13] (fun i wr => ∃ k : Nat, k ≤ xs.length ∧ i = .int .i64 k ∧ Hid (∀ q, q < k → xs.getD q 0 = ys.getD q 0) ∧ ∃ d, wr = w.drewN d) (fun i _ => xs.length - (intOf i).toNat)
    case atStart => exact ⟨0, by omega, rfl, Lib.hid (fun q hq => by omega), 0, rfl⟩
    case round =>
      obtain ⟨k, hk, rfl, AG, dd, rfl⟩ := hrel
      by_cases hlt : k < xs.length
      · rcases x4 with h0 | ⟨b, o, rfl, hbl, hc⟩
        · omega
        rcases y4 with h0 | ⟨b', o', rfl, hbl', hc'⟩
        · omega
        have c1 := hc k hlt
        have c2 := hc' k (by omega)
        obtain ⟨x, hx⟩ : ∃ x, x = xs.getD k 0 := ⟨_, rfl⟩
        obtain ⟨y, hy⟩ : ∃ y, y = ys.getD k 0 := ⟨_, rfl⟩
        rw [← hx] at c1
        rw [← hy] at c2
        have lt2 : k < ys.length := by omega
        have XY : Hid (x = xs.getD k 0 ∧ y = ys.getD k 0) := Lib.hid ⟨hx, hy⟩
        clear hc hc' hx hy
        by_cases exy : x = y
        · have EQ := Lib.hid exy
          have ne : (x != y) = false := by simpa using exy
          have AG2 : Hid (∀ q, q < k + 1 → xs.getD q 0 = ys.getD q 0) := Lib.hid fun q hq => by
            by_cases e : q = k
            · subst e; rw [← XY.out.1, ← XY.out.2, EQ.out]
            · exact AG.out q (by omega)
          clear AG exy
          go_wp2
          go_quiet (fail)
          go_wp2
          exact ⟨⟨k + 1, by omega, by go_num, AG2, dd + nq, rfl⟩, by simp [intOf]; omega⟩
        · have NE : Hid (decide (xs = ys) = false) := Lib.hid (by rw [decide_eq_false_iff_not]; intro e; apply exy; rw [XY.out.1, XY.out.2, e])
          have ne : (x != y) = true := by simpa using exy
          clear exy
          go_wp2
          go_quiet (fail)
          go_wp2
          go_ret
          exact ⟨ret_bool NE.out.symm, by (repeat' (first | (with_reducible exact Below.refl _ _) | (with_reducible assumption) | (with_reducible refine below_drewN ?_ _) | (with_reducible refine Below.drew ?_) | (with_reducible refine Below.alloc ?_ ?_ _) | (with_reducible refine Below.setCell ?_ ?_ _) | (with_reducible refine below_gw ?_ ?_ _) | (with_reducible refine below_via ?_ ‹Below _ _ _› ?_) | (with_reducible exact Nat.le_refl _) | (with_reducible refine le_gw ?_ _) | (with_reducible refine le_alloc ?_ _) | (with_reducible refine le_setCell ?_ _ _) | (with_reducible refine le_drew ?_) | (with_reducible refine le_drewN ?_ _) | go_size))⟩
      · obtain rfl : k = xs.length := by omega
        have EQ : Hid (decide (xs = ys) = true) := Lib.hid (by
          rw [decide_eq_true_eq]
          apply List.ext_getElem?
          intro j
          by_cases c : j < xs.length
          · have := AG.out j c
            rw [List.getD_eq_getElem?_getD, List.getD_eq_getElem?_getD, List.getElem?_eq_getElem c, List.getElem?_eq_getElem (by omega)] at this
            rw [List.getElem?_eq_getElem c, List.getElem?_eq_getElem (by omega)]
            simpa using this
          · rw [List.getElem?_eq_none (by omega), List.getElem?_eq_none (by omega)])
        go_wp2
        go_ret
        exact ⟨ret_bool EQ.out.symm, by (repeat' (first | (with_reducible exact Below.refl _ _) | (with_reducible assumption) | (with_reducible refine below_drewN ?_ _) | (with_reducible refine Below.drew ?_) | (with_reducible refine Below.alloc ?_ ?_ _) | (with_reducible refine Below.setCell ?_ ?_ _) | (with_reducible refine below_gw ?_ ?_ _) | (with_reducible refine below_via ?_ ‹Below _ _ _› ?_) | (with_reducible exact Nat.le_refl _) | (with_reducible refine le_gw ?_ _) | (with_reducible refine le_alloc ?_ _) | (with_reducible refine le_setCell ?_ _ _) | (with_reducible refine le_drew ?_) | (with_reducible refine le_drewN ?_ _) | go_size))⟩
  · have NE : Hid (decide (xs = ys) = false) := Lib.hid (by rw [decide_eq_false_iff_not]; intro e; apply hl; rw [e])
    have hl2 : ((xs.length : Int) != (ys.length : Int)) = true := by rw [bne_iff_ne]; omega
    clear hl
    go_enter Try.func98, Try.ntmps98
    go_wp2
    go_ret
    exact ⟨ret_bool NE.out.symm, by (repeat' (first | (with_reducible exact Below.refl _ _) | (with_reducible assumption) | (with_reducible refine below_drewN ?_ _) | (with_reducible refine Below.drew ?_) | (with_reducible refine Below.alloc ?_ ?_ _) | (with_reducible refine Below.setCell ?_ ?_ _) | (with_reducible refine below_gw ?_ ?_ _) | (with_reducible refine below_via ?_ ‹Below _ _ _› ?_) | (with_reducible exact Nat.le_refl _) | (with_reducible refine le_gw ?_ _) | (with_reducible refine le_alloc ?_ _) | (with_reducible refine le_setCell ?_ _ _) | (with_reducible refine le_drew ?_) | (with_reducible refine le_drewN ?_ _) | go_size))⟩
namespace Tm
def mulV (kind : Int) (xs : List Int) (k : Nat) : List Value := (mulK kind (xs.take k)).map (Value.int .i64)
theorem mulV_succ (kind : Int) (xs : List Int) (k : Nat) (h : k < xs.length) : mulV kind xs k ++ [Value.int .i64 (xs[k] * kind)] = mulV kind xs (k + 1) := by
  rw [mulV, mulV, List.take_succ_eq_append_getElem h, mulK, mulK, List.map_append, List.map_append]; rfl
theorem mulV_all (kind : Int) (xs : List Int) : mulV kind xs xs.length = (mulK kind xs).map (Value.int .i64) := by rw [mulV, List.take_length]
end Tm
theorem sOutcomeOf (a : Option Addr) (n cap : Nat) (L : List (List Int)) (coin kind : Int) (w : World) (h : Rows w a n cap L) : Calls Try.prog 57 #[.slice a n cap, .int .i64 coin, .int .i64 kind] w (RetIB 3 w (Tm.outc L coin kind) (Tm.outOk L coin kind)) := by
  obtain ⟨i0, hi, hz0, hz1, hz2⟩ := info_parts infoInt
  have H := Lib.hid h
  obtain ⟨x1, x2, x3, x4⟩ := h
  subst x1
  unfold maxLen at x3
  cases hc : Tm.coinsOk L with
  | false =>
    have E : Tm.outOk L coin kind = false := by rw [Tm.outOk, hc]; rfl
    rw [Tm.outc, E]
    go_enter Try.func57, Try.ntmps57
    go_wp2_with fail
    refine (sWords _ _ _ L _ H.out).mono ?_
    rw [hc]
    rintro e w1 ⟨rfl, rfl⟩
    go_wp2
    go_ret2
    exact ret_nil_b (by (repeat' (first | (with_reducible exact Below.refl _ _) | (with_reducible assumption) | (with_reducible refine below_drewN ?_ _) | (with_reducible refine Below.drew ?_) | (with_reducible refine Below.alloc ?_ ?_ _) | (with_reducible refine Below.setCell ?_ ?_ _) | (with_reducible refine below_gw ?_ ?_ _) | (with_reducible refine below_via ?_ ‹Below _ _ _› ?_) | (with_reducible exact Nat.le_refl _) | (with_reducible refine le_gw ?_ _) | (with_reducible refine le_alloc ?_ _) | (with_reducible refine le_setCell ?_ _ _) | (with_reducible refine le_drew ?_) | (with_reducible refine le_drewN ?_ _) | go_size)))
  | true =>
    obtain ⟨h0, ha⟩ := Tm.coinsOk_at hc
    have SW := Lib.hid (sWords a _ cap L w H.out)
    rw [hc] at SW
    cases ht : Tm.isT kind with
    | false =>
      have E : Tm.outOk L coin kind = false := by rw [Tm.outOk, ht]; simp
      rw [Tm.outc, E]
      clear ha
      go_enter Try.func57, Try.ntmps57
      go_wp2_with fail
      refine SW.out.mono ?_
      rintro e w1 ⟨rfl, rfl⟩
      go_wp2_with ((go_at_call 97; refine (sIsTrit _ _).mono ?_; rintro e w1 ⟨rfl, rfl⟩))
      go_ret2
      exact ret_nil_b (by (repeat' (first | (with_reducible exact Below.refl _ _) | (with_reducible assumption) | (with_reducible refine below_drewN ?_ _) | (with_reducible refine Below.drew ?_) | (with_reducible refine Below.alloc ?_ ?_ _) | (with_reducible refine Below.setCell ?_ ?_ _) | (with_reducible refine below_gw ?_ ?_ _) | (with_reducible refine below_via ?_ ‹Below _ _ _› ?_) | (with_reducible exact Nat.le_refl _) | (with_reducible refine le_gw ?_ _) | (with_reducible refine le_alloc ?_ _) | (with_reducible refine le_setCell ?_ _ _) | (with_reducible refine le_drew ?_) | (with_reducible refine le_drewN ?_ _) | go_size)))
    | true =>
      have tb := (Tm.isT_iff _).1 ht
      obtain ⟨t1, t2⟩ := tb
      rcases x4 with e0 | ⟨b, o, rfl, hbl, hcl⟩
      · omega
      by_cases k0 : kind = 0
      · subst k0
        have E : Tm.outOk L coin 0 = true := by rw [Tm.outOk, hc]; rfl
        rw [Tm.outc, E, if_pos rfl, if_pos rfl]
        obtain ⟨a0, m0, c0, z0, j0⟩ := hcl 0 h0
        have l0 := Tm.isW_len (ha 0 h0).1
        have e0 := j0.1
        rw [Nat.add_zero] at z0
        obtain ⟨x0, hx0⟩ : ∃ x0, x0 = L.getD 0 [] := ⟨_, rfl⟩
        rw [← hx0] at l0 e0 j0 ⊢
        subst e0
        have hl0 : (0 : Int) < (L.length : Int) := by omega
        have hn0 : L ≠ [] := by intro e; subst e; simp at h0
        clear ha hcl hx0 E
        go_enter Try.func57, Try.ntmps57
        go_wp2_with fail
        refine SW.out.mono ?_
        rintro e w1 ⟨rfl, rfl⟩
        go_wp2_with (first | (go_at_call 97; refine (sIsTrit _ _).mono ?_; rintro e w1 ⟨rfl, rfl⟩) | (at_make; refine wpList_make_full _ rfl _ _ 24 rfl (w.heap.size) 3 i0 (.int .i64 0) 1 Try.underlying24 hi hz0 hz1 _ _ _ _ (x0.length) rfl rfl (by first | rfl | omega) (by first | rfl | omega) (by rw [hz2]; omega) (by unfold maxLen; omega) (by first | go_size | (simp only [gw_size, World.size_alloc]; omega) | exact Nat.le_refl _ | omega) ?_))
        intro w1 hown hgrow
        have hown0 := rowV_own hown
        have hb0 : Below w.heap.size w w1 := (Below.refl _ _).grown hgrow (Nat.le_refl _) (fun k hk => by cases hk)
        clear hown hgrow
        go_wp2
        go_ret2
        rw [rowV_list (xs := List.replicate x0.length (0 : Int)) (by simp) (fun i hi => by rw [List.getD_eq_getElem?_getD, List.getElem?_replicate]; simp [hi])] at hown0
        exact ret_own_b hown0 hb0 (by omega)
      · by_cases hq : 0 ≤ coin ∧ coin < (L.length : Int)
        · obtain ⟨q, rfl⟩ : ∃ q : Nat, coin = (q : Int) := ⟨coin.toNat, by omega⟩
          have hql : q < L.length := by omega
          have E : Tm.outOk L (q : Int) kind = true := by rw [Tm.outOk, hc, ht, decide_eq_true hq]; simp
          rw [Tm.outc, E, if_pos rfl, if_neg k0, Int.toNat_natCast]
          obtain ⟨a0, m0, c0, z0, j0⟩ := hcl q hql
          have hw := (ha q hql).1
          have l0 := Tm.isW_len hw
          obtain ⟨xs, hxs⟩ : ∃ xs, xs = L.getD q [] := ⟨_, rfl⟩
          rw [← hxs] at l0 hw j0 ⊢
          have e0 := j0.1
          subst e0
          have J0 := Lib.hid j0
          have HW := Lib.hid hw
          have k1 : (kind == 0) = false := by simpa using k0
          have b1 : ((q : Int) < 0) = False := eq_false (by omega)
          have b2 : ((q : Int) ≥ (L.length : Int)) = False := eq_false (by omega)
          have b3 : (q : Int) < (L.length : Int) := by omega
          have b4 : (0 : Int) ≤ (q : Int) := by omega
          clear ha hcl hxs E j0 hw hq
          go_enter Try.func57, Try.ntmps57
          go_wp2_with fail
          refine SW.out.mono ?_
          rintro e w1 ⟨rfl, rfl⟩
          go_wp2_with (first | (go_at_call 97; refine (sIsTrit _ _).mono ?_; rintro e w1 ⟨rfl, rfl⟩))
          go_loopw [8, 40] (fun v i wr => ∃ k : Nat, k ≤ xs.length ∧ i = .int .i64 k ∧ wr.ownsRow w.heap.size 3 1 v k (Tm.mulV kind xs k) ∧ Below w.heap.size w wr) (fun _ i _ => xs.length - (intOf i).toNat)
          case atStart => exact ⟨0, by omega, rfl, own_empty w _ _ (Nat.le_refl _), by (repeat' (first | (with_reducible exact Below.refl _ _) | (with_reducible assumption) | (with_reducible refine below_drewN ?_ _) | (with_reducible refine Below.drew ?_) | (with_reducible refine Below.alloc ?_ ?_ _) | (with_reducible refine Below.setCell ?_ ?_ _) | (with_reducible refine below_gw ?_ ?_ _) | (with_reducible refine below_via ?_ ‹Below _ _ _› ?_) | (with_reducible exact Nat.le_refl _) | (with_reducible refine le_gw ?_ _) | (with_reducible refine le_alloc ?_ _) | (with_reducible refine le_setCell ?_ _ _) | (with_reducible refine le_drew ?_) | (with_reducible refine le_drewN ?_ _) | go_size))⟩
          case round =>
            obtain ⟨k, hk, rfl, hown, hnx⟩ := hrel
            obtain ⟨-, -, -, y4⟩ := J0.out.below hnx
            by_cases hlt : k < xs.length
            · rcases y4 with h0 | ⟨b', o', rfl, hbl', hc'⟩
              · omega
              have c1 := hc' k hlt
              have tt := Tm.isW_at HW.out k
              rw [← getD_at xs k (by omega)] at c1 tt
              clear hc'
              have MS := Lib.hid (Tm.mulV_succ kind xs k hlt)
              have P : -1 ≤ xs[k] * kind ∧ xs[k] * kind ≤ 1 := by
                have e1 : xs[k] = -1 ∨ xs[k] = 0 ∨ xs[k] = 1 := by omega
                have e2 : kind = -1 ∨ kind = 1 := by omega
                rcases e1 with e1 | e1 | e1 <;> rcases e2 with e2 | e2 <;> rw [e1, e2] <;> decide
              have PW : IntKind.i64.wrap (xs[k] * kind) = xs[k] * kind := IntWalk.i64_in _ (by omega)
              have hs := hnx.size
              clear tt P
              go_wp2_with (first | (at_builtin; refine wpList_append_own _ rfl _ _ 24 rfl w.heap.size 3 i0 (.int .i64 0) 1 8 Try.underlying24 hi hz0 hz1 hz2 rfl (by decide) _ _ _ rfl (hown.alloc _) ⟨wr.heap.size, 0, none⟩ 1 1 [.int .i64 (xs[k] * kind)] rfl rfl (app_c1 _ _ _) (app_c2 _) (by unfold maxLen; omega) (by omega) (by have := hnx.size; simp; omega) ?_))
              intro v' w1 hown' hgrow _
              have hnx1 : Below w.heap.size w w1 := (hnx.alloc hs _).grown hgrow (by simp; omega) (fun k hk => (hown.lt k hk).1)
              rw [MS.out] at hown'
              clear hown hgrow hnx
              go_wp2
              exact ⟨⟨k + 1, by omega, by go_num, hown', hnx1⟩, by simp [intOf]; omega⟩
            · obtain rfl : k = xs.length := by omega
              go_wp2
              go_ret2
              rw [Tm.mulV_all] at hown
              exact ret_own_b hown hnx (by omega)
        · have E : Tm.outOk L coin kind = false := by rw [Tm.outOk, decide_eq_false k0, decide_eq_false hq]; simp
          rw [Tm.outc, E]
          have k1 : (kind == 0) = false := by simpa using k0
          rcases Int.lt_or_le coin 0 with b1 | b1
          · clear ha hcl E hq
            go_enter Try.func57, Try.ntmps57
            go_wp2_with fail
            refine SW.out.mono ?_
            rintro e w1 ⟨rfl, rfl⟩
            go_wp2_with (first | (go_at_call 97; refine (sIsTrit _ _).mono ?_; rintro e w1 ⟨rfl, rfl⟩))
            go_ret2
            exact ret_nil_b (by (repeat' (first | (with_reducible exact Below.refl _ _) | (with_reducible assumption) | (with_reducible refine below_drewN ?_ _) | (with_reducible refine Below.drew ?_) | (with_reducible refine Below.alloc ?_ ?_ _) | (with_reducible refine Below.setCell ?_ ?_ _) | (with_reducible refine below_gw ?_ ?_ _) | (with_reducible refine below_via ?_ ‹Below _ _ _› ?_) | (with_reducible exact Nat.le_refl _) | (with_reducible refine le_gw ?_ _) | (with_reducible refine le_alloc ?_ _) | (with_reducible refine le_setCell ?_ _ _) | (with_reducible refine le_drew ?_) | (with_reducible refine le_drewN ?_ _) | go_size)))
          · have b2 : ¬ coin < (L.length : Int) := by omega
            have b3 : coin ≥ (L.length : Int) := by omega
            clear ha hcl E hq
            go_enter Try.func57, Try.ntmps57
            go_wp2_with fail
            refine SW.out.mono ?_
            rintro e w1 ⟨rfl, rfl⟩
            go_wp2_with (first | (go_at_call 97; refine (sIsTrit _ _).mono ?_; rintro e w1 ⟨rfl, rfl⟩))
            go_ret2
            exact ret_nil_b (by (repeat' (first | (with_reducible exact Below.refl _ _) | (with_reducible assumption) | (with_reducible refine below_drewN ?_ _) | (with_reducible refine Below.drew ?_) | (with_reducible refine Below.alloc ?_ ?_ _) | (with_reducible refine Below.setCell ?_ ?_ _) | (with_reducible refine below_gw ?_ ?_ _) | (with_reducible refine below_via ?_ ‹Below _ _ _› ?_) | (with_reducible exact Nat.le_refl _) | (with_reducible refine le_gw ?_ _) | (with_reducible refine le_alloc ?_ _) | (with_reducible refine le_setCell ?_ _ _) | (with_reducible refine le_drew ?_) | (with_reducible refine le_drewN ?_ _) | go_size)))
end Go.Proofs.Yteklgngooflhlaa

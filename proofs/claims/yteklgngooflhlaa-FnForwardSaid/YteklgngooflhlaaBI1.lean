/- The program's words that turn forward, coins. -/
import Derived.Test.YteklgngooflhlaaBMath
import Derived.Test.YteklgngooflhlaaWI
import Derived.Test.YteklgngooflhlaaBOwn
namespace Go.Proofs.Yteklgngooflhlaa
set_option maxRecDepth 20000
open Go.RowKit
theorem iCoinsFor (k : Int) (w : World) : Calls Try.prog 36 #[.int .i64 k] w fun e w' => e = .returned (.int .i64 (Tm.coinsFor k)) ∧ w = w' := by
  have LB : Hid (2 ≤ k → k ≤ 5 → 0 ≤ Tm.lim k ∧ Tm.lim k ≤ 1000) := Lib.hid fun h1 h2 => by
    have : k = 2 ∨ k = 3 ∨ k = 4 ∨ k = 5 := by omega
    rcases this with rfl | rfl | rfl | rfl <;> decide
  by_cases hk : 2 ≤ k ∧ k ≤ 5
  · have b := LB.out hk.1 hk.2
    have e1 : IntKind.i64.wrap (Tm.lim k - 1) = Tm.lim k - 1 := IntWalk.i64_in _ (by omega)
    rw [Tm.coinsFor, if_pos hk]
    obtain ⟨h1, h2⟩ := hk
    clear b
    go_enter Try.func36, Try.ntmps36
    go_wp2_with (first | (go_at_call 35; refine (iLimitOf _ _).mono ?_; rintro e w1 ⟨rfl, rfl⟩))
    go_ret
    exact ⟨rfl, rfl⟩
  · rw [Tm.coinsFor, if_neg hk]
    rcases Int.lt_or_le k 2 with h1 | h1
    · clear hk
      go_enter Try.func36, Try.ntmps36
      go_wp2
      go_ret
      exact ⟨rfl, rfl⟩
    · have h2 : 5 < k := by omega
      clear hk
      go_enter Try.func36, Try.ntmps36
      go_wp2
      go_ret
      exact ⟨rfl, rfl⟩
theorem iTurnsForward (a : Option Addr) (n cap : Nat) (xs : List Int) (w : World) (h : Ints w a n cap xs) : Calls Try.prog 33 #[.slice a n cap] w fun e w' => e = .returned (.bool (Tm.turnsF xs)) ∧ Below w.heap.size w w' := by
  have H := Lib.hid h
  obtain ⟨x1, x2, x3, x4⟩ := h
  subst x1
  unfold maxLen at x3
  cases hw : Tm.isW xs with
  | true =>
    have TF : Hid (Tm.turnsF xs = Tm.fwd xs) := Lib.hid (by rw [Tm.turnsF, hw]; rfl)
    go_enter Try.func33, Try.ntmps33
    go_wp2_with (first | (go_at_call 88; refine (iIsWord _ _ _ xs _ H.out).mono ?_; rintro e w1 ⟨rfl, rfl⟩))
    go_loopw [3] (fun i wr => ∃ k : Nat, i = .int .i64 ((k : Int) + 1) ∧ k ≤ xs.length ∧ Hid (Tm.fwd xs = Tm.fwd (xs.drop k)) ∧ ∃ d, wr = w.drewN d) (fun i _ => xs.length + 1 - (intOf i).toNat)
    case atStart => exact ⟨0, rfl, by omega, Lib.hid rfl, 0, rfl⟩
    case round =>
      obtain ⟨k, rfl, hk, F, dd, rfl⟩ := hrel
      by_cases hlt : k + 1 < xs.length
      · rcases x4 with h0 | ⟨b, o, rfl, hbl, hc⟩
        · omega
        have c1 := hc (k + 1) hlt
        have c2 := hc k (by omega)
        obtain ⟨x, hx⟩ : ∃ x, x = xs.getD (k + 1) 0 := ⟨_, rfl⟩
        obtain ⟨y, hy⟩ : ∃ y, y = xs.getD k 0 := ⟨_, rfl⟩
        rw [← hx] at c1
        rw [← hy] at c2
        have XY : Hid (x = xs.getD (k + 1) 0 ∧ y = xs.getD k 0) := Lib.hid ⟨hx, hy⟩
        have e1 : IntKind.i64.wrap ((k : Int) + 1 - 1) = (k : Int) := by rw [IntWalk.i64_in _ (by omega)]; omega
        have e2 : ((k : Int) + 1).toNat = k + 1 := by omega
        have e3 : (0 : Int) ≤ (k : Int) + 1 := by omega
        have e4 : (k : Int) + 1 < (xs.length : Int) := by omega
        have e5 : (k : Int) < (xs.length : Int) := by omega
        have e7 : IntKind.i64.wrap (k : Int) = (k : Int) := IntWalk.i64_in _ (by omega)
        have e6 : IntKind.i64.wrap ((k : Int) + 1 + 1) = (k : Int) + 1 + 1 := IntWalk.i64_in _ (by omega)
        clear hc hx hy
        by_cases exy : x = y
        · have FF := Lib.hid (Tm.fwd_same hlt (by rw [← XY.out.1, ← XY.out.2, exy]) F.out)
          have ne : (x != y) = false := by simpa using exy
          clear F exy XY
          go_wp2
          go_quiet (fail)
          go_wp2
          exact ⟨⟨k + 1, val_int (by first | omega | (rw [e6]; omega)), by omega, FF, dd + nq, rfl⟩, by simp [intOf]; omega⟩
        · have FT := Lib.hid (Tm.fwd_turn hlt (by rw [← XY.out.1, ← XY.out.2]; exact exy) F.out)
          have ne : (x != y) = true := by simpa using exy
          clear F exy
          go_wp2
          go_quiet (fail)
          go_wp2
          go_quiet ((go_at_call 32; exact quiet_same2 fun _ => iTurnTrit _ _))
          go_wp2
          go_ret
          exact ⟨ret_bool (by rw [TF.out, FT.out, ← XY.out.1, ← XY.out.2]; rfl), by (repeat' (first | (with_reducible exact Below.refl _ _) | (with_reducible assumption) | (with_reducible refine below_drewN ?_ _) | (with_reducible refine Below.drew ?_) | (with_reducible refine Below.alloc ?_ ?_ _) | (with_reducible refine Below.setCell ?_ ?_ _) | (with_reducible refine below_gw ?_ ?_ _) | (with_reducible refine below_via ?_ ‹Below _ _ _› ?_) | (with_reducible exact Nat.le_refl _) | (with_reducible refine le_gw ?_ _) | (with_reducible refine le_alloc ?_ _) | (with_reducible refine le_setCell ?_ _ _) | (with_reducible refine le_drew ?_) | (with_reducible refine le_drewN ?_ _) | go_size))⟩
      · have NO := Lib.hid (Tm.fwd_end (by omega) F.out)
        have e4 : ¬ ((k : Int) + 1 < (xs.length : Int)) := by omega
        go_wp2
        go_ret
        exact ⟨ret_bool (by rw [TF.out, NO.out]), by (repeat' (first | (with_reducible exact Below.refl _ _) | (with_reducible assumption) | (with_reducible refine below_drewN ?_ _) | (with_reducible refine Below.drew ?_) | (with_reducible refine Below.alloc ?_ ?_ _) | (with_reducible refine Below.setCell ?_ ?_ _) | (with_reducible refine below_gw ?_ ?_ _) | (with_reducible refine below_via ?_ ‹Below _ _ _› ?_) | (with_reducible exact Nat.le_refl _) | (with_reducible refine le_gw ?_ _) | (with_reducible refine le_alloc ?_ _) | (with_reducible refine le_setCell ?_ _ _) | (with_reducible refine le_drew ?_) | (with_reducible refine le_drewN ?_ _) | go_size))⟩
  | false =>
    go_enter Try.func33, Try.ntmps33
    go_wp2_with (first | (go_at_call 88; refine (iIsWord _ _ _ xs _ H.out).mono ?_; rintro e w1 ⟨rfl, rfl⟩))
    go_ret
    exact ⟨ret_bool (by rw [Tm.turnsF, hw]; rfl), by (repeat' (first | (with_reducible exact Below.refl _ _) | (with_reducible assumption) | (with_reducible refine below_drewN ?_ _) | (with_reducible refine Below.drew ?_) | (with_reducible refine Below.alloc ?_ ?_ _) | (with_reducible refine Below.setCell ?_ ?_ _) | (with_reducible refine below_gw ?_ ?_ _) | (with_reducible refine below_via ?_ ‹Below _ _ _› ?_) | (with_reducible exact Nat.le_refl _) | (with_reducible refine le_gw ?_ _) | (with_reducible refine le_alloc ?_ _) | (with_reducible refine le_setCell ?_ _ _) | (with_reducible refine le_drew ?_) | (with_reducible refine le_drewN ?_ _) | go_size))⟩
theorem iTurnedWord (a : Option Addr) (n cap : Nat) (xs : List Int) (w : World) (h : Ints w a n cap xs) (hn : n ≤ 30) : Calls Try.prog 76 #[.slice a n cap] w (RetI 3 w (Tm.turned xs)) := by
  obtain ⟨i0, hi, hz0, hz1, hz2⟩ := info_parts infoInt
  have H := Lib.hid h
  obtain rfl : n = xs.length := h.1.symm
  clear h
  go_enter Try.func76, Try.ntmps76
  go_wp2_with (first | (at_make; refine wpList_make_full _ rfl _ _ 24 rfl (w.heap.size) 3 i0 (.int .i64 0) 1 Try.underlying24 hi hz0 hz1 _ _ _ _ (xs.length) rfl rfl (by first | rfl | omega) (by first | rfl | omega) (by rw [hz2]; omega) (by unfold maxLen; omega) (by first | go_size | (simp only [gw_size, World.size_alloc]; omega) | exact Nat.le_refl _ | omega) ?_))
  intro w1 hown hgrow
  have hown0 := rowV_own hown
  have hb0 : Below w.heap.size w w1 := (Below.refl _ _).grown hgrow (Nat.le_refl _) (fun k hk => by cases hk)
  clear hown hgrow
  go_wp2
  go_loopw [11] (fun i wr => ∃ (j : Nat) (g : Nat → Int), j ≤ xs.length ∧ i = .int .i64 j ∧ wr.ownsRow w.heap.size 3 1 (.slice (some ⟨w.heap.size, 0, none⟩) xs.length xs.length) xs.length (rowV xs.length g) ∧ Hid (∀ q, q < j → g q = (Tm.turned xs).getD q 0) ∧ Below w.heap.size w wr) (fun i _ => xs.length - (intOf i).toNat)
  case atStart => exact ⟨0, _, by omega, rfl, hown0, Lib.hid (fun q hq => by omega), hb0⟩
  case round =>
    obtain ⟨j, g, hj, rfl, hown, G, hnx⟩ := hrel
    clear hown0 hb0
    by_cases hlt : j < xs.length
    · rcases (H.out.below hnx).2.2.2 with e | ⟨b, o, rfl, hbl, hc⟩
      · omega
      have hs := hnx.size
      have c1 := hc j hlt
      obtain ⟨x, hx⟩ : ∃ x, x = xs.getD j 0 := ⟨_, rfl⟩
      rw [← hx] at c1
      have TX : Hid (Tm.turn x = (Tm.turned xs).getD j 0) := Lib.hid (by rw [hx, Tm.turned]; simp [List.getD_eq_getElem?_getD, List.getElem?_eq_getElem hlt])
      have fz := hown.frozenAt j
      have ck := own_cell hown j hlt
      obtain ⟨s1, s2⟩ := own_put hown j (Tm.turn x)
      have hnx1 := hnx.grown s2 (by omega) (fun q hq => by cases hq; exact Nat.le_refl _)
      clear hown hnx s2 hc hx
      go_wp2_with ((go_at_call 32; refine (iTurnTrit _ _).mono ?_; rintro e w1 ⟨rfl, rfl⟩))
      refine ⟨⟨j + 1, _, by omega, by go_num, s1, Lib.hid (fun q hq => ?_), hnx1⟩, by simp [intOf]; omega⟩
      by_cases e : q = j
      · subst e; rw [upd_at, TX.out]
      · rw [upd_ne _ _ _ e]; exact G.out q (by omega)
    · obtain rfl : j = xs.length := by omega
      go_wp2
      go_ret
      rw [rowV_list (xs := Tm.turned xs) (by rw [Tm.turned_length]) G.out] at hown
      exact ret_own hown hnx (by first | omega | (rw [Tm.turned_length]; omega))
end Go.Proofs.Yteklgngooflhlaa

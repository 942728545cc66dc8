/- The program's words that turn forward, coins. The program's outcomes and guesses. -/
import Derived.Test.YteklgngooflhlaaBMath
import Derived.Deep.RegionHeld3
import Derived.Test.YteklgngooflhlaaWI
import Derived.Test.YteklgngooflhlaaBOwn
import Derived.Test.YteklgngooflhlaaGI0
import Derived.Test.YteklgngooflhlaaWI4
namespace Go.Proofs.Yteklgngooflhlaa
set_option maxRecDepth 20000
open Go.RowKit
theorem iCoinsFor (k : Int) (w : World) : Calls Try.prog 36 #[.int .i64 k] w fun e w' => e = .returned (.int .i64 (Tm.coinsFor k)) ∧ w = w' := by
  have LB : Hid (2 ≤ k → k ≤ 5 → 0 ≤ Tm.lim k ∧ Tm.lim k ≤ 1000) := Lib.hid fun h1 h2 => by
    have : k = 2 ∨ k = 3 ∨ k = 4 ∨ k = 5 := by omega
    rcases this with rfl | rfl | rfl | rfl <;> decide
  by_cases hk : 2 ≤ k ∧ k ≤ 5
  · have b := LB.out hk.1 hk.2
    have e1 : IntKind.i64.wrap (Tm.lim k - 1) = Tm.lim k - 1 := IntWalk.i64_in _ (by omega)
    rw [Tm.coinsFor, if_pos hk]
    obtain ⟨h1, h2⟩ := hk
    clear b
    go_enter Try.func36, Try.ntmps36
    go_wp2_with (first | (go_at_call 35; refine (iLimitOf _ _).mono ?_; rintro e w1 ⟨rfl, rfl⟩))
    go_ret
    exact ⟨rfl, rfl⟩
  · rw [Tm.coinsFor, if_neg hk]
    rcases Int.lt_or_le k 2 with h1 | h1
    · clear hk
      go_enter Try.func36, Try.ntmps36
      go_wp2
      go_ret
      exact ⟨rfl, rfl⟩
    · have h2 : 5 < k := by omega
      clear hk
      go_enter Try.func36, Try.ntmps36
      go_wp2
      go_ret
      exact ⟨rfl, rfl⟩
theorem iTurnsForward (a : Option Addr) (n cap : Nat) (xs : List Int) (w : World) (h : Ints w a n cap xs) : Calls Try.prog 33 #[.slice a n cap] w fun e w' => e = .returned (.bool (Tm.turnsF xs)) ∧ Below w.heap.size w w' := by
  have H := Lib.hid h
  obtain ⟨x1, x2, x3, x4⟩ := h
  subst x1
  unfold maxLen at x3
  cases hw : Tm.isW xs with
  | true =>
    have TF : Hid (Tm.turnsF xs = Tm.fwd xs) := Lib.hid (by rw [Tm.turnsF, hw]; rfl)
    go_enter Try.func33, Try.ntmps33
    go_wp2_with (first | (go_at_call 88; refine (iIsWord _ _ _ xs _ H.out).mono ?_; rintro e w1 ⟨rfl, rfl⟩))
    go_loopw [3] (fun i wr => ∃ k : Nat, i = .int .i64 ((k : Int) + 1) ∧ k ≤ xs.length ∧ Hid (Tm.fwd xs = Tm.fwd (xs.drop k)) ∧ ∃ d, wr = w.drewN d) (fun i _ => xs.length + 1 - (intOf i).toNat)
    case atStart => exact ⟨0, rfl, by omega, Lib.hid rfl, 0, rfl⟩
    case round =>
      obtain ⟨k, rfl, hk, F, dd, rfl⟩ := hrel
      by_cases hlt : k + 1 < xs.length
      · rcases x4 with h0 | ⟨b, o, rfl, hbl, hc⟩
        · omega
        have c1 := hc (k + 1) hlt
        have c2 := hc k (by omega)
        obtain ⟨x, hx⟩ : ∃ x, x = xs.getD (k + 1) 0 := ⟨_, rfl⟩
        obtain ⟨y, hy⟩ : ∃ y, y = xs.getD k 0 := ⟨_, rfl⟩
        rw [← hx] at c1
        rw [← hy] at c2
        have XY : Hid (x = xs.getD (k + 1) 0 ∧ y = xs.getD k 0) := Lib.hid ⟨hx, hy⟩
        have e1 : IntKind.i64.wrap ((k : Int) + 1 - 1) = (k : Int) := by rw [IntWalk.i64_in _ (by omega)]; omega
        have e2 : ((k : Int) + 1).toNat = k + 1 := by omega
        have e3 : (0 : Int) ≤ (k : Int) + 1 := by omega
        have e4 : (k : Int) + 1 < (xs.length : Int) := by omega
        have e5 : (k : Int) < (xs.length : Int) := by omega
        have e7 : IntKind.i64.wrap (k : Int) = (k : Int) := IntWalk.i64_in _ (by omega)
        have e6 : IntKind.i64.wrap ((k : Int) + 1 + 1) = (k : Int) + 1 + 1 := IntWalk.i64_in _ (by omega)
        clear hc hx hy
        by_cases exy : x = y
        · have FF := Lib.hid (Tm.fwd_same hlt (by rw [← XY.out.1, ← XY.out.2, exy]) F.out)
          have ne : (x != y) = false := by simpa using exy
          clear F exy XY
          go_wp2
          go_quiet (fail)
          go_wp2
          exact ⟨⟨k + 1, val_int (by first | omega | (rw [e6]; omega)), by omega, FF, dd + nq, rfl⟩, by simp [intOf]; omega⟩
        · have FT := Lib.hid (Tm.fwd_turn hlt (by rw [← XY.out.1, ← XY.out.2]; exact exy) F.out)
          have ne : (x != y) = true := by simpa using exy
          clear F exy
          go_wp2
          go_quiet (fail)
          go_wp2
          go_quiet ((go_at_call 32; exact quiet_same2 fun _ => iTurnTrit _ _))
          go_wp2
          go_ret
          exact ⟨ret_bool (by rw [TF.out, FT.out, ← XY.out.1, ← XY.out.2]; rfl), by (repeat' (first | (with_reducible exact Below.refl _ _) | (with_reducible assumption) | (with_reducible refine below_drewN ?_ _) | (with_reducible refine Below.drew ?_) | (with_reducible refine Below.alloc ?_ ?_ _) | (with_reducible refine Below.setCell ?_ ?_ _) | (with_reducible refine below_gw ?_ ?_ _) | (with_reducible refine below_via ?_ ‹Below _ _ _› ?_) | (with_reducible exact Nat.le_refl _) | (with_reducible refine le_gw ?_ _) | (with_reducible refine le_alloc ?_ _) | (with_reducible refine le_setCell ?_ _ _) | (with_reducible refine le_drew ?_) | (with_reducible refine le_drewN ?_ _) | go_size))⟩
      · have NO := Lib.hid (Tm.fwd_end (by omega) F.out)
        have e4 : ¬ ((k : Int) + 1 < (xs.length : Int)) := by omega
        go_wp2
        go_ret
        exact ⟨ret_bool (by rw [TF.out, NO.out]), by (repeat' (first | (with_reducible exact Below.refl _ _) | (with_reducible assumption) | (with_reducible refine below_drewN ?_ _) | (with_reducible refine Below.drew ?_) | (with_reducible refine Below.alloc ?_ ?_ _) | (with_reducible refine Below.setCell ?_ ?_ _) | (with_reducible refine below_gw ?_ ?_ _) | (with_reducible refine below_via ?_ ‹Below _ _ _› ?_) | (with_reducible exact Nat.le_refl _) | (with_reducible refine le_gw ?_ _) | (with_reducible refine le_alloc ?_ _) | (with_reducible refine le_setCell ?_ _ _) | (with_reducible refine le_drew ?_) | (with_reducible refine le_drewN ?_ _) | go_size))⟩
  | false =>
    go_enter Try.func33, Try.ntmps33
    go_wp2_with (first | (go_at_call 88; refine (iIsWord _ _ _ xs _ H.out).mono ?_; rintro e w1 ⟨rfl, rfl⟩))
    go_ret
    exact ⟨ret_bool (by rw [Tm.turnsF, hw]; rfl), by (repeat' (first | (with_reducible exact Below.refl _ _) | (with_reducible assumption) | (with_reducible refine below_drewN ?_ _) | (with_reducible refine Below.drew ?_) | (with_reducible refine Below.alloc ?_ ?_ _) | (with_reducible refine Below.setCell ?_ ?_ _) | (with_reducible refine below_gw ?_ ?_ _) | (with_reducible refine below_via ?_ ‹Below _ _ _› ?_) | (with_reducible exact Nat.le_refl _) | (with_reducible refine le_gw ?_ _) | (with_reducible refine le_alloc ?_ _) | (with_reducible refine le_setCell ?_ _ _) | (with_reducible refine le_drew ?_) | (with_reducible refine le_drewN ?_ _) | go_size))⟩
theorem iTurnedWord (a : Option Addr) (n cap : Nat) (xs : List Int) (w : World) (h : Ints w a n cap xs) (hn : n ≤ 30) : Calls Try.prog 76 #[.slice a n cap] w (RetI 3 w (Tm.turned xs)) := by
  obtain ⟨i0, hi, hz0, hz1, hz2⟩ := info_parts infoInt
  have H := Lib.hid h
  obtain rfl : n = xs.length := h.1.symm
  clear h
  go_enter Try.func76, Try.ntmps76
  go_wp2_with (first | (at_make; refine wpList_make_full _ rfl _ _ 24 rfl (w.heap.size) 3 i0 (.int .i64 0) 1 Try.underlying24 hi hz0 hz1 _ _ _ _ (xs.length) rfl rfl (by first | rfl | omega) (by first | rfl | omega) (by rw [hz2]; omega) (by unfold maxLen; omega) (by first | go_size | (simp only [gw_size, World.size_alloc]; omega) | exact Nat.le_refl _ | omega) ?_))
  intro w1 hown hgrow
  have hown0 := rowV_own hown
  have hb0 : Below w.heap.size w w1 := (Below.refl _ _).grown hgrow (Nat.le_refl _) (fun k hk => by cases hk)
  clear hown hgrow
  go_wp2
  go_loopw [11] (fun i wr => ∃ (j : Nat) (g : Nat → Int), j ≤ xs.length ∧ i = .int .i64 j ∧ wr.ownsRow w.heap.size 3 1 (.slice (some ⟨w.heap.size, 0, none⟩) xs.length xs.length) xs.length (rowV xs.length g) ∧ Hid (∀ q, q < j → g q = (Tm.turned xs).getD q 0) ∧ Below w.heap.size w wr) (fun i _ => xs.length - (intOf i).toNat)
  case atStart => exact ⟨0, _, by omega, rfl, hown0, Lib.hid (fun q hq => by omega), hb0⟩
  case round =>
    obtain ⟨j, g, hj, rfl, hown, G, hnx⟩ := hrel
    clear hown0 hb0
    by_cases hlt : j < xs.length
    · rcases (H.out.below hnx).2.2.2 with e | ⟨b, o, rfl, hbl, hc⟩
      · omega
      have hs := hnx.size
      have c1 := hc j hlt
      obtain ⟨x, hx⟩ : ∃ x, x = xs.getD j 0 := ⟨_, rfl⟩
      rw [← hx] at c1
      have TX : Hid (Tm.turn x = (Tm.turned xs).getD j 0) := Lib.hid (by rw [hx, Tm.turned]; simp [List.getD_eq_getElem?_getD, List.getElem?_eq_getElem hlt])
      have fz := hown.frozenAt j
      have ck := own_cell hown j hlt
      obtain ⟨s1, s2⟩ := own_put hown j (Tm.turn x)
      have hnx1 := hnx.grown s2 (by omega) (fun q hq => by cases hq; exact Nat.le_refl _)
      clear hown hnx s2 hc hx
      go_wp2_with ((go_at_call 32; refine (iTurnTrit _ _).mono ?_; rintro e w1 ⟨rfl, rfl⟩))
      refine ⟨⟨j + 1, _, by omega, by go_num, s1, Lib.hid (fun q hq => ?_), hnx1⟩, by simp [intOf]; omega⟩
      by_cases e : q = j
      · subst e; rw [upd_at, TX.out]
      · rw [upd_ne _ _ _ e]; exact G.out q (by omega)
    · obtain rfl : j = xs.length := by omega
      go_wp2
      go_ret
      rw [rowV_list (xs := Tm.turned xs) (by rw [Tm.turned_length]) G.out] at hown
      exact ret_own hown hnx (by first | omega | (rw [Tm.turned_length]; omega))
theorem iCoinWordsOk (a : Option Addr) (n cap : Nat) (L : List (List Int)) (w : World) (h : Rows w a n cap L) : Calls Try.prog 77 #[.slice a n cap] w fun e w' => e = .returned (.bool (Tm.coinsOk L)) ∧ w = w' := by
  have H := Lib.hid h
  obtain rfl : n = L.length := h.1.symm
  have m2 := h.2.1
  have m3 := h.2.2.1
  unfold maxLen at m3
  clear h
  rcases Nat.eq_zero_or_pos L.length with h0 | h0
  · have E0 : Tm.coinsOk L = false := by rw [Tm.coinsOk, decide_eq_false (by omega)]; rfl
    have h1 : ¬ (0 : Int) < (L.length : Int) := by omega
    have h2 : L = [] := List.length_eq_zero_iff.1 h0
    rw [E0]
    clear E0
    go_enter Try.func77, Try.ntmps77
    go_wp2
    go_ret
    exact ⟨by simp, rfl⟩
  · have E0 : Tm.coinsOk L = Tm.alike L := by rw [Tm.coinsOk, decide_eq_true h0]; rfl
    have h1 : (0 : Int) < (L.length : Int) := by omega
    have h2 : L ≠ [] := by intro e; subst e; simp at h0
    rw [E0]
    clear E0
    go_enter Try.func77, Try.ntmps77
    go_wp2_with ((go_at_call 85; refine (iAreAlike _ _ _ L _ H.out).mono ?_; rintro e w1 ⟨rfl, rfl⟩))
    go_ret
    exact ⟨by simp, rfl⟩
namespace Tm
theorem times_mulB {a b : Int} (ha : -1 ≤ a ∧ a ≤ 1) (hb : -1 ≤ b ∧ b ≤ 1) : times a b = a * b := by
  rw [times, (isT_iff a).2 ha, (isT_iff b).2 hb]; rfl
end Tm
theorem iPartialK (a : Option Addr) (n cap : Nat) (xs : List Int) (y : Int) (w : World) (h : Ints w a n cap xs) (hx : Tm.isW xs = true) (hy : -1 ≤ y ∧ y ≤ 1) :
    Calls Try.prog 84 #[.slice a n cap, .int .i64 y, .int .i64 0, .int .i64 n] w (RetI 3 w (Tm.mulK y xs)) := by
  obtain ⟨i0, hi, hz0, hz1, hz2⟩ := info_parts infoInt
  have H := Lib.hid h
  obtain rfl : n = xs.length := h.1.symm
  have HX := Lib.hid hx
  have lx := Tm.isW_len hx
  obtain ⟨y1, y2⟩ := hy
  clear h hx
  go_enter Try.func84, Try.ntmps84
  go_wp2_with (at_make; refine wpList_make_full _ rfl _ _ 24 rfl (w.heap.size) 3 i0 (.int .i64 0) 1 Try.underlying24 hi hz0 hz1 _ _ _ _ (xs.length) rfl rfl (by first | rfl | omega) (by first | rfl | omega) (by rw [hz2]; omega) (by unfold maxLen; omega) (by first | go_size | (simp only [gw_size, World.size_alloc]; omega) | exact Nat.le_refl _ | omega) ?_)
  intro w1 hown hgrow
  have hown0 := rowV_own hown
  have hb0 : Below w.heap.size w w1 := (Below.refl _ _).grown hgrow (Nat.le_refl _) (fun k hk => by cases hk)
  clear hown hgrow
  go_wp2
  go_loopw [16] (fun i wr => ∃ (j : Nat) (g : Nat → Int), j ≤ xs.length ∧ i = .int .i64 j ∧ wr.ownsRow w.heap.size 3 1 (.slice (some ⟨w.heap.size, 0, none⟩) xs.length xs.length) xs.length (rowV xs.length g) ∧ Hid (∀ q, q < j → g q = (Tm.mulK y xs).getD q 0) ∧ Below w.heap.size w wr) (fun i _ => xs.length - (intOf i).toNat)
  case atStart => exact ⟨0, _, by omega, rfl, hown0, Lib.hid (fun q hq => by omega), hb0⟩
  case round =>
    obtain ⟨j, g, hj, rfl, hown, G, hnx⟩ := hrel
    clear hown0 hb0
    by_cases hlt : j < xs.length
    · rcases (H.out.below hnx).2.2.2 with e | ⟨b, o, rfl, hbl, hc⟩
      · omega
      have hs := hnx.size
      have c1 := hc j hlt
      have tt := Tm.isW_at HX.out j
      obtain ⟨x, hx⟩ : ∃ x, x = xs.getD j 0 := ⟨_, rfl⟩
      rw [← hx] at c1 tt
      have TX : Hid (Tm.times x y = (Tm.mulK y xs).getD j 0) := Lib.hid (by
        rw [Tm.times_mulB tt ⟨y1, y2⟩, hx, Tm.mulK]
        simp [List.getD_eq_getElem?_getD, List.getElem?_eq_getElem hlt])
      have fz := hown.frozenAt j
      have ck := own_cell hown j hlt
      obtain ⟨s1, s2⟩ := own_put hown j (Tm.times x y)
      have hnx1 := hnx.grown s2 (by omega) (fun q hq => by cases hq; exact Nat.le_refl _)
      have e1 : IntKind.i64.wrap ((0 : Int) + (j : Int)) = (j : Int) := by rw [IntWalk.i64_in _ (by omega)]; omega
      have e2 : IntKind.i64.wrap (j : Int) = (j : Int) := IntWalk.i64_in _ (by omega)
      clear hown hnx s2 hc hx tt
      go_wp2_with ((go_at_call 103; refine (iTimesTrits _ _ _).mono ?_; rintro e w1 ⟨rfl, rfl⟩))
      refine ⟨⟨j + 1, _, by omega, by go_num, s1, Lib.hid (fun q hq => ?_), hnx1⟩, by simp [intOf]; omega⟩
      by_cases e : q = j
      · subst e; rw [upd_at, TX.out]
      · rw [upd_ne _ _ _ e]; exact G.out q (by omega)
    · obtain rfl : j = xs.length := by omega
      go_wp2
      go_ret
      rw [rowV_list (xs := Tm.mulK y xs) (by rw [Tm.mulK_length]) G.out] at hown
      exact ret_own hown hnx (by omega)
theorem iOutcomeOf (a : Option Addr) (n cap : Nat) (L : List (List Int)) (coin kind : Int) (w : World) (h : Rows w a n cap L) : Calls Try.prog 29 #[.slice a n cap, .int .i64 coin, .int .i64 kind] w (RetIB 3 w (Tm.outc L coin kind) (Tm.outOk L coin kind)) := by
  obtain ⟨i0, hi, hz0, hz1, hz2⟩ := info_parts infoInt
  have H := Lib.hid h
  obtain ⟨x1, x2, x3, x4⟩ := h
  subst x1
  unfold maxLen at x3
  have SW := Lib.hid (iCoinWordsOk a _ cap L w H.out)
  cases hc : Tm.coinsOk L with
  | false =>
    have E : Tm.outOk L coin kind = false := by rw [Tm.outOk, hc]; rfl
    rw [Tm.outc, E]
    rw [hc] at SW
    go_enter Try.func29, Try.ntmps29
    go_wp2_with fail
    refine SW.out.mono ?_
    rintro e w1 ⟨rfl, rfl⟩
    go_wp2
    go_ret2
    exact ret_nil_b (by (repeat' (first | (with_reducible exact Below.refl _ _) | (with_reducible assumption) | (with_reducible refine below_drewN ?_ _) | (with_reducible refine Below.drew ?_) | (with_reducible refine Below.alloc ?_ ?_ _) | (with_reducible refine Below.setCell ?_ ?_ _) | (with_reducible refine below_gw ?_ ?_ _) | (with_reducible refine below_via ?_ ‹Below _ _ _› ?_) | (with_reducible exact Nat.le_refl _) | (with_reducible refine le_gw ?_ _) | (with_reducible refine le_alloc ?_ _) | (with_reducible refine le_setCell ?_ _ _) | (with_reducible refine le_drew ?_) | (with_reducible refine le_drewN ?_ _) | go_size)))
  | true =>
    obtain ⟨h0, ha⟩ := Tm.coinsOk_at hc
    rw [hc] at SW
    cases ht : Tm.isT kind with
    | false =>
      have E : Tm.outOk L coin kind = false := by rw [Tm.outOk, ht]; simp
      rw [Tm.outc, E]
      clear ha
      go_enter Try.func29, Try.ntmps29
      go_wp2_with fail
      refine SW.out.mono ?_
      rintro e w1 ⟨rfl, rfl⟩
      go_wp2_with ((go_at_call 83; refine (iIsTrit _ _).mono ?_; rintro e w1 ⟨rfl, rfl⟩))
      go_ret2
      exact ret_nil_b (by (repeat' (first | (with_reducible exact Below.refl _ _) | (with_reducible assumption) | (with_reducible refine below_drewN ?_ _) | (with_reducible refine Below.drew ?_) | (with_reducible refine Below.alloc ?_ ?_ _) | (with_reducible refine Below.setCell ?_ ?_ _) | (with_reducible refine below_gw ?_ ?_ _) | (with_reducible refine below_via ?_ ‹Below _ _ _› ?_) | (with_reducible exact Nat.le_refl _) | (with_reducible refine le_gw ?_ _) | (with_reducible refine le_alloc ?_ _) | (with_reducible refine le_setCell ?_ _ _) | (with_reducible refine le_drew ?_) | (with_reducible refine le_drewN ?_ _) | go_size)))
    | true =>
      have tb := (Tm.isT_iff _).1 ht
      obtain ⟨t1, t2⟩ := tb
      rcases x4 with e0 | ⟨b, o, rfl, hbl, hcl⟩
      · omega
      by_cases k0 : kind = 0
      · subst k0
        have E : Tm.outOk L coin 0 = true := by rw [Tm.outOk, hc]; rfl
        rw [Tm.outc, E, if_pos rfl, if_pos rfl]
        obtain ⟨a0, m0, c0, z0, j0⟩ := hcl 0 h0
        have l0 := Tm.isW_len (ha 0 h0).1
        have e0 := j0.1
        rw [Nat.add_zero] at z0
        obtain ⟨x0, hx0⟩ : ∃ x0, x0 = L.getD 0 [] := ⟨_, rfl⟩
        rw [← hx0] at l0 e0 j0 ⊢
        subst e0
        have hl0 : (0 : Int) < (L.length : Int) := by omega
        have hn0 : L ≠ [] := by intro e; subst e; simp at h0
        clear ha hcl hx0 E
        go_enter Try.func29, Try.ntmps29
        go_wp2_with fail
        refine SW.out.mono ?_
        rintro e w1 ⟨rfl, rfl⟩
        go_wp2_with (first | (go_at_call 83; refine (iIsTrit _ _).mono ?_; rintro e w1 ⟨rfl, rfl⟩) | (at_make; refine wpList_make_full _ rfl _ _ 24 rfl (w.heap.size) 3 i0 (.int .i64 0) 1 Try.underlying24 hi hz0 hz1 _ _ _ _ (x0.length) rfl rfl (by first | rfl | omega) (by first | rfl | omega) (by rw [hz2]; omega) (by unfold maxLen; omega) (by first | go_size | (simp only [gw_size, World.size_alloc]; omega) | exact Nat.le_refl _ | omega) ?_))
        intro w1 hown hgrow
        have hown0 := rowV_own hown
        have hb0 : Below w.heap.size w w1 := (Below.refl _ _).grown hgrow (Nat.le_refl _) (fun k hk => by cases hk)
        clear hown hgrow
        go_wp2
        go_ret2
        rw [rowV_list (xs := List.replicate x0.length (0 : Int)) (by simp) (fun i hi => by rw [List.getD_eq_getElem?_getD, List.getElem?_replicate]; simp [hi])] at hown0
        exact ret_own_b hown0 hb0 (by omega)
      · have k1 : (kind == 0) = false := by simpa using k0
        have i1 := Lib.hid (ints_one w coin 3)
        by_cases hq : 0 ≤ coin ∧ coin < (L.length : Int)
        · obtain ⟨q, rfl⟩ : ∃ q : Nat, coin = (q : Int) := ⟨coin.toNat, by omega⟩
          have hql : q < L.length := by omega
          have E : Tm.outOk L (q : Int) kind = true := by rw [Tm.outOk, hc, ht, decide_eq_true hq]; simp
          rw [Tm.outc, E, if_pos rfl, if_neg k0, Int.toNat_natCast]
          obtain ⟨a0, m0, c0, z0, j0⟩ := hcl q hql
          have hw := (ha q hql).1
          have l0 := Tm.isW_len hw
          obtain ⟨xs, hxs⟩ : ∃ xs, xs = L.getD q [] := ⟨_, rfl⟩
          rw [← hxs] at l0 hw j0 ⊢
          have e0 := j0.1
          subst e0
          have J0 := Lib.hid j0
          have LO : Tm.linesOk (L.length : Int) [(q : Int)] = true := by simp [Tm.linesOk, Tm.inB]; omega
          have b3 : (q : Int) < (L.length : Int) := by omega
          have b4 : (0 : Int) ≤ (q : Int) := by omega
          have PK := Lib.hid (fun (W : World) (h : Ints W a0 xs.length c0 xs) => iPartialK a0 _ c0 xs kind W h hw ⟨t1, t2⟩)
          have S1 : Hid (∀ W, Below w.heap.size w W → W.cell? ⟨b, o + q, none⟩ = some (.slice a0 xs.length c0)) := Lib.hid fun W hW => by
            rw [← z0]; exact World.cell?_of_block (a := ⟨b, o + q, none⟩) (hW.block b hbl)
          have LB := Lib.hid (fun W h => iAreBefore (L.length : Int) (some ⟨w.heap.size, 0, none⟩) 1 1 [(q : Int)] W h)
          rw [LO] at LB
          clear ha hcl hxs E j0 hw hq z0 LO
          go_enter Try.func29, Try.ntmps29
          go_wp2_with fail
          refine SW.out.mono ?_
          rintro e w1 ⟨rfl, rfl⟩
          go_wp2_with (first | (go_at_call 83; refine (iIsTrit _ _).mono ?_; rintro e w1 ⟨rfl, rfl⟩) | (go_at_call 81; refine (LB.out _ i1.out).mono ?_; rintro e w1 ⟨rfl, rfl⟩))
          go_region_held3 (fun W => W.cell? ⟨b, o + q, none⟩ = some (.slice a0 xs.length c0)) (exact S1.out _ (by (repeat' (first | (with_reducible exact Below.refl _ _) | (with_reducible assumption) | (with_reducible refine below_drewN ?_ _) | (with_reducible refine Below.drew ?_) | (with_reducible refine Below.alloc ?_ ?_ _) | (with_reducible refine Below.setCell ?_ ?_ _) | (with_reducible refine below_gw ?_ ?_ _) | (with_reducible refine below_via ?_ ‹Below _ _ _› ?_) | (with_reducible exact Nat.le_refl _) | (with_reducible refine le_gw ?_ _) | (with_reducible refine le_alloc ?_ _) | (with_reducible refine le_setCell ?_ _ _) | (with_reducible refine le_drew ?_) | (with_reducible refine le_drewN ?_ _) | go_size)))) ((first | (go_at_call 84; refine (PK.out _ (J0.out.below (by (repeat' (first | (with_reducible exact Below.refl _ _) | (with_reducible assumption) | (with_reducible refine below_drewN ?_ _) | (with_reducible refine Below.drew ?_) | (with_reducible refine Below.alloc ?_ ?_ _) | (with_reducible refine Below.setCell ?_ ?_ _) | (with_reducible refine below_gw ?_ ?_ _) | (with_reducible refine below_via ?_ ‹Below _ _ _› ?_) | (with_reducible exact Nat.le_refl _) | (with_reducible refine le_gw ?_ _) | (with_reducible refine le_alloc ?_ _) | (with_reducible refine le_setCell ?_ _ _) | (with_reducible refine le_drew ?_) | (with_reducible refine le_drewN ?_ _) | go_size))))).mono ?_; rintro e w1 ⟨d1, e1, rfl, ho1, hb, -⟩; have HO1 := Lib.hid ho1; clear ho1; have HB1 := Lib.hid hb; obtain ⟨p, rfl⟩ := gw_of_below hb; clear hb)))
          go_wp2
          go_ret2
          exact ret_own_b (own_weak HO1.out (by simp)) (by (repeat' (first | (with_reducible exact Below.refl _ _) | (with_reducible assumption) | (with_reducible refine below_drewN ?_ _) | (with_reducible refine Below.drew ?_) | (with_reducible refine Below.alloc ?_ ?_ _) | (with_reducible refine Below.setCell ?_ ?_ _) | (with_reducible refine below_gw ?_ ?_ _) | (with_reducible refine below_via ?_ ‹Below _ _ _› ?_) | (with_reducible exact Nat.le_refl _) | (with_reducible refine le_gw ?_ _) | (with_reducible refine le_alloc ?_ _) | (with_reducible refine le_setCell ?_ _ _) | (with_reducible refine le_drew ?_) | (with_reducible refine le_drewN ?_ _) | go_size))) (by rw [Tm.mulK_length]; omega)
        · have E : Tm.outOk L coin kind = false := by rw [Tm.outOk, decide_eq_false k0, decide_eq_false hq]; simp
          rw [Tm.outc, E]
          have LO : Tm.linesOk (L.length : Int) [coin] = false := by simp [Tm.linesOk, Tm.inB]; omega
          have LB := Lib.hid (fun W h => iAreBefore (L.length : Int) (some ⟨w.heap.size, 0, none⟩) 1 1 [coin] W h)
          rw [LO] at LB
          clear ha hcl E hq LO
          go_enter Try.func29, Try.ntmps29
          go_wp2_with fail
          refine SW.out.mono ?_
          rintro e w1 ⟨rfl, rfl⟩
          go_wp2_with (first | (go_at_call 83; refine (iIsTrit _ _).mono ?_; rintro e w1 ⟨rfl, rfl⟩) | (go_at_call 81; refine (LB.out _ i1.out).mono ?_; rintro e w1 ⟨rfl, rfl⟩))
          go_ret2
          exact ret_nil_b (by (repeat' (first | (with_reducible exact Below.refl _ _) | (with_reducible assumption) | (with_reducible refine below_drewN ?_ _) | (with_reducible refine Below.drew ?_) | (with_reducible refine Below.alloc ?_ ?_ _) | (with_reducible refine Below.setCell ?_ ?_ _) | (with_reducible refine below_gw ?_ ?_ _) | (with_reducible refine below_via ?_ ‹Below _ _ _› ?_) | (with_reducible exact Nat.le_refl _) | (with_reducible refine le_gw ?_ _) | (with_reducible refine le_alloc ?_ _) | (with_reducible refine le_setCell ?_ _ _) | (with_reducible refine le_drew ?_) | (with_reducible refine le_drewN ?_ _) | go_size)))
end Go.Proofs.Yteklgngooflhlaa

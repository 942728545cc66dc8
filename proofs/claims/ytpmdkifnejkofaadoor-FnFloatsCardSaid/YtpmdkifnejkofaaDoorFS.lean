/- The model's floating numbers. -/
import Derived.Test.YtpmdkifnejkofaaDoorFMath
import Derived.Test.YtpmdkifnejkofaaDoorPS
import Derived.Test.YtpmdkifnejkofaaDoorOwn
import Derived.Test.YtpmdkifnejkofaaDoorTurn
namespace Go.Proofs.YtpmdkifnejkofaaDoor
set_option maxRecDepth 20000
open Go.RowKit
@[go_sem] theorem lt_one (a s : Nat) : (a < a + 1 + s) = True := by simp; omega
@[go_sem] theorem lt_two (a s t : Nat) : (a < a + 1 + s + t) = True := by simp; omega
@[go_sem] theorem lt_three (a s t u : Nat) : (a < a + 1 + s + t + u) = True := by simp; omega
@[go_sem] theorem lt_one2 (a s : Nat) : (a + 1 < a + 1 + 1 + s) = True := by simp; omega
@[go_sem] theorem lt_two2 (a s t : Nat) : (a + 1 < a + 1 + 1 + s + t) = True := by simp; omega
@[go_sem] theorem lt_zero2 (a s : Nat) : (a < a + 1 + 1 + s) = True := by simp; omega
@[go_sem] theorem lt_zero3 (a s t : Nat) : (a < a + 1 + 1 + s + t) = True := by simp; omega
/-- A float is handed back, its digits new. -/
def RetF (e : Nat) (w : World) (xs : List Int) (x : Int) (r : Ending) (w' : World) : Prop :=
  ∃ a cap, r = .returned (.agg #[.slice a xs.length cap, .int .i64 x]) ∧ w'.ownsRow w.heap.size e 1 (.slice a xs.length cap) xs.length (xs.map (Value.int .i64)) ∧ Below w.heap.size w w' ∧ xs.length ≤ 1048576
def RetFB (e : Nat) (w : World) (xs : List Int) (x : Int) (ok : Bool) (r : Ending) (w' : World) : Prop :=
  ∃ a cap, r = .returned (.tuple #[.agg #[.slice a xs.length cap, .int .i64 x], .bool ok]) ∧ w'.ownsRow w.heap.size e 1 (.slice a xs.length cap) xs.length (xs.map (Value.int .i64)) ∧ Below w.heap.size w w' ∧ xs.length ≤ 1048576
theorem ret_own_f {e : Nat} {w w' : World} {xs : List Int} {x : Int} {v : Value} {n : Nat} (h : w'.ownsRow w.heap.size e 1 v n (xs.map (Value.int .i64))) (hb : Below w.heap.size w w') (hl : n ≤ 1048576 := by omega) : RetF e w xs x (.returned (.agg #[v, .int .i64 x])) w' := by
  obtain ⟨a, cap, rfl⟩ := own_form h
  have hn : n = xs.length := by have := h.1; simp at this; omega
  subst hn
  exact ⟨a, cap, rfl, h, hb, hl⟩
theorem ret_own_fb {e : Nat} {w w' : World} {xs : List Int} {x : Int} {v : Value} {n : Nat} {ok : Bool} (h : w'.ownsRow w.heap.size e 1 v n (xs.map (Value.int .i64))) (hb : Below w.heap.size w w') (hl : n ≤ 1048576 := by omega) : RetFB e w xs x ok (.returned (.tuple #[.agg #[v, .int .i64 x], .bool ok])) w' := by
  obtain ⟨a, cap, rfl⟩ := own_form h
  have hn : n = xs.length := by have := h.1; simp at this; omega
  subst hn
  exact ⟨a, cap, rfl, h, hb, hl⟩
theorem ret_nil_f {e : Nat} {w w' : World} (hb : Below w.heap.size w w') {x : Int} : RetF e w [] x (.returned (.agg #[.slice none 0 0, .int .i64 x])) w' := ret_own_f (World.ownsRow_nil _ _ _ _) hb
theorem ret_nil_fb {e : Nat} {w w' : World} (hb : Below w.heap.size w w') {x : Int} {ok : Bool} : RetFB e w [] x ok (.returned (.tuple #[.agg #[.slice none 0 0, .int .i64 x], .bool ok])) w' := ret_own_fb (World.ownsRow_nil _ _ _ _) hb
theorem sIsFloat (a : Option Addr) (n cap : Nat) (xs : List Int) (e : Int) (w : World) (h : Ints w a n cap xs) : Calls Tryd.prog 7 #[.agg #[.slice a n cap, .int .i64 e]] w fun r w' => r = .returned (.bool (Tm.isF xs e)) ∧ Below w.heap.size w w' := by
  have H := Lib.hid h
  obtain rfl : n = xs.length := h.1.symm
  clear h
  by_cases hx : Tm.isW xs = true
  · by_cases h6 : xs.length = 6
    · by_cases he : Tm.inB e (-20) 20 = true
      · have HX := Lib.hid hx
        have I6 : Hid (Ints w a 6 cap xs) := Lib.hid (by rw [← h6]; exact H.out)
        have e1 := (Tm.inB_iff _ _ _).1 he
        obtain ⟨e1, e2⟩ := e1
        rcases H.out.2.2.2 with h0 | ⟨b, o, rfl, hbl, hc⟩
        · omega
        have c5 := hc 5 (by omega)
        have VX := Lib.hid (fun (w : World) (h : Ints w (some ⟨b, o, none⟩) xs.length cap xs) => sValue2 (some ⟨b, o, none⟩) _ cap xs w h hx)
        have e6 : ((xs.length : Int) != 6) = false := by rw [h6]; rfl
        have l5 : 5 < xs.length := by omega
        obtain ⟨x, hx5⟩ : ∃ x, x = xs.getD 5 0 := ⟨_, rfl⟩
        rw [← hx5] at c5
        obtain ⟨v, hv⟩ : ∃ v, v = Tm.val xs := ⟨_, rfl⟩
        rw [← hv] at VX
        have RR : Hid (Tm.isF xs e = (decide (x ≠ 0) || (decide (e = 0) && decide (v = 0)))) := Lib.hid (by rw [Tm.isF, hx, he, ← hx5, ← hv, decide_eq_true h6]; simp)
        clear hx5 hv hc h6
        by_cases x0 : x = 0
        · subst x0
          by_cases ee : e = 0
          · subst ee
            go_enter Tryd.func7, Tryd.ntmps7
            go_wp2_with fail
            refine (sIsWord _ _ cap xs _ (H.out.alloc _)).mono ?_
            rw [hx]
            rintro e w' ⟨rfl, rfl⟩
            go_wp2_with fail
            refine (sIn _ _ _ _).mono ?_
            rw [he]
            rintro e w' ⟨rfl, rfl⟩
            go_wp2_with fail
            refine (VX.out _ (H.out.alloc _)).mono ?_
            rintro e w' ⟨rfl, rfl⟩
            go_wp2
            go_ret
            exact ⟨ret_bool (by rw [RR.out]; simp; rfl), by (repeat' (first | (with_reducible exact Below.refl _ _) | (with_reducible assumption) | (with_reducible refine below_drewN ?_ _) | (with_reducible refine Below.drew ?_) | (with_reducible refine Below.alloc ?_ ?_ _) | (with_reducible refine Below.setCell ?_ ?_ _) | (with_reducible refine below_gw ?_ ?_ _) | (with_reducible refine below_via ?_ ‹Below _ _ _› ?_) | (with_reducible exact Nat.le_refl _) | (with_reducible refine le_gw ?_ _) | (with_reducible refine le_alloc ?_ _) | (with_reducible refine le_setCell ?_ _ _) | (with_reducible refine le_drew ?_) | (with_reducible refine le_drewN ?_ _) | go_size))⟩
          · go_enter Tryd.func7, Tryd.ntmps7
            go_wp2_with fail
            refine (sIsWord _ _ cap xs _ (H.out.alloc _)).mono ?_
            rw [hx]
            rintro e w' ⟨rfl, rfl⟩
            go_wp2_with fail
            refine (sIn _ _ _ _).mono ?_
            rw [he]
            rintro e w' ⟨rfl, rfl⟩
            go_wp2
            go_ret
            exact ⟨ret_bool (by rw [RR.out]; simp [ee]), by (repeat' (first | (with_reducible exact Below.refl _ _) | (with_reducible assumption) | (with_reducible refine below_drewN ?_ _) | (with_reducible refine Below.drew ?_) | (with_reducible refine Below.alloc ?_ ?_ _) | (with_reducible refine Below.setCell ?_ ?_ _) | (with_reducible refine below_gw ?_ ?_ _) | (with_reducible refine below_via ?_ ‹Below _ _ _› ?_) | (with_reducible exact Nat.le_refl _) | (with_reducible refine le_gw ?_ _) | (with_reducible refine le_alloc ?_ _) | (with_reducible refine le_setCell ?_ _ _) | (with_reducible refine le_drew ?_) | (with_reducible refine le_drewN ?_ _) | go_size))⟩
        · go_enter Tryd.func7, Tryd.ntmps7
          go_wp2_with fail
          refine (sIsWord _ _ cap xs _ (H.out.alloc _)).mono ?_
          rw [hx]
          rintro e w' ⟨rfl, rfl⟩
          go_wp2_with fail
          refine (sIn _ _ _ _).mono ?_
          rw [he]
          rintro e w' ⟨rfl, rfl⟩
          go_wp2
          go_ret
          exact ⟨ret_bool (by rw [RR.out]; simp [x0]), by (repeat' (first | (with_reducible exact Below.refl _ _) | (with_reducible assumption) | (with_reducible refine below_drewN ?_ _) | (with_reducible refine Below.drew ?_) | (with_reducible refine Below.alloc ?_ ?_ _) | (with_reducible refine Below.setCell ?_ ?_ _) | (with_reducible refine below_gw ?_ ?_ _) | (with_reducible refine below_via ?_ ‹Below _ _ _› ?_) | (with_reducible exact Nat.le_refl _) | (with_reducible refine le_gw ?_ _) | (with_reducible refine le_alloc ?_ _) | (with_reducible refine le_setCell ?_ _ _) | (with_reducible refine le_drew ?_) | (with_reducible refine le_drewN ?_ _) | go_size))⟩
      · simp only [Bool.not_eq_true] at he
        have RR : Tm.isF xs e = false := by rw [Tm.isF, he]; simp
        rw [RR]
        clear RR
        have e6 : ((xs.length : Int) != 6) = false := by rw [h6]; rfl
        clear h6
        go_enter Tryd.func7, Tryd.ntmps7
        go_wp2_with fail
        refine (sIsWord _ _ cap xs _ (H.out.alloc _)).mono ?_
        rw [hx]
        rintro e w' ⟨rfl, rfl⟩
        go_wp2_with fail
        refine (sIn _ _ _ _).mono ?_
        rw [he]
        rintro e w' ⟨rfl, rfl⟩
        go_wp2
        go_ret
        exact ⟨rfl, by (repeat' (first | (with_reducible exact Below.refl _ _) | (with_reducible assumption) | (with_reducible refine below_drewN ?_ _) | (with_reducible refine Below.drew ?_) | (with_reducible refine Below.alloc ?_ ?_ _) | (with_reducible refine Below.setCell ?_ ?_ _) | (with_reducible refine below_gw ?_ ?_ _) | (with_reducible refine below_via ?_ ‹Below _ _ _› ?_) | (with_reducible exact Nat.le_refl _) | (with_reducible refine le_gw ?_ _) | (with_reducible refine le_alloc ?_ _) | (with_reducible refine le_setCell ?_ _ _) | (with_reducible refine le_drew ?_) | (with_reducible refine le_drewN ?_ _) | go_size))⟩
    · have RR : Tm.isF xs e = false := by rw [Tm.isF, decide_eq_false h6]; simp
      rw [RR]
      clear RR
      have e6 : ((xs.length : Int) != 6) = true := by simp; omega
      clear h6
      go_enter Tryd.func7, Tryd.ntmps7
      go_wp2_with fail
      refine (sIsWord _ _ cap xs _ (H.out.alloc _)).mono ?_
      rw [hx]
      rintro e w' ⟨rfl, rfl⟩
      go_wp2
      go_ret
      exact ⟨rfl, by (repeat' (first | (with_reducible exact Below.refl _ _) | (with_reducible assumption) | (with_reducible refine below_drewN ?_ _) | (with_reducible refine Below.drew ?_) | (with_reducible refine Below.alloc ?_ ?_ _) | (with_reducible refine Below.setCell ?_ ?_ _) | (with_reducible refine below_gw ?_ ?_ _) | (with_reducible refine below_via ?_ ‹Below _ _ _› ?_) | (with_reducible exact Nat.le_refl _) | (with_reducible refine le_gw ?_ _) | (with_reducible refine le_alloc ?_ _) | (with_reducible refine le_setCell ?_ _ _) | (with_reducible refine le_drew ?_) | (with_reducible refine le_drewN ?_ _) | go_size))⟩
  · simp only [Bool.not_eq_true] at hx
    have RR : Tm.isF xs e = false := by rw [Tm.isF, hx]; simp
    rw [RR]
    clear RR
    go_enter Tryd.func7, Tryd.ntmps7
    go_wp2_with fail
    refine (sIsWord _ _ cap xs _ (H.out.alloc _)).mono ?_
    rw [hx]
    rintro e w' ⟨rfl, rfl⟩
    go_wp2
    go_ret
    exact ⟨rfl, by (repeat' (first | (with_reducible exact Below.refl _ _) | (with_reducible assumption) | (with_reducible refine below_drewN ?_ _) | (with_reducible refine Below.drew ?_) | (with_reducible refine Below.alloc ?_ ?_ _) | (with_reducible refine Below.setCell ?_ ?_ _) | (with_reducible refine below_gw ?_ ?_ _) | (with_reducible refine below_via ?_ ‹Below _ _ _› ?_) | (with_reducible exact Nat.le_refl _) | (with_reducible refine le_gw ?_ _) | (with_reducible refine le_alloc ?_ _) | (with_reducible refine le_setCell ?_ _ _) | (with_reducible refine le_drew ?_) | (with_reducible refine le_drewN ?_ _) | go_size))⟩
namespace Tm
theorem top6_pad (n : Int) (k j : Nat) (h : j = 6 - k) : (List.replicate j 0 ++ wordL n k).drop (j + k - 6) = top6 n k := by
  subst h
  rw [top6]; congr 1; omega
end Tm
end Go.Proofs.YtpmdkifnejkofaaDoor

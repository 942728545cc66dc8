/- Contracts of the model's functions of words, on: sums, reversed words, words that are read. -/
import Derived.Test.YtkphbnejnilehaaDoorWS3
namespace Go.Proofs.YtkphbnejnilehaaDoor
open Go.RowKit
namespace Tm
def sumT (xs : List Int) : Nat → Int
  | 0 => 0
  | k + 1 => sumT xs k + xs.getD k 0
def sqT (xs : List Int) : Nat → Int
  | 0 => 0
  | k + 1 => sqT xs k + xs.getD k 0 * xs.getD k 0
def sumW (xs : List Int) : Int := if isW xs then sumT xs xs.length else 0
def wgtW (xs : List Int) : Int := if isW xs then sqT xs xs.length else 0
theorem sumT_bd {xs : List Int} (h : isW xs = true) (k : Nat) : -(k : Int) ≤ sumT xs k ∧ sumT xs k ≤ k := by
  induction k with
  | zero => simp [sumT]
  | succ k ih => have := isW_at h k; simp only [sumT]; omega
theorem sq_tt {a : Int} (h : -1 ≤ a ∧ a ≤ 1) : 0 ≤ a * a ∧ a * a ≤ 1 := by
  rcases (show a = -1 ∨ a = 0 ∨ a = 1 by omega) with rfl | rfl | rfl <;> decide
theorem sqT_bd {xs : List Int} (h : isW xs = true) (k : Nat) : 0 ≤ sqT xs k ∧ sqT xs k ≤ k := by
  induction k with
  | zero => simp [sqT]
  | succ k ih => have := sq_tt (isW_at h k); simp only [sqT]; omega
def revW (xs : List Int) : List Int := if isW xs then xs.reverse else []
def revV (xs : List Int) (k : Nat) : List Value := ((xs.drop k).reverse).map (Value.int .i64)
theorem revV_succ (xs : List Int) (j : Nat) (h : j < xs.length) : revV xs (j + 1) ++ [Value.int .i64 xs[j]] = revV xs j := by
  rw [revV, revV, List.drop_eq_getElem_cons h, List.reverse_cons, List.map_append]; rfl
/-- The trits of a text, the lowest one first. -/
def prsL (s : ByteArray) : List Int := (List.range s.size).map fun i => rd (bt s (s.size - 1 - i))
def prsOk (s : ByteArray) : Bool := inB s.size 1 30 && isW (prsL s)
def prs (s : ByteArray) : List Int := if prsOk s then prsL s else []
theorem prsL_length (s : ByteArray) : (prsL s).length = s.size := by simp [prsL]
def prsV (s : ByteArray) (k : Nat) : List Value := ((prsL s).take k).map (Value.int .i64)
theorem prsV_succ (s : ByteArray) (j : Nat) (h : j < s.size) : prsV s (s.size - 1 - j) ++ [Value.int .i64 (rd (s[j].toNat : Int))] = prsV s (s.size - 1 - j + 1) := by
  rw [prsV, prsV, List.take_succ_eq_append_getElem (by rw [prsL_length]; omega), List.map_append]
  congr 1
  simp only [prsL, List.getElem_map, List.getElem_range, List.map_cons, List.map_nil]
  rw [show s.size - 1 - (s.size - 1 - j) = j from by omega, bt_at s j h]
theorem prsV_all (s : ByteArray) : prsV s s.size = (prsL s).map (Value.int .i64) := by
  rw [prsV, List.take_of_length_le (by rw [prsL_length]; exact Nat.le_refl _)]
end Tm
theorem sParseWord (s : ByteArray) (w : World) : Calls Tryd.prog 23 #[.string s] w (RetIB 3 w (Tm.prs s) (Tm.prsOk s)) := by
  obtain ⟨i0, hi, hz0, hz1, hz2⟩ := info_parts infoInt
  by_cases hs : Tm.inB s.size 1 30 = true
  · have hs' := (Tm.inB_iff _ _ _).1 hs
    obtain ⟨s1, s2⟩ := hs'
    have HS := Lib.hid hs
    go_enter Tryd.func23, Tryd.ntmps23
    go_wp2_with (first | (go_at_call 31; refine (sIn _ _ _ _).mono ?_; rintro e w1 ⟨rfl, rfl⟩))
    clear hs
    go_loopw [4, 5] (fun v i wr => ∃ k : Nat, k ≤ s.size ∧ i = .int .i64 ((k : Int) - 1) ∧ wr.ownsRow w.heap.size 3 1 v (s.size - k) (Tm.prsV s (s.size - k)) ∧ Below w.heap.size w wr) (fun _ i _ => (intOf i + 1).toNat)
    case atStart => exact ⟨s.size, by omega, rfl, by rw [Nat.sub_self]; exact own_empty w _ _ (Nat.le_refl _), by (repeat' (first | (with_reducible exact Below.refl _ _) | (with_reducible assumption) | (with_reducible refine below_drewN ?_ _) | (with_reducible refine Below.drew ?_) | (with_reducible refine Below.alloc ?_ ?_ _) | (with_reducible refine Below.setCell ?_ ?_ _) | (with_reducible refine below_gw ?_ ?_ _) | (with_reducible refine below_via ?_ ‹Below _ _ _› ?_) | (with_reducible exact Nat.le_refl _) | (with_reducible refine le_gw ?_ _) | (with_reducible refine le_alloc ?_ _) | (with_reducible refine le_setCell ?_ _ _) | (with_reducible refine le_drew ?_) | (with_reducible refine le_drewN ?_ _) | go_size))⟩
    case round =>
      obtain ⟨k, hk, rfl, hown, hnx⟩ := hrel
      rcases Nat.eq_zero_or_pos k with h0 | h0
      · subst h0
        rw [Nat.sub_zero, Tm.prsV_all] at hown
        obtain ⟨b1, c1, rfl⟩ := own_form hown
        have HO := Lib.hid hown
        clear hown
        cases hw : Tm.isW (Tm.prsL s)
        · have ho : Tm.prsOk s = false := by simp [Tm.prsOk, hw]
          have OK := Lib.hid ho
          clear ho
          go_wp2_with ((go_at_call 30; refine (sIsWord _ _ _ (Tm.prsL s) _ (Ints.of_own HO.out)).mono ?_; rintro e w1 ⟨rfl, rfl⟩))
          go_ret2
          rw [Tm.prs, OK.out]
          exact ret_nil_b hnx
        · have ho : Tm.prsOk s = true := by simp [Tm.prsOk, hw, HS.out]
          have OK := Lib.hid ho
          clear ho
          go_wp2_with ((go_at_call 30; refine (sIsWord _ _ _ (Tm.prsL s) _ (Ints.of_own HO.out)).mono ?_; rintro e w1 ⟨rfl, rfl⟩))
          go_ret2
          rw [Tm.prs, if_pos OK.out, OK.out]
          exact ret_own_b HO.out hnx (by omega)
      · obtain ⟨j, rfl⟩ : ∃ j, k = j + 1 := ⟨k - 1, by omega⟩
        rw [show (((j + 1 : Nat) : Int) - 1) = (j : Int) from by omega]
        have hsz := hnx.size
        have hjl : j < s.size := by omega
        go_wp2_with (first | (go_at_call 37; refine (sTritOf _ _).mono ?_; rintro e w1 ⟨rfl, rfl⟩) | (at_builtin; refine wpList_append_own _ rfl _ _ 22 rfl w.heap.size 3 i0 (.int .i64 0) 1 8 Tryd.underlying22 hi hz0 hz1 hz2 rfl (by decide) _ _ _ rfl (hown.alloc _) ⟨wr.heap.size, 0, none⟩ 1 1 [.int .i64 (Tm.rd (s[j].toNat : Int))] rfl rfl (app_c1 _ _ _) (app_c2 _) (by unfold maxLen; omega) (by omega) (by have := hnx.size; simp; omega) ?_))
        intro v' w1 hown' hgrow _
        have hnx1 : Below w.heap.size w w1 := (hnx.alloc hsz _).grown hgrow (by simp; omega) (fun k hk => (hown.lt k hk).1)
        rw [show s.size - (j + 1) = s.size - 1 - j from by omega, Tm.prsV_succ s j hjl, show s.size - 1 - j + 1 = s.size - j from by omega] at hown'
        clear hown hgrow hnx
        go_wp2
        exact ⟨⟨j, by omega, rfl, hown', hnx1⟩, by simp [intOf] <;> omega⟩
  · simp only [Bool.not_eq_true] at hs
    have ho : Tm.prsOk s = false := by simp [Tm.prsOk, hs]
    rw [Tm.prs, ho]
    go_enter Tryd.func23, Tryd.ntmps23
    go_wp2_with (first | (go_at_call 31; refine (sIn _ _ _ _).mono ?_; rintro e w1 ⟨rfl, rfl⟩))
    go_ret2
    exact ret_nil_b (by (repeat' (first | (with_reducible exact Below.refl _ _) | (with_reducible assumption) | (with_reducible refine below_drewN ?_ _) | (with_reducible refine Below.drew ?_) | (with_reducible refine Below.alloc ?_ ?_ _) | (with_reducible refine Below.setCell ?_ ?_ _) | (with_reducible refine below_gw ?_ ?_ _) | (with_reducible refine below_via ?_ ‹Below _ _ _› ?_) | (with_reducible exact Nat.le_refl _) | (with_reducible refine le_gw ?_ _) | (with_reducible refine le_alloc ?_ _) | (with_reducible refine le_setCell ?_ _ _) | (with_reducible refine le_drew ?_) | (with_reducible refine le_drewN ?_ _) | go_size)))
end Go.Proofs.YtkphbnejnilehaaDoor

/- Contracts of the model's functions of words, on: sums, reversed words, words that are read. -/
import Derived.Test.YtjfgijnidlmmgabWS3
namespace Go.Proofs.Ytjfgijnidlmmgab
open Go.RowKit
namespace Tm
def sumT (xs : List Int) : Nat → Int
  | 0 => 0
  | k + 1 => sumT xs k + xs.getD k 0
def sqT (xs : List Int) : Nat → Int
  | 0 => 0
  | k + 1 => sqT xs k + xs.getD k 0 * xs.getD k 0
def sumW (xs : List Int) : Int := if isW xs then sumT xs xs.length else 0
def wgtW (xs : List Int) : Int := if isW xs then sqT xs xs.length else 0
theorem sumT_bd {xs : List Int} (h : isW xs = true) (k : Nat) : -(k : Int) ≤ sumT xs k ∧ sumT xs k ≤ k := by
  induction k with
  | zero => simp [sumT]
  | succ k ih => have := isW_at h k; simp only [sumT]; omega
theorem sq_tt {a : Int} (h : -1 ≤ a ∧ a ≤ 1) : 0 ≤ a * a ∧ a * a ≤ 1 := by
  rcases (show a = -1 ∨ a = 0 ∨ a = 1 by omega) with rfl | rfl | rfl <;> decide
theorem sqT_bd {xs : List Int} (h : isW xs = true) (k : Nat) : 0 ≤ sqT xs k ∧ sqT xs k ≤ k := by
  induction k with
  | zero => simp [sqT]
  | succ k ih => have := sq_tt (isW_at h k); simp only [sqT]; omega
def revW (xs : List Int) : List Int := if isW xs then xs.reverse else []
def revV (xs : List Int) (k : Nat) : List Value := ((xs.drop k).reverse).map (Value.int .i64)
theorem revV_succ (xs : List Int) (j : Nat) (h : j < xs.length) : revV xs (j + 1) ++ [Value.int .i64 xs[j]] = revV xs j := by
  rw [revV, revV, List.drop_eq_getElem_cons h, List.reverse_cons, List.map_append]; rfl
/-- The trits of a text, the lowest one first. -/
def prsL (s : ByteArray) : List Int := (List.range s.size).map fun i => rd (bt s (s.size - 1 - i))
def prsOk (s : ByteArray) : Bool := inB s.size 1 30 && isW (prsL s)
def prs (s : ByteArray) : List Int := if prsOk s then prsL s else []
theorem prsL_length (s : ByteArray) : (prsL s).length = s.size := by simp [prsL]
def prsV (s : ByteArray) (k : Nat) : List Value := ((prsL s).take k).map (Value.int .i64)
theorem prsV_succ (s : ByteArray) (j : Nat) (h : j < s.size) : prsV s (s.size - 1 - j) ++ [Value.int .i64 (rd (s[j].toNat : Int))] = prsV s (s.size - 1 - j + 1) := by
  rw [prsV, prsV, List.take_succ_eq_append_getElem (by rw [prsL_length]; omega), List.map_append]
  congr 1
  simp only [prsL, List.getElem_map, List.getElem_range, List.map_cons, List.map_nil]
  rw [show s.size - 1 - (s.size - 1 - j) = j from by omega, bt_at s j h]
theorem prsV_all (s : ByteArray) : prsV s s.size = (prsL s).map (Value.int .i64) := by
  rw [prsV, List.take_of_length_le (by rw [prsL_length]; exact Nat.le_refl _)]
end Tm
theorem sSumOf (a : Option Addr) (n cap : Nat) (xs : List Int) (w : World) (h : Ints w a n cap xs) : Calls Try.prog 27 #[.slice a n cap] w fun e w' => e = .returned (.int .i64 (Tm.sumW xs)) ∧ w = w' := by
  have H := Lib.hid h
  obtain rfl : n = xs.length := h.1.symm
  clear h
  by_cases hw : Tm.isW xs = true
  · have hl := (Tm.isW_iff xs).1 hw
    obtain ⟨-, l1, l2⟩ := hl
    go_enter Try.func27, Try.ntmps27
    go_wp2_with ((go_at_call 69; refine (sIsWord _ _ _ xs _ H.out).mono ?_; rintro e w1 ⟨rfl, rfl⟩))
    have HW := Lib.hid hw
    clear hw
    go_loop [3, 11] (fun v i => ∃ k : Nat, k ≤ xs.length ∧ i = .int .i64 k ∧ v = .int .i64 (Tm.sumT xs k)) (fun _ i => xs.length - (intOf i).toNat)
    case atStart => exact ⟨0, by omega, rfl, rfl⟩
    case round =>
      obtain ⟨k, hk, rfl, rfl⟩ := hrel
      by_cases hlt : k < xs.length
      · rcases H.out.2.2.2 with e | ⟨b, o, rfl, hbl, hc⟩
        · omega
        have c1 := hc k hlt
        have tb := Tm.isW_at HW.out k
        have sb := Tm.sumT_bd HW.out k
        have ex := getD_at xs k hlt
        have E : Hid (Tm.sumT xs (k + 1) = Tm.sumT xs k + xs[k]) := by rw [ex]; rfl
        rw [← ex] at c1 tb
        obtain ⟨t1, t2⟩ := tb
        obtain ⟨s1, s2⟩ := sb
        clear hc ex
        go_wp2
        exact ⟨⟨k + 1, by omega, by go_num, val_int (by rw [E.out])⟩, by simp [intOf]; omega⟩
      · obtain rfl : k = xs.length := by omega
        go_wp2
        go_ret
        exact ⟨ret_int (by rw [Tm.sumW, if_pos HW.out]), rfl⟩
  · simp only [Bool.not_eq_true] at hw
    go_enter Try.func27, Try.ntmps27
    go_wp2_with ((go_at_call 69; refine (sIsWord _ _ _ xs _ H.out).mono ?_; rintro e w1 ⟨rfl, rfl⟩))
    go_ret
    exact ⟨ret_int (by rw [Tm.sumW, hw]; rfl), rfl⟩
theorem sWeightOf (a : Option Addr) (n cap : Nat) (xs : List Int) (w : World) (h : Ints w a n cap xs) : Calls Try.prog 25 #[.slice a n cap] w fun e w' => e = .returned (.int .i64 (Tm.wgtW xs)) ∧ w = w' := by
  have H := Lib.hid h
  obtain rfl : n = xs.length := h.1.symm
  clear h
  by_cases hw : Tm.isW xs = true
  · have hl := (Tm.isW_iff xs).1 hw
    obtain ⟨-, l1, l2⟩ := hl
    go_enter Try.func25, Try.ntmps25
    go_wp2_with ((go_at_call 69; refine (sIsWord _ _ _ xs _ H.out).mono ?_; rintro e w1 ⟨rfl, rfl⟩))
    have HW := Lib.hid hw
    clear hw
    go_loop [3, 11] (fun v i => ∃ k : Nat, k ≤ xs.length ∧ i = .int .i64 k ∧ v = .int .i64 (Tm.sqT xs k)) (fun _ i => xs.length - (intOf i).toNat)
    case atStart => exact ⟨0, by omega, rfl, rfl⟩
    case round =>
      obtain ⟨k, hk, rfl, rfl⟩ := hrel
      by_cases hlt : k < xs.length
      · rcases H.out.2.2.2 with e | ⟨b, o, rfl, hbl, hc⟩
        · omega
        have c1 := hc k hlt
        have tb := Tm.sq_tt (Tm.isW_at HW.out k)
        have sb := Tm.sqT_bd HW.out k
        have ex := getD_at xs k hlt
        have E : Hid (Tm.sqT xs (k + 1) = Tm.sqT xs k + xs[k] * xs[k]) := by rw [ex]; rfl
        rw [← ex] at c1 tb
        obtain ⟨t1, t2⟩ := tb
        obtain ⟨s1, s2⟩ := sb
        clear hc ex
        go_wp2
        exact ⟨⟨k + 1, by omega, by go_num, val_int (by rw [E.out])⟩, by simp [intOf]; omega⟩
      · obtain rfl : k = xs.length := by omega
        go_wp2
        go_ret
        exact ⟨ret_int (by rw [Tm.wgtW, if_pos HW.out]), rfl⟩
  · simp only [Bool.not_eq_true] at hw
    go_enter Try.func25, Try.ntmps25
    go_wp2_with ((go_at_call 69; refine (sIsWord _ _ _ xs _ H.out).mono ?_; rintro e w1 ⟨rfl, rfl⟩))
    go_ret
    exact ⟨ret_int (by rw [Tm.wgtW, hw]; rfl), rfl⟩
theorem sReverseWord (a : Option Addr) (n cap : Nat) (xs : List Int) (w : World) (h : Ints w a n cap xs) : Calls Try.prog 29 #[.slice a n cap] w (RetI 3 w (Tm.revW xs)) := by
  obtain ⟨i0, hi, hz0, hz1, hz2⟩ := info_parts infoInt
  have H := Lib.hid h
  obtain rfl : n = xs.length := h.1.symm
  clear h
  by_cases hw : Tm.isW xs = true
  · have hl := (Tm.isW_iff xs).1 hw
    obtain ⟨-, l1, l2⟩ := hl
    rw [Tm.revW, if_pos hw]
    go_enter Try.func29, Try.ntmps29
    go_wp2_with ((go_at_call 69; refine (sIsWord _ _ _ xs _ H.out).mono ?_; rintro e w1 ⟨rfl, rfl⟩))
    clear hw
    go_loopw [3, 4] (fun v i wr => ∃ k : Nat, k ≤ xs.length ∧ i = .int .i64 ((k : Int) - 1) ∧ wr.ownsRow w.heap.size 3 1 v (xs.length - k) (Tm.revV xs k) ∧ Below w.heap.size w wr) (fun _ i _ => (intOf i + 1).toNat)
    case atStart => exact ⟨xs.length, by omega, rfl, by rw [Nat.sub_self, Tm.revV, List.drop_length]; exact own_empty w _ _ (Nat.le_refl _), by (repeat' (first | (with_reducible exact Below.refl _ _) | (with_reducible assumption) | (with_reducible refine below_drewN ?_ _) | (with_reducible refine Below.drew ?_) | (with_reducible refine Below.alloc ?_ ?_ _) | (with_reducible refine Below.setCell ?_ ?_ _) | (with_reducible refine below_gw ?_ ?_ _) | (with_reducible refine below_via ?_ ‹Below _ _ _› ?_) | (with_reducible exact Nat.le_refl _) | (with_reducible refine le_gw ?_ _) | (with_reducible refine le_alloc ?_ _) | (with_reducible refine le_setCell ?_ _ _) | (with_reducible refine le_drew ?_) | (with_reducible refine le_drewN ?_ _) | go_size))⟩
    case round =>
      obtain ⟨k, hk, rfl, hown, hnx⟩ := hrel
      rcases Nat.eq_zero_or_pos k with h0 | h0
      · subst h0
        go_wp2
        go_ret
        exact ret_own hown hnx (by omega)
      · obtain ⟨j, rfl⟩ : ∃ j, k = j + 1 := ⟨k - 1, by omega⟩
        rw [show (((j + 1 : Nat) : Int) - 1) = (j : Int) from by omega]
        rcases (H.out.below hnx).2.2.2 with e | ⟨b, o, rfl, hbl, hc⟩
        · omega
        have c1 := hc j (by omega)
        rw [← getD_at xs j (by omega)] at c1
        have hs := hnx.size
        clear hc
        go_wp2_with (at_builtin; refine wpList_append_own _ rfl _ _ 22 rfl w.heap.size 3 i0 (.int .i64 0) 1 8 Try.underlying22 hi hz0 hz1 hz2 rfl (by decide) _ _ _ rfl (hown.alloc _) ⟨wr.heap.size, 0, none⟩ 1 1 [.int .i64 xs[j]] rfl rfl (app_c1 _ _ _) (app_c2 _) (by unfold maxLen; omega) (by omega) (by have := hnx.size; simp; omega) ?_)
        intro v' w1 hown' hgrow _
        have hnx1 : Below w.heap.size w w1 := (hnx.alloc hs _).grown hgrow (by simp; omega) (fun k hk => (hown.lt k hk).1)
        rw [Tm.revV_succ xs j (by omega), show xs.length - (j + 1) + 1 = xs.length - j from by omega] at hown'
        clear hown hgrow hnx
        go_wp2
        exact ⟨⟨j, by omega, rfl, hown', hnx1⟩, by simp [intOf] <;> omega⟩
  · simp only [Bool.not_eq_true] at hw
    rw [Tm.revW, hw]
    go_enter Try.func29, Try.ntmps29
    go_wp2_with ((go_at_call 69; refine (sIsWord _ _ _ xs _ H.out).mono ?_; rintro e w1 ⟨rfl, rfl⟩))
    go_ret
    exact ret_nil (by (repeat' (first | (with_reducible exact Below.refl _ _) | (with_reducible assumption) | (with_reducible refine below_drewN ?_ _) | (with_reducible refine Below.drew ?_) | (with_reducible refine Below.alloc ?_ ?_ _) | (with_reducible refine Below.setCell ?_ ?_ _) | (with_reducible refine below_gw ?_ ?_ _) | (with_reducible refine below_via ?_ ‹Below _ _ _› ?_) | (with_reducible exact Nat.le_refl _) | (with_reducible refine le_gw ?_ _) | (with_reducible refine le_alloc ?_ _) | (with_reducible refine le_setCell ?_ _ _) | (with_reducible refine le_drew ?_) | (with_reducible refine le_drewN ?_ _) | go_size)))
end Go.Proofs.Ytjfgijnidlmmgab

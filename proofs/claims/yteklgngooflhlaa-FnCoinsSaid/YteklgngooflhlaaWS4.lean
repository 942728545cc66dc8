/- Contracts of the model's functions of words, on: sums, reversed words, words that are read. -/
import Derived.Test.YteklgngooflhlaaWS3
namespace Go.Proofs.Yteklgngooflhlaa
set_option maxRecDepth 20000
open Go.RowKit
namespace Tm
def sumT (xs : List Int) : Nat → Int
  | 0 => 0
  | k + 1 => sumT xs k + xs.getD k 0
def sqT (xs : List Int) : Nat → Int
  | 0 => 0
  | k + 1 => sqT xs k + xs.getD k 0 * xs.getD k 0
def sumW (xs : List Int) : Int := if isW xs then sumT xs xs.length else 0
def wgtW (xs : List Int) : Int := if isW xs then sqT xs xs.length else 0
theorem sumT_bd {xs : List Int} (h : isW xs = true) (k : Nat) : -(k : Int) ≤ sumT xs k ∧ sumT xs k ≤ k := by
  induction k with
  | zero => simp [sumT]
  | succ k ih => have := isW_at h k; simp only [sumT]; omega
theorem sq_tt {a : Int} (h : -1 ≤ a ∧ a ≤ 1) : 0 ≤ a * a ∧ a * a ≤ 1 := by
  rcases (show a = -1 ∨ a = 0 ∨ a = 1 by omega) with rfl | rfl | rfl <;> decide
theorem sqT_bd {xs : List Int} (h : isW xs = true) (k : Nat) : 0 ≤ sqT xs k ∧ sqT xs k ≤ k := by
  induction k with
  | zero => simp [sqT]
  | succ k ih => have := sq_tt (isW_at h k); simp only [sqT]; omega
def revW (xs : List Int) : List Int := if isW xs then xs.reverse else []
def revV (xs : List Int) (k : Nat) : List Value := ((xs.drop k).reverse).map (Value.int .i64)
theorem revV_succ (xs : List Int) (j : Nat) (h : j < xs.length) : revV xs (j + 1) ++ [Value.int .i64 xs[j]] = revV xs j := by
  rw [revV, revV, List.drop_eq_getElem_cons h, List.reverse_cons, List.map_append]; rfl
/-- The trits of a text, the lowest one first. -/
def prsL (s : ByteArray) : List Int := (List.range s.size).map fun i => rd (bt s (s.size - 1 - i))
def prsOk (s : ByteArray) : Bool := inB s.size 1 30 && isW (prsL s)
def prs (s : ByteArray) : List Int := if prsOk s then prsL s else []
theorem prsL_length (s : ByteArray) : (prsL s).length = s.size := by simp [prsL]
def prsV (s : ByteArray) (k : Nat) : List Value := ((prsL s).take k).map (Value.int .i64)
theorem prsV_succ (s : ByteArray) (j : Nat) (h : j < s.size) : prsV s (s.size - 1 - j) ++ [Value.int .i64 (rd (s[j].toNat : Int))] = prsV s (s.size - 1 - j + 1) := by
  rw [prsV, prsV, List.take_succ_eq_append_getElem (by rw [prsL_length]; omega), List.map_append]
  congr 1
  simp only [prsL, List.getElem_map, List.getElem_range, List.map_cons, List.map_nil]
  rw [show s.size - 1 - (s.size - 1 - j) = j from by omega, bt_at s j h]
theorem prsV_all (s : ByteArray) : prsV s s.size = (prsL s).map (Value.int .i64) := by
  rw [prsV, List.take_of_length_le (by rw [prsL_length]; exact Nat.le_refl _)]
end Tm
theorem sWeightOf (a : Option Addr) (n cap : Nat) (xs : List Int) (w : World) (h : Ints w a n cap xs) : Calls Try.prog 22 #[.slice a n cap] w fun e w' => e = .returned (.int .i64 (Tm.wgtW xs)) ∧ w = w' := by
  have H := Lib.hid h
  obtain rfl : n = xs.length := h.1.symm
  clear h
  by_cases hw : Tm.isW xs = true
  · have hl := (Tm.isW_iff xs).1 hw
    obtain ⟨-, l1, l2⟩ := hl
    go_enter Try.func22, Try.ntmps22
    go_wp2_with ((go_at_call 62; refine (sIsWord _ _ _ xs _ H.out).mono ?_; rintro e w1 ⟨rfl, rfl⟩))
    have HW := Lib.hid hw
    clear hw
    go_loop [3, 11] (fun v i => ∃ k : Nat, k ≤ xs.length ∧ i = .int .i64 k ∧ v = .int .i64 (Tm.sqT xs k)) (fun _ i => xs.length - (intOf i).toNat)
    case atStart => exact ⟨0, by omega, rfl, rfl⟩
    case round =>
      obtain ⟨k, hk, rfl, rfl⟩ := hrel
      by_cases hlt : k < xs.length
      · rcases H.out.2.2.2 with e | ⟨b, o, rfl, hbl, hc⟩
        · omega
        have c1 := hc k hlt
        have tb := Tm.sq_tt (Tm.isW_at HW.out k)
        have sb := Tm.sqT_bd HW.out k
        have ex := getD_at xs k hlt
        have E : Hid (Tm.sqT xs (k + 1) = Tm.sqT xs k + xs[k] * xs[k]) := by rw [ex]; rfl
        rw [← ex] at c1 tb
        obtain ⟨t1, t2⟩ := tb
        obtain ⟨s1, s2⟩ := sb
        clear hc ex
        go_wp2
        exact ⟨⟨k + 1, by omega, by go_num, val_int (by rw [E.out])⟩, by simp [intOf]; omega⟩
      · obtain rfl : k = xs.length := by omega
        go_wp2
        go_ret
        exact ⟨ret_int (by rw [Tm.wgtW, if_pos HW.out]), rfl⟩
  · simp only [Bool.not_eq_true] at hw
    go_enter Try.func22, Try.ntmps22
    go_wp2_with ((go_at_call 62; refine (sIsWord _ _ _ xs _ H.out).mono ?_; rintro e w1 ⟨rfl, rfl⟩))
    go_ret
    exact ⟨ret_int (by rw [Tm.wgtW, hw]; rfl), rfl⟩
end Go.Proofs.Yteklgngooflhlaa

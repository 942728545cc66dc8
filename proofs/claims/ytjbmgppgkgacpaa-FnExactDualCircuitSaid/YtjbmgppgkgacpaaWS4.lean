/- Contracts of the model's functions of words, on: sums, reversed words, words that are read. -/
import Derived.Test.YtjbmgppgkgacpaaWS3
namespace Go.Proofs.Ytjbmgppgkgacpaa
set_option maxRecDepth 20000
open Go.RowKit
namespace Tm
def sumT (xs : List Int) : Nat → Int
  | 0 => 0
  | k + 1 => sumT xs k + xs.getD k 0
def sqT (xs : List Int) : Nat → Int
  | 0 => 0
  | k + 1 => sqT xs k + xs.getD k 0 * xs.getD k 0
def sumW (xs : List Int) : Int := if isW xs then sumT xs xs.length else 0
def wgtW (xs : List Int) : Int := if isW xs then sqT xs xs.length else 0
theorem sumT_bd {xs : List Int} (h : isW xs = true) (k : Nat) : -(k : Int) ≤ sumT xs k ∧ sumT xs k ≤ k := by
  induction k with
  | zero => simp [sumT]
  | succ k ih => have := isW_at h k; simp only [sumT]; omega
theorem sq_tt {a : Int} (h : -1 ≤ a ∧ a ≤ 1) : 0 ≤ a * a ∧ a * a ≤ 1 := by
  rcases (show a = -1 ∨ a = 0 ∨ a = 1 by omega) with rfl | rfl | rfl <;> decide
theorem sqT_bd {xs : List Int} (h : isW xs = true) (k : Nat) : 0 ≤ sqT xs k ∧ sqT xs k ≤ k := by
  induction k with
  | zero => simp [sqT]
  | succ k ih => have := sq_tt (isW_at h k); simp only [sqT]; omega
def revW (xs : List Int) : List Int := if isW xs then xs.reverse else []
def revV (xs : List Int) (k : Nat) : List Value := ((xs.drop k).reverse).map (Value.int .i64)
theorem revV_succ (xs : List Int) (j : Nat) (h : j < xs.length) : revV xs (j + 1) ++ [Value.int .i64 xs[j]] = revV xs j := by
  rw [revV, revV, List.drop_eq_getElem_cons h, List.reverse_cons, List.map_append]; rfl
/-- The trits of a text, the lowest one first. -/
def prsL (s : ByteArray) : List Int := (List.range s.size).map fun i => rd (bt s (s.size - 1 - i))
def prsOk (s : ByteArray) : Bool := inB s.size 1 30 && isW (prsL s)
def prs (s : ByteArray) : List Int := if prsOk s then prsL s else []
theorem prsL_length (s : ByteArray) : (prsL s).length = s.size := by simp [prsL]
def prsV (s : ByteArray) (k : Nat) : List Value := ((prsL s).take k).map (Value.int .i64)
theorem prsV_succ (s : ByteArray) (j : Nat) (h : j < s.size) : prsV s (s.size - 1 - j) ++ [Value.int .i64 (rd (s[j].toNat : Int))] = prsV s (s.size - 1 - j + 1) := by
  rw [prsV, prsV, List.take_succ_eq_append_getElem (by rw [prsL_length]; omega), List.map_append]
  congr 1
  simp only [prsL, List.getElem_map, List.getElem_range, List.map_cons, List.map_nil]
  rw [show s.size - 1 - (s.size - 1 - j) = j from by omega, bt_at s j h]
theorem prsV_all (s : ByteArray) : prsV s s.size = (prsL s).map (Value.int .i64) := by
  rw [prsV, List.take_of_length_le (by rw [prsL_length]; exact Nat.le_refl _)]
end Tm
end Go.Proofs.Ytjbmgppgkgacpaa

/- The model's fractions and partial products. -/
import Derived.Test.YteklgngooflhlaaPS
import Derived.Test.YteklgngooflhlaaOwn2
namespace Go.Proofs.Yteklgngooflhlaa
set_option maxRecDepth 20000
open Go.RowKit
namespace Tm
theorem th_no1 {n d k : Int} (h : ¬ (1 ≤ d ∧ d ≤ 1000000)) : thOk n d k = false := by rw [thOk, decide_eq_false_iff_not]; omega
theorem th_no2 {n d k : Int} (h : ¬ (1 ≤ k ∧ k ≤ 20)) : thOk n d k = false := by rw [thOk, decide_eq_false_iff_not]; omega
theorem th_no3 {n d k : Int} (h : ¬ (2 * absI n < d)) : thOk n d k = false := by rw [thOk, decide_eq_false_iff_not]; omega
theorem th_part {n : Int} (h1 : -500000 ≤ n) (h2 : n ≤ 500000) (j : Nat) (hj : j ≤ 20) : -1743392200500000 ≤ n * pow3 j ∧ n * pow3 j ≤ 1743392200500000 := by
  have p := pow3_le (show j ≤ 20 from hj)
  have e : pow3 20 = 3486784401 := by decide
  have q := pow3_one j
  have := mul_bd (a := n) (b := pow3 j) (A := 500000) (B := 3486784401) ⟨h1, h2⟩ ⟨by omega, by omega⟩
  omega
end Tm
theorem cnt_rows {L : List (List Int)} {c : Nat} (h : ∀ j, j < L.length → (L.getD j []).length ≤ c) (k : Nat) (hk : k ≤ L.length) : cnt L k ≤ k * c := by
  induction k with
  | zero => exact Nat.zero_le _
  | succ k ih => have := ih (by omega); have := h k (by omega); rw [cnt, Nat.add_mul]; omega
theorem parts_small (xs ys : List Int) : (Tm.parts xs ys).length + cnt (Tm.parts xs ys) (Tm.parts xs ys).length ≤ 1048576 := by
  by_cases ho : Tm.mulOk xs ys = true
  · have f := Tm.part_facts ho
    have l := ((Tm.mulOk_iff _ _).1 ho).2.2
    have := cnt_rows (L := Tm.parts xs ys) (c := 30) (fun j hj => by
      rw [List.getD_eq_getElem?_getD, List.getElem?_eq_getElem hj, Option.getD_some, (f.2.1 _ (List.getElem_mem hj)).2]; exact l) _ (Nat.le_refl _)
    omega
  · rw [Tm.parts, if_neg ho]; decide
namespace Tm
theorem partF_low {xs ys : List Int} {i j : Nat} (h : j < i) : partF xs ys i j = 0 := by rw [partF, if_neg (by omega)]
theorem partF_at (xs ys : List Int) (i k : Nat) : partF xs ys i (i + k) = xs.getD k 0 * ys.getD i 0 := by rw [partF, if_pos (by omega), Nat.add_sub_cancel_left]
theorem partF_high {xs ys : List Int} {i j : Nat} (h : i + xs.length ≤ j) : partF xs ys i j = 0 := by
  rw [partF, if_pos (by omega), getD_beyond _ _ (by omega), Int.zero_mul]
end Tm
end Go.Proofs.Yteklgngooflhlaa

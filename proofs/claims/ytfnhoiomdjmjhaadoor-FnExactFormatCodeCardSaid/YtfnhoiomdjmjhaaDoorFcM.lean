/- Plain facts on the texts of programs: an operation's text, a program's text. -/
import Derived.Test.YtfnhoiomdjmjhaaDoorMMath
import Derived.Test.YtfnhoiomdjmjhaaDoorWS
import Derived.Test.YtfnhoiomdjmjhaaDoorNum
import Derived.Lib.Join
namespace Go.Proofs.YtfnhoiomdjmjhaaDoor
set_option maxRecDepth 20000
open Go.RowKit
namespace Tm
def numT (c n : Int) : List UInt8 := if c = 1 then fmtW (wordL n 9) else Lib.itoa n
def opL (c : Int) : List UInt8 := (opName c).data.toList
def argT (c : Int) (x : Nat → Int) : Nat → List UInt8
  | 0 => []
  | i + 1 => argT c x i ++ 32 :: numT c (x (i + 1))
def opT (x : Nat → Int) : List UInt8 := opL (x 0) ++ argT (x 0) x (namN (x 0))
def fmtC (L : List (Nat → Int)) : List UInt8 := if codeOk L then Lib.join (L.map opT) [59] else []
theorem opL_name (c : Int) : (⟨(opL c).toArray⟩ : ByteArray) = opName c := by simp [opL]
theorem opL_len (c : Int) : (opL c).length ≤ 6 := by
  have h : (opName c).size ≤ 6 := by
    by_cases h : 1 ≤ c ∧ c ≤ 15
    · have : c = 1 ∨ c = 2 ∨ c = 3 ∨ c = 4 ∨ c = 5 ∨ c = 6 ∨ c = 7 ∨ c = 8 ∨ c = 9 ∨ c = 10 ∨ c = 11 ∨ c = 12 ∨ c = 13 ∨ c = 14 ∨ c = 15 := by omega
      rcases this with rfl | rfl | rfl | rfl | rfl | rfl | rfl | rfl | rfl | rfl | rfl | rfl | rfl | rfl | rfl <;> decide +kernel
    · rw [opName_no h]; decide
  unfold opL
  rw [Array.length_toList]
  exact h
theorem itoa_len {n : Int} (h : -99 ≤ n ∧ n ≤ 99) : (Lib.itoa n).length ≤ 3 := by
  have dd : ∀ k : Nat, k ≤ 99 → (Lib.decDigits k).length ≤ 2 := by
    intro k hk
    rcases Nat.lt_or_ge k 10 with c | c
    · rw [num_one c]; simp
    · rw [num_two c (by omega)]; simp
  rw [Lib.itoa]
  split
  · have := dd n.natAbs (by omega); simp; omega
  · have := dd n.toNat (by omega); omega
theorem join_snoc (xs : List (List UInt8)) (y sep : List UInt8) : Lib.join (xs ++ [y]) sep = if xs = [] then y else Lib.join xs sep ++ (sep ++ y) := by
  cases xs with
  | nil => simp [Lib.join_one]
  | cons x r =>
    rw [if_neg (by simp), List.cons_append, Lib.join_cons, Lib.join_cons]
    simp [Lib.joinTail]
/-- The text of the first k operations. -/
def joinK (L : List (Nat → Int)) (k : Nat) : List UInt8 := Lib.join ((L.take k).map opT) [59]
theorem joinK_zero (L : List (Nat → Int)) : joinK L 0 = [] := by simp [joinK, Lib.join_nil]
theorem joinK_succ (L : List (Nat → Int)) (k : Nat) (hk : k < L.length) : joinK L (k + 1) = if k = 0 then opT (L.getD k g0) else joinK L k ++ [59] ++ opT (L.getD k g0) := by
  unfold joinK
  rw [List.take_add_one, List.getElem?_eq_getElem hk, Option.toList_some, List.map_append, List.map_cons, List.map_nil, join_snoc, List.getD_eq_getElem?_getD, List.getElem?_eq_getElem hk]
  by_cases h : k = 0
  · subst h; simp
  · rw [if_neg h, if_neg (by
      intro e
      have hl := congrArg List.length e
      rw [List.length_map, List.length_take] at hl
      have hl : min k L.length = 0 := hl
      omega)]
    simp
theorem joinK_all (L : List (Nat → Int)) : joinK L L.length = Lib.join (L.map opT) [59] := by rw [joinK, List.take_length]
theorem fmtW_len {xs : List Int} : (fmtW xs).length ≤ xs.length := by
  unfold fmtW
  split
  · simp [txt]
  · simp
theorem numT_len {c n : Int} (h1 : c ≠ 1 → -99 ≤ n ∧ n ≤ 99) : (numT c n).length ≤ 9 := by
  unfold numT
  split
  · exact Nat.le_trans fmtW_len (by rw [wordL_length]; exact Nat.le_refl _)
  · exact Nat.le_trans (itoa_len (h1 (by assumption))) (by omega)
/-- What an operation's text is, by its code. -/
theorem opT_one {x : Nat → Int} (h : x 0 = 1) : opT x = opL 1 ++ [32] ++ fmtW (wordL (x 1) 9) := by simp [opT, h, namN, argT, numT]
theorem opT_jump {x : Nat → Int} (h : x 0 = 10 ∨ x 0 = 13) : opT x = opL (x 0) ++ [32] ++ Lib.itoa (x 1) := by rcases h with h | h <;> simp [opT, h, namN, argT, numT]
theorem opT_branch {x : Nat → Int} (h : x 0 = 14) : opT x = opL 14 ++ [32] ++ Lib.itoa (x 1) ++ [32] ++ Lib.itoa (x 2) ++ [32] ++ Lib.itoa (x 3) := by simp [opT, h, namN, argT, numT]
theorem opT_none {x : Nat → Int} (h1 : x 0 ≠ 1) (h2 : x 0 ≠ 10) (h3 : x 0 ≠ 13) (h4 : x 0 ≠ 14) : opT x = opL (x 0) := by simp [opT, h1, h2, h3, h4, namN, argT]
theorem argT_len {n : Int} {x : Nat → Int} (hx : opOk n x = true) (hn : n ≤ 80) : (opT x).length ≤ 40 := by
  have h := (opOk_iff n x).1 hx
  have l := opL_len (x 0)
  by_cases h1 : x 0 = 1
  · have w := fmtW_len (xs := wordL (x 1) 9)
    rw [wordL_length] at w
    rw [opT_one h1]; rw [h1] at l; simp; omega
  by_cases h2 : x 0 = 10 ∨ x 0 = 13
  · have := itoa_len (n := x 1) (by omega)
    rw [opT_jump h2]; simp; omega
  by_cases h3 : x 0 = 14
  · have a := itoa_len (n := x 1) (by omega)
    have b := itoa_len (n := x 2) (by omega)
    have c := itoa_len (n := x 3) (by omega)
    rw [opT_branch h3]; rw [h3] at l; simp; omega
  · rw [opT_none h1 (by omega) (by omega) h3]; omega
theorem joinK_len {L : List (Nat → Int)} (h : codeOk L = true) : ∀ k, k ≤ L.length → (joinK L k).length ≤ 41 * k := by
  have hc := (codeOk_iff L).1 h
  intro k
  induction k with
  | zero => intro _; rw [joinK_zero]; simp
  | succ k ih =>
    intro hk
    have i1 := ih (by omega)
    have a := argT_len (hc.2 k (by omega)) (by omega)
    rw [joinK_succ L k (by omega)]
    split
    · omega
    · rw [List.length_append, List.length_append, List.length_singleton]; omega
end Tm
end Go.Proofs.YtfnhoiomdjmjhaaDoor

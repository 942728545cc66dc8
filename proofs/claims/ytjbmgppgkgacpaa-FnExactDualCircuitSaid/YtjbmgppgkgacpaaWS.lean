/- Contracts of the model's functions of words. Contracts of the model's functions of words, on. -/
import Derived.Test.YtjbmgppgkgacpaaTr
import Derived.Test.YtjbmgppgkgacpaaRow
import Derived.Test.YtjbmgppgkgacpaaWMath
import Derived.Laws.AppendOwnNone
namespace Go.Proofs.Ytjbmgppgkgacpaa
set_option maxRecDepth 20000
open Go.RowKit
namespace Tm
/-- The first k are trits. -/
def AllT (xs : List Int) (k : Nat) : Prop := ∀ j, j < k → isT (xs.getD j 0) = true
theorem AllT_zero (xs : List Int) : AllT xs 0 := fun j h => by omega
theorem AllT_succ {xs : List Int} {k : Nat} (h : AllT xs k) (hk : k < xs.length) (ht : (!isT xs[k]) = false) : AllT xs (k + 1) := by
  intro j hj
  by_cases e : j = k
  · subst e; rw [← getD_at xs j hk]; simpa using ht
  · exact h j (by omega)
theorem isW_no {xs : List Int} {k : Nat} (hk : k < xs.length) (ht : (!isT xs[k]) = true) : isW xs = false := by
  simp only [Bool.not_eq_true'] at ht
  cases e : isW xs with
  | false => rfl
  | true =>
    have := isW_at e k
    rw [← getD_at xs k hk] at this
    rw [(isT_iff _).2 this] at ht
    cases ht
theorem isW_all {xs : List Int} (h : AllT xs xs.length) : isW xs = decide (1 ≤ xs.length ∧ xs.length ≤ 30) := by
  have : xs.all isT = true := by
    rw [List.all_eq_true]
    intro x hx
    obtain ⟨j, hj, rfl⟩ := List.getElem_of_mem hx
    have := h j hj
    rwa [← getD_at xs j hj] at this
  rw [isW, this, Bool.true_and]
end Tm
namespace Tm
/-- What is left of n behind i trits. -/
def remN (n : Int) : Nat → Int
  | 0 => n
  | i + 1 => remN ((n - low n) / 3) i
theorem remN_succ (n : Int) (i : Nat) : remN n (i + 1) = (remN n i - low (remN n i)) / 3 := by
  induction i generalizing n with
  | zero => rfl
  | succ i ih => rw [remN, ih, remN]
theorem remN_bd (n : Int) (h : -102945566047324 ≤ n ∧ n ≤ 102945566047324) (i : Nat) : -102945566047324 ≤ remN n i ∧ remN n i ≤ 102945566047324 := by
  induction i with
  | zero => exact h
  | succ i ih => rw [remN_succ]; have := low_bd (remN n i); omega
theorem wordL_take (n : Int) (k i : Nat) (h : i < k) : (wordL n k).take (i + 1) = (wordL n k).take i ++ [low (remN n i)] := by
  induction i generalizing n k with
  | zero => cases k with
    | zero => omega
    | succ k => rfl
  | succ i ih => cases k with
    | zero => omega
    | succ k => rw [wordL, List.take_succ_cons, ih _ _ (by omega), List.take_succ_cons, remN]; rfl
def preW (n : Int) (k i : Nat) : List Value := ((wordL n k).take i).map (Value.int .i64)
theorem preW_succ (n : Int) (k i : Nat) (h : i < k) : preW n k i ++ [Value.int .i64 (low (remN n i))] = preW n k (i + 1) := by
  rw [preW, preW, wordL_take _ _ _ h, List.map_append]; rfl
theorem preW_all (n : Int) (k : Nat) : preW n k k = (wordL n k).map (Value.int .i64) := by
  rw [preW, List.take_of_length_le (by rw [wordL_length]; exact Nat.le_refl _)]
theorem div3 (m : Int) (h : m % 3 = 0) : m.tdiv 3 = m / 3 := by
  obtain ⟨q, rfl⟩ := Int.dvd_of_emod_eq_zero h
  rw [Int.mul_tdiv_cancel_left _ (by decide), Int.mul_ediv_cancel_left _ (by decide)]
end Tm
namespace Tm
def lenFrom (n : Int) : Nat → Int → Int
  | 0, _ => 0
  | f + 1, k => if inB n (-lim k) (lim k) then k else lenFrom n f (k + 1)
/-- The least number of trits. -/
def lenOf (n : Int) : Int := lenFrom n 30 1
end Tm
namespace Tm
/-- The text of a word: the highest trit first. -/
def txt (xs : List Int) : List UInt8 := (xs.map sg).reverse
def fmtW (xs : List Int) : List UInt8 := if isW xs then txt xs else []
def negL (xs : List Int) : List Int := xs.map (fun x => -x)
def negW (xs : List Int) : List Int := if isW xs then negL xs else []
theorem txt_take (xs : List Int) (k : Nat) (h : k < xs.length) : [sg xs[k]] ++ txt (xs.take k) = txt (xs.take (k + 1)) := by
  rw [txt, txt, List.take_succ_eq_append_getElem h, List.map_append, List.reverse_append]; rfl
theorem isT_at {xs : List Int} (h : isW xs = true) (k : Nat) (hk : k < xs.length) : isT xs[k] = true := by
  rw [getD_at xs k hk]; exact (isT_iff _).2 (isW_at h k)
def negV (xs : List Int) (k : Nat) : List Value := ((xs.take k).map (fun x => -x)).map (Value.int .i64)
theorem negV_succ (xs : List Int) (k : Nat) (h : k < xs.length) : negV xs k ++ [Value.int .i64 (-xs[k])] = negV xs (k + 1) := by
  rw [negV, negV, List.take_succ_eq_append_getElem h, List.map_append, List.map_append]; rfl
theorem negV_all (xs : List Int) : negV xs xs.length = (negL xs).map (Value.int .i64) := by rw [negV, List.take_length]; rfl
theorem txt_len (xs : List Int) : (txt xs).length = xs.length := by simp [txt]
theorem isW_len {xs : List Int} (h : isW xs = true) : xs.length ≤ 30 := ((isW_iff xs).1 h).2.2
end Tm
theorem str_cat (a b : List UInt8) : (⟨a.toArray⟩ : ByteArray) ++ ⟨b.toArray⟩ = ⟨(a ++ b).toArray⟩ := by
  apply ByteArray.ext; simp
theorem val_str {a b : ByteArray} (h : a = b) : Value.string a = .string b := by rw [h]
theorem ret_strL {a b : List UInt8} (h : a = b) : Ending.returned (.string ⟨a.toArray⟩) = .returned (.string ⟨b.toArray⟩) := by rw [h]
namespace Tm
def cmpW (xs ys : List Int) : Int := if isW xs && isW ys then sgn (val xs - val ys) else 0
end Tm
namespace Tm
def extOk (xs : List Int) (k : Int) : Bool := isW xs && wordOk (val xs) k
def ext (xs : List Int) (k : Int) : List Int := if isW xs then word (val xs) k else []
end Tm
end Go.Proofs.Ytjbmgppgkgacpaa

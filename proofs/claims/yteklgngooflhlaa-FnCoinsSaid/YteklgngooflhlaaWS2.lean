/- Contracts of the model's functions of words, on. -/
import Derived.Test.YteklgngooflhlaaWS
import Derived.Laws.AppendOwnNone
namespace Go.Proofs.Yteklgngooflhlaa
set_option maxRecDepth 20000
open Go.RowKit
namespace Tm
/-- The text of a word: the highest trit first. -/
def txt (xs : List Int) : List UInt8 := (xs.map sg).reverse
def fmtW (xs : List Int) : List UInt8 := if isW xs then txt xs else []
def negL (xs : List Int) : List Int := xs.map (fun x => -x)
def negW (xs : List Int) : List Int := if isW xs then negL xs else []
theorem txt_take (xs : List Int) (k : Nat) (h : k < xs.length) : [sg xs[k]] ++ txt (xs.take k) = txt (xs.take (k + 1)) := by
  rw [txt, txt, List.take_succ_eq_append_getElem h, List.map_append, List.reverse_append]; rfl
theorem isT_at {xs : List Int} (h : isW xs = true) (k : Nat) (hk : k < xs.length) : isT xs[k] = true := by
  rw [getD_at xs k hk]; exact (isT_iff _).2 (isW_at h k)
def negV (xs : List Int) (k : Nat) : List Value := ((xs.take k).map (fun x => -x)).map (Value.int .i64)
theorem negV_succ (xs : List Int) (k : Nat) (h : k < xs.length) : negV xs k ++ [Value.int .i64 (-xs[k])] = negV xs (k + 1) := by
  rw [negV, negV, List.take_succ_eq_append_getElem h, List.map_append, List.map_append]; rfl
theorem negV_all (xs : List Int) : negV xs xs.length = (negL xs).map (Value.int .i64) := by rw [negV, List.take_length]; rfl
theorem txt_len (xs : List Int) : (txt xs).length = xs.length := by simp [txt]
theorem isW_len {xs : List Int} (h : isW xs = true) : xs.length ≤ 30 := ((isW_iff xs).1 h).2.2
end Tm
theorem str_cat (a b : List UInt8) : (⟨a.toArray⟩ : ByteArray) ++ ⟨b.toArray⟩ = ⟨(a ++ b).toArray⟩ := by
  apply ByteArray.ext; simp
theorem val_str {a b : ByteArray} (h : a = b) : Value.string a = .string b := by rw [h]
theorem ret_strL {a b : List UInt8} (h : a = b) : Ending.returned (.string ⟨a.toArray⟩) = .returned (.string ⟨b.toArray⟩) := by rw [h]
namespace Tm
def cmpW (xs ys : List Int) : Int := if isW xs && isW ys then sgn (val xs - val ys) else 0
end Tm
namespace Tm
def extOk (xs : List Int) (k : Int) : Bool := isW xs && wordOk (val xs) k
def ext (xs : List Int) (k : Int) : List Int := if isW xs then word (val xs) k else []
end Tm
end Go.Proofs.Yteklgngooflhlaa

/- Contracts of the model's functions of words, on. -/
import Derived.Test.YtomlblhpkakdeaaWS
import Derived.Laws.AppendOwnNone
namespace Go.Proofs.Ytomlblhpkakdeaa
open Go.RowKit
namespace Tm
/-- The text of a word: the highest trit first. -/
def txt (xs : List Int) : List UInt8 := (xs.map sg).reverse
def fmtW (xs : List Int) : List UInt8 := if isW xs then txt xs else []
def negL (xs : List Int) : List Int := xs.map (fun x => -x)
def negW (xs : List Int) : List Int := if isW xs then negL xs else []
theorem txt_take (xs : List Int) (k : Nat) (h : k < xs.length) : [sg xs[k]] ++ txt (xs.take k) = txt (xs.take (k + 1)) := by
  rw [txt, txt, List.take_succ_eq_append_getElem h, List.map_append, List.reverse_append]; rfl
theorem isT_at {xs : List Int} (h : isW xs = true) (k : Nat) (hk : k < xs.length) : isT xs[k] = true := by
  rw [getD_at xs k hk]; exact (isT_iff _).2 (isW_at h k)
def negV (xs : List Int) (k : Nat) : List Value := ((xs.take k).map (fun x => -x)).map (Value.int .i64)
theorem negV_succ (xs : List Int) (k : Nat) (h : k < xs.length) : negV xs k ++ [Value.int .i64 (-xs[k])] = negV xs (k + 1) := by
  rw [negV, negV, List.take_succ_eq_append_getElem h, List.map_append, List.map_append]; rfl
theorem negV_all (xs : List Int) : negV xs xs.length = (negL xs).map (Value.int .i64) := by rw [negV, List.take_length]; rfl
theorem txt_len (xs : List Int) : (txt xs).length = xs.length := by simp [txt]
theorem isW_len {xs : List Int} (h : isW xs = true) : xs.length ≤ 30 := ((isW_iff xs).1 h).2.2
end Tm
theorem str_cat (a b : List UInt8) : (⟨a.toArray⟩ : ByteArray) ++ ⟨b.toArray⟩ = ⟨(a ++ b).toArray⟩ := by
  apply ByteArray.ext; simp
theorem val_str {a b : ByteArray} (h : a = b) : Value.string a = .string b := by rw [h]
theorem ret_strL {a b : List UInt8} (h : a = b) : Ending.returned (.string ⟨a.toArray⟩) = .returned (.string ⟨b.toArray⟩) := by rw [h]
namespace Tm
def cmpW (xs ys : List Int) : Int := if isW xs && isW ys then sgn (val xs - val ys) else 0
end Tm
theorem sCompareWords (a : Option Addr) (n cap : Nat) (xs : List Int) (b : Option Addr) (m cap2 : Nat) (ys : List Int) (w : World) (h : Ints w a n cap xs) (h2 : Ints w b m cap2 ys) : Calls Try.prog 14 #[.slice a n cap, .slice b m cap2] w fun e w' => e = .returned (.int .i64 (Tm.cmpW xs ys)) ∧ w = w' := by
  have H := Lib.hid h
  have H2 := Lib.hid h2
  clear h h2
  by_cases hx : Tm.isW xs = true
  · by_cases hy : Tm.isW ys = true
    · have b1 := Tm.val_drop_bd hx 0
      have b2 := Tm.val_drop_bd hy 0
      rw [List.drop_zero] at b1 b2
      obtain ⟨b11, b12⟩ := b1
      obtain ⟨b21, b22⟩ := b2
      go_enter Try.func14, Try.ntmps14
      go_wp2_with fail
      refine (sIsWord a n cap xs _ H.out).mono ?_
      rintro e w' ⟨rfl, rfl⟩
      go_wp2_with fail
      refine (sIsWord b m cap2 ys _ H2.out).mono ?_
      rintro e w' ⟨rfl, rfl⟩
      go_wp2_with fail
      refine (sValue2 a n cap xs _ H.out hx).mono ?_
      rintro e w' ⟨rfl, rfl⟩
      go_wp2_with fail
      refine (sValue2 b m cap2 ys _ H2.out hy).mono ?_
      rintro e w' ⟨rfl, rfl⟩
      go_wp2_with ((go_at_call 46; refine (sSignOf _ _).mono ?_; rintro e w1 ⟨rfl, rfl⟩))
      go_ret
      exact ⟨ret_int (by simp [Tm.cmpW, hx, hy]), rfl⟩
    · simp only [Bool.not_eq_true] at hy
      go_enter Try.func14, Try.ntmps14
      go_wp2_with fail
      refine (sIsWord a n cap xs _ H.out).mono ?_
      rintro e w' ⟨rfl, rfl⟩
      go_wp2_with fail
      refine (sIsWord b m cap2 ys _ H2.out).mono ?_
      rintro e w' ⟨rfl, rfl⟩
      go_wp2
      go_ret
      exact ⟨ret_int (by simp [Tm.cmpW, hy]), rfl⟩
  · simp only [Bool.not_eq_true] at hx
    go_enter Try.func14, Try.ntmps14
    go_wp2_with ((go_at_call 42; refine (sIsWord _ _ _ xs _ H.out).mono ?_; rintro e w1 ⟨rfl, rfl⟩))
    go_ret
    exact ⟨ret_int (by simp [Tm.cmpW, hx]), rfl⟩
namespace Tm
def extOk (xs : List Int) (k : Int) : Bool := isW xs && wordOk (val xs) k
def ext (xs : List Int) (k : Int) : List Int := if isW xs then word (val xs) k else []
end Tm
theorem sExtendWord (a : Option Addr) (n cap : Nat) (xs : List Int) (k : Int) (w : World) (h : Ints w a n cap xs) : Calls Try.prog 16 #[.slice a n cap, .int .i64 k] w (RetIB 3 w (Tm.ext xs k) (Tm.extOk xs k)) := by
  have H := Lib.hid h
  clear h
  by_cases hw : Tm.isW xs = true
  · rw [Tm.ext, if_pos hw, Tm.extOk, hw, Bool.true_and]
    go_enter Try.func16, Try.ntmps16
    go_wp2_with (first | (go_at_call 42; refine (sIsWord _ _ _ xs _ H.out).mono ?_; rintro e w1 ⟨rfl, rfl⟩) | (go_at_call 43; refine (sValue2 _ _ _ xs _ H.out hw).mono ?_; rintro e w1 ⟨rfl, rfl⟩) | (go_at_call 47; refine (sWordOf _ _ _).mono ?_; rintro e w1 ⟨a1, c1, rfl, hown, hb, ln⟩))
    go_ret2
    exact ret_own_b hown hb ln
  · simp only [Bool.not_eq_true] at hw
    rw [Tm.ext, hw, Tm.extOk, hw, Bool.false_and]
    go_enter Try.func16, Try.ntmps16
    go_wp2_with ((go_at_call 42; refine (sIsWord _ _ _ xs _ H.out).mono ?_; rintro e w1 ⟨rfl, rfl⟩))
    go_ret2
    exact ret_nil_b (by (repeat' (first | (with_reducible exact Below.refl _ _) | (with_reducible assumption) | (with_reducible refine below_drewN ?_ _) | (with_reducible refine Below.drew ?_) | (with_reducible refine Below.alloc ?_ ?_ _) | (with_reducible refine Below.setCell ?_ ?_ _) | (with_reducible refine below_gw ?_ ?_ _) | (with_reducible refine below_via ?_ ‹Below _ _ _› ?_) | (with_reducible exact Nat.le_refl _) | (with_reducible refine le_gw ?_ _) | (with_reducible refine le_alloc ?_ _) | (with_reducible refine le_setCell ?_ _ _) | (with_reducible refine le_drew ?_) | (with_reducible refine le_drewN ?_ _) | go_size)))
end Go.Proofs.Ytomlblhpkakdeaa

/- Contracts of the model's functions of words, on. -/
import Derived.Test.YtmpcmbagegfobaaDoorWS
import Derived.Laws.AppendOwnNone
namespace Go.Proofs.YtmpcmbagegfobaaDoor
set_option maxRecDepth 20000
open Go.RowKit
namespace Tm
/-- The text of a word: the highest trit first. -/
def txt (xs : List Int) : List UInt8 := (xs.map sg).reverse
def fmtW (xs : List Int) : List UInt8 := if isW xs then txt xs else []
def negL (xs : List Int) : List Int := xs.map (fun x => -x)
def negW (xs : List Int) : List Int := if isW xs then negL xs else []
theorem txt_take (xs : List Int) (k : Nat) (h : k < xs.length) : [sg xs[k]] ++ txt (xs.take k) = txt (xs.take (k + 1)) := by
  rw [txt, txt, List.take_succ_eq_append_getElem h, List.map_append, List.reverse_append]; rfl
theorem isT_at {xs : List Int} (h : isW xs = true) (k : Nat) (hk : k < xs.length) : isT xs[k] = true := by
  rw [getD_at xs k hk]; exact (isT_iff _).2 (isW_at h k)
def negV (xs : List Int) (k : Nat) : List Value := ((xs.take k).map (fun x => -x)).map (Value.int .i64)
theorem negV_succ (xs : List Int) (k : Nat) (h : k < xs.length) : negV xs k ++ [Value.int .i64 (-xs[k])] = negV xs (k + 1) := by
  rw [negV, negV, List.take_succ_eq_append_getElem h, List.map_append, List.map_append]; rfl
theorem negV_all (xs : List Int) : negV xs xs.length = (negL xs).map (Value.int .i64) := by rw [negV, List.take_length]; rfl
theorem txt_len (xs : List Int) : (txt xs).length = xs.length := by simp [txt]
theorem isW_len {xs : List Int} (h : isW xs = true) : xs.length ≤ 30 := ((isW_iff xs).1 h).2.2
end Tm
theorem str_cat (a b : List UInt8) : (⟨a.toArray⟩ : ByteArray) ++ ⟨b.toArray⟩ = ⟨(a ++ b).toArray⟩ := by
  apply ByteArray.ext; simp
theorem val_str {a b : ByteArray} (h : a = b) : Value.string a = .string b := by rw [h]
theorem ret_strL {a b : List UInt8} (h : a = b) : Ending.returned (.string ⟨a.toArray⟩) = .returned (.string ⟨b.toArray⟩) := by rw [h]
theorem sByteW (a : Int) (w : World) (ha : Tm.isT a = true) : Calls Tryd.prog 96 #[.int .i64 a] w fun e w' => e = .returned (.string ⟨[Tm.sg a].toArray⟩) ∧ Below w.heap.size w w' := by
  have := (Tm.isT_iff a).1 ha
  rcases (show a = -1 ∨ a = 0 ∨ a = 1 by omega) with rfl | rfl | rfl
  all_goals
    clear ha this
    go_enter Tryd.func96, Tryd.ntmps96
    go_wp2
    go_ret
    exact ⟨rfl, by (repeat' (first | (with_reducible exact Below.refl _ _) | (with_reducible assumption) | (with_reducible refine below_drewN ?_ _) | (with_reducible refine Below.drew ?_) | (with_reducible refine Below.alloc ?_ ?_ _) | (with_reducible refine Below.setCell ?_ ?_ _) | (with_reducible refine below_gw ?_ ?_ _) | (with_reducible refine below_via ?_ ‹Below _ _ _› ?_) | (with_reducible exact Nat.le_refl _) | (with_reducible refine le_gw ?_ _) | (with_reducible refine le_alloc ?_ _) | (with_reducible refine le_setCell ?_ _ _) | (with_reducible refine le_drew ?_) | (with_reducible refine le_drewN ?_ _) | go_size))⟩
theorem sFormatWord (a : Option Addr) (n cap : Nat) (xs : List Int) (w : World) (h : Ints w a n cap xs) : Calls Tryd.prog 64 #[.slice a n cap] w fun e w' => e = .returned (.string ⟨(Tm.fmtW xs).toArray⟩) ∧ Below w.heap.size w w' := by
  have H := Lib.hid h
  clear h
  by_cases hw : Tm.isW xs = true
  · go_enter Tryd.func64, Tryd.ntmps64
    go_wp2_with ((go_at_call 74; refine (sIsWord _ _ _ xs _ H.out).mono ?_; rintro e w1 ⟨rfl, rfl⟩))
    have x3 : n ≤ 30 := by have := Tm.isW_len hw; have := H.out.1; omega
    have HW := Lib.hid hw
    clear hw
    go_loopw [3, 11] (fun v i wr => ∃ k : Nat, k ≤ n ∧ i = .int .i64 k ∧ v = .string ⟨(Tm.txt (xs.take k)).toArray⟩ ∧ Below w.heap.size w wr) (fun _ i _ => n - (intOf i).toNat)
    case atStart => exact ⟨0, by omega, rfl, rfl, by (repeat' (first | (with_reducible exact Below.refl _ _) | (with_reducible assumption) | (with_reducible refine below_drewN ?_ _) | (with_reducible refine Below.drew ?_) | (with_reducible refine Below.alloc ?_ ?_ _) | (with_reducible refine Below.setCell ?_ ?_ _) | (with_reducible refine below_gw ?_ ?_ _) | (with_reducible refine below_via ?_ ‹Below _ _ _› ?_) | (with_reducible exact Nat.le_refl _) | (with_reducible refine le_gw ?_ _) | (with_reducible refine le_alloc ?_ _) | (with_reducible refine le_setCell ?_ _ _) | (with_reducible refine le_drew ?_) | (with_reducible refine le_drewN ?_ _) | go_size))⟩
    case round =>
      obtain ⟨k, hk, rfl, rfl, hb⟩ := hrel
      obtain ⟨x1, x2, _, x4⟩ := H.out.below hb
      by_cases hlt : k < n
      · rcases x4 with h0 | ⟨b, o, rfl, hbl, hc⟩
        · omega
        have c1 := hc k hlt
        rw [← getD_at xs k (by omega)] at c1
        clear hc
        have hs := hb.size
        have tl : (Tm.txt (xs.take k)).length ≤ 30 := by rw [Tm.txt_len, List.length_take]; omega
        go_wp2_with ((go_at_call 96; refine (sByteW _ _ (Tm.isT_at HW.out k (by omega))).mono ?_; rintro e w1 ⟨rfl, hb⟩; obtain ⟨p, rfl⟩ := gw_of_below hb; clear hb))
        exact ⟨⟨k + 1, by omega, by go_num, val_str (by rw [← Tm.txt_take xs k (by omega), ← str_cat]), below_gw hb hs _⟩, by simp [intOf]; omega⟩
      · obtain rfl : k = n := by omega
        go_wp2
        go_ret
        exact ⟨ret_strL (by rw [Tm.fmtW, if_pos HW.out, List.take_of_length_le (by omega)]), hb⟩
  · simp only [Bool.not_eq_true] at hw
    go_enter Tryd.func64, Tryd.ntmps64
    go_wp2_with ((go_at_call 74; refine (sIsWord _ _ _ xs _ H.out).mono ?_; rintro e w1 ⟨rfl, rfl⟩))
    go_ret
    exact ⟨by rw [Tm.fmtW, hw]; rfl, by (repeat' (first | (with_reducible exact Below.refl _ _) | (with_reducible assumption) | (with_reducible refine below_drewN ?_ _) | (with_reducible refine Below.drew ?_) | (with_reducible refine Below.alloc ?_ ?_ _) | (with_reducible refine Below.setCell ?_ ?_ _) | (with_reducible refine below_gw ?_ ?_ _) | (with_reducible refine below_via ?_ ‹Below _ _ _› ?_) | (with_reducible exact Nat.le_refl _) | (with_reducible refine le_gw ?_ _) | (with_reducible refine le_alloc ?_ _) | (with_reducible refine le_setCell ?_ _ _) | (with_reducible refine le_drew ?_) | (with_reducible refine le_drewN ?_ _) | go_size))⟩
namespace Tm
def cmpW (xs ys : List Int) : Int := if isW xs && isW ys then sgn (val xs - val ys) else 0
end Tm
namespace Tm
def extOk (xs : List Int) (k : Int) : Bool := isW xs && wordOk (val xs) k
def ext (xs : List Int) (k : Int) : List Int := if isW xs then word (val xs) k else []
end Tm
end Go.Proofs.YtmpcmbagegfobaaDoor

/- Contracts of the model's functions of words. Contracts of the model's functions of words, on. -/
import Derived.Test.YtfnhoiomdjmjhaaDoorTr
import Derived.Test.YtfnhoiomdjmjhaaDoorRow
import Derived.Test.YtfnhoiomdjmjhaaDoorWMath
import Derived.Laws.AppendOwnNone
namespace Go.Proofs.YtfnhoiomdjmjhaaDoor
set_option maxRecDepth 20000
open Go.RowKit
namespace Tm
/-- The first k are trits. -/
def AllT (xs : List Int) (k : Nat) : Prop := ∀ j, j < k → isT (xs.getD j 0) = true
theorem AllT_zero (xs : List Int) : AllT xs 0 := fun j h => by omega
theorem AllT_succ {xs : List Int} {k : Nat} (h : AllT xs k) (hk : k < xs.length) (ht : (!isT xs[k]) = false) : AllT xs (k + 1) := by
  intro j hj
  by_cases e : j = k
  · subst e; rw [← getD_at xs j hk]; simpa using ht
  · exact h j (by omega)
theorem isW_no {xs : List Int} {k : Nat} (hk : k < xs.length) (ht : (!isT xs[k]) = true) : isW xs = false := by
  simp only [Bool.not_eq_true'] at ht
  cases e : isW xs with
  | false => rfl
  | true =>
    have := isW_at e k
    rw [← getD_at xs k hk] at this
    rw [(isT_iff _).2 this] at ht
    cases ht
theorem isW_all {xs : List Int} (h : AllT xs xs.length) : isW xs = decide (1 ≤ xs.length ∧ xs.length ≤ 30) := by
  have : xs.all isT = true := by
    rw [List.all_eq_true]
    intro x hx
    obtain ⟨j, hj, rfl⟩ := List.getElem_of_mem hx
    have := h j hj
    rwa [← getD_at xs j hj] at this
  rw [isW, this, Bool.true_and]
end Tm
theorem sIsWord (a : Option Addr) (n cap : Nat) (xs : List Int) (w : World) (h : Ints w a n cap xs) : Calls Tryd.prog 48 #[.slice a n cap] w fun e w' => e = .returned (.bool (Tm.isW xs)) ∧ w = w' := by
  obtain ⟨x1, x2, x3, x4⟩ := h
  unfold maxLen at x3
  go_enter Tryd.func48, Tryd.ntmps48
  go_wp2_with fail
  go_loop [7] (fun i => ∃ k : Nat, k ≤ n ∧ i = .int .i64 k ∧ Tm.AllT xs k) (fun i => n - (intOf i).toNat)
  case atStart => exact ⟨0, by omega, rfl, Tm.AllT_zero xs⟩
  case round =>
    obtain ⟨k, hk, rfl, ha⟩ := hrel
    by_cases hlt : k < n
    · rcases x4 with h0 | ⟨b, o, rfl, hbl, hc⟩
      · omega
      have c1 := hc k hlt
      clear hc
      go_wp2_with ((go_at_call 66; refine (sIsTrit _ _).mono ?_; rintro e w1 ⟨rfl, rfl⟩))
      · go_ret
        exact ⟨ret_bool (Tm.isW_no (k := k) (by omega) (by assumption)).symm, rfl⟩
      · exact ⟨⟨k + 1, by omega, by go_num, Tm.AllT_succ ha (by omega) (by assumption)⟩, by simp [intOf]; omega⟩
    · obtain rfl : k = n := by omega
      go_wp2
      all_goals (go_ret; exact ⟨ret_bool (by rw [Tm.isW_all (by rw [x1]; exact ha), x1, Bool.eq_iff_iff]; simp; try omega), rfl⟩)
namespace Tm
/-- What is left of n behind i trits. -/
def remN (n : Int) : Nat → Int
  | 0 => n
  | i + 1 => remN ((n - low n) / 3) i
theorem remN_succ (n : Int) (i : Nat) : remN n (i + 1) = (remN n i - low (remN n i)) / 3 := by
  induction i generalizing n with
  | zero => rfl
  | succ i ih => rw [remN, ih, remN]
theorem remN_bd (n : Int) (h : -102945566047324 ≤ n ∧ n ≤ 102945566047324) (i : Nat) : -102945566047324 ≤ remN n i ∧ remN n i ≤ 102945566047324 := by
  induction i with
  | zero => exact h
  | succ i ih => rw [remN_succ]; have := low_bd (remN n i); omega
theorem wordL_take (n : Int) (k i : Nat) (h : i < k) : (wordL n k).take (i + 1) = (wordL n k).take i ++ [low (remN n i)] := by
  induction i generalizing n k with
  | zero => cases k with
    | zero => omega
    | succ k => rfl
  | succ i ih => cases k with
    | zero => omega
    | succ k => rw [wordL, List.take_succ_cons, ih _ _ (by omega), List.take_succ_cons, remN]; rfl
def preW (n : Int) (k i : Nat) : List Value := ((wordL n k).take i).map (Value.int .i64)
theorem preW_succ (n : Int) (k i : Nat) (h : i < k) : preW n k i ++ [Value.int .i64 (low (remN n i))] = preW n k (i + 1) := by
  rw [preW, preW, wordL_take _ _ _ h, List.map_append]; rfl
theorem preW_all (n : Int) (k : Nat) : preW n k k = (wordL n k).map (Value.int .i64) := by
  rw [preW, List.take_of_length_le (by rw [wordL_length]; exact Nat.le_refl _)]
theorem div3 (m : Int) (h : m % 3 = 0) : m.tdiv 3 = m / 3 := by
  obtain ⟨q, rfl⟩ := Int.dvd_of_emod_eq_zero h
  rw [Int.mul_tdiv_cancel_left _ (by decide), Int.mul_ediv_cancel_left _ (by decide)]
end Tm
set_option maxHeartbeats 800000 in
theorem sWordL (n k : Int) (w : World) (hk0 : 0 ≤ k) (hk : k ≤ 30) (hn : -102945566047324 ≤ n ∧ n ≤ 102945566047324) : Calls Tryd.prog 28 #[.int .i64 n, .int .i64 k] w (RetI 3 w (Tm.wordL n k.toNat)) := by
  obtain ⟨m, rfl⟩ := Int.eq_ofNat_of_zero_le hk0
  rw [Int.toNat_natCast]
  obtain ⟨i0, hi, hz0, hz1, hz2⟩ := info_parts infoInt
  go_enter Tryd.func28, Tryd.ntmps28
  go_wp2
  go_loopw [0, 5, 6] (fun x v i wr => ∃ j : Nat, j ≤ m ∧ i = .int .i64 j ∧ x = .int .i64 (Tm.remN n j) ∧ wr.ownsRow w.heap.size 3 1 v j (Tm.preW n m j) ∧ Below w.heap.size w wr) (fun _ _ i _ => m - (intOf i).toNat)
  case atStart => exact ⟨0, by omega, rfl, rfl, own_empty w _ _ (Nat.le_refl _), by (repeat' (first | (with_reducible exact Below.refl _ _) | (with_reducible assumption) | (with_reducible refine below_drewN ?_ _) | (with_reducible refine Below.drew ?_) | (with_reducible refine Below.alloc ?_ ?_ _) | (with_reducible refine Below.setCell ?_ ?_ _) | (with_reducible refine below_gw ?_ ?_ _) | (with_reducible refine below_via ?_ ‹Below _ _ _› ?_) | (with_reducible exact Nat.le_refl _) | (with_reducible refine le_gw ?_ _) | (with_reducible refine le_alloc ?_ _) | (with_reducible refine le_setCell ?_ _ _) | (with_reducible refine le_drew ?_) | (with_reducible refine le_drewN ?_ _) | go_size))⟩
  case round =>
    obtain ⟨j, hj, rfl, rfl, hown, hnx⟩ := hrel
    by_cases hlt : j < m
    · have hs := hnx.size
      have rb := Tm.remN_bd n hn j
      have lt := Tm.low_tmod (Tm.remN n j)
      have lm := Tm.div3 _ (Tm.low_mod (Tm.remN n j))
      have rs := Tm.remN_succ n j
      have pw := Tm.preW_succ n m j hlt
      obtain ⟨r, hr⟩ : ∃ r, r = Tm.remN n j := ⟨_, rfl⟩
      rw [← hr] at rb lt lm rs pw
      rw [← hr]
      obtain ⟨r1, r2⟩ := rb
      have t1 := Tm.tmod3_bd r
      obtain ⟨t1, t2⟩ := t1
      have LT := Lib.hid lt
      have LM := Lib.hid lm
      have RS := Lib.hid rs
      have PW := Lib.hid pw
      clear lt lm rs pw hr hn
      rcases (show 1 < r.tmod 3 ∨ r.tmod 3 < -1 ∨ (-1 ≤ r.tmod 3 ∧ r.tmod 3 ≤ 1) by omega) with c | c | c
      · have e : Tm.low r = r.tmod 3 - 3 := by rw [LT.out, if_pos c]
        have E := Lib.hid e
        clear e
        go_wp2_with (at_builtin; refine wpList_append_own _ rfl _ _ 25 rfl w.heap.size 3 i0 (.int .i64 0) 1 8 Tryd.underlying25 hi hz0 hz1 hz2 rfl (by decide) _ _ _ rfl (hown.alloc _) ⟨wr.heap.size, 0, none⟩ 1 1 [.int .i64 (r.tmod 3 - 3)] rfl rfl (app_c1 _ _ _) (app_c2 _) (by unfold maxLen; omega) (by omega) (by have := hnx.size; simp; omega) ?_)
        intro v' w1 hown' hgrow _
        have hnx1 : Below w.heap.size w w1 := (hnx.alloc hs _).grown hgrow (by simp; omega) (fun k hk => (hown.lt k hk).1)
        rw [← E.out, PW.out] at hown'
        clear hown hgrow hnx
        go_wp2
        exact ⟨⟨j + 1, by omega, by go_num, val_int (by rw [RS.out, ← LM.out, E.out]), hown', hnx1⟩, by simp [intOf]; omega⟩
      · have e : Tm.low r = r.tmod 3 + 3 := by rw [LT.out, if_neg (by omega), if_pos c]
        have E := Lib.hid e
        clear e
        go_wp2_with (at_builtin; refine wpList_append_own _ rfl _ _ 25 rfl w.heap.size 3 i0 (.int .i64 0) 1 8 Tryd.underlying25 hi hz0 hz1 hz2 rfl (by decide) _ _ _ rfl (hown.alloc _) ⟨wr.heap.size, 0, none⟩ 1 1 [.int .i64 (r.tmod 3 + 3)] rfl rfl (app_c1 _ _ _) (app_c2 _) (by unfold maxLen; omega) (by omega) (by have := hnx.size; simp; omega) ?_)
        intro v' w1 hown' hgrow _
        have hnx1 : Below w.heap.size w w1 := (hnx.alloc hs _).grown hgrow (by simp; omega) (fun k hk => (hown.lt k hk).1)
        rw [← E.out, PW.out] at hown'
        clear hown hgrow hnx
        go_wp2
        exact ⟨⟨j + 1, by omega, by go_num, val_int (by rw [RS.out, ← LM.out, E.out]), hown', hnx1⟩, by simp [intOf]; omega⟩
      · have e : Tm.low r = r.tmod 3 := by rw [LT.out, if_neg (by omega), if_neg (by omega)]
        have E := Lib.hid e
        clear e
        obtain ⟨c1, c2⟩ := c
        go_wp2_with (at_builtin; refine wpList_append_own _ rfl _ _ 25 rfl w.heap.size 3 i0 (.int .i64 0) 1 8 Tryd.underlying25 hi hz0 hz1 hz2 rfl (by decide) _ _ _ rfl (hown.alloc _) ⟨wr.heap.size, 0, none⟩ 1 1 [.int .i64 (r.tmod 3)] rfl rfl (app_c1 _ _ _) (app_c2 _) (by unfold maxLen; omega) (by omega) (by have := hnx.size; simp; omega) ?_)
        intro v' w1 hown' hgrow _
        have hnx1 : Below w.heap.size w w1 := (hnx.alloc hs _).grown hgrow (by simp; omega) (fun k hk => (hown.lt k hk).1)
        rw [← E.out, PW.out] at hown'
        clear hown hgrow hnx
        go_wp2
        exact ⟨⟨j + 1, by omega, by go_num, val_int (by rw [RS.out, ← LM.out, E.out]), hown', hnx1⟩, by simp [intOf]; omega⟩
    · obtain rfl : j = m := by omega
      go_wp2
      go_ret
      rw [Tm.preW_all] at hown
      exact ret_own hown hnx (by omega)
namespace Tm
def lenFrom (n : Int) : Nat → Int → Int
  | 0, _ => 0
  | f + 1, k => if inB n (-lim k) (lim k) then k else lenFrom n f (k + 1)
/-- The least number of trits. -/
def lenOf (n : Int) : Int := lenFrom n 30 1
end Tm
namespace Tm
/-- The text of a word: the highest trit first. -/
def txt (xs : List Int) : List UInt8 := (xs.map sg).reverse
def fmtW (xs : List Int) : List UInt8 := if isW xs then txt xs else []
def negL (xs : List Int) : List Int := xs.map (fun x => -x)
def negW (xs : List Int) : List Int := if isW xs then negL xs else []
theorem txt_take (xs : List Int) (k : Nat) (h : k < xs.length) : [sg xs[k]] ++ txt (xs.take k) = txt (xs.take (k + 1)) := by
  rw [txt, txt, List.take_succ_eq_append_getElem h, List.map_append, List.reverse_append]; rfl
theorem isT_at {xs : List Int} (h : isW xs = true) (k : Nat) (hk : k < xs.length) : isT xs[k] = true := by
  rw [getD_at xs k hk]; exact (isT_iff _).2 (isW_at h k)
def negV (xs : List Int) (k : Nat) : List Value := ((xs.take k).map (fun x => -x)).map (Value.int .i64)
theorem negV_succ (xs : List Int) (k : Nat) (h : k < xs.length) : negV xs k ++ [Value.int .i64 (-xs[k])] = negV xs (k + 1) := by
  rw [negV, negV, List.take_succ_eq_append_getElem h, List.map_append, List.map_append]; rfl
theorem negV_all (xs : List Int) : negV xs xs.length = (negL xs).map (Value.int .i64) := by rw [negV, List.take_length]; rfl
theorem txt_len (xs : List Int) : (txt xs).length = xs.length := by simp [txt]
theorem isW_len {xs : List Int} (h : isW xs = true) : xs.length ≤ 30 := ((isW_iff xs).1 h).2.2
end Tm
theorem str_cat (a b : List UInt8) : (⟨a.toArray⟩ : ByteArray) ++ ⟨b.toArray⟩ = ⟨(a ++ b).toArray⟩ := by
  apply ByteArray.ext; simp
theorem val_str {a b : ByteArray} (h : a = b) : Value.string a = .string b := by rw [h]
theorem ret_strL {a b : List UInt8} (h : a = b) : Ending.returned (.string ⟨a.toArray⟩) = .returned (.string ⟨b.toArray⟩) := by rw [h]
theorem sByteW (a : Int) (w : World) (ha : Tm.isT a = true) : Calls Tryd.prog 49 #[.int .i64 a] w fun e w' => e = .returned (.string ⟨[Tm.sg a].toArray⟩) ∧ Below w.heap.size w w' := by
  have := (Tm.isT_iff a).1 ha
  rcases (show a = -1 ∨ a = 0 ∨ a = 1 by omega) with rfl | rfl | rfl
  all_goals
    clear ha this
    go_enter Tryd.func49, Tryd.ntmps49
    go_wp2
    go_ret
    exact ⟨rfl, by (repeat' (first | (with_reducible exact Below.refl _ _) | (with_reducible assumption) | (with_reducible refine below_drewN ?_ _) | (with_reducible refine Below.drew ?_) | (with_reducible refine Below.alloc ?_ ?_ _) | (with_reducible refine Below.setCell ?_ ?_ _) | (with_reducible refine below_gw ?_ ?_ _) | (with_reducible refine below_via ?_ ‹Below _ _ _› ?_) | (with_reducible exact Nat.le_refl _) | (with_reducible refine le_gw ?_ _) | (with_reducible refine le_alloc ?_ _) | (with_reducible refine le_setCell ?_ _ _) | (with_reducible refine le_drew ?_) | (with_reducible refine le_drewN ?_ _) | go_size))⟩
theorem sFormatWord (a : Option Addr) (n cap : Nat) (xs : List Int) (w : World) (h : Ints w a n cap xs) : Calls Tryd.prog 27 #[.slice a n cap] w fun e w' => e = .returned (.string ⟨(Tm.fmtW xs).toArray⟩) ∧ Below w.heap.size w w' := by
  have H := Lib.hid h
  clear h
  by_cases hw : Tm.isW xs = true
  · go_enter Tryd.func27, Tryd.ntmps27
    go_wp2_with ((go_at_call 48; refine (sIsWord _ _ _ xs _ H.out).mono ?_; rintro e w1 ⟨rfl, rfl⟩))
    have x3 : n ≤ 30 := by have := Tm.isW_len hw; have := H.out.1; omega
    have HW := Lib.hid hw
    clear hw
    go_loopw [3, 11] (fun v i wr => ∃ k : Nat, k ≤ n ∧ i = .int .i64 k ∧ v = .string ⟨(Tm.txt (xs.take k)).toArray⟩ ∧ Below w.heap.size w wr) (fun _ i _ => n - (intOf i).toNat)
    case atStart => exact ⟨0, by omega, rfl, rfl, by (repeat' (first | (with_reducible exact Below.refl _ _) | (with_reducible assumption) | (with_reducible refine below_drewN ?_ _) | (with_reducible refine Below.drew ?_) | (with_reducible refine Below.alloc ?_ ?_ _) | (with_reducible refine Below.setCell ?_ ?_ _) | (with_reducible refine below_gw ?_ ?_ _) | (with_reducible refine below_via ?_ ‹Below _ _ _› ?_) | (with_reducible exact Nat.le_refl _) | (with_reducible refine le_gw ?_ _) | (with_reducible refine le_alloc ?_ _) | (with_reducible refine le_setCell ?_ _ _) | (with_reducible refine le_drew ?_) | (with_reducible refine le_drewN ?_ _) | go_size))⟩
    case round =>
      obtain ⟨k, hk, rfl, rfl, hb⟩ := hrel
      obtain ⟨x1, x2, _, x4⟩ := H.out.below hb
      by_cases hlt : k < n
      · rcases x4 with h0 | ⟨b, o, rfl, hbl, hc⟩
        · omega
        have c1 := hc k hlt
        rw [← getD_at xs k (by omega)] at c1
        clear hc
        have hs := hb.size
        have tl : (Tm.txt (xs.take k)).length ≤ 30 := by rw [Tm.txt_len, List.length_take]; omega
        go_wp2_with ((go_at_call 49; refine (sByteW _ _ (Tm.isT_at HW.out k (by omega))).mono ?_; rintro e w1 ⟨rfl, hb⟩; obtain ⟨p, rfl⟩ := gw_of_below hb; clear hb))
        exact ⟨⟨k + 1, by omega, by go_num, val_str (by rw [← Tm.txt_take xs k (by omega), ← str_cat]), below_gw hb hs _⟩, by simp [intOf]; omega⟩
      · obtain rfl : k = n := by omega
        go_wp2
        go_ret
        exact ⟨ret_strL (by rw [Tm.fmtW, if_pos HW.out, List.take_of_length_le (by omega)]), hb⟩
  · simp only [Bool.not_eq_true] at hw
    go_enter Tryd.func27, Tryd.ntmps27
    go_wp2_with ((go_at_call 48; refine (sIsWord _ _ _ xs _ H.out).mono ?_; rintro e w1 ⟨rfl, rfl⟩))
    go_ret
    exact ⟨by rw [Tm.fmtW, hw]; rfl, by (repeat' (first | (with_reducible exact Below.refl _ _) | (with_reducible assumption) | (with_reducible refine below_drewN ?_ _) | (with_reducible refine Below.drew ?_) | (with_reducible refine Below.alloc ?_ ?_ _) | (with_reducible refine Below.setCell ?_ ?_ _) | (with_reducible refine below_gw ?_ ?_ _) | (with_reducible refine below_via ?_ ‹Below _ _ _› ?_) | (with_reducible exact Nat.le_refl _) | (with_reducible refine le_gw ?_ _) | (with_reducible refine le_alloc ?_ _) | (with_reducible refine le_setCell ?_ _ _) | (with_reducible refine le_drew ?_) | (with_reducible refine le_drewN ?_ _) | go_size))⟩
namespace Tm
def cmpW (xs ys : List Int) : Int := if isW xs && isW ys then sgn (val xs - val ys) else 0
end Tm
namespace Tm
def extOk (xs : List Int) (k : Int) : Bool := isW xs && wordOk (val xs) k
def ext (xs : List Int) (k : Int) : List Int := if isW xs then word (val xs) k else []
end Tm
end Go.Proofs.YtfnhoiomdjmjhaaDoor

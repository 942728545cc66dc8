/- Contracts of the program's functions of words, on: texts, signs, negatives. -/
import Derived.Test.YteklgngooflhlaaWI
import Derived.Test.YteklgngooflhlaaRd
import Derived.Laws.IdiomStrings
namespace Go.Proofs.Yteklgngooflhlaa
set_option maxRecDepth 20000
open Go.RowKit
namespace Tm
/-- The text of the trits from place k on, the highest one first, as cells. -/
def txtV (xs : List Int) (k : Nat) : List Value := (txt (xs.drop k)).map (fun b => Value.int .u8 (b.toNat : Int))
theorem txtV_succ (xs : List Int) (j : Nat) (h : j < xs.length) : txtV xs (j + 1) ++ [Value.int .u8 ((sg xs[j]).toNat : Int)] = txtV xs j := by
  rw [txtV, txtV, List.drop_eq_getElem_cons h, txt, txt, List.map_cons, List.reverse_cons, List.map_append]; rfl
theorem txtV_get (xs : List Int) (j : Nat) (hj : j < (txt xs).length) : (txtV xs 0)[j]? = some (.int .u8 (((txt xs)[j]).toNat : Int)) := by
  rw [txtV, List.drop_zero, List.getElem?_map, List.getElem?_eq_getElem hj]; rfl
end Tm
namespace Tm
theorem prsL_get (s : ByteArray) (j : Nat) (h : j < s.size) : (prsL s).getD j 0 = rd (bt s (s.size - 1 - j)) := by
  simp [prsL, List.getD_eq_getElem?_getD, h]
theorem prsL_isT (s : ByteArray) (j : Nat) (h : j < s.size) (c : Int) (hc : c = bt s (s.size - 1 - j)) : isT ((prsL s).getD j 0) = rdOk c := by
  rw [prsL_get s j h, ← hc]; rfl
theorem rdv_eq {c : Int} (h : rdOk c = true) : rdv c = rd c := by rw [rdv, if_pos h]
end Tm
theorem neg_trit {a : Int} (h : -1 ≤ a ∧ a ≤ 1) : Tm.neg a = -a := by rw [Tm.neg, if_pos ((Tm.isT_iff a).2 h)]
theorem negL_get (xs : List Int) (i : Nat) : (Tm.negL xs).getD i 0 = -(xs.getD i 0) := by
  simp only [Tm.negL, List.getD_eq_getElem?_getD, List.getElem?_map]
  cases xs[i]? <;> simp
theorem iNegateWord (a : Option Addr) (n cap : Nat) (xs : List Int) (w : World) (h : Ints w a n cap xs) : Calls Try.prog 34 #[.slice a n cap] w (RetI 3 w (Tm.negW xs)) := by
  obtain ⟨i0, hi, hz0, hz1, hz2⟩ := info_parts infoInt
  have H := Lib.hid h
  obtain rfl : n = xs.length := h.1.symm
  clear h
  by_cases hw : Tm.isW xs = true
  · have hl := (Tm.isW_iff xs).1 hw
    obtain ⟨-, l1, l2⟩ := hl
    have HW := Lib.hid hw
    rw [Tm.negW, if_pos hw]
    go_enter Try.func34, Try.ntmps34
    go_wp2_with (first | (go_at_call 88; refine (iIsWord _ _ _ xs _ H.out).mono ?_; rintro e w1 ⟨rfl, rfl⟩) | (at_make; refine wpList_make_full _ rfl _ _ 24 rfl (w.heap.size) 3 i0 (.int .i64 0) 1 Try.underlying24 hi hz0 hz1 _ _ _ _ (xs.length) rfl rfl (by first | rfl | omega) (by first | rfl | omega) (by rw [hz2]; omega) (by unfold maxLen; omega) (by first | go_size | (simp only [gw_size, World.size_alloc]; omega) | exact Nat.le_refl _ | omega) ?_))
    clear hw
    intro w1 hown hgrow
    have hown0 := rowV_own hown
    have hb0 : Below w.heap.size w w1 := (Below.refl _ _).grown hgrow (Nat.le_refl _) (fun k hk => by cases hk)
    clear hown hgrow
    go_wp2
    go_loopw [14] (fun i wr => ∃ (j : Nat) (g : Nat → Int), j ≤ xs.length ∧ i = .int .i64 j ∧ wr.ownsRow w.heap.size 3 1 (.slice (some ⟨w.heap.size, 0, none⟩) xs.length xs.length) xs.length (rowV xs.length g) ∧ Hid (∀ q, q < j → g q = (Tm.negL xs).getD q 0) ∧ Below w.heap.size w wr) (fun i _ => xs.length - (intOf i).toNat)
    case atStart => exact ⟨0, _, by omega, rfl, hown0, Lib.hid (fun q hq => by omega), hb0⟩
    case round =>
      obtain ⟨j, g, hj, rfl, hown, G, hnx⟩ := hrel
      clear hown0 hb0
      by_cases hlt : j < xs.length
      · rcases (H.out.below hnx).2.2.2 with e | ⟨b, o, rfl, hbl, hc⟩
        · omega
        have hs := hnx.size
        have c1 := hc j hlt
        have ex := getD_at xs j hlt
        have NT := Lib.hid (neg_trit (Tm.isW_at HW.out j))
        rw [← ex] at c1 NT
        have EX := Lib.hid ex
        have fz := hown.frozenAt j
        have ck := own_cell hown j hlt
        obtain ⟨s1, s2⟩ := own_put hown j (Tm.neg xs[j])
        have hnx1 := hnx.grown s2 (by omega) (fun q hq => by cases hq; exact Nat.le_refl _)
        clear hown hnx s2 hc ex
        go_wp2_with ((go_at_call 89; refine (iNotTrit _ _).mono ?_; rintro e w1 ⟨rfl, rfl⟩))
        refine ⟨⟨j + 1, _, by omega, by go_num, s1, Lib.hid (fun q hq => ?_), hnx1⟩, by simp [intOf]; omega⟩
        by_cases e : q = j
        · subst e; rw [upd_at, NT.out, negL_get, EX.out]
        · rw [upd_ne _ _ _ e]; exact G.out q (by omega)
      · obtain rfl : j = xs.length := by omega
        go_wp2
        go_ret
        rw [rowV_list (xs := Tm.negL xs) (by simp [Tm.negL]) G.out] at hown
        exact ret_own hown hnx (by omega)
  · simp only [Bool.not_eq_true] at hw
    rw [Tm.negW, hw]
    go_enter Try.func34, Try.ntmps34
    go_wp2_with ((go_at_call 88; refine (iIsWord _ _ _ xs _ H.out).mono ?_; rintro e w1 ⟨rfl, rfl⟩))
    go_ret
    exact ret_nil (by (repeat' (first | (with_reducible exact Below.refl _ _) | (with_reducible assumption) | (with_reducible refine below_drewN ?_ _) | (with_reducible refine Below.drew ?_) | (with_reducible refine Below.alloc ?_ ?_ _) | (with_reducible refine Below.setCell ?_ ?_ _) | (with_reducible refine below_gw ?_ ?_ _) | (with_reducible refine below_via ?_ ‹Below _ _ _› ?_) | (with_reducible exact Nat.le_refl _) | (with_reducible refine le_gw ?_ _) | (with_reducible refine le_alloc ?_ _) | (with_reducible refine le_setCell ?_ _ _) | (with_reducible refine le_drew ?_) | (with_reducible refine le_drewN ?_ _) | go_size)))
namespace Tm
/-- All above place k are 0: the sign of the whole is that of what is at k, if that is not 0. -/
theorem sgn_down {xs : List Int} (h : isW xs = true) {j : Nat} (hj : j < xs.length) (h0 : val (xs.drop (j + 1)) = 0) (hx : xs.getD j 0 ≠ 0) (i : Nat) (hi : i ≤ j) : sgn (val (xs.drop (j - i))) = xs.getD j 0 ∧ val (xs.drop (j - i)) ≠ 0 := by
  have hb := isW_at h j
  induction i with
  | zero =>
    rw [Nat.sub_zero, val_drop xs j hj, h0]
    generalize xs.getD j 0 = x at *
    refine ⟨?_, by omega⟩
    unfold sgn
    split
    · omega
    · split <;> omega
  | succ i ih =>
    obtain ⟨ih1, ih2⟩ := ih (by omega)
    rw [val_drop xs (j - (i + 1)) (by omega), show j - (i + 1) + 1 = j - i from by omega]
    have hc := isW_at h (j - (i + 1))
    generalize xs.getD (j - (i + 1)) 0 = c at *
    generalize val (xs.drop (j - i)) = v at *
    rw [← ih1]
    unfold sgn
    refine ⟨?_, by omega⟩
    split <;> split <;> (try split) <;> (try split) <;> omega
theorem sgn_top {xs : List Int} (h : isW xs = true) {j : Nat} (hj : j < xs.length) (h0 : val (xs.drop (j + 1)) = 0) (hx : xs.getD j 0 ≠ 0) : sgn (value xs) = xs.getD j 0 := by
  have := (sgn_down h hj h0 hx j (Nat.le_refl _)).1
  rw [Nat.sub_self, List.drop_zero] at this
  rw [value, if_pos h, this]
theorem val_zero {xs : List Int} {j : Nat} (hj : j < xs.length) (h0 : val (xs.drop (j + 1)) = 0) (hx : xs.getD j 0 = 0) : val (xs.drop j) = 0 := by
  rw [val_drop xs j hj, h0, hx]; rfl
end Tm
end Go.Proofs.Yteklgngooflhlaa

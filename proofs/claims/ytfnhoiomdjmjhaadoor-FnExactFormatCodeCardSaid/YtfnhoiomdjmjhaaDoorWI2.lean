/- Contracts of the program's functions of words, on: texts, signs, negatives. -/
import Derived.Test.YtfnhoiomdjmjhaaDoorWI
import Derived.Test.YtfnhoiomdjmjhaaDoorRd
import Derived.Laws.IdiomStrings
namespace Go.Proofs.YtfnhoiomdjmjhaaDoor
set_option maxRecDepth 20000
open Go.RowKit
namespace Tm
/-- The text of the trits from place k on, the highest one first, as cells. -/
def txtV (xs : List Int) (k : Nat) : List Value := (txt (xs.drop k)).map (fun b => Value.int .u8 (b.toNat : Int))
theorem txtV_succ (xs : List Int) (j : Nat) (h : j < xs.length) : txtV xs (j + 1) ++ [Value.int .u8 ((sg xs[j]).toNat : Int)] = txtV xs j := by
  rw [txtV, txtV, List.drop_eq_getElem_cons h, txt, txt, List.map_cons, List.reverse_cons, List.map_append]; rfl
theorem txtV_get (xs : List Int) (j : Nat) (hj : j < (txt xs).length) : (txtV xs 0)[j]? = some (.int .u8 (((txt xs)[j]).toNat : Int)) := by
  rw [txtV, List.drop_zero, List.getElem?_map, List.getElem?_eq_getElem hj]; rfl
end Tm
set_option maxHeartbeats 800000 in
theorem iFormatWord (a : Option Addr) (n cap : Nat) (xs : List Int) (w : World) (h : Ints w a n cap xs) : Calls Tryd.prog 70 #[.slice a n cap] w fun e w' => e = .returned (.string ⟨(Tm.fmtW xs).toArray⟩) ∧ Below w.heap.size w w' := by
  obtain ⟨i0, hi, hz0, hz1, hz2⟩ := info_parts infoByte
  have H := Lib.hid h
  obtain rfl : n = xs.length := h.1.symm
  clear h
  by_cases hw : Tm.isW xs = true
  · have hl := (Tm.isW_iff xs).1 hw
    obtain ⟨-, l1, l2⟩ := hl
    have HW := Lib.hid hw
    go_enter Tryd.func70, Tryd.ntmps70
    go_wp2_with ((go_at_call 79; refine (iIsWord _ _ _ xs _ H.out).mono ?_; rintro e w1 ⟨rfl, rfl⟩))
    clear hw
    go_loopw [3, 4] (fun v i wr => ∃ k : Nat, k ≤ xs.length ∧ i = .int .i64 ((k : Int) - 1) ∧ wr.ownsRow w.heap.size 5 1 v (xs.length - k) (Tm.txtV xs k) ∧ Below w.heap.size w wr) (fun _ i _ => (intOf i + 1).toNat)
    case atStart => exact ⟨xs.length, by omega, rfl, by rw [Nat.sub_self, Tm.txtV, List.drop_length]; exact World.ownsRow_nil _ _ _ _, by (repeat' (first | (with_reducible exact Below.refl _ _) | (with_reducible assumption) | (with_reducible refine below_drewN ?_ _) | (with_reducible refine Below.drew ?_) | (with_reducible refine Below.alloc ?_ ?_ _) | (with_reducible refine Below.setCell ?_ ?_ _) | (with_reducible refine below_gw ?_ ?_ _) | (with_reducible refine below_via ?_ ‹Below _ _ _› ?_) | (with_reducible exact Nat.le_refl _) | (with_reducible refine le_gw ?_ _) | (with_reducible refine le_alloc ?_ _) | (with_reducible refine le_setCell ?_ _ _) | (with_reducible refine le_drew ?_) | (with_reducible refine le_drewN ?_ _) | go_size))⟩
    case round =>
      obtain ⟨k, hk, rfl, hown, hnx⟩ := hrel
      rcases Nat.eq_zero_or_pos k with h0 | h0
      · subst h0
        rw [Nat.sub_zero] at hown
        rcases hown.2 with ⟨-, h0⟩ | ⟨g, cap', cur, rfl, -, -, -, -, -, -⟩
        · omega
        · have hcv : (convert 22 9 (.slice (some ⟨g, 0, none⟩) (Tm.txt xs).length cap')).run Tryd.prog wr = .ok (.string ⟨(Tm.txt xs).toArray⟩) wr := run_convert_bytes_back (P := Tryd.prog) wr 22 9 5 ⟨g, 0, none⟩ cap' (Tm.txt xs) Tryd.underlying22 Tryd.underlying5 Tryd.underlying9 (fun j hj => hown.cells (g := g) rfl j _ (Tm.txtV_get xs j hj))
          rw [Tm.txt_len] at hcv
          go_wp2
          go_ret
          exact ⟨ret_strL (by rw [Tm.fmtW, if_pos HW.out]), hnx⟩
      · obtain ⟨j, rfl⟩ : ∃ j, k = j + 1 := ⟨k - 1, by omega⟩
        rw [show (((j + 1 : Nat) : Int) - 1) = (j : Int) from by omega]
        rcases (H.out.below hnx).2.2.2 with e | ⟨b, o, rfl, hbl, hc⟩
        · omega
        have c1 := hc j (by omega)
        rw [← getD_at xs j (by omega)] at c1
        have hs := hnx.size
        have tt := Tm.isT_at HW.out j (by omega)
        have q2 := idxSign xs[j] tt
        have tt := (Tm.isT_iff _).1 tt
        obtain ⟨tt1, tt2⟩ := tt
        clear hc
        go_wp2_with (at_builtin; refine wpList_append_own _ rfl _ _ 22 rfl w.heap.size 5 i0 (.int .u8 0) 1 1 Tryd.underlying22 hi hz0 hz1 hz2 rfl (by decide) _ _ _ rfl (hown.alloc _) ⟨wr.heap.size, 0, none⟩ 1 1 [Value.int .u8 ((Tm.sg xs[j]).toNat : Int)] rfl rfl ?c1 ?c2 ?c3 ?c4 ?c5 ?_)
        case c1 =>
          intro j u hj
          match j, hj with
          | 0, hj => simp at hj; subst hj; simp [Addr.add]
        case c2 => intro u hu; simp at hu; subst hu; rfl
        case c3 => unfold maxLen; omega
        case c4 => omega
        case c5 => have := hnx.size; simp; omega
        intro v' w1 hown' hgrow _
        have hnx1 : Below w.heap.size w w1 := (hnx.alloc hs _).grown hgrow (by simp; omega) (fun k hk => (hown.lt k hk).1)
        rw [Tm.txtV_succ xs j (by omega), show xs.length - (j + 1) + 1 = xs.length - j from by omega] at hown'
        clear hown hgrow hnx q2
        go_wp2
        go_roundw
        case rel => exact ⟨j, by omega, rfl, hown', hnx1⟩
        case measure => simp [intOf] <;> omega
  · simp only [Bool.not_eq_true] at hw
    go_enter Tryd.func70, Tryd.ntmps70
    go_wp2_with ((go_at_call 79; refine (iIsWord _ _ _ xs _ H.out).mono ?_; rintro e w1 ⟨rfl, rfl⟩))
    go_ret
    exact ⟨by rw [Tm.fmtW, hw]; rfl, by (repeat' (first | (with_reducible exact Below.refl _ _) | (with_reducible assumption) | (with_reducible refine below_drewN ?_ _) | (with_reducible refine Below.drew ?_) | (with_reducible refine Below.alloc ?_ ?_ _) | (with_reducible refine Below.setCell ?_ ?_ _) | (with_reducible refine below_gw ?_ ?_ _) | (with_reducible refine below_via ?_ ‹Below _ _ _› ?_) | (with_reducible exact Nat.le_refl _) | (with_reducible refine le_gw ?_ _) | (with_reducible refine le_alloc ?_ _) | (with_reducible refine le_setCell ?_ _ _) | (with_reducible refine le_drew ?_) | (with_reducible refine le_drewN ?_ _) | go_size))⟩
namespace Tm
theorem prsL_get (s : ByteArray) (j : Nat) (h : j < s.size) : (prsL s).getD j 0 = rd (bt s (s.size - 1 - j)) := by
  simp [prsL, List.getD_eq_getElem?_getD, h]
theorem prsL_isT (s : ByteArray) (j : Nat) (h : j < s.size) (c : Int) (hc : c = bt s (s.size - 1 - j)) : isT ((prsL s).getD j 0) = rdOk c := by
  rw [prsL_get s j h, ← hc]; rfl
theorem rdv_eq {c : Int} (h : rdOk c = true) : rdv c = rd c := by rw [rdv, if_pos h]
end Tm
namespace Tm
/-- All above place k are 0: the sign of the whole is that of what is at k, if that is not 0. -/
theorem sgn_down {xs : List Int} (h : isW xs = true) {j : Nat} (hj : j < xs.length) (h0 : val (xs.drop (j + 1)) = 0) (hx : xs.getD j 0 ≠ 0) (i : Nat) (hi : i ≤ j) : sgn (val (xs.drop (j - i))) = xs.getD j 0 ∧ val (xs.drop (j - i)) ≠ 0 := by
  have hb := isW_at h j
  induction i with
  | zero =>
    rw [Nat.sub_zero, val_drop xs j hj, h0]
    generalize xs.getD j 0 = x at *
    refine ⟨?_, by omega⟩
    unfold sgn
    split
    · omega
    · split <;> omega
  | succ i ih =>
    obtain ⟨ih1, ih2⟩ := ih (by omega)
    rw [val_drop xs (j - (i + 1)) (by omega), show j - (i + 1) + 1 = j - i from by omega]
    have hc := isW_at h (j - (i + 1))
    generalize xs.getD (j - (i + 1)) 0 = c at *
    generalize val (xs.drop (j - i)) = v at *
    rw [← ih1]
    unfold sgn
    refine ⟨?_, by omega⟩
    split <;> split <;> (try split) <;> (try split) <;> omega
theorem sgn_top {xs : List Int} (h : isW xs = true) {j : Nat} (hj : j < xs.length) (h0 : val (xs.drop (j + 1)) = 0) (hx : xs.getD j 0 ≠ 0) : sgn (value xs) = xs.getD j 0 := by
  have := (sgn_down h hj h0 hx j (Nat.le_refl _)).1
  rw [Nat.sub_self, List.drop_zero] at this
  rw [value, if_pos h, this]
theorem val_zero {xs : List Int} {j : Nat} (hj : j < xs.length) (h0 : val (xs.drop (j + 1)) = 0) (hx : xs.getD j 0 = 0) : val (xs.drop j) = 0 := by
  rw [val_drop xs j hj, h0, hx]; rfl
end Tm
end Go.Proofs.YtfnhoiomdjmjhaaDoor

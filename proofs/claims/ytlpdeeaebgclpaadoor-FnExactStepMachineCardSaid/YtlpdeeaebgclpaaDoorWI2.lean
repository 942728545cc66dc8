/- Contracts of the program's functions of words, on: texts, signs, negatives. -/
import Derived.Test.YtlpdeeaebgclpaaDoorWI
import Derived.Test.YtlpdeeaebgclpaaDoorRd
import Derived.Laws.IdiomStrings
namespace Go.Proofs.YtlpdeeaebgclpaaDoor
set_option maxRecDepth 20000
open Go.RowKit
namespace Tm
/-- The text of the trits from place k on, the highest one first, as cells. -/
def txtV (xs : List Int) (k : Nat) : List Value := (txt (xs.drop k)).map (fun b => Value.int .u8 (b.toNat : Int))
theorem txtV_succ (xs : List Int) (j : Nat) (h : j < xs.length) : txtV xs (j + 1) ++ [Value.int .u8 ((sg xs[j]).toNat : Int)] = txtV xs j := by
  rw [txtV, txtV, List.drop_eq_getElem_cons h, txt, txt, List.map_cons, List.reverse_cons, List.map_append]; rfl
theorem txtV_get (xs : List Int) (j : Nat) (hj : j < (txt xs).length) : (txtV xs 0)[j]? = some (.int .u8 (((txt xs)[j]).toNat : Int)) := by
  rw [txtV, List.drop_zero, List.getElem?_map, List.getElem?_eq_getElem hj]; rfl
end Tm
namespace Tm
theorem prsL_get (s : ByteArray) (j : Nat) (h : j < s.size) : (prsL s).getD j 0 = rd (bt s (s.size - 1 - j)) := by
  simp [prsL, List.getD_eq_getElem?_getD, h]
theorem prsL_isT (s : ByteArray) (j : Nat) (h : j < s.size) (c : Int) (hc : c = bt s (s.size - 1 - j)) : isT ((prsL s).getD j 0) = rdOk c := by
  rw [prsL_get s j h, ← hc]; rfl
theorem rdv_eq {c : Int} (h : rdOk c = true) : rdv c = rd c := by rw [rdv, if_pos h]
end Tm
namespace Tm
/-- All above place k are 0: the sign of the whole is that of what is at k, if that is not 0. -/
theorem sgn_down {xs : List Int} (h : isW xs = true) {j : Nat} (hj : j < xs.length) (h0 : val (xs.drop (j + 1)) = 0) (hx : xs.getD j 0 ≠ 0) (i : Nat) (hi : i ≤ j) : sgn (val (xs.drop (j - i))) = xs.getD j 0 ∧ val (xs.drop (j - i)) ≠ 0 := by
  have hb := isW_at h j
  induction i with
  | zero =>
    rw [Nat.sub_zero, val_drop xs j hj, h0]
    generalize xs.getD j 0 = x at *
    refine ⟨?_, by omega⟩
    unfold sgn
    split
    · omega
    · split <;> omega
  | succ i ih =>
    obtain ⟨ih1, ih2⟩ := ih (by omega)
    rw [val_drop xs (j - (i + 1)) (by omega), show j - (i + 1) + 1 = j - i from by omega]
    have hc := isW_at h (j - (i + 1))
    generalize xs.getD (j - (i + 1)) 0 = c at *
    generalize val (xs.drop (j - i)) = v at *
    rw [← ih1]
    unfold sgn
    refine ⟨?_, by omega⟩
    split <;> split <;> (try split) <;> (try split) <;> omega
theorem sgn_top {xs : List Int} (h : isW xs = true) {j : Nat} (hj : j < xs.length) (h0 : val (xs.drop (j + 1)) = 0) (hx : xs.getD j 0 ≠ 0) : sgn (value xs) = xs.getD j 0 := by
  have := (sgn_down h hj h0 hx j (Nat.le_refl _)).1
  rw [Nat.sub_self, List.drop_zero] at this
  rw [value, if_pos h, this]
theorem val_zero {xs : List Int} {j : Nat} (hj : j < xs.length) (h0 : val (xs.drop (j + 1)) = 0) (hx : xs.getD j 0 = 0) : val (xs.drop j) = 0 := by
  rw [val_drop xs j hj, h0, hx]; rfl
end Tm
end Go.Proofs.YtlpdeeaebgclpaaDoor

/- Plain facts on sums, for the laws of adders. -/
import Derived.Test.YteklgngooflhlaaAMath
import Derived.Test.YteklgngooflhlaaLValues
namespace Go.Proofs.Yteklgngooflhlaa
set_option maxRecDepth 20000
open Go.RowKit
namespace Tm
theorem addOk_of {xs ys : List Int} {c : Int} (hx : isW xs = true) (hy : isW ys = true) (h : ys.length = xs.length) (hc : -1 ≤ c ∧ c ≤ 1) : addOk xs ys c = true := by
  rw [addOk, Bool.and_eq_true, fit_iff]; exact ⟨⟨hx, hy, h.symm⟩, (isT_iff c).2 hc⟩
theorem negW_word {xs : List Int} (h : isW xs = true) : isW (negW xs) = true ∧ val (negW xs) = -val xs ∧ (negW xs).length = xs.length := by
  rw [negW, if_pos h]; exact ⟨(neg_word h).1, (neg_word h).2, by simp [negL]⟩
theorem add_facts {xs ys : List Int} {c : Int} (h : addOk xs ys c = true) :
    isW (add xs ys c) = true ∧ (add xs ys c).length = xs.length ∧ (-1 ≤ addC xs ys c ∧ addC xs ys c ≤ 1) ∧ val (add xs ys c) + pow3 xs.length * addC xs ys c = val xs + val ys + c := by
  rw [add, addC, if_pos h, if_pos h]
  have h' := h
  rw [addOk, Bool.and_eq_true, fit_iff] at h'
  exact ⟨isW_add h, genL_length _ _, crr_bd h'.1.1 h'.1.2.1 ((isT_iff c).1 h'.2) _, add_val h⟩
theorem addOk_swap (xs ys : List Int) (c : Int) : addOk xs ys c = addOk ys xs c := by rw [addOk, addOk, fit_swap]
theorem addC_swap (xs ys : List Int) (c : Int) : addC xs ys c = addC ys xs c := by
  rw [addC, addC, addOk_swap]
  split
  · rename_i h
    rw [addOk, Bool.and_eq_true, fit_iff] at h
    rw [crr_swap, h.1.2.2]
  · rfl
theorem add_swap (xs ys : List Int) (c : Int) : add xs ys c = add ys xs c := by
  rw [add, add, addOk_swap]
  split
  · rename_i h
    rw [addOk, Bool.and_eq_true, fit_iff] at h
    exact addL_swap h.1.2.2.symm c
  · rfl
end Tm
end Go.Proofs.Yteklgngooflhlaa

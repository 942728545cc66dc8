/- Contracts of the functions of tables, on: what a table has for two trits. -/
import Derived.Test.YteklgngooflhlaaTabI
namespace Go.Proofs.Yteklgngooflhlaa
set_option maxRecDepth 20000
open Go.RowKit
namespace Tm
def ix (a b : Int) : Nat := (3 * (a + 1) + b + 1).toNat
def look (f : Nat → Int) (a b : Int) : Int := if isTab f && isT a && isT b then f (ix a b) else 0
theorem look_no {f : Nat → Int} {a b : Int} (h : isTab f = false ∨ isT a = false ∨ isT b = false) : look f a b = 0 := by
  rcases h with h | h | h <;> simp [look, h]
theorem isTab_at {f : Nat → Int} (h : isTab f = true) (i : Nat) (hi : i < 9) : isT (f i) = true := by
  simp only [isTab, Bool.and_eq_true] at h
  match i, hi with
  | 0, _ | 1, _ | 2, _ | 3, _ | 4, _ | 5, _ | 6, _ | 7, _ | 8, _ => simp_all
theorem look_tt (f : Nat → Int) (a b : Int) : -1 ≤ look f a b ∧ look f a b ≤ 1 := by
  unfold look
  split
  · rename_i h
    simp only [Bool.and_eq_true] at h
    obtain ⟨⟨h1, h2⟩, h3⟩ := h
    have := isTab_at h1 (ix a b) (by have := (isT_iff a).1 h2; have := (isT_iff b).1 h3; unfold ix; omega)
    exact (isT_iff _).1 this
  · omega
theorem neg_look (f : Nat → Int) (a b : Int) : neg (look f a b) = - look f a b := by
  rw [neg, if_pos ((isT_iff _).2 (look_tt f a b))]
end Tm
end Go.Proofs.Yteklgngooflhlaa

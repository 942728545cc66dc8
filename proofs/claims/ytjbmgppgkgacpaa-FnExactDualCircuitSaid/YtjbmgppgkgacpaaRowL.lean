/- Lists of rows of integers: the contracts of the laws' own functions on them. -/
import Derived.Test.YtjbmgppgkgacpaaOwn
import Derived.Deep.RegionHeld3
namespace Go.Proofs.Ytjbmgppgkgacpaa
set_option maxRecDepth 20000
open Go.RowKit
/-- How a list of rows that came in is read. -/
theorem rows_of_open {w : World} {a : Addr} {len cap : Nat} {A : Nat → Option Addr} {Ls C : Nat → Nat} {Z : Nat → List Int} (hl : len ≤ cap) (hm : cap ≤ maxLen)
    (h : ∀ r, r < cap → w.cell? (a.add r) = some (.slice (A r) (Ls r) (C r)) ∧ Ls r ≤ C r ∧ C r ≤ maxLen ∧ (Z r).length = C r ∧ (∀ n ∈ Z r, (Lit.int .i64 n).wf = true) ∧ (A r = none → C r = 0) ∧ ∀ a', A r = some a' → ∀ c, c < C r → w.cell? (a'.add c) = some (.int .i64 ((Z r).getD c 0))) :
    Rows w (some a) len cap ((List.range len).map fun r => (Z r).take (Ls r)) := by
  refine ⟨by simp, hl, hm, ?_⟩
  rcases Nat.eq_zero_or_pos len with h0 | h0
  · exact .inl h0
  obtain ⟨b, o, spot⟩ := a
  have hs : spot = none := by simpa [Addr.add] using World.cell?_spot (h 0 (by omega)).1
  subst hs
  have ad : ∀ r, (⟨b, o, none⟩ : Addr).add r = ⟨b, o + r, none⟩ := fun r => by unfold Addr.add; split <;> simp_all
  refine .inr ⟨b, o, rfl, ?_, fun i hi => ?_⟩
  · have := (h 0 (by omega)).1
    exact World.block_lt_of_cell? (a := (⟨b, o, none⟩ : Addr).add 0) w this
  · obtain ⟨h1, h2, h3, h4, h5, h6, h7⟩ := h i (by omega)
    refine ⟨A i, Ls i, C i, by rw [← ad]; exact h1, ?_⟩
    have e : ((List.range len).map fun r => (Z r).take (Ls r)).getD i [] = (Z i).take (Ls i) := by rw [List.getD_eq_getElem?_getD]; simp [hi]
    rw [e]
    apply Ints.of_row
    cases hA : A i with
    | none =>
      have := h6 hA
      have hz : Z i = [] := List.length_eq_zero_iff.1 (by omega)
      exact .inl ⟨rfl, by omega, this, hz⟩
    | some x => exact .inr ⟨x, rfl, h2, h3, h4, fun j hj => h7 x hA j (by omega), h5⟩
theorem szInts (a : Option Addr) (n cap : Nat) (xs : List Int) (left : Int) (w : World) (h : Ints w a n cap xs) (h0 : 0 ≤ left) (h1 : left ≤ 1048576) : Calls Try.prog 41 #[.slice a n cap, .int .i64 left] w fun e w' => e = .returned (.int .i64 (if left - (n : Int) < 0 then -1 else left - (n : Int))) ∧ w = w' := by
  obtain ⟨_, h2, h3, _⟩ := h
  unfold maxLen at h3
  by_cases hlt : left - (n : Int) < 0
  · rw [if_pos hlt]
    go_enter Try.func41, Try.ntmps41
    go_wp2
    go_ret
    exact ⟨rfl, rfl⟩
  · rw [if_neg hlt]
    go_enter Try.func41, Try.ntmps41
    go_wp2
    go_ret
    exact ⟨rfl, rfl⟩
theorem szTo_bd (L : List (List Int)) {left : Int} (h1 : left ≤ 1048576) (k : Nat) : szTo L left k ≤ 1048576 ∧ -1 ≤ szTo L left k := by
  induction k with
  | zero => rw [szTo_zero]; split <;> omega
  | succ k ih =>
    by_cases hk : k < L.length
    · rw [szTo_succ L left hk]; repeat' split
      all_goals omega
    · have e : szTo L left (k + 1) = szTo L left k := by rw [szTo, szTo, List.take_of_length_le (by omega), List.take_of_length_le (by omega)]
      rw [e]; exact ih
theorem szL_neg {L : List (List Int)} {left : Int} {k : Nat} (hk : k ≤ L.length) (h : szTo L left k < 0) : szL L left < 0 := by
  by_cases h' : szL L left < 0
  · exact h'
  · have h' : 0 ≤ szL L left := by omega
    rw [← szTo_all] at h'
    have := (szTo_cnt L left L.length (Nat.le_refl _) h').2 k hk
    omega
end Go.Proofs.Ytjbmgppgkgacpaa

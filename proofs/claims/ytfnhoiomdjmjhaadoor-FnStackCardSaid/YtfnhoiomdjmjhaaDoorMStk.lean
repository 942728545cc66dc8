/- Plain facts on a step of the machine: what FnStack says of it. -/
import Derived.Test.YtfnhoiomdjmjhaaDoorMCp
namespace Go.Proofs.YtfnhoiomdjmjhaaDoor
set_option maxRecDepth 20000
open Go.RowKit
namespace Tm
theorem why_range (L : List (Nat → Int)) (k : Int) (s : List Int) : 0 ≤ why L k s ∧ why L k s ≤ 4 := by
  unfold why
  split
  · omega
  · split
    · omega
    · split
      · omega
      · split <;> omega
theorem why_two (L : List (Nat → Int)) (k : Int) (s : List Int) : why L k s = 2 ↔ k = (L.length : Int) := by
  unfold why
  split
  · next h => exact ⟨fun _ => h, fun _ => rfl⟩
  · next h =>
    refine ⟨fun e => ?_, fun e => absurd e h⟩
    split at e
    · omega
    · split at e
      · omega
      · split at e <;> omega
/-- The step that bars nothing. -/
theorem why_nil0 {L : List (Nat → Int)} {k : Int} {s : List Int} (hy : why L k s = 0) : k ≠ (L.length : Int) ∧ (L.getD k.toNat g0) 0 ≠ 15 ∧ popsN ((L.getD k.toNat g0) 0) ≤ (s.length : Int) := by
  unfold why at hy
  by_cases h1 : k = (L.length : Int)
  · rw [if_pos h1] at hy; exact absurd hy (by decide)
  rw [if_neg h1] at hy
  by_cases h2 : (L.getD k.toNat g0) 0 = 15
  · rw [if_pos h2] at hy; exact absurd hy (by decide)
  rw [if_neg h2] at hy
  by_cases h3 : popsN ((L.getD k.toNat g0) 0) ≤ (s.length : Int) ∧ (s.length : Int) - popsN ((L.getD k.toNat g0) 0) + pushN ((L.getD k.toNat g0) 0) ≤ 20
  · exact ⟨h1, h2, h3.1⟩
  · rw [if_pos h3] at hy; exact absurd hy (by decide)
theorem step_stays {L : List (Nat → Int)} {k : Int} {s o : List Int} (hM : machOk L k s o = true) (hw : why L k s ≠ 0) : stK L k s o = k ∧ stS L k s o = s ∧ stO L k s o = o ∧ stE L k s o = why L k s := by
  unfold stK stS stO stE nxP nxS nxO
  rw [if_pos hM, if_pos hM, if_pos hM, if_pos hM, if_neg hw, if_neg hw, if_neg hw]
  exact ⟨rfl, rfl, rfl, rfl⟩
theorem step_valid {L : List (Nat → Int)} {k : Int} {s o : List Int} (hM : machOk L k s o = true) : machOk L (stK L k s o) (stS L k s o) (stO L k s o) = true := by
  unfold stK stS stO
  rw [if_pos hM, if_pos hM, if_pos hM]
  exact step_ok hM
theorem step_grow {L : List (Nat → Int)} {k : Int} {s o : List Int} (hM : machOk L k s o = true) (hw : why L k s = 0) {c : Int} (hc : c = (L.getD k.toNat g0) 0) :
    (1 ≤ c ∧ c ≤ 14) ∧ 0 ≤ k ∧ k < L.length ∧ ((c = 1 ∨ c = 7) ↔ ((stS L k s o).length : Int) - s.length = 1) ∧ (c = 12 ↔ ((stS L k s o).length : Int) - s.length = -2) ∧ (c ≠ 13 → c ≠ 14 → stK L k s o = k + 1) ∧ stE L k s o = 0 := by
  obtain ⟨h1, h2, h3⟩ := why_nil0 hw
  obtain ⟨hC, ⟨k0, k1⟩, hs20, ho27, hcs, hco⟩ := (machOk_iff L k s o).1 hM
  obtain ⟨⟨l1, l2⟩, hop⟩ := (codeOk_iff L).1 hC
  have hx := (opOk_iff _ _).1 (hop k.toNat (by omega))
  have hr := opS_room (L.getD k.toNat g0) s o h3
  rw [← hc] at h2 h3 hr hx
  unfold stK stS stE nxP nxS
  rw [if_pos hM, if_pos hM, if_pos hM, if_pos hw, if_pos hw, hw]
  refine ⟨⟨by omega, by omega⟩, k0, by omega, ?_, ?_, ?_, rfl⟩
  · have := hr; unfold popsN pushN at this; split at this <;> split at this <;> (try split at this) <;> (try split at this) <;> omega
  · have := hr; unfold popsN pushN at this; split at this <;> split at this <;> (try split at this) <;> (try split at this) <;> omega
  · intro a b
    unfold opP
    rw [← hc, if_neg a, if_neg b]
end Tm
end Go.Proofs.YtfnhoiomdjmjhaaDoor

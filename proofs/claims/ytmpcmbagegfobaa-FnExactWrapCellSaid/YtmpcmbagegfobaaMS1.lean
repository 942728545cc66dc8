/- The model's machine: numbers, names, programs and machines that are valid. -/
import Derived.Test.YtmpcmbagegfobaaMRow
import Derived.Test.YtmpcmbagegfobaaMMath
import Derived.Test.YtmpcmbagegfobaaWS
namespace Go.Proofs.Ytmpcmbagegfobaa
set_option maxRecDepth 20000
open Go.RowKit
theorem sWrapCell (n : Int) (w : World) : Calls Try.prog 5 #[.int .i64 n] w fun e w' => e = .returned (.int .i64 (Tm.wrapC n)) ∧ w = w' := by
  have b := Tm.tmod_cell n
  obtain ⟨r, hr⟩ : ∃ r, r = n.tmod 19683 := ⟨_, rfl⟩
  have hr' : n.tmod 19683 = r := hr.symm
  obtain ⟨b1, b2⟩ := b
  rw [hr'] at b1 b2
  by_cases c1 : 9841 < r
  · have E : Tm.wrapC n = r - 19683 := by unfold Tm.wrapC; rw [hr', if_pos c1]
    rw [E]
    clear hr E
    go_enter Try.func5, Try.ntmps5
    go_wp2
    go_ret
    exact ⟨rfl, rfl⟩
  · by_cases c2 : r < -9841
    · have E : Tm.wrapC n = r + 19683 := by unfold Tm.wrapC; rw [hr', if_neg c1, if_pos c2]
      rw [E]
      clear hr E
      go_enter Try.func5, Try.ntmps5
      go_wp2
      go_ret
      exact ⟨rfl, rfl⟩
    · have E : Tm.wrapC n = r := by unfold Tm.wrapC; rw [hr', if_neg c1, if_neg c2]
      rw [E]
      clear hr E
      go_enter Try.func5, Try.ntmps5
      go_wp2
      go_ret
      exact ⟨rfl, rfl⟩
end Go.Proofs.Ytmpcmbagegfobaa

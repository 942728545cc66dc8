/- The program's machine: wrapped numbers. -/
import Derived.Test.YtcphnfhpidhnmaaDoorMMath
import Derived.Test.YtcphnfhpidhnmaaDoorWI
import Derived.Test.YtcphnfhpidhnmaaDoorMS1
namespace Go.Proofs.YtcphnfhpidhnmaaDoor
set_option maxRecDepth 20000
open Go.RowKit
theorem iPow9 (w : World) : Calls Tryd.prog 15 #[.int .i64 9] w fun e w' => e = .returned (.int .i64 19683) ∧ w = w' := by
  have L : Hid (∀ w : World, Calls Tryd.prog 28 #[.int .i64 9] w fun e w' => e = .returned (.int .i64 9841) ∧ w = w') := Lib.hid fun w => by
    have h := iLimitOf 9 w
    rw [show Tm.lim 9 = 9841 from by decide] at h
    exact h
  go_enter Tryd.func15, Tryd.ntmps15
  go_wp2_with fail
  refine (L.out _).mono ?_
  rintro e w' ⟨rfl, rfl⟩
  go_wp2
  go_ret
  exact ⟨rfl, rfl⟩
theorem iDivideCell (n : Int) (w : World) : Calls Tryd.prog 14 #[.int .i64 n, .int .i64 19683] w fun e w' => ∃ q, e = .returned (.tuple #[.int .i64 q, .int .i64 (Tm.wrapC n)]) ∧ w = w' := by
  have b := Tm.tmod_cell n
  obtain ⟨r, hr⟩ : ∃ r, r = n.tmod 19683 := ⟨_, rfl⟩
  have hr' : n.tmod 19683 = r := hr.symm
  obtain ⟨b1, b2⟩ := b
  rw [hr'] at b1 b2
  by_cases c1 : 9841 < r
  · have E : Tm.wrapC n = r - 19683 := by unfold Tm.wrapC; rw [hr', if_pos c1]
    rw [E]
    have c1' : 19683 < 2 * r := by omega
    clear hr E
    go_enter Tryd.func14, Tryd.ntmps14
    go_wp2
    go_ret2
    first | exact ⟨_, rfl, rfl⟩ | exact ⟨⟨_, rfl⟩, rfl⟩
  · by_cases c2 : r < -9841
    · have E : Tm.wrapC n = r + 19683 := by unfold Tm.wrapC; rw [hr', if_neg c1, if_pos c2]
      rw [E]
      have c1' : ¬ 19683 < 2 * r := by omega
      have c2' : 2 * r ≤ -19683 := by omega
      clear hr E
      go_enter Tryd.func14, Tryd.ntmps14
      go_wp2
      go_ret2
      first | exact ⟨_, rfl, rfl⟩ | exact ⟨⟨_, rfl⟩, rfl⟩
    · have E : Tm.wrapC n = r := by unfold Tm.wrapC; rw [hr', if_neg c1, if_neg c2]
      rw [E]
      have c1' : ¬ 19683 < 2 * r := by omega
      have c2' : ¬ 2 * r ≤ -19683 := by omega
      clear hr E
      go_enter Tryd.func14, Tryd.ntmps14
      go_wp2
      go_ret2
      first | exact ⟨_, rfl, rfl⟩ | exact ⟨⟨_, rfl⟩, rfl⟩
theorem iWrapCell (n : Int) (w : World) : Calls Tryd.prog 5 #[.int .i64 n] w fun e w' => e = .returned (.int .i64 (Tm.wrapC n)) ∧ w = w' := by
  have D := Lib.hid (fun w => iDivideCell n w)
  go_enter Tryd.func5, Tryd.ntmps5
  go_wp2_with (go_at_call 15; refine (iPow9 _).mono ?_; rintro e w1 ⟨rfl, rfl⟩)
  all_goals first
    | (refine (D.out _).mono ?_; rintro e w' ⟨q, rfl, rfl⟩; go_wp2; go_ret; exact ⟨rfl, rfl⟩)
    | (go_ret; exact ⟨rfl, rfl⟩)
end Go.Proofs.YtcphnfhpidhnmaaDoor

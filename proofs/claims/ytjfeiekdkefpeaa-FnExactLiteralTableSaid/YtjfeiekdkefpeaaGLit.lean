/- Tables of literals, both; the walk of their law. -/
import Derived.Test.YtjfeiekdkefpeaaTab3
namespace Go.Proofs.Ytjfeiekdkefpeaa
set_option maxRecDepth 20000
open Go.RowKit
namespace Tm
def lit (x : Int) : Nat → Int := fill fun a _ => if isT x then (if a = x then 1 else -1) else 0
end Tm
set_option maxHeartbeats 4000000 in
theorem iLiteralTable (x : Int) (w : World) : Calls Try.prog 34 #[.int .i64 x] w fun e w' => e = .returned (tabV (Tm.lit x)) ∧ Below w.heap.size w w' := by
  by_cases hx : Tm.isT x = true
  · have hmf : ∀ (fn : Fn) (first cap : Array Value) (w : World), (Instr.makeFunc fn first cap).run Try.prog w = .ok (.func fn first cap) w := fun _ _ _ _ => rfl
    have IT := Lib.hid (fun w => iIsTrit x w)
    rw [hx] at IT
    rcases Tm.isT_cases hx with rfl | rfl | rfl
    all_goals
      clear hx
      go_enter Try.func34, Try.ntmps34
      go_wp2_with (first | (go_at_call 75; refine (IT.out _).mono ?_; rintro e w1 ⟨rfl, rfl⟩) | (go_at_call 76; go_in))
      repeat any_goals (first | (refine wp_loop_rounds 4 ?_; rw [rounds_succ]; go_wp2_with (first | (go_at_call 102; go_in) | (go_at_call 77; go_in))) | (rw [rounds_succ]; go_wp2_with (first | (go_at_call 102; go_in) | (go_at_call 77; go_in))))
      go_returns
      exact ⟨rfl, by (repeat' (first | (with_reducible exact Below.refl _ _) | (with_reducible assumption) | (with_reducible refine below_drewN ?_ _) | (with_reducible refine Below.drew ?_) | (with_reducible refine Below.alloc ?_ ?_ _) | (with_reducible refine Below.setCell ?_ ?_ _) | (with_reducible refine below_gw ?_ ?_ _) | (with_reducible refine below_via ?_ ‹Below _ _ _› ?_) | (with_reducible exact Nat.le_refl _) | (with_reducible refine le_gw ?_ _) | (with_reducible refine le_alloc ?_ _) | (with_reducible refine le_setCell ?_ _ _) | (with_reducible refine le_drew ?_) | (with_reducible refine le_drewN ?_ _) | go_size))⟩
  · simp only [Bool.not_eq_true] at hx
    have IT := Lib.hid (fun w => iIsTrit x w)
    rw [hx] at IT
    have E : tabV (Tm.lit x) = .agg #[.int .i64 0, .int .i64 0, .int .i64 0, .int .i64 0, .int .i64 0, .int .i64 0, .int .i64 0, .int .i64 0, .int .i64 0] := by simp [tabV, Tm.lit, Tm.fill, hx]
    rw [E]
    clear hx E
    go_enter Try.func34, Try.ntmps34
    go_wp2_with (go_at_call 75; refine (IT.out _).mono ?_; rintro e w1 ⟨rfl, rfl⟩)
    go_returns
    exact ⟨rfl, by (repeat' (first | (with_reducible exact Below.refl _ _) | (with_reducible assumption) | (with_reducible refine below_drewN ?_ _) | (with_reducible refine Below.drew ?_) | (with_reducible refine Below.alloc ?_ ?_ _) | (with_reducible refine Below.setCell ?_ ?_ _) | (with_reducible refine below_gw ?_ ?_ _) | (with_reducible refine below_via ?_ ‹Below _ _ _› ?_) | (with_reducible exact Nat.le_refl _) | (with_reducible refine le_gw ?_ _) | (with_reducible refine le_alloc ?_ _) | (with_reducible refine le_setCell ?_ _ _) | (with_reducible refine le_drew ?_) | (with_reducible refine le_drewN ?_ _) | go_size))⟩
set_option maxHeartbeats 4000000 in
theorem sLiteralTable (x : Int) (w : World) : Calls Try.prog 33 #[.int .i64 x] w fun e w' => e = .returned (tabV (Tm.lit x)) ∧ Below w.heap.size w w' := by
  by_cases hx : Tm.isT x = true
  · have IT := Lib.hid (fun w => sIsTrit x w)
    rw [hx] at IT
    rcases Tm.isT_cases hx with rfl | rfl | rfl
    all_goals
      clear hx
      go_enter Try.func33, Try.ntmps33
      go_wp2_with (go_at_call 66; refine (IT.out _).mono ?_; rintro e w1 ⟨rfl, rfl⟩)
      refine wp_loop_rounds 10 ?_
      repeat any_goals (rw [rounds_succ]; go_wp2)
      go_returns
      exact ⟨rfl, by (repeat' (first | (with_reducible exact Below.refl _ _) | (with_reducible assumption) | (with_reducible refine below_drewN ?_ _) | (with_reducible refine Below.drew ?_) | (with_reducible refine Below.alloc ?_ ?_ _) | (with_reducible refine Below.setCell ?_ ?_ _) | (with_reducible refine below_gw ?_ ?_ _) | (with_reducible refine below_via ?_ ‹Below _ _ _› ?_) | (with_reducible exact Nat.le_refl _) | (with_reducible refine le_gw ?_ _) | (with_reducible refine le_alloc ?_ _) | (with_reducible refine le_setCell ?_ _ _) | (with_reducible refine le_drew ?_) | (with_reducible refine le_drewN ?_ _) | go_size))⟩
  · simp only [Bool.not_eq_true] at hx
    have IT := Lib.hid (fun w => sIsTrit x w)
    rw [hx] at IT
    have E : tabV (Tm.lit x) = .agg #[.int .i64 0, .int .i64 0, .int .i64 0, .int .i64 0, .int .i64 0, .int .i64 0, .int .i64 0, .int .i64 0, .int .i64 0] := by simp [tabV, Tm.lit, Tm.fill, hx]
    rw [E]
    clear hx E
    go_enter Try.func33, Try.ntmps33
    go_wp2_with (go_at_call 66; refine (IT.out _).mono ?_; rintro e w1 ⟨rfl, rfl⟩)
    go_returns
    exact ⟨rfl, by (repeat' (first | (with_reducible exact Below.refl _ _) | (with_reducible assumption) | (with_reducible refine below_drewN ?_ _) | (with_reducible refine Below.drew ?_) | (with_reducible refine Below.alloc ?_ ?_ _) | (with_reducible refine Below.setCell ?_ ?_ _) | (with_reducible refine below_gw ?_ ?_ _) | (with_reducible refine below_via ?_ ‹Below _ _ _› ?_) | (with_reducible exact Nat.le_refl _) | (with_reducible refine le_gw ?_ _) | (with_reducible refine le_alloc ?_ _) | (with_reducible refine le_setCell ?_ _ _) | (with_reducible refine le_drew ?_) | (with_reducible refine le_drewN ?_ _) | go_size))⟩
theorem wFnExactLiteralTable (a0 : Int) (w : World) (_w0 : (Lit.int .i64 a0).wf = true) : Calls Try.prog 7 #[.int .i64 a0] w fun e w' => e = .returned (.bool true) ∧ Below w.heap.size w w' := by
  go_enter Try.func7, Try.ntmps7
  go_wp2_with (first | (go_at_call 33; refine (sLiteralTable _ _).mono ?_; rintro e w1 ⟨rfl, hb⟩; obtain ⟨p, rfl⟩ := gw_of_below hb; clear hb) | (go_at_call 34; refine (iLiteralTable _ _).mono ?_; rintro e w1 ⟨rfl, hb⟩; obtain ⟨p, rfl⟩ := gw_of_below hb; clear hb) | (go_at_call 35; refine (eqTable_same (Tm.lit a0) _).mono ?_; rintro e w1 ⟨rfl, hb⟩; obtain ⟨p, rfl⟩ := gw_of_below hb; clear hb))
  all_goals (go_ret; exact ⟨rfl, by (repeat' (first | (with_reducible exact Below.refl _ _) | (with_reducible assumption) | (with_reducible refine below_drewN ?_ _) | (with_reducible refine Below.drew ?_) | (with_reducible refine Below.alloc ?_ ?_ _) | (with_reducible refine Below.setCell ?_ ?_ _) | (with_reducible refine below_gw ?_ ?_ _) | (with_reducible refine below_via ?_ ‹Below _ _ _› ?_) | (with_reducible exact Nat.le_refl _) | (with_reducible refine le_gw ?_ _) | (with_reducible refine le_alloc ?_ _) | (with_reducible refine le_setCell ?_ _ _) | (with_reducible refine le_drew ?_) | (with_reducible refine le_drewN ?_ _) | go_size))⟩)
end Go.Proofs.Ytjfeiekdkefpeaa

/- Contracts of the functions of tables, on: the model's named tables. -/
import Derived.Test.YtgaenbpbfhpioaaTab3
namespace Go.Proofs.Ytgaenbpbfhpioaa
open Go.RowKit
def SVal (l : List UInt8) (a b : Int) (w : World) (e : Ending) (w' : World) : Prop := ∃ ok : Bool, e = .returned (.tuple #[.int .i64 (Tm.named l a b), .bool ok]) ∧ w = w'
theorem sValue (s : ByteArray) (a b : Int) (w : World) (ha : Tm.isT a = true) (hb : Tm.isT b = true) : Calls Try.prog 98 #[.string s, .int .i64 a, .int .i64 b] w (SVal s.toList a b w) := by
  have ha' := (Tm.isT_iff _).1 ha
  have hb' := (Tm.isT_iff _).1 hb
  obtain ⟨a1, a2⟩ := ha'
  obtain ⟨b1, b2⟩ := hb'
  have ht := Tm.times_tt a b a1 a2 b1 b2
  obtain ⟨t1, t2⟩ := ht
  have HA := Lib.hid ha
  have HB := Lib.hid hb
  clear ha hb
  go_enter Try.func98, Try.ntmps98
  go_wp2_with (first | (go_at_call 102; refine (sHalfAdd _ _ _).mono ?_; rintro e w1 ⟨rfl, rfl⟩) | (go_at_call 103; refine (sAgreeTrits _ _ _).mono ?_; rintro e w1 ⟨rfl, rfl⟩) | (go_at_call 104; refine (sAnyTrits _ _ _).mono ?_; rintro e w1 ⟨rfl, rfl⟩))
  all_goals
    have ha := HA.out
    have hb := HB.out
    go_ret2
    exact ⟨_, ret_ib (by first | (simp [Tm.named, Tm.mn, Tm.mx, Tm.times, *]; done) | (simp [Tm.named, Tm.mn, Tm.mx, *]; omega)), rfl⟩
set_option maxHeartbeats 4000000 in
theorem sTableOf (s : ByteArray) (w : World) : Calls Try.prog 75 #[.string s] w fun e w' => e = .returned (tabV (Tm.tabOf s.toList)) ∧ Below w.heap.size w w' := by
  go_enter Try.func75, Try.ntmps75
  go_wp2_with fail
  repeat any_goals (first | (refine wp_loop_rounds 4 ?_; rw [rounds_succ]; go_wp2_with (go_at_call 98; refine (sValue _ _ _ _ (by decide) (by decide)).mono ?_; rintro e w1 ⟨ok, rfl, rfl⟩)) | (rw [rounds_succ]; go_wp2_with (go_at_call 98; refine (sValue _ _ _ _ (by decide) (by decide)).mono ?_; rintro e w1 ⟨ok, rfl, rfl⟩)))
  go_returns
  exact ⟨ret_tab (Tm.tabOf _) rfl rfl rfl rfl rfl rfl rfl rfl rfl, by (repeat' (first | (with_reducible exact Below.refl _ _) | (with_reducible assumption) | (with_reducible refine below_drewN ?_ _) | (with_reducible refine Below.drew ?_) | (with_reducible refine Below.alloc ?_ ?_ _) | (with_reducible refine Below.setCell ?_ ?_ _) | (with_reducible refine below_gw ?_ ?_ _) | (with_reducible refine below_via ?_ ‹Below _ _ _› ?_) | (with_reducible exact Nat.le_refl _) | (with_reducible refine le_gw ?_ _) | (with_reducible refine le_alloc ?_ _) | (with_reducible refine le_setCell ?_ _ _) | (with_reducible refine le_drew ?_) | (with_reducible refine le_drewN ?_ _) | go_size))⟩
end Go.Proofs.Ytgaenbpbfhpioaa

/- Contracts of the functions of tables, on: swapped and dual tables. -/
import Derived.Test.YtgaenbpbfhpioaaTab2
namespace Go.Proofs.Ytgaenbpbfhpioaa
open Go.RowKit
namespace Tm
def fill (g : Int → Int → Int) : Nat → Int
  | 0 => g (-1) (-1) | 1 => g (-1) 0 | 2 => g (-1) 1
  | 3 => g 0 (-1) | 4 => g 0 0 | 5 => g 0 1
  | 6 => g 1 (-1) | 7 => g 1 0 | 8 => g 1 1 | _ => 0
def swap (f : Nat → Int) : Nat → Int := fill fun a b => look f b a
def dual (f : Nat → Int) : Nat → Int := fill fun a b => neg (look f (-a) (-b))
end Tm
namespace Tm
def named (l : List UInt8) (a b : Int) : Int :=
  if l == [109, 105, 110] then mn a b else if l == [109, 97, 120] then mx a b else if l == [97, 103, 114, 101, 101] then agree a b else if l == [97, 110, 121] then anyT a b
  else if l == [116, 105, 109, 101, 115] then times a b else if l == [115, 117, 109] then half1 a b else if l == [99, 97, 114, 114, 121] then half2 a b else 0
def tabOf (l : List UInt8) : Nat → Int := fill (named l)
end Tm
theorem ret_tab (f : Nat → Int) {x0 x1 x2 x3 x4 x5 x6 x7 x8 : Int} (h0 : x0 = f 0) (h1 : x1 = f 1) (h2 : x2 = f 2) (h3 : x3 = f 3) (h4 : x4 = f 4) (h5 : x5 = f 5) (h6 : x6 = f 6) (h7 : x7 = f 7) (h8 : x8 = f 8) :
    Ending.returned (.agg #[.int .i64 x0, .int .i64 x1, .int .i64 x2, .int .i64 x3, .int .i64 x4, .int .i64 x5, .int .i64 x6, .int .i64 x7, .int .i64 x8]) = .returned (tabV f) := by
  rw [h0, h1, h2, h3, h4, h5, h6, h7, h8]
set_option maxHeartbeats 4000000 in
theorem iSwapTable (f : Nat → Int) (w : World) : Calls Try.prog 30 #[tabV f] w fun e w' => e = .returned (tabV (Tm.swap f)) ∧ Below w.heap.size w w' := by
  have hmf : ∀ (fn : Fn) (first cap : Array Value) (w : World), (Instr.makeFunc fn first cap).run Try.prog w = .ok (.func fn first cap) w := fun _ _ _ _ => rfl
  go_enter Try.func30, Try.ntmps30
  go_wp2_with (first | (go_at_call 78; go_in))
  repeat any_goals (first | (refine wp_loop_rounds 4 ?_; rw [rounds_succ]; go_wp2_with (first | (go_at_call 83; go_in) | (go_at_call 79; go_in) | (go_at_call 34; refine (iLookUp f _ _ _).mono ?_; rintro e w1 ⟨rfl, hb⟩; obtain ⟨p, rfl⟩ := gw_of_below hb; clear hb))) | (rw [rounds_succ]; go_wp2_with (first | (go_at_call 83; go_in) | (go_at_call 79; go_in) | (go_at_call 34; refine (iLookUp f _ _ _).mono ?_; rintro e w1 ⟨rfl, hb⟩; obtain ⟨p, rfl⟩ := gw_of_below hb; clear hb))))
  go_returns
  exact ⟨ret_tab (Tm.swap f) rfl rfl rfl rfl rfl rfl rfl rfl rfl, by (repeat' (first | (with_reducible exact Below.refl _ _) | (with_reducible assumption) | (with_reducible refine below_drewN ?_ _) | (with_reducible refine Below.drew ?_) | (with_reducible refine Below.alloc ?_ ?_ _) | (with_reducible refine Below.setCell ?_ ?_ _) | (with_reducible refine below_gw ?_ ?_ _) | (with_reducible refine below_via ?_ ‹Below _ _ _› ?_) | (with_reducible exact Nat.le_refl _) | (with_reducible refine le_gw ?_ _) | (with_reducible refine le_alloc ?_ _) | (with_reducible refine le_setCell ?_ _ _) | (with_reducible refine le_drew ?_) | (with_reducible refine le_drewN ?_ _) | go_size))⟩
end Go.Proofs.Ytgaenbpbfhpioaa

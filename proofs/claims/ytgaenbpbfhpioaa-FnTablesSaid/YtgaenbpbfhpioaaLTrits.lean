/- The walk of the law on trits. -/
import Derived.Test.YtgaenbpbfhpioaaLaw
import Derived.Test.YtgaenbpbfhpioaaTr
namespace Go.Proofs.Ytgaenbpbfhpioaa
open Go.RowKit
namespace Tm
theorem trit1 {a : Int} (h : isT a = true) : (neg (neg a) != a) = false ∧ (turn (turn (turn a)) != a) = false ∧ (turn a == a) = false := by
  rcases isT_cases h with rfl | rfl | rfl <;> decide
theorem trit2 {a b : Int} (h : isT a = true) (h' : isT b = true) : ((neg (mn a b) != mx (neg a) (neg b)) = false ∧ (half1 a b + 3 * half2 a b != a + b) = false ∧ (agree a b != neg (agree (-a) (-b))) = false ∧ (anyT a b != sgn (a + b)) = false ∧ (times a b != a * b) = false) ∧
    (-1 ≤ half1 a b ∧ half1 a b ≤ 1 ∧ -1 ≤ half2 a b ∧ half2 a b ≤ 1 ∧ -1 ≤ a * b ∧ a * b ≤ 1) := by
  rcases isT_cases h with rfl | rfl | rfl <;> rcases isT_cases h' with rfl | rfl | rfl <;> decide
theorem trit3 {a b c : Int} (h : isT a = true) (h' : isT b = true) (h2 : isT c = true) : ((full1 a b c + 3 * full2 a b c != a + b + c) = false ∧ isT (full1 a b c) = true ∧ isT (full2 a b c) = true ∧ (full1 c a b != full1 a b c) = false ∧ (full2 c a b != full2 a b c) = false ∧ (mn a (mx b c) != mx (mn a b) (mn a c)) = false) ∧
    (-1 ≤ full1 a b c ∧ full1 a b c ≤ 1 ∧ -1 ≤ full2 a b c ∧ full2 a b c ≤ 1) := by
  rcases isT_cases h with rfl | rfl | rfl <;> rcases isT_cases h' with rfl | rfl | rfl <;> rcases isT_cases h2 with rfl | rfl | rfl <;> decide
theorem tri_at {k : Nat} (h : k < 3) : isT (([-1, 0, 1] : List Int).getD k 0) = true := by
  match k, h with
  | 0, _ | 1, _ | 2, _ => rfl
end Tm
def TritsR (w : World) (e : Ending) (w' : World) : Prop := ∃ (a : Option Addr) (c : Nat), e = .returned (.slice a 3 c) ∧ Ints w' a 3 c [-1, 0, 1] ∧ Below w.heap.size w w'
theorem trits_any (w : World) : Calls Try.prog 15 #[] w (TritsR w) := by
  go_enter Try.func15, Try.ntmps15
  go_wp2
  go_ret
  exact ⟨_, _, rfl, Ints.of_own (B := w.heap.size) (e := 3) (xs := [-1, 0, 1]) (World.ownsRow_lit w #[.int .i64 (-1), .int .i64 0, .int .i64 1] 3 (Nat.le_refl _) (by unfold maxLen; omega) rfl), by (repeat' (first | (with_reducible exact Below.refl _ _) | (with_reducible assumption) | (with_reducible refine below_drewN ?_ _) | (with_reducible refine Below.drew ?_) | (with_reducible refine Below.alloc ?_ ?_ _) | (with_reducible refine Below.setCell ?_ ?_ _) | (with_reducible refine below_gw ?_ ?_ _) | (with_reducible refine below_via ?_ ‹Below _ _ _› ?_) | (with_reducible exact Nat.le_refl _) | (with_reducible refine le_gw ?_ _) | (with_reducible refine le_alloc ?_ _) | (with_reducible refine le_setCell ?_ _ _) | (with_reducible refine le_drew ?_) | (with_reducible refine le_drewN ?_ _) | go_size))⟩
/-- What a loop over the trits knows. -/
theorem tri_step {w : World} {a : Option Addr} {c k : Nat} (h : Ints w a 3 c [-1, 0, 1]) (hk : k < 3) : ∃ b o x, a = some ⟨b, o, none⟩ ∧ w.cell? ⟨b, o + k, none⟩ = some (.int .i64 x) ∧ Tm.isT x = true ∧ -1 ≤ x ∧ x ≤ 1 := by
  rcases h.2.2.2 with e | ⟨b, o, e, _, hc⟩
  · omega
  · have := Tm.tri_at hk
    exact ⟨b, o, _, e, hc k hk, this, (Tm.isT_iff _).1 this⟩
set_option maxHeartbeats 8000000 in
set_option maxRecDepth 20000 in
theorem wFnTrits (a0 : Option Addr) (len0 cap0 : Nat) (z0 : List Int) (w : World) (w0 : IsRow .u8 w a0 len0 cap0 z0) : Calls Try.prog 3 #[.slice a0 len0 cap0] w fun e w' => e = .returned (.bool true) ∧ Below w.heap.size w w' := by
  have BY := Lib.hid (Byts.of_row w0)
  have m0 : len0 ≤ 9223372036854775807 := by obtain ⟨h1, h2, _⟩ := BY.out; unfold maxLen at h2; omega
  clear w0
  by_cases g0 : len0 ≤ 1048576
  · go_enter Try.func3, Try.ntmps3
    go_wp2_with fail
    refine (trits_any _).mono ?_
    rintro e w1 ⟨a1, c1, rfl, hi, hb⟩
    have I1 := Lib.hid hi
    have B1 := Lib.hid hb
    clear hi hb
    go_wp2
    go_loopw [20] (fun i wr => ∃ k : Nat, k ≤ 3 ∧ i = .int .i64 k ∧ Hid (Ints wr a1 3 c1 [-1, 0, 1]) ∧ Hid (Below w.heap.size w wr)) (fun i _ => 3 - (intOf i).toNat)
    case atStart => exact ⟨0, by omega, rfl, I1, B1⟩
    case round =>
      obtain ⟨k, hk, rfl, J1, BB⟩ := hrel
      by_cases hlt : k < 3
      · obtain ⟨b, o, a, rfl, ca, ta, a_0, a_1⟩ := tri_step J1.out hlt
        obtain ⟨f1, f2, f3⟩ := Tm.trit1 ta
        have TA := Lib.hid ta
        clear ta
        go_wp2_with (first | (go_at_call 16; refine (iNotTrit _ _).mono ?_; rintro e w1 ⟨rfl, rfl⟩) | (go_at_call 17; refine (iTurnTrit _ _).mono ?_; rintro e w1 ⟨rfl, rfl⟩) | (go_at_call 15; refine (trits_any _).mono ?_; rintro e w2 ⟨a2, c2, rfl, hi, hb⟩))
        have I2 := Lib.hid hi
        have K1 := Lib.hid (J1.out.below hb)
        have B2 := Lib.hid (BB.out.trans (hb.mono BB.out.size))
        clear hi hb f1 f2 f3 ca
        go_loopw [45] (fun i wr => ∃ k : Nat, k ≤ 3 ∧ i = .int .i64 k ∧ Hid (Ints wr a2 3 c2 [-1, 0, 1]) ∧ Hid (Ints wr (some ⟨b, o, none⟩) 3 c1 [-1, 0, 1]) ∧ Hid (Below w.heap.size w wr)) (fun i _ => 3 - (intOf i).toNat)
        case atStart => exact ⟨0, by omega, rfl, I2, K1, B2⟩
        case round =>
          obtain ⟨k2, hk2, rfl, J2, K1, BB⟩ := hrel
          by_cases hlt2 : k2 < 3
          · obtain ⟨b2, o2, bb, rfl, cb, tb, b_0, b_1⟩ := tri_step J2.out hlt2
            obtain ⟨⟨f1, f2, f3, f4, f5⟩, ⟨h1, h2, h3, h4, h5, h6⟩⟩ := Tm.trit2 TA.out tb
            have TB := Lib.hid tb
            clear tb
            go_wp2_with (first | (go_at_call 16; refine (iNotTrit _ _).mono ?_; rintro e w1 ⟨rfl, rfl⟩) | (go_at_call 18; refine (iHalfAdd _ _ _).mono ?_; rintro e w1 ⟨rfl, rfl⟩) | (go_at_call 19; refine (iMinTrits _ _ _).mono ?_; rintro e w1 ⟨rfl, rfl⟩) | (go_at_call 20; refine (iMaxTrits _ _ _).mono ?_; rintro e w1 ⟨rfl, rfl⟩) | (go_at_call 21; refine (iAgreeTrits _ _ _).mono ?_; rintro e w1 ⟨rfl, rfl⟩) | (go_at_call 22; refine (iAnyTrits _ _ _).mono ?_; rintro e w1 ⟨rfl, rfl⟩) | (go_at_call 24; refine (iTimesTrits _ _ _).mono ?_; rintro e w1 ⟨rfl, rfl⟩) | (go_at_call 23; refine (iSignOf _ _).mono ?_; rintro e w1 ⟨rfl, rfl⟩) | (go_at_call 15; refine (trits_any _).mono ?_; rintro e w3 ⟨a3, c3, rfl, hi, hb⟩))
            have I3 := Lib.hid hi
            have L1 := Lib.hid (K1.out.below hb)
            have L2 := Lib.hid (J2.out.below hb)
            have B3 := Lib.hid (BB.out.trans (hb.mono BB.out.size))
            clear hi hb f1 f2 f3 f4 f5 h1 h2 h3 h4 h5 h6 cb
            go_loopw [108] (fun i wr => ∃ k : Nat, k ≤ 3 ∧ i = .int .i64 k ∧ Hid (Ints wr a3 3 c3 [-1, 0, 1]) ∧ Hid (Ints wr (some ⟨b2, o2, none⟩) 3 c2 [-1, 0, 1]) ∧ Hid (Ints wr (some ⟨b, o, none⟩) 3 c1 [-1, 0, 1]) ∧ Hid (Below w.heap.size w wr)) (fun i _ => 3 - (intOf i).toNat)
            case atStart => exact ⟨0, by omega, rfl, I3, L2, L1, B3⟩
            case round =>
              obtain ⟨k3, hk3, rfl, J3, L2, L1, BB⟩ := hrel
              by_cases hlt3 : k3 < 3
              · obtain ⟨b3, o3, cc, rfl, c_c, tc, c_0, c_1⟩ := tri_step J3.out hlt3
                obtain ⟨⟨f1, f2, f3, f4, f5, f6⟩, ⟨h1, h2, h3, h4⟩⟩ := Tm.trit3 TA.out TB.out tc
                clear tc
                go_wp2_with (first | (go_at_call 25; refine (iFullAdd _ _ _ _).mono ?_; rintro e w1 ⟨rfl, rfl⟩) | (go_at_call 26; refine (iIsTrit _ _).mono ?_; rintro e w1 ⟨rfl, rfl⟩) | (go_at_call 19; refine (iMinTrits _ _ _).mono ?_; rintro e w1 ⟨rfl, rfl⟩) | (go_at_call 20; refine (iMaxTrits _ _ _).mono ?_; rintro e w1 ⟨rfl, rfl⟩))
                exact ⟨⟨k3 + 1, by omega, by go_num, J3, L2, L1, BB⟩, by simp [intOf]; omega⟩
              · obtain rfl : k3 = 3 := by omega
                go_wp2
                exact ⟨⟨k2 + 1, by omega, by go_num, L2, L1, BB⟩, by simp [intOf]; omega⟩
          · obtain rfl : k2 = 3 := by omega
            go_wp2
            exact ⟨⟨k + 1, by omega, by go_num, K1, BB⟩, by simp [intOf]; omega⟩
      · obtain rfl : k = 3 := by omega
        go_wp2
        go_ret
        exact ⟨rfl, BB.out⟩
  · go_enter Try.func3, Try.ntmps3
    go_wp2
    go_ret
    exact ⟨rfl, Below.refl _ _⟩
end Go.Proofs.Ytgaenbpbfhpioaa

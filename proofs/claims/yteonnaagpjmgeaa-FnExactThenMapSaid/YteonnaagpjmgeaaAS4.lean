/- The model's carry maps. -/
import Derived.Test.YteonnaagpjmgeaaAMath2
import Derived.Test.YteonnaagpjmgeaaTr
namespace Go.Proofs.Yteonnaagpjmgeaa
open Go.RowKit
theorem sMapOf (a b : Int) (w : World) : Calls Try.prog 39 #[.int .i64 a, .int .i64 b] w fun e w' => e = .returned (mapV (Tm.mp a b)) ∧ Below w.heap.size w w' := by
  go_enter Try.func39, Try.ntmps39
  go_wp2
  refine wp_loop_rounds 4 ?_; repeat any_goals (rw [rounds_succ]; go_wp2_with ((go_at_call 71; refine (sFullAdd _ _ _ _).mono ?_; rintro e w1 ⟨rfl, rfl⟩)))
  go_returns
  exact ⟨rfl, by (repeat' (first | (with_reducible exact Below.refl _ _) | (with_reducible assumption) | (with_reducible refine below_drewN ?_ _) | (with_reducible refine Below.drew ?_) | (with_reducible refine Below.alloc ?_ ?_ _) | (with_reducible refine Below.setCell ?_ ?_ _) | (with_reducible refine below_gw ?_ ?_ _) | (with_reducible refine below_via ?_ ‹Below _ _ _› ?_) | (with_reducible exact Nat.le_refl _) | (with_reducible refine le_gw ?_ _) | (with_reducible refine le_alloc ?_ _) | (with_reducible refine le_setCell ?_ _ _) | (with_reducible refine le_drew ?_) | (with_reducible refine le_drewN ?_ _) | go_size))⟩
set_option maxHeartbeats 8000000 in
theorem sThenMap (f g : Nat → Int) (w : World) : Calls Try.prog 42 #[mapV f, mapV g] w fun e w' => e = .returned (mapV (Tm.thn f g)) ∧ Below w.heap.size w w' := by
  by_cases hf : (Tm.t3 f && Tm.t3 g) = true
  · have e : ∀ i, Tm.thn f g i = g (f i + 1).toNat := fun i => by rw [Tm.thn, hf]; rfl
    simp only [mapV, e]
    rw [Bool.and_eq_true, Tm.t3, Tm.t3, Bool.and_eq_true, Bool.and_eq_true, Bool.and_eq_true, Bool.and_eq_true] at hf
    obtain ⟨⟨⟨f0, f1⟩, f2⟩, ⟨g0, g1⟩, g2⟩ := hf
    obtain ⟨x0, hx0⟩ : ∃ x, x = f 0 := ⟨_, rfl⟩
    obtain ⟨x1, hx1⟩ : ∃ x, x = f 1 := ⟨_, rfl⟩
    obtain ⟨x2, hx2⟩ : ∃ x, x = f 2 := ⟨_, rfl⟩
    rw [← hx0] at f0 ⊢
    rw [← hx1] at f1 ⊢
    rw [← hx2] at f2 ⊢
    clear hx0 hx1 hx2 e
    have tm : Tm.isT (-1) = true := rfl
    have t0 : Tm.isT 0 = true := rfl
    have t1 : Tm.isT 1 = true := rfl
    rcases Tm.isT_cases f0 with rfl | rfl | rfl <;> rcases Tm.isT_cases f1 with rfl | rfl | rfl <;> rcases Tm.isT_cases f2 with rfl | rfl | rfl
    all_goals
      go_enter Try.func42, Try.ntmps42
      go_wp2
      refine wp_loop_rounds 4 ?_; repeat any_goals (first | (rw [rounds_succ]; go_wp2_with ((go_at_call 64; refine (sIsTrit _ _).mono ?_; rintro e w1 ⟨rfl, rfl⟩))) | (refine wp_loop_rounds 4 ?_; rw [rounds_succ]; go_wp2))
      go_returns
      exact ⟨rfl, by (repeat' (first | (with_reducible exact Below.refl _ _) | (with_reducible assumption) | (with_reducible refine below_drewN ?_ _) | (with_reducible refine Below.drew ?_) | (with_reducible refine Below.alloc ?_ ?_ _) | (with_reducible refine Below.setCell ?_ ?_ _) | (with_reducible refine below_gw ?_ ?_ _) | (with_reducible refine below_via ?_ ‹Below _ _ _› ?_) | (with_reducible exact Nat.le_refl _) | (with_reducible refine le_gw ?_ _) | (with_reducible refine le_alloc ?_ _) | (with_reducible refine le_setCell ?_ _ _) | (with_reducible refine le_drew ?_) | (with_reducible refine le_drewN ?_ _) | go_size))⟩
  · have e : ∀ i, Tm.thn f g i = 0 := fun i => by rw [Tm.thn, if_neg hf]
    simp only [mapV, e]
    clear e
    rw [Bool.and_eq_true, Tm.t3, Tm.t3, Bool.and_eq_true, Bool.and_eq_true, Bool.and_eq_true, Bool.and_eq_true] at hf
    by_cases h0 : Tm.isT (f 0) = true
    · skip
      by_cases h1 : Tm.isT (g 0) = true
      · skip
        by_cases h2 : Tm.isT (f 1) = true
        · skip
          by_cases h3 : Tm.isT (g 1) = true
          · skip
            by_cases h4 : Tm.isT (f 2) = true
            · skip
              by_cases h5 : Tm.isT (g 2) = true
              · skip
                exact absurd ⟨⟨⟨h0, h2⟩, h4⟩, ⟨h1, h3⟩, h5⟩ hf
              · clear hf
                simp only [Bool.not_eq_true] at h5
                go_enter Try.func42, Try.ntmps42
                go_wp2
                refine wp_loop_rounds 4 ?_; repeat any_goals (rw [rounds_succ]; go_wp2_with ((go_at_call 64; refine (sIsTrit _ _).mono ?_; rintro e w1 ⟨rfl, rfl⟩)))
                go_returns
                exact ⟨rfl, by (repeat' (first | (with_reducible exact Below.refl _ _) | (with_reducible assumption) | (with_reducible refine below_drewN ?_ _) | (with_reducible refine Below.drew ?_) | (with_reducible refine Below.alloc ?_ ?_ _) | (with_reducible refine Below.setCell ?_ ?_ _) | (with_reducible refine below_gw ?_ ?_ _) | (with_reducible refine below_via ?_ ‹Below _ _ _› ?_) | (with_reducible exact Nat.le_refl _) | (with_reducible refine le_gw ?_ _) | (with_reducible refine le_alloc ?_ _) | (with_reducible refine le_setCell ?_ _ _) | (with_reducible refine le_drew ?_) | (with_reducible refine le_drewN ?_ _) | go_size))⟩
            · clear hf
              simp only [Bool.not_eq_true] at h4
              go_enter Try.func42, Try.ntmps42
              go_wp2
              refine wp_loop_rounds 4 ?_; repeat any_goals (rw [rounds_succ]; go_wp2_with ((go_at_call 64; refine (sIsTrit _ _).mono ?_; rintro e w1 ⟨rfl, rfl⟩)))
              go_returns
              exact ⟨rfl, by (repeat' (first | (with_reducible exact Below.refl _ _) | (with_reducible assumption) | (with_reducible refine below_drewN ?_ _) | (with_reducible refine Below.drew ?_) | (with_reducible refine Below.alloc ?_ ?_ _) | (with_reducible refine Below.setCell ?_ ?_ _) | (with_reducible refine below_gw ?_ ?_ _) | (with_reducible refine below_via ?_ ‹Below _ _ _› ?_) | (with_reducible exact Nat.le_refl _) | (with_reducible refine le_gw ?_ _) | (with_reducible refine le_alloc ?_ _) | (with_reducible refine le_setCell ?_ _ _) | (with_reducible refine le_drew ?_) | (with_reducible refine le_drewN ?_ _) | go_size))⟩
          · clear hf
            simp only [Bool.not_eq_true] at h3
            go_enter Try.func42, Try.ntmps42
            go_wp2
            refine wp_loop_rounds 4 ?_; repeat any_goals (rw [rounds_succ]; go_wp2_with ((go_at_call 64; refine (sIsTrit _ _).mono ?_; rintro e w1 ⟨rfl, rfl⟩)))
            go_returns
            exact ⟨rfl, by (repeat' (first | (with_reducible exact Below.refl _ _) | (with_reducible assumption) | (with_reducible refine below_drewN ?_ _) | (with_reducible refine Below.drew ?_) | (with_reducible refine Below.alloc ?_ ?_ _) | (with_reducible refine Below.setCell ?_ ?_ _) | (with_reducible refine below_gw ?_ ?_ _) | (with_reducible refine below_via ?_ ‹Below _ _ _› ?_) | (with_reducible exact Nat.le_refl _) | (with_reducible refine le_gw ?_ _) | (with_reducible refine le_alloc ?_ _) | (with_reducible refine le_setCell ?_ _ _) | (with_reducible refine le_drew ?_) | (with_reducible refine le_drewN ?_ _) | go_size))⟩
        · clear hf
          simp only [Bool.not_eq_true] at h2
          go_enter Try.func42, Try.ntmps42
          go_wp2
          refine wp_loop_rounds 4 ?_; repeat any_goals (rw [rounds_succ]; go_wp2_with ((go_at_call 64; refine (sIsTrit _ _).mono ?_; rintro e w1 ⟨rfl, rfl⟩)))
          go_returns
          exact ⟨rfl, by (repeat' (first | (with_reducible exact Below.refl _ _) | (with_reducible assumption) | (with_reducible refine below_drewN ?_ _) | (with_reducible refine Below.drew ?_) | (with_reducible refine Below.alloc ?_ ?_ _) | (with_reducible refine Below.setCell ?_ ?_ _) | (with_reducible refine below_gw ?_ ?_ _) | (with_reducible refine below_via ?_ ‹Below _ _ _› ?_) | (with_reducible exact Nat.le_refl _) | (with_reducible refine le_gw ?_ _) | (with_reducible refine le_alloc ?_ _) | (with_reducible refine le_setCell ?_ _ _) | (with_reducible refine le_drew ?_) | (with_reducible refine le_drewN ?_ _) | go_size))⟩
      · clear hf
        simp only [Bool.not_eq_true] at h1
        go_enter Try.func42, Try.ntmps42
        go_wp2
        refine wp_loop_rounds 4 ?_; repeat any_goals (rw [rounds_succ]; go_wp2_with ((go_at_call 64; refine (sIsTrit _ _).mono ?_; rintro e w1 ⟨rfl, rfl⟩)))
        go_returns
        exact ⟨rfl, by (repeat' (first | (with_reducible exact Below.refl _ _) | (with_reducible assumption) | (with_reducible refine below_drewN ?_ _) | (with_reducible refine Below.drew ?_) | (with_reducible refine Below.alloc ?_ ?_ _) | (with_reducible refine Below.setCell ?_ ?_ _) | (with_reducible refine below_gw ?_ ?_ _) | (with_reducible refine below_via ?_ ‹Below _ _ _› ?_) | (with_reducible exact Nat.le_refl _) | (with_reducible refine le_gw ?_ _) | (with_reducible refine le_alloc ?_ _) | (with_reducible refine le_setCell ?_ _ _) | (with_reducible refine le_drew ?_) | (with_reducible refine le_drewN ?_ _) | go_size))⟩
    · clear hf
      simp only [Bool.not_eq_true] at h0
      go_enter Try.func42, Try.ntmps42
      go_wp2
      refine wp_loop_rounds 4 ?_; repeat any_goals (rw [rounds_succ]; go_wp2_with ((go_at_call 64; refine (sIsTrit _ _).mono ?_; rintro e w1 ⟨rfl, rfl⟩)))
      go_returns
      exact ⟨rfl, by (repeat' (first | (with_reducible exact Below.refl _ _) | (with_reducible assumption) | (with_reducible refine below_drewN ?_ _) | (with_reducible refine Below.drew ?_) | (with_reducible refine Below.alloc ?_ ?_ _) | (with_reducible refine Below.setCell ?_ ?_ _) | (with_reducible refine below_gw ?_ ?_ _) | (with_reducible refine below_via ?_ ‹Below _ _ _› ?_) | (with_reducible exact Nat.le_refl _) | (with_reducible refine le_gw ?_ _) | (with_reducible refine le_alloc ?_ _) | (with_reducible refine le_setCell ?_ _ _) | (with_reducible refine le_drew ?_) | (with_reducible refine le_drewN ?_ _) | go_size))⟩
end Go.Proofs.Yteonnaagpjmgeaa

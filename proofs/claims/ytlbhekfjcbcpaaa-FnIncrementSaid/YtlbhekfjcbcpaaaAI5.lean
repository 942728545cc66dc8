/- The program's carry maps. -/
import Derived.Test.YtlbhekfjcbcpaaaHeld
import Derived.Test.YtlbhekfjcbcpaaaTr
import Derived.Test.YtlbhekfjcbcpaaaAS
import Derived.Deep.QuietTactic
namespace Go.Proofs.Ytlbhekfjcbcpaaa
set_option maxRecDepth 20000
open Go.RowKit
theorem iMapOf (a b : Int) (w : World) : Calls Try.prog 50 #[.int .i64 a, .int .i64 b] w fun e w' => e = .returned (mapV (Tm.mp a b)) ∧ Below w.heap.size w w' := by
  go_enter Try.func50, Try.ntmps50
  go_wp2
  refine wp_loop_rounds 4 ?_; repeat any_goals (rw [rounds_succ]; go_wp2_with ((go_at_call 74; refine (iFullAdd _ _ _ _).mono ?_; rintro e w1 ⟨rfl, rfl⟩)))
  go_returns
  exact ⟨rfl, by (repeat' (first | (with_reducible exact Below.refl _ _) | (with_reducible assumption) | (with_reducible refine below_drewN ?_ _) | (with_reducible refine Below.drew ?_) | (with_reducible refine Below.alloc ?_ ?_ _) | (with_reducible refine Below.setCell ?_ ?_ _) | (with_reducible refine below_gw ?_ ?_ _) | (with_reducible refine below_via ?_ ‹Below _ _ _› ?_) | (with_reducible exact Nat.le_refl _) | (with_reducible refine le_gw ?_ _) | (with_reducible refine le_alloc ?_ _) | (with_reducible refine le_setCell ?_ _ _) | (with_reducible refine le_drew ?_) | (with_reducible refine le_drewN ?_ _) | go_size))⟩
theorem isMap_sgn (f : Nat → Int) : (f 0 == Tm.sgn (f 0) && f 1 == Tm.sgn (f 1) && f 2 == Tm.sgn (f 2)) = Tm.t3 f := by
  have h : ∀ a : Int, (a == Tm.sgn a) = Tm.isT a := by intro a; simp only [Tm.sgn, Tm.isT]; grind
  simp only [h, Tm.t3]
theorem iIsCarryMap (f : Nat → Int) (w : World) : Calls Try.prog 77 #[mapV f] w fun e w' => e = .returned (.bool (Tm.t3 f)) ∧ Below w.heap.size w w' := by
  have he := eqMap
  go_enter Try.func77, Try.ntmps77
  go_wp2_with fail
  go_quiet ((go_at_call 22; exact quiet_same fun _ => iSignOf _ _))
  go_wp2
  go_ret
  exact ⟨ret_bool (isMap_sgn f), by (repeat' (first | (with_reducible exact Below.refl _ _) | (with_reducible assumption) | (with_reducible refine below_drewN ?_ _) | (with_reducible refine Below.drew ?_) | (with_reducible refine Below.alloc ?_ ?_ _) | (with_reducible refine Below.setCell ?_ ?_ _) | (with_reducible refine below_gw ?_ ?_ _) | (with_reducible refine below_via ?_ ‹Below _ _ _› ?_) | (with_reducible exact Nat.le_refl _) | (with_reducible refine le_gw ?_ _) | (with_reducible refine le_alloc ?_ _) | (with_reducible refine le_setCell ?_ _ _) | (with_reducible refine le_drew ?_) | (with_reducible refine le_drewN ?_ _) | go_size))⟩
theorem idxMap0 (x y z : Int) (w : World) : (Instr.index 50 (.agg #[.int .i64 x, .int .i64 y, .int .i64 z]) (.int .i64 0)).run Try.prog w = .ok (.int .i64 x) w := by kernel_rfl
theorem idxMap1 (x y z : Int) (w : World) : (Instr.index 50 (.agg #[.int .i64 x, .int .i64 y, .int .i64 z]) (.int .i64 1)).run Try.prog w = .ok (.int .i64 y) w := by kernel_rfl
theorem idxMap2 (x y z : Int) (w : World) : (Instr.index 50 (.agg #[.int .i64 x, .int .i64 y, .int .i64 z]) (.int .i64 2)).run Try.prog w = .ok (.int .i64 z) w := by kernel_rfl
set_option maxHeartbeats 2000000 in
theorem iThenMap (f g : Nat → Int) (w : World) : Calls Try.prog 51 #[mapV f, mapV g] w fun e w' => e = .returned (mapV (Tm.thn f g)) ∧ Below w.heap.size w w' := by
  by_cases hf : Tm.t3 f = true
  · by_cases hg : Tm.t3 g = true
    · have e : ∀ i, Tm.thn f g i = g (f i + 1).toNat := fun i => by rw [Tm.thn, hf, hg]; rfl
      have b0 := Tm.t3_at hf (i := 0) (by omega)
      have b1 := Tm.t3_at hf (i := 1) (by omega)
      have b2 := Tm.t3_at hf (i := 2) (by omega)
      simp only [mapV, e]
      clear e
      go_enter Try.func51, Try.ntmps51
      go_wp2_with fail
      refine (iIsCarryMap f _).mono ?_
      rintro e w1 ⟨rfl, hb⟩
      obtain ⟨p, rfl⟩ := gw_of_below hb
      clear hb
      go_wp2_with fail
      refine (iIsCarryMap g _).mono ?_
      rintro e w1 ⟨rfl, hb⟩
      obtain ⟨p2, rfl⟩ := gw_of_below hb
      clear hb
      generalize hW : gw _ _ = W
      obtain ⟨s, hs⟩ : ∃ s, s = w.heap.size := ⟨_, rfl⟩
      have BW : Below w.heap.size w W := by rw [← hW]; (repeat' (first | (with_reducible exact Below.refl _ _) | (with_reducible assumption) | (with_reducible refine below_drewN ?_ _) | (with_reducible refine Below.drew ?_) | (with_reducible refine Below.alloc ?_ ?_ _) | (with_reducible refine Below.setCell ?_ ?_ _) | (with_reducible refine below_gw ?_ ?_ _) | (with_reducible refine below_via ?_ ‹Below _ _ _› ?_) | (with_reducible exact Nat.le_refl _) | (with_reducible refine le_gw ?_ _) | (with_reducible refine le_alloc ?_ _) | (with_reducible refine le_setCell ?_ _ _) | (with_reducible refine le_drew ?_) | (with_reducible refine le_drewN ?_ _) | go_size))
      have sz : s + 3 ≤ W.heap.size := by subst hW; subst hs; go_simp
      have F0 : W.cell? ⟨s, 0, none⟩ = some (.int .i64 (f 0)) := by subst hW; subst hs; go_simp
      have F1 : W.cell? ⟨s, 1, none⟩ = some (.int .i64 (f 1)) := by subst hW; subst hs; go_simp
      have F2 : W.cell? ⟨s, 2, none⟩ = some (.int .i64 (f 2)) := by subst hW; subst hs; go_simp
      have G0 : W.cell? ⟨s + 1, 0, none⟩ = some (.int .i64 (g 0)) := by subst hW; subst hs; go_simp
      have G1 : W.cell? ⟨s + 1, 1, none⟩ = some (.int .i64 (g 1)) := by subst hW; subst hs; go_simp
      have G2 : W.cell? ⟨s + 1, 2, none⟩ = some (.int .i64 (g 2)) := by subst hW; subst hs; go_simp
      have R0 : W.cell? ⟨s + 1 + 1, 0, none⟩ = some (.int .i64 0) := by subst hW; subst hs; go_simp
      have R1 : W.cell? ⟨s + 1 + 1, 1, none⟩ = some (.int .i64 0) := by subst hW; subst hs; go_simp
      have R2 : W.cell? ⟨s + 1 + 1, 2, none⟩ = some (.int .i64 0) := by subst hW; subst hs; go_simp
      have Z0 : W.frozen? ⟨s + 1 + 1, 0, none⟩ = false := by subst hW; subst hs; go_simp
      have Z1 : W.frozen? ⟨s + 1 + 1, 1, none⟩ = false := by subst hW; subst hs; go_simp
      have Z2 : W.frozen? ⟨s + 1 + 1, 2, none⟩ = false := by subst hW; subst hs; go_simp
      have g0 : W.cell? ⟨s + 1, (f 0 + 1).toNat, none⟩ = some (.int .i64 (g (f 0 + 1).toNat)) := by
        rcases (show f 0 = -1 ∨ f 0 = 0 ∨ f 0 = 1 by omega) with e | e | e <;> rw [e] <;> assumption
      have g1 : W.cell? ⟨s + 1, (f 1 + 1).toNat, none⟩ = some (.int .i64 (g (f 1 + 1).toNat)) := by
        rcases (show f 1 = -1 ∨ f 1 = 0 ∨ f 1 = 1 by omega) with e | e | e <;> rw [e] <;> assumption
      have g2 : W.cell? ⟨s + 1, (f 2 + 1).toNat, none⟩ = some (.int .i64 (g (f 2 + 1).toNat)) := by
        rcases (show f 2 = -1 ∨ f 2 = 0 ∨ f 2 = 1 by omega) with e | e | e <;> rw [e] <;> assumption
      have ix0 := idxMap0 (f 0) (f 1) (f 2)
      have ix1 := idxMap1 (f 0) (f 1) (f 2)
      have ix2 := idxMap2 (f 0) (f 1) (f 2)
      have l0 : s < W.heap.size := by omega
      have l1 : s + 1 < W.heap.size := by omega
      have l2 : s + 1 + 1 < W.heap.size := by omega
      rw [← hs]
      have HS := Lib.hid hs
      clear hW hs G0 G1 G2
      obtain ⟨b00, b01⟩ := b0
      obtain ⟨b10, b11⟩ := b1
      obtain ⟨b20, b21⟩ := b2
      go_wp2_with fail
      refine wp_loop_rounds 4 ?_; repeat any_goals (rw [rounds_succ]; go_wp2_with fail)
      generalize hX : World.alloc _ _ = X
      have X0 : X.cell? ⟨s + 1 + 1, 0, none⟩ = some (.int .i64 (g (f 0 + 1).toNat)) := by subst hX; rw [World.cell?_alloc_lt _ _ _ (by simp; exact l2)]; go_simp
      have X1 : X.cell? ⟨s + 1 + 1, 1, none⟩ = some (.int .i64 (g (f 1 + 1).toNat)) := by subst hX; rw [World.cell?_alloc_lt _ _ _ (by simp; exact l2)]; go_simp
      have X2 : X.cell? ⟨s + 1 + 1, 2, none⟩ = some (.int .i64 (g (f 2 + 1).toNat)) := by subst hX; rw [World.cell?_alloc_lt _ _ _ (by simp; exact l2)]; go_simp
      have BX : Below w.heap.size w X := by subst hX; rw [← HS.out]; have bw := BW; rw [← HS.out] at bw; (repeat' (first | (with_reducible exact Below.refl _ _) | (with_reducible assumption) | (with_reducible refine below_drewN ?_ _) | (with_reducible refine Below.drew ?_) | (with_reducible refine Below.alloc ?_ ?_ _) | (with_reducible refine Below.setCell ?_ ?_ _) | (with_reducible refine below_gw ?_ ?_ _) | (with_reducible refine below_via ?_ ‹Below _ _ _› ?_) | (with_reducible exact Nat.le_refl _) | (with_reducible refine le_gw ?_ _) | (with_reducible refine le_alloc ?_ _) | (with_reducible refine le_setCell ?_ _ _) | (with_reducible refine le_drew ?_) | (with_reducible refine le_drewN ?_ _) | go_size))
      clear hX
      refine bodyPost_ret (by simp [results, Try.results51, go_sem, X0, X1, X2]; try rfl) rfl ?_
      exact ⟨rfl, BX⟩
    · simp only [Bool.not_eq_true] at hg
      have e : ∀ i, Tm.thn f g i = 0 := fun i => by rw [Tm.thn, hf, hg]; rfl
      simp only [mapV, e]
      clear e
      go_enter Try.func51, Try.ntmps51
      go_wp2_with fail
      refine (iIsCarryMap f _).mono ?_
      rintro e w1 ⟨rfl, hb⟩
      obtain ⟨p, rfl⟩ := gw_of_below hb
      clear hb
      go_wp2_with fail
      refine (iIsCarryMap g _).mono ?_
      rintro e w1 ⟨rfl, hb⟩
      obtain ⟨p2, rfl⟩ := gw_of_below hb
      clear hb
      go_wp2
      go_returns
      exact ⟨rfl, by (repeat' (first | (with_reducible exact Below.refl _ _) | (with_reducible assumption) | (with_reducible refine below_drewN ?_ _) | (with_reducible refine Below.drew ?_) | (with_reducible refine Below.alloc ?_ ?_ _) | (with_reducible refine Below.setCell ?_ ?_ _) | (with_reducible refine below_gw ?_ ?_ _) | (with_reducible refine below_via ?_ ‹Below _ _ _› ?_) | (with_reducible exact Nat.le_refl _) | (with_reducible refine le_gw ?_ _) | (with_reducible refine le_alloc ?_ _) | (with_reducible refine le_setCell ?_ _ _) | (with_reducible refine le_drew ?_) | (with_reducible refine le_drewN ?_ _) | go_size))⟩
  · simp only [Bool.not_eq_true] at hf
    have e : ∀ i, Tm.thn f g i = 0 := fun i => by rw [Tm.thn, hf]; rfl
    simp only [mapV, e]
    clear e
    go_enter Try.func51, Try.ntmps51
    go_wp2_with fail
    refine (iIsCarryMap f _).mono ?_
    rintro e w1 ⟨rfl, hb⟩
    obtain ⟨p, rfl⟩ := gw_of_below hb
    clear hb
    go_wp2
    go_returns
    exact ⟨rfl, by (repeat' (first | (with_reducible exact Below.refl _ _) | (with_reducible assumption) | (with_reducible refine below_drewN ?_ _) | (with_reducible refine Below.drew ?_) | (with_reducible refine Below.alloc ?_ ?_ _) | (with_reducible refine Below.setCell ?_ ?_ _) | (with_reducible refine below_gw ?_ ?_ _) | (with_reducible refine below_via ?_ ‹Below _ _ _› ?_) | (with_reducible exact Nat.le_refl _) | (with_reducible refine le_gw ?_ _) | (with_reducible refine le_alloc ?_ _) | (with_reducible refine le_setCell ?_ _ _) | (with_reducible refine le_drew ?_) | (with_reducible refine le_drewN ?_ _) | go_size))⟩
end Go.Proofs.Ytlbhekfjcbcpaaa

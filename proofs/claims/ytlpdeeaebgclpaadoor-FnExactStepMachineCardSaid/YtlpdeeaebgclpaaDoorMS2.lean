/- The model's machine: why an operation is not executed. -/
import Derived.Test.YtlpdeeaebgclpaaDoorMS1
import Derived.Test.YtlpdeeaebgclpaaDoorMBx
namespace Go.Proofs.YtlpdeeaebgclpaaDoor
set_option maxRecDepth 20000
open Go.RowKit
set_option maxHeartbeats 2000000 in
theorem sNeeds (c : Int) (w : World) (h : 1 ≤ c ∧ c ≤ 14) : Calls Tryd.prog 35 #[.int .i64 c] w fun e w' => e = .returned (.tuple #[.int .i64 (Tm.popsN c), .int .i64 (Tm.pushN c - Tm.popsN c)]) ∧ w = w' := by
  have cc : c = 1 ∨ c = 2 ∨ c = 3 ∨ c = 4 ∨ c = 5 ∨ c = 6 ∨ c = 7 ∨ c = 8 ∨ c = 9 ∨ c = 10 ∨ c = 11 ∨ c = 12 ∨ c = 13 ∨ c = 14 := by omega
  clear h
  rcases cc with rfl | rfl | rfl | rfl | rfl | rfl | rfl | rfl | rfl | rfl | rfl | rfl | rfl | rfl
  all_goals
    go_enter Tryd.func35, Tryd.ntmps35
    go_wp2
    go_ret2
    exact ⟨by simp [Tm.popsN, Tm.pushN], rfl⟩
set_option maxHeartbeats 4000000 in
theorem sWhy (aL : Option Addr) (nL cL : Nat) (L : List (Nat → Int)) (k : Int) (a : Option Addr) (n c : Nat) (s : List Int) (b : Option Addr) (m d : Nat) (o : List Int) (w : World) (hL : OpR w aL nL cL L) (h : Ms w a n c s b m d o) (hM : Tm.machOk L k s o = true) :
    Calls Tryd.prog 20 #[.slice aL nL cL, machV k a n c b m d] w fun e w' => e = .returned (.int .i64 (Tm.why L k s)) ∧ Below w.heap.size w w' := by
  obtain ⟨hC, ⟨k0, k1⟩, hs20, ho27, hcs, hco⟩ := (Tm.machOk_iff L k s o).1 hM
  obtain ⟨⟨l1, l2⟩, hop⟩ := (Tm.codeOk_iff L).1 hC
  obtain rfl : L.length = nL := hL.1
  obtain rfl : s.length = n := h.1.1
  by_cases hk : k = (L.length : Int)
  · have WY : Tm.why L k s = 2 := by unfold Tm.why; rw [if_pos hk]
    rw [WY]
    have ke : (k == (L.length : Int)) = true := by simpa using hk
    clear hop h WY hk hL hM
    go_enter Tryd.func20, Tryd.ntmps20
    go_wp2
    go_ret
    exact ⟨rfl, by (repeat' (first | (with_reducible exact Below.refl _ _) | (with_reducible assumption) | (with_reducible refine below_drewN ?_ _) | (with_reducible refine Below.drew ?_) | (with_reducible refine Below.alloc ?_ ?_ _) | (with_reducible refine Below.setCell ?_ ?_ _) | (with_reducible refine below_gw ?_ ?_ _) | (with_reducible refine below_via ?_ ‹Below _ _ _› ?_) | (with_reducible exact Nat.le_refl _) | (with_reducible refine le_gw ?_ _) | (with_reducible refine le_alloc ?_ _) | (with_reducible refine le_setCell ?_ _ _) | (with_reducible refine le_drew ?_) | (with_reducible refine le_drewN ?_ _) | go_size))⟩
  · obtain ⟨j, rfl⟩ : ∃ j : Nat, k = (j : Int) := ⟨k.toNat, by omega⟩
    have jl : j < L.length := by omega
    have ke : ((j : Int) == (L.length : Int)) = false := by simpa using hk
    have hx := hop j jl
    obtain ⟨bb, oo, rfl, hbl, hc⟩ : ∃ b o, aL = some ⟨b, o, none⟩ ∧ b < w.heap.size ∧ ∀ i, i < L.length → ∀ j, j < 4 → w.cell? ⟨b, o + i * 4 + j, none⟩ = some (.int .i64 (L.getD i Tm.g0 j)) := by
      rcases hL.2.2.2 with h0 | h1
      · omega
      · exact h1
    obtain ⟨x, hg, g1⟩ := OpR.op hc jl
    rw [← hg] at hx
    obtain ⟨q0, q1, q2, q3⟩ := g1
    have XI := (Tm.opOk_iff _ _).1 hx
    have WY : Tm.why L (j : Int) s = (if x 0 = 15 then 1 else if ¬ (Tm.popsN (x 0) ≤ (s.length : Int) ∧ (s.length : Int) - Tm.popsN (x 0) + Tm.pushN (x 0) ≤ 20) then 3 else if (x 0 = 11 ∨ x 0 = 12) ∧ ¬ (-13 ≤ Tm.top s ∧ Tm.top s ≤ 13) then 4 else 0) := by
      unfold Tm.why; rw [if_neg hk, Int.toNat_natCast, ← hg]
    rw [WY]
    have HL2 := hL.2.1
    have HL3 := hL.2.2.1
    unfold maxLen at HL3
    have pb := Tm.popsN_le (x 0)
    have qb := Tm.pushN_le (x 0)
    have SN := Lib.hid (fun w h => sNeeds (x 0) w h)
    obtain ⟨z, hz⟩ : ∃ z, z = x 0 := ⟨_, rfl⟩
    have z1 : 1 ≤ z := by omega
    have z2 : z ≤ 15 := by omega
    have hp2 : z = 11 ∨ z = 12 → 1 ≤ Tm.popsN z := by intro hh; rcases hh with hh | hh <;> rw [hh] <;> decide
    rw [← hz] at pb qb SN q0 ⊢
    obtain ⟨u, hu⟩ : ∃ u, u = Tm.popsN z := ⟨_, rfl⟩
    obtain ⟨v, hv⟩ : ∃ v, v = Tm.pushN z := ⟨_, rfl⟩
    rw [← hu] at pb SN hp2 ⊢
    rw [← hv] at qb SN ⊢
    have e1 : IntKind.i64.wrap ((s.length : Int) + (v - u)) = (s.length : Int) + (v - u) := IntWalk.i64_in _ (by omega)
    have hst := h.1
    have I1 := Lib.hid hst
    clear hop hL hc hx hg XI WY hk h hM hz hu hv
    by_cases c15 : z = 15
    · rw [if_pos c15]
      have e15 : (z == 15) = true := by simpa using c15
      clear c15
      go_enter Tryd.func20, Tryd.ntmps20
      go_wp2
      go_ret
      exact ⟨rfl, by (repeat' (first | (with_reducible exact Below.refl _ _) | (with_reducible assumption) | (with_reducible refine below_drewN ?_ _) | (with_reducible refine Below.drew ?_) | (with_reducible refine Below.alloc ?_ ?_ _) | (with_reducible refine Below.setCell ?_ ?_ _) | (with_reducible refine below_gw ?_ ?_ _) | (with_reducible refine below_via ?_ ‹Below _ _ _› ?_) | (with_reducible exact Nat.le_refl _) | (with_reducible refine le_gw ?_ _) | (with_reducible refine le_alloc ?_ _) | (with_reducible refine le_setCell ?_ _ _) | (with_reducible refine le_drew ?_) | (with_reducible refine le_drewN ?_ _) | go_size))⟩
    · rw [if_neg c15]
      have e15 : (z == 15) = false := by simpa using c15
      by_cases cS : u ≤ (s.length : Int) ∧ (s.length : Int) - u + v ≤ 20
      · rw [if_neg (fun hh => hh cS)]
        have f1 : ¬ (s.length : Int) < u := by omega
        have f2 : ¬ 20 < (s.length : Int) + (v - u) := by omega
        by_cases cz : z = 11 ∨ z = 12
        · have hl := hp2 cz
          rcases I1.out.2.2.2 with i0 | ⟨gb, go, rfl, gl, gc⟩
          · omega
          have ct := gc (s.length - 1) (by omega)
          obtain ⟨tp, htp⟩ : ∃ tp, tp = Tm.top s := ⟨_, rfl⟩
          rw [show s.getD (s.length - 1) 0 = tp from htp.symm] at ct
          rw [← htp]
          obtain ⟨m', hm'⟩ : ∃ m' : Nat, m' = s.length - 1 := ⟨_, rfl⟩
          rw [← hm'] at ct
          have e2 : IntKind.i64.wrap ((s.length : Int) - 1) = (m' : Int) := by rw [IntWalk.i64_in _ (by omega)]; omega
          have g0' : (0 : Int) ≤ (m' : Int) := by omega
          have g1' : (m' : Int) < (s.length : Int) := by omega
          have SI := Lib.hid (fun w => sIn tp (-13) 13 w)
          cases hI : Tm.inB tp (-13) 13 with
          | true =>
            rw [hI] at SI
            have hh := (Tm.inB_iff _ _ _).1 hI
            rw [if_neg (fun hc => hc.2 hh)]
            clear hI hh gc htp hm' cS
            rcases cz with rfl | rfl
            all_goals
              go_enter Tryd.func20, Tryd.ntmps20
              go_wp2_with (first | (go_at_call 35; refine (SN.out _ ⟨by omega, by omega⟩).mono ?_; rintro e w1 ⟨rfl, rfl⟩) | (go_at_call 32; refine (SI.out _).mono ?_; rintro e w1 ⟨rfl, rfl⟩))
              go_ret
              exact ⟨rfl, by (repeat' (first | (with_reducible exact Below.refl _ _) | (with_reducible assumption) | (with_reducible refine below_drewN ?_ _) | (with_reducible refine Below.drew ?_) | (with_reducible refine Below.alloc ?_ ?_ _) | (with_reducible refine Below.setCell ?_ ?_ _) | (with_reducible refine below_gw ?_ ?_ _) | (with_reducible refine below_via ?_ ‹Below _ _ _› ?_) | (with_reducible exact Nat.le_refl _) | (with_reducible refine le_gw ?_ _) | (with_reducible refine le_alloc ?_ _) | (with_reducible refine le_setCell ?_ _ _) | (with_reducible refine le_drew ?_) | (with_reducible refine le_drewN ?_ _) | go_size))⟩
          | false =>
            rw [hI] at SI
            have hh : ¬ (-13 ≤ tp ∧ tp ≤ 13) := fun h => by rw [(Tm.inB_iff _ _ _).2 h] at hI; cases hI
            rw [if_pos ⟨cz, hh⟩]
            clear hI hh gc htp hm' cS
            rcases cz with rfl | rfl
            all_goals
              go_enter Tryd.func20, Tryd.ntmps20
              go_wp2_with (first | (go_at_call 35; refine (SN.out _ ⟨by omega, by omega⟩).mono ?_; rintro e w1 ⟨rfl, rfl⟩) | (go_at_call 32; refine (SI.out _).mono ?_; rintro e w1 ⟨rfl, rfl⟩))
              go_ret
              exact ⟨rfl, by (repeat' (first | (with_reducible exact Below.refl _ _) | (with_reducible assumption) | (with_reducible refine below_drewN ?_ _) | (with_reducible refine Below.drew ?_) | (with_reducible refine Below.alloc ?_ ?_ _) | (with_reducible refine Below.setCell ?_ ?_ _) | (with_reducible refine below_gw ?_ ?_ _) | (with_reducible refine below_via ?_ ‹Below _ _ _› ?_) | (with_reducible exact Nat.le_refl _) | (with_reducible refine le_gw ?_ _) | (with_reducible refine le_alloc ?_ _) | (with_reducible refine le_setCell ?_ _ _) | (with_reducible refine le_drew ?_) | (with_reducible refine le_drewN ?_ _) | go_size))⟩
        · rw [if_neg (fun hc => cz hc.1)]
          have d11 : (z == 11) = false := by simp; omega
          have d12 : (z == 12) = false := by simp; omega
          have z14 : z ≤ 14 := by omega
          clear cz cS hp2
          go_enter Tryd.func20, Tryd.ntmps20
          go_wp2_with (go_at_call 35; refine (SN.out _ ⟨by omega, by omega⟩).mono ?_; rintro e w1 ⟨rfl, rfl⟩)
          go_ret
          exact ⟨rfl, by (repeat' (first | (with_reducible exact Below.refl _ _) | (with_reducible assumption) | (with_reducible refine below_drewN ?_ _) | (with_reducible refine Below.drew ?_) | (with_reducible refine Below.alloc ?_ ?_ _) | (with_reducible refine Below.setCell ?_ ?_ _) | (with_reducible refine below_gw ?_ ?_ _) | (with_reducible refine below_via ?_ ‹Below _ _ _› ?_) | (with_reducible exact Nat.le_refl _) | (with_reducible refine le_gw ?_ _) | (with_reducible refine le_alloc ?_ _) | (with_reducible refine le_setCell ?_ _ _) | (with_reducible refine le_drew ?_) | (with_reducible refine le_drewN ?_ _) | go_size))⟩
      · rw [if_pos cS]
        have z14 : z ≤ 14 := by omega
        by_cases cl : (s.length : Int) < u
        · clear cS hp2
          go_enter Tryd.func20, Tryd.ntmps20
          go_wp2_with (go_at_call 35; refine (SN.out _ ⟨by omega, by omega⟩).mono ?_; rintro e w1 ⟨rfl, rfl⟩)
          go_ret
          exact ⟨rfl, by (repeat' (first | (with_reducible exact Below.refl _ _) | (with_reducible assumption) | (with_reducible refine below_drewN ?_ _) | (with_reducible refine Below.drew ?_) | (with_reducible refine Below.alloc ?_ ?_ _) | (with_reducible refine Below.setCell ?_ ?_ _) | (with_reducible refine below_gw ?_ ?_ _) | (with_reducible refine below_via ?_ ‹Below _ _ _› ?_) | (with_reducible exact Nat.le_refl _) | (with_reducible refine le_gw ?_ _) | (with_reducible refine le_alloc ?_ _) | (with_reducible refine le_setCell ?_ _ _) | (with_reducible refine le_drew ?_) | (with_reducible refine le_drewN ?_ _) | go_size))⟩
        · have f2 : 20 < (s.length : Int) + (v - u) := by omega
          clear cS hp2
          go_enter Tryd.func20, Tryd.ntmps20
          go_wp2_with (go_at_call 35; refine (SN.out _ ⟨by omega, by omega⟩).mono ?_; rintro e w1 ⟨rfl, rfl⟩)
          go_ret
          exact ⟨rfl, by (repeat' (first | (with_reducible exact Below.refl _ _) | (with_reducible assumption) | (with_reducible refine below_drewN ?_ _) | (with_reducible refine Below.drew ?_) | (with_reducible refine Below.alloc ?_ ?_ _) | (with_reducible refine Below.setCell ?_ ?_ _) | (with_reducible refine below_gw ?_ ?_ _) | (with_reducible refine below_via ?_ ‹Below _ _ _› ?_) | (with_reducible exact Nat.le_refl _) | (with_reducible refine le_gw ?_ _) | (with_reducible refine le_alloc ?_ _) | (with_reducible refine le_setCell ?_ _ _) | (with_reducible refine le_drew ?_) | (with_reducible refine le_drewN ?_ _) | go_size))⟩
end Go.Proofs.YtlpdeeaebgclpaaDoor

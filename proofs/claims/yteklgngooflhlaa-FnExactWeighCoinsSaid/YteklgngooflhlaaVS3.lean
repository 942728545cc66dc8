/- The model's weighings of coins. -/
import Derived.Test.YteklgngooflhlaaVMath
import Derived.Test.YteklgngooflhlaaVRow
namespace Go.Proofs.Yteklgngooflhlaa
set_option maxRecDepth 20000
open Go.RowKit
set_option maxHeartbeats 2000000 in
theorem sWeighCoins (a0 : Option Addr) (n0 c0 : Nat) (ws : List Int) (a : Option Addr) (n c : Nat) (s : List Int) (b : Option Addr) (m d : Nat) (o : List Int) (w : World) (h0 : Ints w a0 n0 c0 ws) (h : Ms w a n c s b m d o) (hn : n ≤ 1048576) (hm : m ≤ 1048576) : Calls Try.prog 61 #[.slice a0 n0 c0, weigV a n c b m d] w fun e w' => e = .returned (.tuple #[.int .i64 (Tm.weighed ws s o), .bool (Tm.weighC ws s o)]) ∧ Below w.heap.size w w' := by
  obtain rfl : n = s.length := h.1.1.symm
  obtain rfl : m = o.length := h.2.1.symm
  obtain rfl : n0 = ws.length := h0.1.symm
  have j2 := h0.2.1
  have j3 := h0.2.2.1
  have ns := h.1.2.1
  have ns2 := h.1.2.2.1
  have no := h.2.2.1
  have no2 := h.2.2.2.1
  unfold maxLen at j3 ns2 no2
  obtain ⟨W, hW⟩ : ∃ W, W = (w.alloc (.cells #[.slice a s.length c, .slice b o.length d] 27)).alloc (.cells #[.slice a s.length c, .slice b o.length d] 24) := ⟨_, rfl⟩
  have H0 : Hid (Ms W a s.length c s b o.length d o) := Lib.hid (by rw [hW]; exact (h.alloc _).alloc _)
  have J0 : Hid (Ints W a0 ws.length c0 ws) := Lib.hid (by rw [hW]; exact (h0.alloc _).alloc _)
  have CS : Hid (W.cell? ⟨w.heap.size + 1, 0, none⟩ = some (.slice a s.length c) ∧ W.cell? ⟨w.heap.size + 1, 1, none⟩ = some (.slice b o.length d)) := Lib.hid (by rw [hW]; constructor <;> simp)
  have DN : Hid (Below w.heap.size w W) := Lib.hid (by rw [hW]; exact ((Below.refl _ _).alloc (Nat.le_refl _) _).alloc (by simp) _)
  have NO : Hid (Tm.weighC ws s o = false → (Ending.returned (.tuple #[.int .i64 0, .bool false]) : Ending) = .returned (.tuple #[.int .i64 (Tm.weighed ws s o), .bool (Tm.weighC ws s o)])) := Lib.hid (fun e => by rw [Tm.weighed, e]; rfl)
  have BD := Lib.hid (fun h => Tm.panF_bd (ws := ws) h)
  have BX := Lib.hid (fun h => Tm.coinsIn_at (ws := ws) h)
  have zl : w.heap.size + 1 < W.heap.size := by rw [hW]; simp
  clear h h0
  go_enter Try.func61, Try.ntmps61
  go_wp2_with fail
  rw [← hW]
  clear hW
  refine wp_loop_rounds 3 ?_
  rw [rounds_succ]
  obtain ⟨u0, u1⟩ := CS.out
  go_wp2_with fail
  have AT : Hid (Tm.coinsIn ws = true → (0 : Int) = 0 + Tm.panF ws s 0) := Lib.hid fun _ => rfl
  go_loop [6, 26] (fun q i => ∃ (k : Nat) (z : Int), k ≤ s.length ∧ i = .int .i64 k ∧ q = .int .i64 z ∧ Hid (Tm.coinsIn ws = true → z = 0 + Tm.panF ws s k) ∧ Hid (∀ j, j < k → 0 ≤ s.getD j 0 ∧ s.getD j 0 < (ws.length : Int))) (fun _ i => s.length - (intOf i).toNat)
  case atStart => exact ⟨0, _, by omega, rfl, rfl, AT, Lib.hid (fun j hj => by omega)⟩
  case round =>
    obtain ⟨k, z, hk, rfl, rfl, SZ, IN⟩ := hrel
    by_cases hlt : k < s.length
    · rcases H0.out.1.2.2.2 with e0 | ⟨bb, oo, rfl, hbl, hc⟩
      · omega
      have cx := hc k hlt
      have PS : Tm.panF ws s (k + 1) = Tm.panF ws s k + ws.getD (s.getD k 0).toNat 0 := rfl
      have LN := Lib.hid (fun h => Tm.linesOk_no (n := (ws.length : Int)) (o := s) hlt h)
      have IY : Hid (0 ≤ s.getD k 0 ∧ s.getD k 0 < (ws.length : Int) → ∀ j, j < k + 1 → 0 ≤ s.getD j 0 ∧ s.getD j 0 < (ws.length : Int)) := Lib.hid fun h j hj => by
        by_cases e : j = k
        · subst e; exact h
        · exact IN.out j (by omega)
      obtain ⟨y, hy⟩ : ∃ y, y = s.getD k 0 := ⟨_, rfl⟩
      rw [← hy] at cx PS LN IY
      clear hc hy
      by_cases cy : 0 ≤ y ∧ y < (ws.length : Int)
      · obtain ⟨q, rfl⟩ : ∃ q : Nat, y = (q : Int) := ⟨y.toNat, by omega⟩
        rw [Int.toNat_natCast] at PS
        rcases J0.out.2.2.2 with e0 | ⟨b0, o0, rfl, hbl0, hc0⟩
        · omega
        have cw := hc0 q (by omega)
        have BQ := Lib.hid (fun h => BX.out h q)
        have BP := Lib.hid (fun h => BD.out h s k)
        have IZ := Lib.hid (IY.out cy)
        obtain ⟨x, hx⟩ : ∃ x, x = ws.getD q 0 := ⟨_, rfl⟩
        rw [← hx] at cw PS BQ
        have PS2 := Lib.hid PS
        have q0 : (0 : Int) ≤ (q : Int) := by omega
        have q1 : (q : Int) < (ws.length : Int) := by omega
        have q2 : ¬ (q : Int) < 0 := by omega
        have q3 : ¬ ((q : Int) ≥ (ws.length : Int)) := by omega
        clear hc0 hx PS cy LN IY
        go_wp2
        go_round
        case rel => exact ⟨k + 1, _, by omega, by go_num, rfl, Lib.hid (fun hc => by
          have s1 := SZ.out hc
          have b1 := BQ.out hc
          have b2 := BP.out hc
          rw [PS2.out]
          have w1 : wrap64 (x) = x := by unfold wrap64; omega
          have w2 : wrap64 (z + (x)) = z + (x) := by unfold wrap64; omega
          rw [w1, w2]
          omega), IZ⟩
        case measure => simp [intOf]; omega
      · have LF := Lib.hid (LN.out cy)
        have E : Hid (Tm.weighC ws s o = false) := Lib.hid (by rw [Tm.weighC, LF.out]; simp)
        rcases Int.lt_or_le y 0 with y0 | y0
        · clear cy LN IY
          go_wp2
          go_ret2
          exact ⟨NO.out E.out, DN.out⟩
        · have y1 : (ws.length : Int) ≤ y := by omega
          clear cy LN IY
          go_wp2
          go_ret2
          exact ⟨NO.out E.out, DN.out⟩
    · obtain rfl : k = s.length := by omega
      have LO1 := Lib.hid (Tm.linesOk_of IN.out)
      have AT : Hid (Tm.coinsIn ws = true → z = Tm.panW ws s - Tm.panF ws o 0) := Lib.hid fun h => by rw [SZ.out h]; simp [Tm.panW, Tm.panF]
      clear SZ
      obtain ⟨u0, u1⟩ := CS.out
      go_wp2_with fail
      rw [rounds_succ]
      go_wp2_with fail
      go_loop [6, 26] (fun q i => ∃ (k : Nat) (z : Int), k ≤ o.length ∧ i = .int .i64 k ∧ q = .int .i64 z ∧ Hid (Tm.coinsIn ws = true → z = Tm.panW ws s - Tm.panF ws o k) ∧ Hid (∀ j, j < k → 0 ≤ o.getD j 0 ∧ o.getD j 0 < (ws.length : Int))) (fun _ i => o.length - (intOf i).toNat)
      case atStart => exact ⟨0, _, by omega, rfl, rfl, AT, Lib.hid (fun j hj => by omega)⟩
      case round =>
        obtain ⟨k, z, hk, rfl, rfl, SZ, IN⟩ := hrel
        by_cases hlt : k < o.length
        · rcases H0.out.2.2.2.2 with e0 | ⟨bb, oo, rfl, hbl, hc⟩
          · omega
          have cx := hc k hlt
          have PS : Tm.panF ws o (k + 1) = Tm.panF ws o k + ws.getD (o.getD k 0).toNat 0 := rfl
          have LN := Lib.hid (fun h => Tm.linesOk_no (n := (ws.length : Int)) (o := o) hlt h)
          have IY : Hid (0 ≤ o.getD k 0 ∧ o.getD k 0 < (ws.length : Int) → ∀ j, j < k + 1 → 0 ≤ o.getD j 0 ∧ o.getD j 0 < (ws.length : Int)) := Lib.hid fun h j hj => by
            by_cases e : j = k
            · subst e; exact h
            · exact IN.out j (by omega)
          obtain ⟨y, hy⟩ : ∃ y, y = o.getD k 0 := ⟨_, rfl⟩
          rw [← hy] at cx PS LN IY
          clear hc hy
          by_cases cy : 0 ≤ y ∧ y < (ws.length : Int)
          · obtain ⟨q, rfl⟩ : ∃ q : Nat, y = (q : Int) := ⟨y.toNat, by omega⟩
            rw [Int.toNat_natCast] at PS
            rcases J0.out.2.2.2 with e0 | ⟨b0, o0, rfl, hbl0, hc0⟩
            · omega
            have cw := hc0 q (by omega)
            have BQ := Lib.hid (fun h => BX.out h q)
            have BP := Lib.hid (fun h => BD.out h o k)
            have IZ := Lib.hid (IY.out cy)
            obtain ⟨x, hx⟩ : ∃ x, x = ws.getD q 0 := ⟨_, rfl⟩
            rw [← hx] at cw PS BQ
            have PS2 := Lib.hid PS
            have q0 : (0 : Int) ≤ (q : Int) := by omega
            have q1 : (q : Int) < (ws.length : Int) := by omega
            have q2 : ¬ (q : Int) < 0 := by omega
            have q3 : ¬ ((q : Int) ≥ (ws.length : Int)) := by omega
            clear hc0 hx PS cy LN IY
            go_wp2
            go_round
            case rel => exact ⟨k + 1, _, by omega, by go_num, rfl, Lib.hid (fun hc => by
              have s1 := SZ.out hc
              have b1 := BQ.out hc
              have b2 := BP.out hc
              have b3 := BD.out hc s s.length
              have b4 : Tm.panW ws s = Tm.panF ws s s.length := rfl
              rw [PS2.out]
              have w1 : wrap64 (-x) = -x := by unfold wrap64; omega
              have w2 : wrap64 (z + (-x)) = z + (-x) := by unfold wrap64; omega
              rw [w1, w2]
              omega), IZ⟩
            case measure => simp [intOf]; omega
          · have LF := Lib.hid (LN.out cy)
            have E : Hid (Tm.weighC ws s o = false) := Lib.hid (by rw [Tm.weighC, LF.out]; simp)
            rcases Int.lt_or_le y 0 with y0 | y0
            · clear cy LN IY
              go_wp2
              go_ret2
              exact ⟨NO.out E.out, DN.out⟩
            · have y1 : (ws.length : Int) ≤ y := by omega
              clear cy LN IY
              go_wp2
              go_ret2
              exact ⟨NO.out E.out, DN.out⟩
        · obtain rfl : k = o.length := by omega
          have LO2 := Lib.hid (Tm.linesOk_of IN.out)
          have SZ2 : Hid (Tm.coinsIn ws = true → z = Tm.panW ws s - Tm.panW ws o) := Lib.hid SZ.out
          go_wp2_with fail
          rw [rounds_succ]
          go_wp2
          go_loop [52] (fun i => ∃ k : Nat, k ≤ ws.length ∧ i = .int .i64 k ∧ Hid (∀ j, j < k → Tm.inB (ws.getD j 0) 0 1000000 = true)) (fun i => ws.length - (intOf i).toNat)
          case atStart => exact ⟨0, by omega, rfl, Lib.hid (fun j hj => by omega)⟩
          case round =>
            obtain ⟨k, hk, rfl, IB⟩ := hrel
            by_cases hlt : k < ws.length
            · rcases J0.out.2.2.2 with e0 | ⟨b0, o0, rfl, hbl0, hc0⟩
              · omega
              have cw := hc0 k hlt
              have mem : ws.getD k 0 ∈ ws := by rw [← getD_at ws k hlt]; exact List.getElem_mem hlt
              have BB : Hid (Tm.inB (ws.getD k 0) 0 1000000 = true → ∀ j, j < k + 1 → Tm.inB (ws.getD j 0) 0 1000000 = true) := Lib.hid fun h j hj => by
                by_cases e : j = k
                · subst e; exact h
                · exact IB.out j (by omega)
              have CN : Hid (Tm.inB (ws.getD k 0) 0 1000000 = false → Tm.coinsIn ws = false) := Lib.hid fun h => by
                rw [Tm.coinsIn, List.all_eq_false]; exact ⟨_, mem, by rw [h]; simp⟩
              obtain ⟨x, hx⟩ : ∃ x, x = ws.getD k 0 := ⟨_, rfl⟩
              rw [← hx] at cw BB CN
              clear hc0 mem hx
              cases hb : Tm.inB x 0 1000000 with
              | true =>
                have B2 := Lib.hid (BB.out hb)
                go_wp2_with ((go_at_call 73; refine (sIn _ _ _ _).mono ?_; rintro e w1 ⟨rfl, rfl⟩))
                go_round
                case rel => exact ⟨k + 1, by omega, by go_num, B2⟩
                case measure => simp [intOf]; omega
              | false =>
                have E : Hid (Tm.weighC ws s o = false) := Lib.hid (by rw [Tm.weighC, CN.out hb]; rfl)
                go_wp2_with ((go_at_call 73; refine (sIn _ _ _ _).mono ?_; rintro e w1 ⟨rfl, rfl⟩))
                go_ret2
                exact ⟨NO.out E.out, DN.out⟩
            · obtain rfl : k = ws.length := by omega
              have CI : Hid (Tm.coinsIn ws = true) := Lib.hid (by
                rw [Tm.coinsIn, List.all_eq_true]
                intro x hx
                obtain ⟨j, hj, rfl⟩ := List.mem_iff_getElem.1 hx
                rw [getD_at ws j hj]; exact IB.out j hj)
              have E : Hid (Tm.weighC ws s o = true) := Lib.hid (by rw [Tm.weighC, CI.out, LO1.out, LO2.out]; rfl)
              have E2 : Hid (Tm.weighed ws s o = Tm.sgn z) := Lib.hid (by rw [Tm.weighed, E.out, if_pos rfl, SZ2.out CI.out])
              go_wp2_with ((go_at_call 92; refine (sSignOf _ _).mono ?_; rintro e w1 ⟨rfl, rfl⟩))
              go_ret2
              exact ⟨by rw [E.out, E2.out]; rfl, DN.out⟩
end Go.Proofs.Yteklgngooflhlaa

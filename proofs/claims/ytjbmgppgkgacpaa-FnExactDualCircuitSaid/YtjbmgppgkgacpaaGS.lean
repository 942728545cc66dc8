/- The model's circuits: what is valid, the lines, the outputs, the depth. -/
import Derived.Test.YtjbmgppgkgacpaaGRow
namespace Go.Proofs.Ytjbmgppgkgacpaa
set_option maxRecDepth 20000
open Go.RowKit
set_option maxHeartbeats 2000000 in
theorem sIsCircuit (k : Int) (a : Option Addr) (n c : Nat) (L : List (Nat → Int)) (b : Option Addr) (m d : Nat) (o : List Int) (w : World) (h : Cs w a n c L b m d o) : Calls Try.prog 42 #[circV k a n c b m d] w fun r w' => r = .returned (.bool (Tm.isCirc k L o)) ∧ Below w.heap.size w w' := by
  have H := Lib.hid h
  obtain rfl : L.length = n := h.1.1
  obtain rfl : o.length = m := h.2.1
  have hc1 := h.1.2.1
  have hc2 := h.1.2.2.1
  have hd1 := h.2.2.1
  have hd2 := h.2.2.2.1
  unfold maxLen at hc2 hd2
  clear h
  by_cases hk : Tm.inB k 0 8 = true
  · by_cases hn : L.length ≤ 60
    · by_cases hm : o.length ≤ 60
      · have hk' := (Tm.inB_iff _ _ _).1 hk
        obtain ⟨k1, k2⟩ := hk'
        have IC : Hid (Tm.isCirc k L o = (Tm.gatesOk (3 + k) L && Tm.linesOk (3 + k + (L.length : Int)) o)) := Lib.hid (by rw [Tm.isCirc, hk, decide_eq_true hn, decide_eq_true hm]; simp)
        have SI := Lib.hid (fun w => sIn k 0 8 w)
        rw [hk] at SI
        clear hk
        go_enter Try.func42, Try.ntmps42
        go_wp2_with fail
        refine (SI.out _).mono ?_
        rintro r w' ⟨rfl, rfl⟩
        go_wp2
        go_loopw [30] (fun i wr => ∃ j : Nat, j ≤ L.length ∧ i = .int .i64 j ∧ Hid (∀ q, q < j → Tm.gateOk (3 + k + (q : Int)) (L.getD q Tm.g0) = true) ∧ Below (w.heap.size + 1) (w.alloc (.cells #[.int .i64 k, .slice a L.length c, .slice b o.length d] 25)) wr) (fun i _ => L.length - (intOf i).toNat)
        case atStart => exact ⟨0, by omega, rfl, Lib.hid (fun q hq => by omega), Below.refl _ _⟩
        case round =>
          obtain ⟨j, hj, rfl, GK, hb⟩ := hrel
          have hb0 : Below w.heap.size w wr := ((Below.refl w.heap.size w).alloc (Nat.le_refl _) _).trans (hb.mono (by omega))
          by_cases hlt : j < L.length
          · obtain ⟨-, -, -, y⟩ := H.out.1.below hb0
            rcases y with h0 | ⟨bb, oo, rfl, hbl, hc⟩
            · omega
            obtain ⟨g, hg, g1⟩ := Gs.gate hc hlt
            have GG := Lib.hid hg
            obtain ⟨p0, p1, p2, p3, p4, p5, p6, p7, p8, p9, p10⟩ := g1
            clear hg hc
            have hs := hb0.size
            have hs1 : w.heap.size + 1 ≤ wr.heap.size := by have := hb.size; rw [World.size_alloc] at this; exact this
            have OK : Hid (Tm.gateOk (3 + k + (j : Int)) g = (Tm.isTab g && Tm.inB (g 9) 0 (3 + k + (j : Int) - 1) && Tm.inB (g 10) 0 (3 + k + (j : Int) - 1))) := Lib.hid rfl
            have NO : Hid (Tm.gateOk (3 + k + (j : Int)) g = false → false = Tm.isCirc k L o) := Lib.hid fun e => by rw [IC.out, Tm.gatesOk_no hlt (by rw [← GG.out]; exact e)]; rfl
            have ST := Lib.hid (fun w => sIsTable g w)
            have S9 := Lib.hid (fun w => sIn (g 9) 0 (3 + k + (j : Int) - 1) w)
            have S10 := Lib.hid (fun w => sIn (g 10) 0 (3 + k + (j : Int) - 1) w)
            cases hT : Tm.isTab g with
            | false =>
              rw [hT] at ST OK
              clear hT
              go_wp2_with fail
              refine (ST.out _).mono ?_
              rintro r w1 ⟨rfl, hb1⟩
              obtain ⟨p, rfl⟩ := gw_of_below hb1
              clear hb1
              go_wp2
              go_ret
              exact ⟨ret_bool (NO.out (by rw [OK.out]; rfl)), by (repeat' (first | (with_reducible exact Below.refl _ _) | (with_reducible assumption) | (with_reducible refine below_drewN ?_ _) | (with_reducible refine Below.drew ?_) | (with_reducible refine Below.alloc ?_ ?_ _) | (with_reducible refine Below.setCell ?_ ?_ _) | (with_reducible refine below_gw ?_ ?_ _) | (with_reducible refine below_via ?_ ‹Below _ _ _› ?_) | (with_reducible exact Nat.le_refl _) | (with_reducible refine le_gw ?_ _) | (with_reducible refine le_alloc ?_ _) | (with_reducible refine le_setCell ?_ _ _) | (with_reducible refine le_drew ?_) | (with_reducible refine le_drewN ?_ _) | go_size))⟩
            | true =>
              rw [hT] at ST OK
              clear hT
              go_wp2_with fail
              refine (ST.out _).mono ?_
              rintro r w1 ⟨rfl, hb1⟩
              obtain ⟨p, rfl⟩ := gw_of_below hb1
              clear hb1
              go_wp2_with fail
              cases h9 : Tm.inB (g 9) 0 (3 + k + (j : Int) - 1) with
              | false =>
                rw [h9] at S9 OK
                clear h9
                refine (S9.out _).mono ?_
                rintro r w1 ⟨rfl, rfl⟩
                go_wp2
                go_ret
                exact ⟨ret_bool (NO.out (by rw [OK.out]; rfl)), by (repeat' (first | (with_reducible exact Below.refl _ _) | (with_reducible assumption) | (with_reducible refine below_drewN ?_ _) | (with_reducible refine Below.drew ?_) | (with_reducible refine Below.alloc ?_ ?_ _) | (with_reducible refine Below.setCell ?_ ?_ _) | (with_reducible refine below_gw ?_ ?_ _) | (with_reducible refine below_via ?_ ‹Below _ _ _› ?_) | (with_reducible exact Nat.le_refl _) | (with_reducible refine le_gw ?_ _) | (with_reducible refine le_alloc ?_ _) | (with_reducible refine le_setCell ?_ _ _) | (with_reducible refine le_drew ?_) | (with_reducible refine le_drewN ?_ _) | go_size))⟩
              | true =>
                rw [h9] at S9 OK
                clear h9
                refine (S9.out _).mono ?_
                rintro r w1 ⟨rfl, rfl⟩
                go_wp2_with fail
                cases h10 : Tm.inB (g 10) 0 (3 + k + (j : Int) - 1) with
                | false =>
                  rw [h10] at S10 OK
                  clear h10
                  refine (S10.out _).mono ?_
                  rintro r w1 ⟨rfl, rfl⟩
                  go_wp2
                  go_ret
                  exact ⟨ret_bool (NO.out (by rw [OK.out]; rfl)), by (repeat' (first | (with_reducible exact Below.refl _ _) | (with_reducible assumption) | (with_reducible refine below_drewN ?_ _) | (with_reducible refine Below.drew ?_) | (with_reducible refine Below.alloc ?_ ?_ _) | (with_reducible refine Below.setCell ?_ ?_ _) | (with_reducible refine below_gw ?_ ?_ _) | (with_reducible refine below_via ?_ ‹Below _ _ _› ?_) | (with_reducible exact Nat.le_refl _) | (with_reducible refine le_gw ?_ _) | (with_reducible refine le_alloc ?_ _) | (with_reducible refine le_setCell ?_ _ _) | (with_reducible refine le_drew ?_) | (with_reducible refine le_drewN ?_ _) | go_size))⟩
                | true =>
                  rw [h10] at S10 OK
                  clear h10
                  refine (S10.out _).mono ?_
                  rintro r w1 ⟨rfl, rfl⟩
                  have GK2 : Hid (∀ q, q < j + 1 → Tm.gateOk (3 + k + (q : Int)) (L.getD q Tm.g0) = true) := Lib.hid fun q hq => by
                    by_cases e : q = j
                    · subst e; rw [← GG.out, OK.out]; rfl
                    · exact GK.out q (by omega)
                  clear GK OK
                  go_wp2
                  go_roundw
                  case rel => exact ⟨j + 1, by omega, by go_num, GK2, below_gw (hb.alloc hs1 _) (le_alloc hs1 _) _⟩
                  case measure => simp [intOf]; omega
          · obtain rfl : j = L.length := by omega
            have IC2 : Hid (Tm.isCirc k L o = Tm.linesOk (3 + k + (L.length : Int)) o) := Lib.hid (by rw [IC.out, Tm.gatesOk_of GK.out]; rfl)
            have bx1 : wr.cell? ⟨w.heap.size, 1, none⟩ = some (.slice a L.length c) := by rw [hb.cell (p := ⟨w.heap.size, 1, none⟩) (by simp)]; simp
            have bx2 : wr.cell? ⟨w.heap.size, 2, none⟩ = some (.slice b o.length d) := by rw [hb.cell (p := ⟨w.heap.size, 2, none⟩) (by simp)]; simp
            clear GK IC
            go_wp2
            clear bx1 bx2
            go_loopw [63] (fun i wr => ∃ j : Nat, j ≤ o.length ∧ i = .int .i64 j ∧ Hid (∀ q, q < j → 0 ≤ o.getD q 0 ∧ o.getD q 0 < 3 + k + (L.length : Int)) ∧ Below (w.heap.size + 1) (w.alloc (.cells #[.int .i64 k, .slice a L.length c, .slice b o.length d] 25)) wr) (fun i _ => o.length - (intOf i).toNat)
            case atStart => exact ⟨0, by omega, rfl, Lib.hid (fun q hq => by omega), hb⟩
            case round =>
              clear hb hb0
              obtain ⟨j, hj, rfl, GK, hb⟩ := hrel
              have hb0 : Below w.heap.size w wr := ((Below.refl w.heap.size w).alloc (Nat.le_refl _) _).trans (hb.mono (by omega))
              have bx : wr.cell? ⟨w.heap.size, 1, none⟩ = some (.slice a L.length c) := by rw [hb.cell (p := ⟨w.heap.size, 1, none⟩) (by simp)]; simp
              by_cases hlt : j < o.length
              · obtain ⟨-, -, -, y⟩ := H.out.2.below hb0
                rcases y with h0 | ⟨bb, oo, rfl, hbl, hc⟩
                · omega
                have c1 := hc j hlt
                obtain ⟨x, hx⟩ : ∃ x, x = o.getD j 0 := ⟨_, rfl⟩
                rw [← hx] at c1
                have XX := Lib.hid hx
                clear hx hc
                have SX := Lib.hid (fun w => sIn x 0 (3 + k + (L.length : Int) - 1) w)
                go_wp2_with fail
                cases hX : Tm.inB x 0 (3 + k + (L.length : Int) - 1) with
                | false =>
                  have := (Tm.inB_no _ _ _).1 hX
                  rw [hX] at SX
                  have NO : Hid (false = Tm.isCirc k L o) := Lib.hid (by rw [IC2.out, Tm.linesOk_no hlt (by rw [← XX.out]; omega)])
                  clear hX this
                  refine (SX.out _).mono ?_
                  rintro r w1 ⟨rfl, rfl⟩
                  go_wp2
                  go_ret
                  exact ⟨ret_bool NO.out, hb0⟩
                | true =>
                  have hX2 := (Tm.inB_iff _ _ _).1 hX
                  rw [hX] at SX
                  have GK2 : Hid (∀ q, q < j + 1 → 0 ≤ o.getD q 0 ∧ o.getD q 0 < 3 + k + (L.length : Int)) := Lib.hid fun q hq => by
                    by_cases e : q = j
                    · subst e; rw [← XX.out]; omega
                    · exact GK.out q (by omega)
                  clear hX hX2 GK
                  refine (SX.out _).mono ?_
                  rintro r w1 ⟨rfl, rfl⟩
                  go_wp2
                  go_roundw
                  case rel => exact ⟨j + 1, by omega, by go_num, GK2, hb⟩
                  case measure => simp [intOf]; omega
              · obtain rfl : j = o.length := by omega
                go_wp2
                go_ret
                exact ⟨ret_bool (by rw [IC2.out, Tm.linesOk_of GK.out]), hb0⟩
      · have NO : Hid (false = Tm.isCirc k L o) := Lib.hid (by rw [Tm.isCirc, decide_eq_false hm]; simp)
        have SI := Lib.hid (fun w => sIn k 0 8 w)
        rw [hk] at SI
        clear hk
        go_enter Try.func42, Try.ntmps42
        go_wp2_with fail
        refine (SI.out _).mono ?_
        rintro r w' ⟨rfl, rfl⟩
        go_wp2
        go_ret
        exact ⟨ret_bool NO.out, by (repeat' (first | (with_reducible exact Below.refl _ _) | (with_reducible assumption) | (with_reducible refine below_drewN ?_ _) | (with_reducible refine Below.drew ?_) | (with_reducible refine Below.alloc ?_ ?_ _) | (with_reducible refine Below.setCell ?_ ?_ _) | (with_reducible refine below_gw ?_ ?_ _) | (with_reducible refine below_via ?_ ‹Below _ _ _› ?_) | (with_reducible exact Nat.le_refl _) | (with_reducible refine le_gw ?_ _) | (with_reducible refine le_alloc ?_ _) | (with_reducible refine le_setCell ?_ _ _) | (with_reducible refine le_drew ?_) | (with_reducible refine le_drewN ?_ _) | go_size))⟩
    · have NO : Hid (false = Tm.isCirc k L o) := Lib.hid (by rw [Tm.isCirc, decide_eq_false hn]; simp)
      have SI := Lib.hid (fun w => sIn k 0 8 w)
      rw [hk] at SI
      clear hk
      go_enter Try.func42, Try.ntmps42
      go_wp2_with fail
      refine (SI.out _).mono ?_
      rintro r w' ⟨rfl, rfl⟩
      go_wp2
      go_ret
      exact ⟨ret_bool NO.out, by (repeat' (first | (with_reducible exact Below.refl _ _) | (with_reducible assumption) | (with_reducible refine below_drewN ?_ _) | (with_reducible refine Below.drew ?_) | (with_reducible refine Below.alloc ?_ ?_ _) | (with_reducible refine Below.setCell ?_ ?_ _) | (with_reducible refine below_gw ?_ ?_ _) | (with_reducible refine below_via ?_ ‹Below _ _ _› ?_) | (with_reducible exact Nat.le_refl _) | (with_reducible refine le_gw ?_ _) | (with_reducible refine le_alloc ?_ _) | (with_reducible refine le_setCell ?_ _ _) | (with_reducible refine le_drew ?_) | (with_reducible refine le_drewN ?_ _) | go_size))⟩
  · simp only [Bool.not_eq_true] at hk
    have NO : Hid (false = Tm.isCirc k L o) := Lib.hid (by rw [Tm.isCirc, hk]; simp)
    have SI := Lib.hid (fun w => sIn k 0 8 w)
    rw [hk] at SI
    clear hk
    go_enter Try.func42, Try.ntmps42
    go_wp2_with fail
    refine (SI.out _).mono ?_
    rintro r w' ⟨rfl, rfl⟩
    go_wp2
    go_ret
    exact ⟨ret_bool NO.out, by (repeat' (first | (with_reducible exact Below.refl _ _) | (with_reducible assumption) | (with_reducible refine below_drewN ?_ _) | (with_reducible refine Below.drew ?_) | (with_reducible refine Below.alloc ?_ ?_ _) | (with_reducible refine Below.setCell ?_ ?_ _) | (with_reducible refine below_gw ?_ ?_ _) | (with_reducible refine below_via ?_ ‹Below _ _ _› ?_) | (with_reducible exact Nat.le_refl _) | (with_reducible refine le_gw ?_ _) | (with_reducible refine le_alloc ?_ _) | (with_reducible refine le_setCell ?_ _ _) | (with_reducible refine le_drew ?_) | (with_reducible refine le_drewN ?_ _) | go_size))⟩
end Go.Proofs.Ytjbmgppgkgacpaa

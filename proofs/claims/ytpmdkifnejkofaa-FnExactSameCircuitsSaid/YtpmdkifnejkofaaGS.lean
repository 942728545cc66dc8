/- The model's circuits: what is valid, the lines, the outputs, the depth. -/
import Derived.Test.YtpmdkifnejkofaaGRow
namespace Go.Proofs.Ytpmdkifnejkofaa
set_option maxRecDepth 20000
open Go.RowKit
set_option maxHeartbeats 2000000 in
theorem sIsCircuit (k : Int) (a : Option Addr) (n c : Nat) (L : List (Nat → Int)) (b : Option Addr) (m d : Nat) (o : List Int) (w : World) (h : Cs w a n c L b m d o) : Calls Try.prog 9 #[circV k a n c b m d] w fun r w' => r = .returned (.bool (Tm.isCirc k L o)) ∧ Below w.heap.size w w' := by
  have H := Lib.hid h
  obtain rfl : L.length = n := h.1.1
  obtain rfl : o.length = m := h.2.1
  have hc1 := h.1.2.1
  have hc2 := h.1.2.2.1
  have hd1 := h.2.2.1
  have hd2 := h.2.2.2.1
  unfold maxLen at hc2 hd2
  clear h
  by_cases hk : Tm.inB k 0 8 = true
  · by_cases hn : L.length ≤ 60
    · by_cases hm : o.length ≤ 60
      · have hk' := (Tm.inB_iff _ _ _).1 hk
        obtain ⟨k1, k2⟩ := hk'
        have IC : Hid (Tm.isCirc k L o = (Tm.gatesOk (3 + k) L && Tm.linesOk (3 + k + (L.length : Int)) o)) := Lib.hid (by rw [Tm.isCirc, hk, decide_eq_true hn, decide_eq_true hm]; simp)
        have SI := Lib.hid (fun w => sIn k 0 8 w)
        rw [hk] at SI
        clear hk
        go_enter Try.func9, Try.ntmps9
        go_wp2_with fail
        refine (SI.out _).mono ?_
        rintro r w' ⟨rfl, rfl⟩
        go_wp2
        go_loopw [30] (fun i wr => ∃ j : Nat, j ≤ L.length ∧ i = .int .i64 j ∧ Hid (∀ q, q < j → Tm.gateOk (3 + k + (q : Int)) (L.getD q Tm.g0) = true) ∧ Below (w.heap.size + 1) (w.alloc (.cells #[.int .i64 k, .slice a L.length c, .slice b o.length d] 30)) wr) (fun i _ => L.length - (intOf i).toNat)
        case atStart => exact ⟨0, by omega, rfl, Lib.hid (fun q hq => by omega), Below.refl _ _⟩
        case round =>
          obtain ⟨j, hj, rfl, GK, hb⟩ := hrel
          have hb0 : Below w.heap.size w wr := ((Below.refl w.heap.size w).alloc (Nat.le_refl _) _).trans (hb.mono (by omega))
          by_cases hlt : j < L.length
          · obtain ⟨-, -, -, y⟩ := H.out.1.below hb0
            rcases y with h0 | ⟨bb, oo, rfl, hbl, hc⟩
            · omega
            obtain ⟨g, hg, g1⟩ := Gs.gate hc hlt
            have GG := Lib.hid hg
            obtain ⟨p0, p1, p2, p3, p4, p5, p6, p7, p8, p9, p10⟩ := g1
            clear hg hc
            have hs := hb0.size
            have hs1 : w.heap.size + 1 ≤ wr.heap.size := by have := hb.size; rw [World.size_alloc] at this; exact this
            have OK : Hid (Tm.gateOk (3 + k + (j : Int)) g = (Tm.isTab g && Tm.inB (g 9) 0 (3 + k + (j : Int) - 1) && Tm.inB (g 10) 0 (3 + k + (j : Int) - 1))) := Lib.hid rfl
            have NO : Hid (Tm.gateOk (3 + k + (j : Int)) g = false → false = Tm.isCirc k L o) := Lib.hid fun e => by rw [IC.out, Tm.gatesOk_no hlt (by rw [← GG.out]; exact e)]; rfl
            have ST := Lib.hid (fun w => sIsTable g w)
            have S9 := Lib.hid (fun w => sIn (g 9) 0 (3 + k + (j : Int) - 1) w)
            have S10 := Lib.hid (fun w => sIn (g 10) 0 (3 + k + (j : Int) - 1) w)
            cases hT : Tm.isTab g with
            | false =>
              rw [hT] at ST OK
              clear hT
              go_wp2_with fail
              refine (ST.out _).mono ?_
              rintro r w1 ⟨rfl, hb1⟩
              obtain ⟨p, rfl⟩ := gw_of_below hb1
              clear hb1
              go_wp2
              go_ret
              exact ⟨ret_bool (NO.out (by rw [OK.out]; rfl)), by (repeat' (first | (with_reducible exact Below.refl _ _) | (with_reducible assumption) | (with_reducible refine below_drewN ?_ _) | (with_reducible refine Below.drew ?_) | (with_reducible refine Below.alloc ?_ ?_ _) | (with_reducible refine Below.setCell ?_ ?_ _) | (with_reducible refine below_gw ?_ ?_ _) | (with_reducible refine below_via ?_ ‹Below _ _ _› ?_) | (with_reducible exact Nat.le_refl _) | (with_reducible refine le_gw ?_ _) | (with_reducible refine le_alloc ?_ _) | (with_reducible refine le_setCell ?_ _ _) | (with_reducible refine le_drew ?_) | (with_reducible refine le_drewN ?_ _) | go_size))⟩
            | true =>
              rw [hT] at ST OK
              clear hT
              go_wp2_with fail
              refine (ST.out _).mono ?_
              rintro r w1 ⟨rfl, hb1⟩
              obtain ⟨p, rfl⟩ := gw_of_below hb1
              clear hb1
              go_wp2_with fail
              cases h9 : Tm.inB (g 9) 0 (3 + k + (j : Int) - 1) with
              | false =>
                rw [h9] at S9 OK
                clear h9
                refine (S9.out _).mono ?_
                rintro r w1 ⟨rfl, rfl⟩
                go_wp2
                go_ret
                exact ⟨ret_bool (NO.out (by rw [OK.out]; rfl)), by (repeat' (first | (with_reducible exact Below.refl _ _) | (with_reducible assumption) | (with_reducible refine below_drewN ?_ _) | (with_reducible refine Below.drew ?_) | (with_reducible refine Below.alloc ?_ ?_ _) | (with_reducible refine Below.setCell ?_ ?_ _) | (with_reducible refine below_gw ?_ ?_ _) | (with_reducible refine below_via ?_ ‹Below _ _ _› ?_) | (with_reducible exact Nat.le_refl _) | (with_reducible refine le_gw ?_ _) | (with_reducible refine le_alloc ?_ _) | (with_reducible refine le_setCell ?_ _ _) | (with_reducible refine le_drew ?_) | (with_reducible refine le_drewN ?_ _) | go_size))⟩
              | true =>
                rw [h9] at S9 OK
                clear h9
                refine (S9.out _).mono ?_
                rintro r w1 ⟨rfl, rfl⟩
                go_wp2_with fail
                cases h10 : Tm.inB (g 10) 0 (3 + k + (j : Int) - 1) with
                | false =>
                  rw [h10] at S10 OK
                  clear h10
                  refine (S10.out _).mono ?_
                  rintro r w1 ⟨rfl, rfl⟩
                  go_wp2
                  go_ret
                  exact ⟨ret_bool (NO.out (by rw [OK.out]; rfl)), by (repeat' (first | (with_reducible exact Below.refl _ _) | (with_reducible assumption) | (with_reducible refine below_drewN ?_ _) | (with_reducible refine Below.drew ?_) | (with_reducible refine Below.alloc ?_ ?_ _) | (with_reducible refine Below.setCell ?_ ?_ _) | (with_reducible refine below_gw ?_ ?_ _) | (with_reducible refine below_via ?_ ‹Below _ _ _› ?_) | (with_reducible exact Nat.le_refl _) | (with_reducible refine le_gw ?_ _) | (with_reducible refine le_alloc ?_ _) | (with_reducible refine le_setCell ?_ _ _) | (with_reducible refine le_drew ?_) | (with_reducible refine le_drewN ?_ _) | go_size))⟩
                | true =>
                  rw [h10] at S10 OK
                  clear h10
                  refine (S10.out _).mono ?_
                  rintro r w1 ⟨rfl, rfl⟩
                  have GK2 : Hid (∀ q, q < j + 1 → Tm.gateOk (3 + k + (q : Int)) (L.getD q Tm.g0) = true) := Lib.hid fun q hq => by
                    by_cases e : q = j
                    · subst e; rw [← GG.out, OK.out]; rfl
                    · exact GK.out q (by omega)
                  clear GK OK
                  go_wp2
                  go_roundw
                  case rel => exact ⟨j + 1, by omega, by go_num, GK2, below_gw (hb.alloc hs1 _) (le_alloc hs1 _) _⟩
                  case measure => simp [intOf]; omega
          · obtain rfl : j = L.length := by omega
            have IC2 : Hid (Tm.isCirc k L o = Tm.linesOk (3 + k + (L.length : Int)) o) := Lib.hid (by rw [IC.out, Tm.gatesOk_of GK.out]; rfl)
            have bx1 : wr.cell? ⟨w.heap.size, 1, none⟩ = some (.slice a L.length c) := by rw [hb.cell (p := ⟨w.heap.size, 1, none⟩) (by simp)]; simp
            have bx2 : wr.cell? ⟨w.heap.size, 2, none⟩ = some (.slice b o.length d) := by rw [hb.cell (p := ⟨w.heap.size, 2, none⟩) (by simp)]; simp
            clear GK IC
            go_wp2
            clear bx1 bx2
            go_loopw [63] (fun i wr => ∃ j : Nat, j ≤ o.length ∧ i = .int .i64 j ∧ Hid (∀ q, q < j → 0 ≤ o.getD q 0 ∧ o.getD q 0 < 3 + k + (L.length : Int)) ∧ Below (w.heap.size + 1) (w.alloc (.cells #[.int .i64 k, .slice a L.length c, .slice b o.length d] 30)) wr) (fun i _ => o.length - (intOf i).toNat)
            case atStart => exact ⟨0, by omega, rfl, Lib.hid (fun q hq => by omega), hb⟩
            case round =>
              clear hb hb0
              obtain ⟨j, hj, rfl, GK, hb⟩ := hrel
              have hb0 : Below w.heap.size w wr := ((Below.refl w.heap.size w).alloc (Nat.le_refl _) _).trans (hb.mono (by omega))
              have bx : wr.cell? ⟨w.heap.size, 1, none⟩ = some (.slice a L.length c) := by rw [hb.cell (p := ⟨w.heap.size, 1, none⟩) (by simp)]; simp
              by_cases hlt : j < o.length
              · obtain ⟨-, -, -, y⟩ := H.out.2.below hb0
                rcases y with h0 | ⟨bb, oo, rfl, hbl, hc⟩
                · omega
                have c1 := hc j hlt
                obtain ⟨x, hx⟩ : ∃ x, x = o.getD j 0 := ⟨_, rfl⟩
                rw [← hx] at c1
                have XX := Lib.hid hx
                clear hx hc
                have SX := Lib.hid (fun w => sIn x 0 (3 + k + (L.length : Int) - 1) w)
                go_wp2_with fail
                cases hX : Tm.inB x 0 (3 + k + (L.length : Int) - 1) with
                | false =>
                  have := (Tm.inB_no _ _ _).1 hX
                  rw [hX] at SX
                  have NO : Hid (false = Tm.isCirc k L o) := Lib.hid (by rw [IC2.out, Tm.linesOk_no hlt (by rw [← XX.out]; omega)])
                  clear hX this
                  refine (SX.out _).mono ?_
                  rintro r w1 ⟨rfl, rfl⟩
                  go_wp2
                  go_ret
                  exact ⟨ret_bool NO.out, hb0⟩
                | true =>
                  have hX2 := (Tm.inB_iff _ _ _).1 hX
                  rw [hX] at SX
                  have GK2 : Hid (∀ q, q < j + 1 → 0 ≤ o.getD q 0 ∧ o.getD q 0 < 3 + k + (L.length : Int)) := Lib.hid fun q hq => by
                    by_cases e : q = j
                    · subst e; rw [← XX.out]; omega
                    · exact GK.out q (by omega)
                  clear hX hX2 GK
                  refine (SX.out _).mono ?_
                  rintro r w1 ⟨rfl, rfl⟩
                  go_wp2
                  go_roundw
                  case rel => exact ⟨j + 1, by omega, by go_num, GK2, hb⟩
                  case measure => simp [intOf]; omega
              · obtain rfl : j = o.length := by omega
                go_wp2
                go_ret
                exact ⟨ret_bool (by rw [IC2.out, Tm.linesOk_of GK.out]), hb0⟩
      · have NO : Hid (false = Tm.isCirc k L o) := Lib.hid (by rw [Tm.isCirc, decide_eq_false hm]; simp)
        have SI := Lib.hid (fun w => sIn k 0 8 w)
        rw [hk] at SI
        clear hk
        go_enter Try.func9, Try.ntmps9
        go_wp2_with fail
        refine (SI.out _).mono ?_
        rintro r w' ⟨rfl, rfl⟩
        go_wp2
        go_ret
        exact ⟨ret_bool NO.out, by (repeat' (first | (with_reducible exact Below.refl _ _) | (with_reducible assumption) | (with_reducible refine below_drewN ?_ _) | (with_reducible refine Below.drew ?_) | (with_reducible refine Below.alloc ?_ ?_ _) | (with_reducible refine Below.setCell ?_ ?_ _) | (with_reducible refine below_gw ?_ ?_ _) | (with_reducible refine below_via ?_ ‹Below _ _ _› ?_) | (with_reducible exact Nat.le_refl _) | (with_reducible refine le_gw ?_ _) | (with_reducible refine le_alloc ?_ _) | (with_reducible refine le_setCell ?_ _ _) | (with_reducible refine le_drew ?_) | (with_reducible refine le_drewN ?_ _) | go_size))⟩
    · have NO : Hid (false = Tm.isCirc k L o) := Lib.hid (by rw [Tm.isCirc, decide_eq_false hn]; simp)
      have SI := Lib.hid (fun w => sIn k 0 8 w)
      rw [hk] at SI
      clear hk
      go_enter Try.func9, Try.ntmps9
      go_wp2_with fail
      refine (SI.out _).mono ?_
      rintro r w' ⟨rfl, rfl⟩
      go_wp2
      go_ret
      exact ⟨ret_bool NO.out, by (repeat' (first | (with_reducible exact Below.refl _ _) | (with_reducible assumption) | (with_reducible refine below_drewN ?_ _) | (with_reducible refine Below.drew ?_) | (with_reducible refine Below.alloc ?_ ?_ _) | (with_reducible refine Below.setCell ?_ ?_ _) | (with_reducible refine below_gw ?_ ?_ _) | (with_reducible refine below_via ?_ ‹Below _ _ _› ?_) | (with_reducible exact Nat.le_refl _) | (with_reducible refine le_gw ?_ _) | (with_reducible refine le_alloc ?_ _) | (with_reducible refine le_setCell ?_ _ _) | (with_reducible refine le_drew ?_) | (with_reducible refine le_drewN ?_ _) | go_size))⟩
  · simp only [Bool.not_eq_true] at hk
    have NO : Hid (false = Tm.isCirc k L o) := Lib.hid (by rw [Tm.isCirc, hk]; simp)
    have SI := Lib.hid (fun w => sIn k 0 8 w)
    rw [hk] at SI
    clear hk
    go_enter Try.func9, Try.ntmps9
    go_wp2_with fail
    refine (SI.out _).mono ?_
    rintro r w' ⟨rfl, rfl⟩
    go_wp2
    go_ret
    exact ⟨ret_bool NO.out, by (repeat' (first | (with_reducible exact Below.refl _ _) | (with_reducible assumption) | (with_reducible refine below_drewN ?_ _) | (with_reducible refine Below.drew ?_) | (with_reducible refine Below.alloc ?_ ?_ _) | (with_reducible refine Below.setCell ?_ ?_ _) | (with_reducible refine below_gw ?_ ?_ _) | (with_reducible refine below_via ?_ ‹Below _ _ _› ?_) | (with_reducible exact Nat.le_refl _) | (with_reducible refine le_gw ?_ _) | (with_reducible refine le_alloc ?_ _) | (with_reducible refine le_setCell ?_ _ _) | (with_reducible refine le_drew ?_) | (with_reducible refine le_drewN ?_ _) | go_size))⟩
set_option maxHeartbeats 4000000 in
theorem sDepthOf (k : Int) (a : Option Addr) (n c : Nat) (L : List (Nat → Int)) (b : Option Addr) (m d : Nat) (o : List Int) (w : World) (h : Cs w a n c L b m d o) : Calls Try.prog 22 #[circV k a n c b m d] w fun r w' => r = .returned (.int .i64 (Tm.depth k L o)) ∧ Below w.heap.size w w' := by
  obtain ⟨i0, hi, hz0, hz1, hz2⟩ := info_parts infoInt
  have H := Lib.hid h
  obtain rfl : L.length = n := h.1.1
  obtain rfl : o.length = m := h.2.1
  have hc1 := h.1.2.1
  have hc2 := h.1.2.2.1
  unfold maxLen at hc2
  have IS := Lib.hid (fun (w : World) h => sIsCircuit k a L.length c L b o.length d o w h)
  clear h
  cases hC : Tm.isCirc k L o with
  | false =>
    rw [hC] at IS
    have DP : Tm.depth k L o = 0 := by rw [Tm.depth, hC]; rfl
    rw [DP]
    clear hC DP
    go_enter Try.func22, Try.ntmps22
    go_wp2_with fail
    refine (IS.out _ (H.out.alloc _)).mono ?_
    rintro r w1 ⟨rfl, hb1⟩
    obtain ⟨p, rfl⟩ := gw_of_below hb1
    clear hb1
    go_wp2
    go_ret
    exact ⟨rfl, by (repeat' (first | (with_reducible exact Below.refl _ _) | (with_reducible assumption) | (with_reducible refine below_drewN ?_ _) | (with_reducible refine Below.drew ?_) | (with_reducible refine Below.alloc ?_ ?_ _) | (with_reducible refine Below.setCell ?_ ?_ _) | (with_reducible refine below_gw ?_ ?_ _) | (with_reducible refine below_via ?_ ‹Below _ _ _› ?_) | (with_reducible exact Nat.le_refl _) | (with_reducible refine le_gw ?_ _) | (with_reducible refine le_alloc ?_ _) | (with_reducible refine le_setCell ?_ _ _) | (with_reducible refine le_drew ?_) | (with_reducible refine le_drewN ?_ _) | go_size))⟩
  | true =>
    rw [hC] at IS
    have hCi := (Tm.isCirc_iff _ _ _).1 hC
    obtain ⟨⟨k1, k2⟩, hn, -⟩ := hCi
    obtain ⟨K, hK⟩ : ∃ K : Nat, K = (3 + k).toNat := ⟨_, rfl⟩
    have K1 : (K : Int) = 3 + k := by omega
    have K2 : K ≤ 11 := by omega
    have DP : Hid (Tm.depth k L o = Tm.mxl (Tm.deeps K L)) := Lib.hid (by rw [Tm.depth, hC, hK]; rfl)
    have GL : Hid (∀ j, j < L.length → ∀ g, g = L.getD j Tm.g0 → ∃ A B : Nat, g 9 = (A : Int) ∧ g 10 = (B : Int) ∧ A < K + j ∧ B < K + j ∧ Tm.isTab g = true) := Lib.hid fun j hj g hg => by rw [hK]; exact Tm.gate_lines hC hj hg
    clear hC hK
    go_enter Try.func22, Try.ntmps22
    go_wp2_with fail
    refine (IS.out _ (H.out.alloc _)).mono ?_
    rintro r w1 ⟨rfl, hb1⟩
    obtain ⟨p, rfl⟩ := gw_of_below hb1
    clear hb1
    go_wp2_with (at_make; refine wpList_make_full _ rfl _ _ 23 rfl (w.heap.size + 1) 3 i0 (.int .i64 0) 1 Try.underlying23 hi hz0 hz1 _ _ _ _ (K) rfl rfl (by first | rfl | omega) (by first | rfl | omega) (by rw [hz2]; omega) (by unfold maxLen; omega) (by first | go_size | (simp only [gw_size, World.size_alloc]; omega) | exact Nat.le_refl _ | omega) ?_)
    intro w1 hown hgrow
    have hb1 := (Below.refl (gw (w.alloc (.cells #[.int .i64 k, .slice a L.length c, .slice b o.length d] 30)) p).heap.size _).grown hgrow (Nat.le_refl _) (fun k hk => by cases hk)
    have HO : Hid (w1.ownsRow (w.heap.size + 1) 3 1 (.slice (some ⟨w.heap.size + 1 + p.os.size, 0, none⟩) K K) K ((Tm.deeps K (L.take 0)).map (Value.int .i64))) := Lib.hid (by
      rw [Tm.deeps_zero, List.map_replicate]; rw [toList_madeCells_one] at hown
      simpa using hown)
    obtain ⟨q, rfl⟩ := gw_of_below hb1
    clear hown hgrow hb1
    rw [gw_gw] at HO
    go_wp2_with fail
    go_loopw [3, 4, 18] (fun v ms i wr => ∃ j : Nat, j ≤ L.length ∧ i = .int .i64 j ∧ ms = .int .i64 (Tm.mxl (Tm.deeps K (L.take j))) ∧ Hid (∃ v', v' = v ∧ wr.ownsRow (w.heap.size + 1) 3 1 v' (K + j) ((Tm.deeps K (L.take j)).map (Value.int .i64))) ∧ Hid (∀ x ∈ Tm.deeps K (L.take j), 0 ≤ x ∧ x ≤ (j : Int)) ∧ Hid (Below w.heap.size w wr) ∧ w.heap.size + 1 ≤ wr.heap.size) (fun _ _ i _ => L.length - (intOf i).toNat)
    case atStart => exact ⟨0, by omega, rfl, by rw [Tm.deeps_zero, Tm.mxl_zeros], Lib.hid ⟨_, rfl, HO.out⟩, Lib.hid (by rw [Tm.deeps_zero]; intro x hx; rw [List.mem_replicate] at hx; omega), Lib.hid (by (repeat' (first | (with_reducible exact Below.refl _ _) | (with_reducible assumption) | (with_reducible refine below_drewN ?_ _) | (with_reducible refine Below.drew ?_) | (with_reducible refine Below.alloc ?_ ?_ _) | (with_reducible refine Below.setCell ?_ ?_ _) | (with_reducible refine below_gw ?_ ?_ _) | (with_reducible refine below_via ?_ ‹Below _ _ _› ?_) | (with_reducible exact Nat.le_refl _) | (with_reducible refine le_gw ?_ _) | (with_reducible refine le_alloc ?_ _) | (with_reducible refine le_setCell ?_ _ _) | (with_reducible refine le_drew ?_) | (with_reducible refine le_drewN ?_ _) | go_size))), by rw [gw_size, World.size_alloc]; omega⟩
    case round =>
      clear HO
      obtain ⟨j, hj, rfl, rfl, OO, BD, BB, hs0'⟩ := hrel
      have hs0 : w.heap.size ≤ wr.heap.size := by omega
      by_cases hlt : j < L.length
      · obtain ⟨v', rfl, ho⟩ := OO.out
        obtain ⟨gb, cap, rfl⟩ := own_shapeN ho (by omega)
        have HO := Lib.hid ho
        obtain ⟨-, -, -, y⟩ := H.out.1.below BB.out
        rcases y with h0 | ⟨bb, oo, rfl, hbl, hc⟩
        · omega
        obtain ⟨g, hg, g1⟩ := Gs.gate hc hlt
        obtain ⟨A, B, hA, hB, lA, lB, -⟩ := GL.out j hlt g hg
        obtain ⟨p0, p1, p2, p3, p4, p5, p6, p7, p8, p9, p10⟩ := g1
        rw [hA] at p9
        rw [hB] at p10
        obtain ⟨x, hx⟩ : ∃ x, x = (Tm.deeps K (L.take j)).getD A 0 := ⟨_, rfl⟩
        obtain ⟨y, hy⟩ : ∃ y, y = (Tm.deeps K (L.take j)).getD B 0 := ⟨_, rfl⟩
        have cx := own_get ho lA
        have cy := own_get ho lB
        have DL : (Tm.deeps K (L.take j)).length = K + j := by rw [Tm.deeps_length, List.length_take]; omega
        have bx := BD.out _ (Tm.getD_mem (i := A) (by omega))
        have bY := BD.out _ (Tm.getD_mem (i := B) (by omega))
        rw [← hx] at cx bx
        rw [← hy] at cy bY
        have DS : Hid (Tm.deeps K (L.take (j + 1)) = Tm.deeps K (L.take j) ++ [1 + max x y]) := Lib.hid (by rw [Tm.deeps_step K L hlt, ← hg, hA, hB, hx, hy]; rfl)
        have hbg := (HO.out.lt gb rfl).2
        have MB := Tm.mxl_le (xs := Tm.deeps K (L.take j)) (b := (j : Int)) (by omega) (fun x hx => (BD.out x hx).2)
        obtain ⟨M, hM⟩ : ∃ M, M = Tm.mxl (Tm.deeps K (L.take j)) := ⟨_, rfl⟩
        rw [← hM] at MB ⊢
        have HM := Lib.hid hM
        obtain ⟨bx1, bx2⟩ := bx
        obtain ⟨by1, by2⟩ := bY
        obtain ⟨m1, m2⟩ := MB
        clear hA hB hx hy hg hc DL ho OO hM
        rcases Int.lt_or_le x y with hl | hl
        · have hd : decide (x < y) = true := by simpa using hl
          go_wp2_with fail
          go_quiet (fail)
          have HLT := Lib.hid hl
          clear hl
          generalize hW : World.drewN _ _ = w2
          have hb2 : Below wr.heap.size wr w2 := by rw [← hW]; (repeat' (first | (with_reducible exact Below.refl _ _) | (with_reducible assumption) | (with_reducible refine below_drewN ?_ _) | (with_reducible refine Below.drew ?_) | (with_reducible refine Below.alloc ?_ ?_ _) | (with_reducible refine Below.setCell ?_ ?_ _) | (with_reducible refine below_gw ?_ ?_ _) | (with_reducible refine below_via ?_ ‹Below _ _ _› ?_) | (with_reducible exact Nat.le_refl _) | (with_reducible refine le_gw ?_ _) | (with_reducible refine le_alloc ?_ _) | (with_reducible refine le_setCell ?_ _ _) | (with_reducible refine le_drew ?_) | (with_reducible refine le_drewN ?_ _) | go_size))
          have HO2 := Lib.hid (own_below HO.out hb2)
          have hs2 := hb2.size
          clear hW HO
          go_wp2_with (at_builtin; refine wpList_append_own _ rfl _ _ 23 rfl (w.heap.size + 1) 3 i0 (.int .i64 0) 1 8 Try.underlying23 hi hz0 hz1 hz2 rfl (by decide) _ _ _ rfl (World.ownsRow.alloc HO2.out _) ⟨w2.heap.size, 0, none⟩ 1 1 [.int .i64 (1 + y)] rfl rfl (app_c1 (w2) (1 + y) _) (app_c2 _) (by unfold maxLen; omega) (by omega) (by simp; omega) ?_)
          intro v3 w3 hown' hgrow _
          have BB3 := Lib.hid (((BB.out.trans (hb2.mono hs0)).alloc (Nat.le_trans hs0 hs2) (.cells #[.int .i64 (1 + y)] 3)).grown hgrow (by simp; omega) (fun q hq => by have := (HO2.out.lt q hq).1; omega))
          have DS2 : Hid (Tm.deeps K (L.take (j + 1)) = Tm.deeps K (L.take j) ++ [1 + y]) := Lib.hid (by have hl := HLT.out; rw [DS.out, Int.max_def]; simp; omega)
          have O3 : Hid (∃ v', v' = v3 ∧ w3.ownsRow (w.heap.size + 1) 3 1 v' (K + (j + 1)) ((Tm.deeps K (L.take (j + 1))).map (Value.int .i64))) := Lib.hid ⟨_, rfl, by rw [DS2.out, List.map_append, show K + (j + 1) = K + j + 1 by omega]; exact hown'⟩
          have SZ3 : w2.heap.size ≤ w3.heap.size := Nat.le_trans (by rw [World.size_alloc]; omega) hgrow.size
          clear hown' hgrow HO2
          have HM2 : Hid (Tm.mxl (Tm.deeps K (L.take (j + 1))) = if M < 1 + y then 1 + y else M) := Lib.hid (by rw [DS2.out, Tm.mxl_snoc, ← HM.out, Int.max_def]; split <;> split <;> omega)
          have BD2 : Hid (∀ x ∈ Tm.deeps K (L.take (j + 1)), 0 ≤ x ∧ x ≤ ((j + 1 : Nat) : Int)) := Lib.hid (by
            rw [DS2.out]; intro x hx
            rcases List.mem_append.1 hx with hx | hx
            · have := BD.out x hx; omega
            · simp at hx; omega)
          have hs3 : w.heap.size + 1 ≤ w3.heap.size := Nat.le_trans hs0' (Nat.le_trans hs2 (by have := BB3.out.size; exact SZ3))
          clear DS DS2 BD BB
          go_wp2
          go_roundw
          case rel => exact ⟨j + 1, by omega, by go_num, by rw [HM2.out], O3, BD2, BB3, hs3⟩
          case measure => simp [intOf]; omega
        · have hd : decide (x < y) = false := by simpa using hl
          go_wp2_with fail
          go_quiet (fail)
          have HLT := Lib.hid hl
          clear hl
          generalize hW : World.drewN _ _ = w2
          have hb2 : Below wr.heap.size wr w2 := by rw [← hW]; (repeat' (first | (with_reducible exact Below.refl _ _) | (with_reducible assumption) | (with_reducible refine below_drewN ?_ _) | (with_reducible refine Below.drew ?_) | (with_reducible refine Below.alloc ?_ ?_ _) | (with_reducible refine Below.setCell ?_ ?_ _) | (with_reducible refine below_gw ?_ ?_ _) | (with_reducible refine below_via ?_ ‹Below _ _ _› ?_) | (with_reducible exact Nat.le_refl _) | (with_reducible refine le_gw ?_ _) | (with_reducible refine le_alloc ?_ _) | (with_reducible refine le_setCell ?_ _ _) | (with_reducible refine le_drew ?_) | (with_reducible refine le_drewN ?_ _) | go_size))
          have HO2 := Lib.hid (own_below HO.out hb2)
          have hs2 := hb2.size
          clear hW HO
          go_wp2_with (at_builtin; refine wpList_append_own _ rfl _ _ 23 rfl (w.heap.size + 1) 3 i0 (.int .i64 0) 1 8 Try.underlying23 hi hz0 hz1 hz2 rfl (by decide) _ _ _ rfl (World.ownsRow.alloc HO2.out _) ⟨w2.heap.size, 0, none⟩ 1 1 [.int .i64 (1 + x)] rfl rfl (app_c1 (w2) (1 + x) _) (app_c2 _) (by unfold maxLen; omega) (by omega) (by simp; omega) ?_)
          intro v3 w3 hown' hgrow _
          have BB3 := Lib.hid (((BB.out.trans (hb2.mono hs0)).alloc (Nat.le_trans hs0 hs2) (.cells #[.int .i64 (1 + x)] 3)).grown hgrow (by simp; omega) (fun q hq => by have := (HO2.out.lt q hq).1; omega))
          have DS2 : Hid (Tm.deeps K (L.take (j + 1)) = Tm.deeps K (L.take j) ++ [1 + x]) := Lib.hid (by have hl := HLT.out; rw [DS.out, Int.max_def]; simp; omega)
          have O3 : Hid (∃ v', v' = v3 ∧ w3.ownsRow (w.heap.size + 1) 3 1 v' (K + (j + 1)) ((Tm.deeps K (L.take (j + 1))).map (Value.int .i64))) := Lib.hid ⟨_, rfl, by rw [DS2.out, List.map_append, show K + (j + 1) = K + j + 1 by omega]; exact hown'⟩
          have SZ3 : w2.heap.size ≤ w3.heap.size := Nat.le_trans (by rw [World.size_alloc]; omega) hgrow.size
          clear hown' hgrow HO2
          have HM2 : Hid (Tm.mxl (Tm.deeps K (L.take (j + 1))) = if M < 1 + x then 1 + x else M) := Lib.hid (by rw [DS2.out, Tm.mxl_snoc, ← HM.out, Int.max_def]; split <;> split <;> omega)
          have BD2 : Hid (∀ x ∈ Tm.deeps K (L.take (j + 1)), 0 ≤ x ∧ x ≤ ((j + 1 : Nat) : Int)) := Lib.hid (by
            rw [DS2.out]; intro x hx
            rcases List.mem_append.1 hx with hx | hx
            · have := BD.out x hx; omega
            · simp at hx; omega)
          have hs3 : w.heap.size + 1 ≤ w3.heap.size := Nat.le_trans hs0' (Nat.le_trans hs2 (by have := BB3.out.size; exact SZ3))
          clear DS DS2 BD BB
          go_wp2
          go_roundw
          case rel => exact ⟨j + 1, by omega, by go_num, by rw [HM2.out], O3, BD2, BB3, hs3⟩
          case measure => simp [intOf]; omega
      · obtain rfl : j = L.length := by omega
        go_wp2
        go_ret
        exact ⟨ret_int (by rw [DP.out, Tm.deeps_all]), BB.out⟩
end Go.Proofs.Ytpmdkifnejkofaa

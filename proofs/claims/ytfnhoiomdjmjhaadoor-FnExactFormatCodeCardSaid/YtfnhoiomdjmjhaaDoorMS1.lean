/- The model's machine: numbers, names, programs and machines that are valid. -/
import Derived.Test.YtfnhoiomdjmjhaaDoorMRow
import Derived.Test.YtfnhoiomdjmjhaaDoorMMath
import Derived.Test.YtfnhoiomdjmjhaaDoorWS
namespace Go.Proofs.YtfnhoiomdjmjhaaDoor
set_option maxRecDepth 20000
open Go.RowKit
theorem sCell (n : Int) (w : World) : Calls Tryd.prog 23 #[.int .i64 n] w fun e w' => e = .returned (.bool (Tm.inB n (-9841) 9841)) ∧ w = w' := by
  have SI := Lib.hid (fun w => sIn n (-9841) 9841 w)
  go_enter Tryd.func23, Tryd.ntmps23
  go_wp2_with fail
  refine (SI.out _).mono ?_
  rintro e w' ⟨rfl, rfl⟩
  go_wp2
  go_ret
  exact ⟨rfl, rfl⟩
set_option maxHeartbeats 2000000 in
theorem sOpName (c : Int) (w : World) : Calls Tryd.prog 26 #[.int .i64 c] w fun e w' => e = .returned (.string (Tm.opName c)) ∧ Below w.heap.size w w' := by
  have SI := Lib.hid (fun w => sIn c 1 15 w)
  cases h : Tm.inB c 1 15 with
  | false =>
    rw [h] at SI
    rw [Tm.opName_no (fun h' => by rw [(Tm.inB_iff _ _ _).2 h'] at h; cases h)]
    go_enter Tryd.func26, Tryd.ntmps26
    go_wp2_with fail
    refine (SI.out _).mono ?_
    rintro e w' ⟨rfl, rfl⟩
    go_wp2
    go_ret
    exact ⟨rfl, by (repeat' (first | (with_reducible exact Below.refl _ _) | (with_reducible assumption) | (with_reducible refine below_drewN ?_ _) | (with_reducible refine Below.drew ?_) | (with_reducible refine Below.alloc ?_ ?_ _) | (with_reducible refine Below.setCell ?_ ?_ _) | (with_reducible refine below_gw ?_ ?_ _) | (with_reducible refine below_via ?_ ‹Below _ _ _› ?_) | (with_reducible exact Nat.le_refl _) | (with_reducible refine le_gw ?_ _) | (with_reducible refine le_alloc ?_ _) | (with_reducible refine le_setCell ?_ _ _) | (with_reducible refine le_drew ?_) | (with_reducible refine le_drewN ?_ _) | go_size))⟩
  | true =>
    rw [h] at SI
    have h' := (Tm.inB_iff _ _ _).1 h
    clear h
    have : c = 1 ∨ c = 2 ∨ c = 3 ∨ c = 4 ∨ c = 5 ∨ c = 6 ∨ c = 7 ∨ c = 8 ∨ c = 9 ∨ c = 10 ∨ c = 11 ∨ c = 12 ∨ c = 13 ∨ c = 14 ∨ c = 15 := by omega
    clear h'
    rcases this with rfl | rfl | rfl | rfl | rfl | rfl | rfl | rfl | rfl | rfl | rfl | rfl | rfl | rfl | rfl
    all_goals
      go_enter Tryd.func26, Tryd.ntmps26
      go_wp2_with fail
      refine (SI.out _).mono ?_
      rintro e w' ⟨rfl, rfl⟩
      go_wp2_with (go_at_call 47; go_in)
      go_ret
      exact ⟨rfl, by (repeat' (first | (with_reducible exact Below.refl _ _) | (with_reducible assumption) | (with_reducible refine below_drewN ?_ _) | (with_reducible refine Below.drew ?_) | (with_reducible refine Below.alloc ?_ ?_ _) | (with_reducible refine Below.setCell ?_ ?_ _) | (with_reducible refine below_gw ?_ ?_ _) | (with_reducible refine below_via ?_ ‹Below _ _ _› ?_) | (with_reducible exact Nat.le_refl _) | (with_reducible refine le_gw ?_ _) | (with_reducible refine le_alloc ?_ _) | (with_reducible refine le_setCell ?_ _ _) | (with_reducible refine le_drew ?_) | (with_reducible refine le_drewN ?_ _) | go_size))⟩
set_option maxHeartbeats 8000000 in
theorem sIsCode (a : Option Addr) (n cap : Nat) (L : List (Nat → Int)) (w : World) (h : OpR w a n cap L) : Calls Tryd.prog 24 #[.slice a n cap] w fun e w' => e = .returned (.bool (Tm.codeOk L)) ∧ Below w.heap.size w w' := by
  have H := Lib.hid h
  obtain rfl : L.length = n := h.1
  have hc1 := h.2.1
  have hc2 := h.2.2.1
  unfold maxLen at hc2
  clear h
  have SI := Lib.hid (fun w => sIn (L.length : Int) 1 80 w)
  cases hl : Tm.inB (L.length : Int) 1 80 with
  | false =>
    rw [hl] at SI
    rw [Tm.codeOk_len (fun h' => by rw [(Tm.inB_iff _ _ _).2 (by omega)] at hl; cases hl)]
    clear hl
    go_enter Tryd.func24, Tryd.ntmps24
    go_wp2_with fail
    refine (SI.out _).mono ?_
    rintro e w' ⟨rfl, rfl⟩
    go_wp2
    go_ret
    exact ⟨rfl, by (repeat' (first | (with_reducible exact Below.refl _ _) | (with_reducible assumption) | (with_reducible refine below_drewN ?_ _) | (with_reducible refine Below.drew ?_) | (with_reducible refine Below.alloc ?_ ?_ _) | (with_reducible refine Below.setCell ?_ ?_ _) | (with_reducible refine below_gw ?_ ?_ _) | (with_reducible refine below_via ?_ ‹Below _ _ _› ?_) | (with_reducible exact Nat.le_refl _) | (with_reducible refine le_gw ?_ _) | (with_reducible refine le_alloc ?_ _) | (with_reducible refine le_setCell ?_ _ _) | (with_reducible refine le_drew ?_) | (with_reducible refine le_drewN ?_ _) | go_size))⟩
  | true =>
    rw [hl] at SI
    have hl' := (Tm.inB_iff _ _ _).1 hl
    obtain ⟨l1, l2⟩ := hl'
    clear hl
    go_enter Tryd.func24, Tryd.ntmps24
    go_wp2_with fail
    refine (SI.out _).mono ?_
    rintro e w' ⟨rfl, rfl⟩
    go_wp2
    go_loopw [14] (fun i wr => ∃ j : Nat, j ≤ L.length ∧ i = .int .i64 j ∧ Hid (∀ q, q < j → Tm.opOk L.length (L.getD q Tm.g0) = true) ∧ Below w.heap.size w wr) (fun i _ => L.length - (intOf i).toNat)
    case atStart => exact ⟨0, by omega, rfl, Lib.hid (fun q hq => by omega), Below.refl _ _⟩
    case round =>
      obtain ⟨j, hj, rfl, GK, hb⟩ := hrel
      by_cases hlt : j < L.length
      · obtain ⟨-, -, -, y⟩ := H.out.below hb
        rcases y with h0 | ⟨bb, oo, rfl, hbl, hc⟩
        · omega
        obtain ⟨g, hg, g1⟩ := OpR.op hc hlt
        have GG := Lib.hid hg
        obtain ⟨p0, p1, p2, p3⟩ := g1
        clear hg hc
        have hs := hb.size
        have NO : Hid (Tm.opOk L.length g = false → false = Tm.codeOk L) := Lib.hid fun e => (Tm.codeOk_no hlt (by rw [← GG.out]; exact e)).symm
        have OK : Hid (Tm.opOk L.length g = true → ∀ q, q < j + 1 → Tm.opOk L.length (L.getD q Tm.g0) = true) := Lib.hid fun e q hq => by
          by_cases e' : q = j
          · subst e'; rw [← GG.out]; exact e
          · exact GK.out q (by omega)
        obtain ⟨x0, hx0⟩ : ∃ x, x = g 0 := ⟨_, rfl⟩
        obtain ⟨x1, hx1⟩ : ∃ x, x = g 1 := ⟨_, rfl⟩
        obtain ⟨x2, hx2⟩ : ∃ x, x = g 2 := ⟨_, rfl⟩
        obtain ⟨x3, hx3⟩ : ∃ x, x = g 3 := ⟨_, rfl⟩
        have OP : Hid (Tm.opOk L.length g = (if x0 = 1 then Tm.inB x1 (-9841) 9841 && (decide (x2 = 0) && decide (x3 = 0)) else if x0 = 10 then Tm.inB x1 (-9) 9 && (decide (x2 = 0) && decide (x3 = 0)) else if x0 = 13 then Tm.inB x1 0 L.length && (decide (x2 = 0) && decide (x3 = 0)) else if x0 = 14 then Tm.inB x1 0 L.length && (Tm.inB x2 0 L.length && Tm.inB x3 0 L.length) else Tm.inB x0 1 15 && (decide (x1 = 0) && (decide (x2 = 0) && decide (x3 = 0))))) := Lib.hid (by rw [hx0, hx1, hx2, hx3]; rfl)
        rw [← hx0] at p0
        rw [← hx1] at p1
        rw [← hx2] at p2
        rw [← hx3] at p3
        clear hx0 hx1 hx2 hx3 GK GG
        by_cases d2 : x2 = 0
        · subst d2
          go_wp2_with (first | (go_at_call 25; refine (sIn _ _ _ _).mono ?_; rintro e w1 ⟨rfl, rfl⟩) | (go_at_call 23; refine (sCell _ _).mono ?_; rintro e w1 ⟨rfl, rfl⟩))
          all_goals first
            | (go_ret; exact ⟨ret_bool (NO.out (by rw [OP.out]; first | (simp [*]; done) | (simp_all; done) | grind)), by (repeat' (first | (with_reducible exact Below.refl _ _) | (with_reducible assumption) | (with_reducible refine below_drewN ?_ _) | (with_reducible refine Below.drew ?_) | (with_reducible refine Below.alloc ?_ ?_ _) | (with_reducible refine Below.setCell ?_ ?_ _) | (with_reducible refine below_gw ?_ ?_ _) | (with_reducible refine below_via ?_ ‹Below _ _ _› ?_) | (with_reducible exact Nat.le_refl _) | (with_reducible refine le_gw ?_ _) | (with_reducible refine le_alloc ?_ _) | (with_reducible refine le_setCell ?_ _ _) | (with_reducible refine le_drew ?_) | (with_reducible refine le_drewN ?_ _) | go_size))⟩)
            | (have OK2 := Lib.hid (OK.out (by rw [OP.out]; first | (simp [*]; done) | (simp_all; done) | grind)); exact ⟨⟨j + 1, by omega, by go_num, OK2, by (repeat' (first | (with_reducible exact Below.refl _ _) | (with_reducible assumption) | (with_reducible refine below_drewN ?_ _) | (with_reducible refine Below.drew ?_) | (with_reducible refine Below.alloc ?_ ?_ _) | (with_reducible refine Below.setCell ?_ ?_ _) | (with_reducible refine below_gw ?_ ?_ _) | (with_reducible refine below_via ?_ ‹Below _ _ _› ?_) | (with_reducible exact Nat.le_refl _) | (with_reducible refine le_gw ?_ _) | (with_reducible refine le_alloc ?_ _) | (with_reducible refine le_setCell ?_ _ _) | (with_reducible refine le_drew ?_) | (with_reducible refine le_drewN ?_ _) | go_size))⟩, by simp [intOf]; omega⟩)
        · have d2' : (x2 == 0) = false := by simpa using d2
          go_wp2_with (first | (go_at_call 25; refine (sIn _ _ _ _).mono ?_; rintro e w1 ⟨rfl, rfl⟩) | (go_at_call 23; refine (sCell _ _).mono ?_; rintro e w1 ⟨rfl, rfl⟩))
          all_goals first
            | (go_ret; exact ⟨ret_bool (NO.out (by rw [OP.out]; first | (simp [*]; done) | (simp_all; done) | grind)), by (repeat' (first | (with_reducible exact Below.refl _ _) | (with_reducible assumption) | (with_reducible refine below_drewN ?_ _) | (with_reducible refine Below.drew ?_) | (with_reducible refine Below.alloc ?_ ?_ _) | (with_reducible refine Below.setCell ?_ ?_ _) | (with_reducible refine below_gw ?_ ?_ _) | (with_reducible refine below_via ?_ ‹Below _ _ _› ?_) | (with_reducible exact Nat.le_refl _) | (with_reducible refine le_gw ?_ _) | (with_reducible refine le_alloc ?_ _) | (with_reducible refine le_setCell ?_ _ _) | (with_reducible refine le_drew ?_) | (with_reducible refine le_drewN ?_ _) | go_size))⟩)
            | (have OK2 := Lib.hid (OK.out (by rw [OP.out]; first | (simp [*]; done) | (simp_all; done) | grind)); exact ⟨⟨j + 1, by omega, by go_num, OK2, by (repeat' (first | (with_reducible exact Below.refl _ _) | (with_reducible assumption) | (with_reducible refine below_drewN ?_ _) | (with_reducible refine Below.drew ?_) | (with_reducible refine Below.alloc ?_ ?_ _) | (with_reducible refine Below.setCell ?_ ?_ _) | (with_reducible refine below_gw ?_ ?_ _) | (with_reducible refine below_via ?_ ‹Below _ _ _› ?_) | (with_reducible exact Nat.le_refl _) | (with_reducible refine le_gw ?_ _) | (with_reducible refine le_alloc ?_ _) | (with_reducible refine le_setCell ?_ _ _) | (with_reducible refine le_drew ?_) | (with_reducible refine le_drewN ?_ _) | go_size))⟩, by simp [intOf]; omega⟩)
      · obtain rfl : j = L.length := by omega
        have CO := Lib.hid (Tm.codeOk_of ⟨by omega, by omega⟩ GK.out)
        go_wp2
        go_ret
        exact ⟨ret_bool CO.out.symm, hb⟩
set_option maxHeartbeats 4000000 in
theorem sIsMachine (aL : Option Addr) (nL cL : Nat) (L : List (Nat → Int)) (k : Int) (a : Option Addr) (n c : Nat) (s : List Int) (b : Option Addr) (m d : Nat) (o : List Int) (w : World) (hL : OpR w aL nL cL L) (h : Ms w a n c s b m d o) :
    Calls Tryd.prog 9 #[.slice aL nL cL, machV k a n c b m d] w fun e w' => e = .returned (.bool (Tm.machOk L k s o)) ∧ Below w.heap.size w w' := by
  have HL := Lib.hid hL
  have H := Lib.hid h
  obtain rfl : L.length = nL := hL.1
  obtain rfl : s.length = n := h.1.1
  obtain rfl : o.length = m := h.2.1
  have y1 := hL.2.1
  have y2 := hL.2.2.1
  have u1 := h.1.2.1
  have u2 := h.1.2.2.1
  have v1 := h.2.2.1
  have v2 := h.2.2.2.1
  unfold maxLen at y2 u2 v2
  clear h hL
  go_enter Tryd.func9, Tryd.ntmps9
  go_wp2
  go_loopw [12] (fun i wr => ∃ j : Nat, j ≤ s.length ∧ i = .int .i64 j ∧ Hid (∀ q, q < j → -9841 ≤ s.getD q 0 ∧ s.getD q 0 ≤ 9841) ∧ wr = w.alloc (.cells #[.int .i64 k, .slice a s.length c, .slice b o.length d] 27)) (fun i _ => s.length - (intOf i).toNat)
  case atStart => exact ⟨0, by omega, rfl, Lib.hid (fun q hq => by omega), rfl⟩
  case round =>
    obtain ⟨j, hj, rfl, GK, rfl⟩ := hrel
    by_cases hlt : j < s.length
    · obtain ⟨-, -, -, y⟩ := H.out.1
      rcases y with h0 | ⟨bb, oo, rfl, hbl, hc⟩
      · omega
      have c1 := hc j hlt
      obtain ⟨x, hx⟩ : ∃ x, x = s.getD j 0 := ⟨_, rfl⟩
      rw [← hx] at c1
      have XX := Lib.hid hx
      clear hc hx
      have SC := Lib.hid (fun w => sCell x w)
      cases hI : Tm.inB x (-9841) 9841 with
      | false =>
        rw [hI] at SC
        have NO : Hid (false = Tm.machOk L k s o) := Lib.hid (by
          have := Tm.cellsOk_no hlt (fun h' => by rw [← XX.out] at h'; rw [(Tm.inB_iff _ _ _).2 h'] at hI; cases hI)
          rw [Tm.machOk, this]; simp)
        clear hI
        go_wp2_with fail
        refine (SC.out _).mono ?_
        rintro e w1 ⟨rfl, rfl⟩
        go_wp2
        go_ret
        exact ⟨ret_bool NO.out, by (repeat' (first | (with_reducible exact Below.refl _ _) | (with_reducible assumption) | (with_reducible refine below_drewN ?_ _) | (with_reducible refine Below.drew ?_) | (with_reducible refine Below.alloc ?_ ?_ _) | (with_reducible refine Below.setCell ?_ ?_ _) | (with_reducible refine below_gw ?_ ?_ _) | (with_reducible refine below_via ?_ ‹Below _ _ _› ?_) | (with_reducible exact Nat.le_refl _) | (with_reducible refine le_gw ?_ _) | (with_reducible refine le_alloc ?_ _) | (with_reducible refine le_setCell ?_ _ _) | (with_reducible refine le_drew ?_) | (with_reducible refine le_drewN ?_ _) | go_size))⟩
      | true =>
        rw [hI] at SC
        have GK2 : Hid (∀ q, q < j + 1 → -9841 ≤ s.getD q 0 ∧ s.getD q 0 ≤ 9841) := Lib.hid fun q hq => by
          by_cases e : q = j
          · subst e; rw [← XX.out]; exact (Tm.inB_iff _ _ _).1 hI
          · exact GK.out q (by omega)
        clear hI GK
        go_wp2_with fail
        refine (SC.out _).mono ?_
        rintro e w1 ⟨rfl, rfl⟩
        go_wp2
        exact ⟨⟨j + 1, by omega, by go_num, GK2, by first | rfl | trivial⟩, by simp [intOf]; omega⟩
    · obtain rfl : j = s.length := by omega
      have CS := Lib.hid ((Tm.cellsOk_iff s).2 GK.out)
      clear GK
      go_wp2
      go_loopw [23] (fun i wr => ∃ j : Nat, j ≤ o.length ∧ i = .int .i64 j ∧ Hid (∀ q, q < j → -9841 ≤ o.getD q 0 ∧ o.getD q 0 ≤ 9841) ∧ wr = w.alloc (.cells #[.int .i64 k, .slice a s.length c, .slice b o.length d] 27)) (fun i _ => o.length - (intOf i).toNat)
      case atStart => exact ⟨0, by omega, rfl, Lib.hid (fun q hq => by omega), rfl⟩
      case round =>
        obtain ⟨j, hj, rfl, GK, rfl⟩ := hrel
        by_cases hlt : j < o.length
        · obtain ⟨-, -, -, y⟩ := H.out.2
          rcases y with h0 | ⟨bb, oo, rfl, hbl, hc⟩
          · omega
          have c1 := hc j hlt
          obtain ⟨x, hx⟩ : ∃ x, x = o.getD j 0 := ⟨_, rfl⟩
          rw [← hx] at c1
          have XX := Lib.hid hx
          clear hc hx
          have SC := Lib.hid (fun w => sCell x w)
          cases hI : Tm.inB x (-9841) 9841 with
          | false =>
            rw [hI] at SC
            have NO : Hid (false = Tm.machOk L k s o) := Lib.hid (by
              have := Tm.cellsOk_no hlt (fun h' => by rw [← XX.out] at h'; rw [(Tm.inB_iff _ _ _).2 h'] at hI; cases hI)
              rw [Tm.machOk, this]; simp)
            clear hI
            go_wp2_with fail
            refine (SC.out _).mono ?_
            rintro e w1 ⟨rfl, rfl⟩
            go_wp2
            go_ret
            exact ⟨ret_bool NO.out, by (repeat' (first | (with_reducible exact Below.refl _ _) | (with_reducible assumption) | (with_reducible refine below_drewN ?_ _) | (with_reducible refine Below.drew ?_) | (with_reducible refine Below.alloc ?_ ?_ _) | (with_reducible refine Below.setCell ?_ ?_ _) | (with_reducible refine below_gw ?_ ?_ _) | (with_reducible refine below_via ?_ ‹Below _ _ _› ?_) | (with_reducible exact Nat.le_refl _) | (with_reducible refine le_gw ?_ _) | (with_reducible refine le_alloc ?_ _) | (with_reducible refine le_setCell ?_ _ _) | (with_reducible refine le_drew ?_) | (with_reducible refine le_drewN ?_ _) | go_size))⟩
          | true =>
            rw [hI] at SC
            have GK2 : Hid (∀ q, q < j + 1 → -9841 ≤ o.getD q 0 ∧ o.getD q 0 ≤ 9841) := Lib.hid fun q hq => by
              by_cases e : q = j
              · subst e; rw [← XX.out]; exact (Tm.inB_iff _ _ _).1 hI
              · exact GK.out q (by omega)
            clear hI GK
            go_wp2_with fail
            refine (SC.out _).mono ?_
            rintro e w1 ⟨rfl, rfl⟩
            go_wp2
            exact ⟨⟨j + 1, by omega, by go_num, GK2, by first | rfl | trivial⟩, by simp [intOf]; omega⟩
        · obtain rfl : j = o.length := by omega
          have CO := Lib.hid ((Tm.cellsOk_iff o).2 GK.out)
          clear GK
          have MK : Hid (Tm.machOk L k s o = (Tm.codeOk L && (Tm.inB k 0 L.length && (decide (s.length ≤ 20) && decide (o.length = 27))))) := Lib.hid (by rw [Tm.machOk, CS.out, CO.out]; simp)
          have IC := Lib.hid (fun (w : World) h => sIsCode aL L.length cL L w h)
          have SI := Lib.hid (fun w => sIn k 0 (L.length : Int) w)
          cases hC : Tm.codeOk L with
          | false =>
            rw [hC] at IC MK
            clear hC
            go_wp2_with fail
            refine (IC.out _ (HL.out.below (by (repeat' (first | (with_reducible exact Below.refl _ _) | (with_reducible assumption) | (with_reducible refine below_drewN ?_ _) | (with_reducible refine Below.drew ?_) | (with_reducible refine Below.alloc ?_ ?_ _) | (with_reducible refine Below.setCell ?_ ?_ _) | (with_reducible refine below_gw ?_ ?_ _) | (with_reducible refine below_via ?_ ‹Below _ _ _› ?_) | (with_reducible exact Nat.le_refl _) | (with_reducible refine le_gw ?_ _) | (with_reducible refine le_alloc ?_ _) | (with_reducible refine le_setCell ?_ _ _) | (with_reducible refine le_drew ?_) | (with_reducible refine le_drewN ?_ _) | go_size))))).mono ?_
            rintro e w1 ⟨rfl, hb1⟩
            obtain ⟨p, rfl⟩ := gw_of_below hb1
            clear hb1
            go_wp2
            go_ret
            exact ⟨ret_bool (by rw [MK.out]; rfl), by (repeat' (first | (with_reducible exact Below.refl _ _) | (with_reducible assumption) | (with_reducible refine below_drewN ?_ _) | (with_reducible refine Below.drew ?_) | (with_reducible refine Below.alloc ?_ ?_ _) | (with_reducible refine Below.setCell ?_ ?_ _) | (with_reducible refine below_gw ?_ ?_ _) | (with_reducible refine below_via ?_ ‹Below _ _ _› ?_) | (with_reducible exact Nat.le_refl _) | (with_reducible refine le_gw ?_ _) | (with_reducible refine le_alloc ?_ _) | (with_reducible refine le_setCell ?_ _ _) | (with_reducible refine le_drew ?_) | (with_reducible refine le_drewN ?_ _) | go_size))⟩
          | true =>
            rw [hC] at IC MK
            clear hC
            cases hI : Tm.inB k 0 L.length with
            | false =>
              rw [hI] at SI MK
              clear hI
              go_wp2_with fail
              refine (IC.out _ (HL.out.below (by (repeat' (first | (with_reducible exact Below.refl _ _) | (with_reducible assumption) | (with_reducible refine below_drewN ?_ _) | (with_reducible refine Below.drew ?_) | (with_reducible refine Below.alloc ?_ ?_ _) | (with_reducible refine Below.setCell ?_ ?_ _) | (with_reducible refine below_gw ?_ ?_ _) | (with_reducible refine below_via ?_ ‹Below _ _ _› ?_) | (with_reducible exact Nat.le_refl _) | (with_reducible refine le_gw ?_ _) | (with_reducible refine le_alloc ?_ _) | (with_reducible refine le_setCell ?_ _ _) | (with_reducible refine le_drew ?_) | (with_reducible refine le_drewN ?_ _) | go_size))))).mono ?_
              rintro e w1 ⟨rfl, hb1⟩
              obtain ⟨p, rfl⟩ := gw_of_below hb1
              clear hb1
              go_wp2_with fail
              refine (SI.out _).mono ?_
              rintro e w1 ⟨rfl, rfl⟩
              go_wp2
              go_ret
              exact ⟨ret_bool (by rw [MK.out]; rfl), by (repeat' (first | (with_reducible exact Below.refl _ _) | (with_reducible assumption) | (with_reducible refine below_drewN ?_ _) | (with_reducible refine Below.drew ?_) | (with_reducible refine Below.alloc ?_ ?_ _) | (with_reducible refine Below.setCell ?_ ?_ _) | (with_reducible refine below_gw ?_ ?_ _) | (with_reducible refine below_via ?_ ‹Below _ _ _› ?_) | (with_reducible exact Nat.le_refl _) | (with_reducible refine le_gw ?_ _) | (with_reducible refine le_alloc ?_ _) | (with_reducible refine le_setCell ?_ _ _) | (with_reducible refine le_drew ?_) | (with_reducible refine le_drewN ?_ _) | go_size))⟩
            | true =>
              rw [hI] at SI MK
              clear hI
              by_cases hs : s.length ≤ 20
              · go_wp2_with fail
                refine (IC.out _ (HL.out.below (by (repeat' (first | (with_reducible exact Below.refl _ _) | (with_reducible assumption) | (with_reducible refine below_drewN ?_ _) | (with_reducible refine Below.drew ?_) | (with_reducible refine Below.alloc ?_ ?_ _) | (with_reducible refine Below.setCell ?_ ?_ _) | (with_reducible refine below_gw ?_ ?_ _) | (with_reducible refine below_via ?_ ‹Below _ _ _› ?_) | (with_reducible exact Nat.le_refl _) | (with_reducible refine le_gw ?_ _) | (with_reducible refine le_alloc ?_ _) | (with_reducible refine le_setCell ?_ _ _) | (with_reducible refine le_drew ?_) | (with_reducible refine le_drewN ?_ _) | go_size))))).mono ?_
                rintro e w1 ⟨rfl, hb1⟩
                obtain ⟨p, rfl⟩ := gw_of_below hb1
                clear hb1
                go_wp2_with fail
                refine (SI.out _).mono ?_
                rintro e w1 ⟨rfl, rfl⟩
                go_wp2
                go_ret
                exact ⟨ret_bool (by rw [MK.out, decide_eq_true hs, Bool.true_and, Bool.true_and, Bool.true_and, Bool.eq_iff_iff]; simp; omega), by (repeat' (first | (with_reducible exact Below.refl _ _) | (with_reducible assumption) | (with_reducible refine below_drewN ?_ _) | (with_reducible refine Below.drew ?_) | (with_reducible refine Below.alloc ?_ ?_ _) | (with_reducible refine Below.setCell ?_ ?_ _) | (with_reducible refine below_gw ?_ ?_ _) | (with_reducible refine below_via ?_ ‹Below _ _ _› ?_) | (with_reducible exact Nat.le_refl _) | (with_reducible refine le_gw ?_ _) | (with_reducible refine le_alloc ?_ _) | (with_reducible refine le_setCell ?_ _ _) | (with_reducible refine le_drew ?_) | (with_reducible refine le_drewN ?_ _) | go_size))⟩
              · go_wp2_with fail
                refine (IC.out _ (HL.out.below (by (repeat' (first | (with_reducible exact Below.refl _ _) | (with_reducible assumption) | (with_reducible refine below_drewN ?_ _) | (with_reducible refine Below.drew ?_) | (with_reducible refine Below.alloc ?_ ?_ _) | (with_reducible refine Below.setCell ?_ ?_ _) | (with_reducible refine below_gw ?_ ?_ _) | (with_reducible refine below_via ?_ ‹Below _ _ _› ?_) | (with_reducible exact Nat.le_refl _) | (with_reducible refine le_gw ?_ _) | (with_reducible refine le_alloc ?_ _) | (with_reducible refine le_setCell ?_ _ _) | (with_reducible refine le_drew ?_) | (with_reducible refine le_drewN ?_ _) | go_size))))).mono ?_
                rintro e w1 ⟨rfl, hb1⟩
                obtain ⟨p, rfl⟩ := gw_of_below hb1
                clear hb1
                go_wp2_with fail
                refine (SI.out _).mono ?_
                rintro e w1 ⟨rfl, rfl⟩
                go_wp2
                go_ret
                exact ⟨ret_bool (by rw [MK.out, decide_eq_false hs]; rfl), by (repeat' (first | (with_reducible exact Below.refl _ _) | (with_reducible assumption) | (with_reducible refine below_drewN ?_ _) | (with_reducible refine Below.drew ?_) | (with_reducible refine Below.alloc ?_ ?_ _) | (with_reducible refine Below.setCell ?_ ?_ _) | (with_reducible refine below_gw ?_ ?_ _) | (with_reducible refine below_via ?_ ‹Below _ _ _› ?_) | (with_reducible exact Nat.le_refl _) | (with_reducible refine le_gw ?_ _) | (with_reducible refine le_alloc ?_ _) | (with_reducible refine le_setCell ?_ _ _) | (with_reducible refine le_drew ?_) | (with_reducible refine le_drewN ?_ _) | go_size))⟩
end Go.Proofs.YtfnhoiomdjmjhaaDoor

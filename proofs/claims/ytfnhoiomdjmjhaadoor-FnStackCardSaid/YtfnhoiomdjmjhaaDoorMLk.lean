/- The walk of the law on the stack: no operation is executed without its numbers, and what is not executed changes nothing. -/
import Derived.Test.YtfnhoiomdjmjhaaDoorMDs
import Derived.Test.YtfnhoiomdjmjhaaDoorMStk
import Derived.Test.YtfnhoiomdjmjhaaDoorLaw2
import Derived.Test.YtfnhoiomdjmjhaaDoorMTab
namespace Go.Proofs.YtfnhoiomdjmjhaaDoor
set_option maxRecDepth 20000
open Go.RowKit
set_option maxHeartbeats 4000000 in
theorem wFnStack (a0 : Option Addr) (len0 cap0 : Nat) (z0 : List Int) (w : World) (w0 : IsRow .u8 w a0 len0 cap0 z0) (hT : OpsTab w) : Calls Tryd.prog 3 #[.slice a0 len0 cap0] w fun e w' => e = .returned (.bool true) ∧ Below w.heap.size w w' := by
  have BY := Lib.hid (Byts.of_row w0)
  have HT := Lib.hid hT
  have m0 : len0 ≤ 9223372036854775807 := by obtain ⟨h1, h2, _⟩ := BY.out; unfold maxLen at h2; omega
  clear w0 hT
  by_cases g0 : len0 ≤ 1048576
  · go_enter Tryd.func3, Tryd.ntmps3
    go_wp2_with fail
    refine (makeCode_any a0 len0 cap0 _ BY.out (by omega)).mono ?_
    rintro e w1 ⟨L, aL, cL, rfl, hk, hr, hb1⟩
    have P1 := Lib.hid hr
    have CO := Lib.hid hk
    have Y1 := Lib.hid (BY.out.below hb1)
    have B1 := Lib.hid hb1
    have s1 := hb1.size
    clear hr hk hb1
    go_wp2_with fail
    refine (fresh_any a0 len0 cap0 3 _ Y1.out (by omega) (by omega) (by omega)).mono ?_
    rintro e w2 ⟨a9, n9, c9, rfl, m9, by9, hb2⟩
    have P2 := Lib.hid (P1.out.below hb2)
    have Y2 := Lib.hid by9
    have s2 := hb2.size
    have B2 := Lib.hid (B1.out.trans (hb2.mono (by omega)))
    clear by9 hb2 P1
    go_wp2_with fail
    refine (makeMachine_any a9 n9 c9 aL L.length cL L _ Y2.out (by omega) P2.out CO.out).mono ?_
    rintro e w3 ⟨k, s, o, a1, b1, n1, c1, n2, d1, rfl, ms, hM, hb3⟩
    obtain rfl : s.length = n1 := ms.1.1
    obtain rfl : o.length = n2 := ms.2.1
    have P3 := Lib.hid (P2.out.below hb3)
    have M3 := Lib.hid ms
    have HM := Lib.hid hM
    have s3 := hb3.size
    have B3 := Lib.hid (B2.out.trans (hb3.mono (by omega)))
    clear ms hb3 P2 Y2 Y1
    go_wp2_with fail
    generalize hW : World.alloc w3 _ = w4
    have bk := blk3_new w3 (.int .i64 k) (.slice a1 s.length c1) (.slice b1 o.length d1) 27
    rw [hW] at bk
    have hb4 : Below w3.heap.size w3 w4 := by rw [← hW]; exact (Below.refl _ _).alloc (Nat.le_refl _) _
    have X4 := Lib.hid bk
    have P4 := Lib.hid (P3.out.below hb4)
    have M4 := Lib.hid (M3.out.below hb4)
    have s4 := hb4.size
    have B4 := Lib.hid (B3.out.trans (hb4.mono (by omega)))
    clear hW bk hb4 M3 P3
    refine (iStepMachine aL L.length cL L k a1 s.length c1 s b1 o.length d1 o _ P4.out M4.out (HT.out.below B4.out)).mono ?_
    intro r w5 hh
    unfold RetMI at hh
    obtain ⟨a2, c2, b2, d2, rfl, om, hb5, -, -⟩ := hh
    have X5 := Lib.hid (X4.out.later hb5)
    have P5 := Lib.hid (P4.out.below hb5)
    have M5 := Lib.hid (M4.out.below hb5)
    have N5 := Lib.hid om.ms
    have s5 := hb5.size
    have B5 := Lib.hid (B4.out.trans (hb5.mono (by omega)))
    have V := Lib.hid (Tm.step_valid (L := L) hM)
    clear om hb5 X4 P4 M4
    by_cases hw : Tm.why L k s = 0
    · obtain ⟨c, hc⟩ : ∃ c, c = (L.getD k.toNat Tm.g0) 0 := ⟨_, rfl⟩
      obtain ⟨cr, k0, k1, q1, q2, q3, q4⟩ := Tm.step_grow hM hw hc
      obtain ⟨K', hK⟩ : ∃ z, z = Tm.stK L k s o := ⟨_, rfl⟩
      obtain ⟨S', hS⟩ : ∃ z, z = Tm.stS L k s o := ⟨_, rfl⟩
      obtain ⟨O', hO⟩ : ∃ z, z = Tm.stO L k s o := ⟨_, rfl⟩
      rw [← hK, ← hS, ← hO] at V
      rw [← hS] at q1 q2
      rw [← hK] at q3
      rw [← hS, ← hO] at N5
      have HK3 := Lib.hid (And.intro hK (And.intro hS hO))
      rw [← hK, ← hS, ← hO, q4]
      obtain ⟨j, rfl⟩ : ∃ j : Nat, k = (j : Int) := ⟨k.toNat, by omega⟩
      rw [Int.toNat_natCast] at hc
      have jl : j < L.length := by omega
      have sl : s.length ≤ 20 := ((Tm.machOk_iff _ _ _ _).1 HM.out).2.2.1
      have sl2 : S'.length ≤ 20 := ((Tm.machOk_iff _ _ _ _).1 V.out).2.2.1
      obtain ⟨bb, oo, rfl, hbl, hcl⟩ : ∃ b o, aL = some ⟨b, o, none⟩ ∧ b < w5.heap.size ∧ ∀ i, i < L.length → ∀ j, j < 4 → w5.cell? ⟨b, o + i * 4 + j, none⟩ = some (.int .i64 (L.getD i Tm.g0 j)) := by
        rcases P5.out.2.2.2 with h0 | h1
        · omega
        · exact h1
      have HCL := Lib.hid (hcl j jl)
      obtain ⟨x, hx⟩ : ∃ x, x = L.getD j Tm.g0 := ⟨_, rfl⟩
      rw [← hx] at HCL hc
      have HL2 := P5.out.2.1
      have HL3 := P5.out.2.2.1
      unfold maxLen at HL3
      have gw1 : IntKind.i64.wrap ((S'.length : Int) - (s.length : Int)) = (S'.length : Int) - (s.length : Int) := IntWalk.i64_in _ (by omega)
      have kw : IntKind.i64.wrap ((j : Int) + 1) = (j : Int) + 1 := IntWalk.i64_in _ (by omega)
      have j0 : (0 : Int) ≤ (j : Int) := by omega
      have j1 : (j : Int) < (L.length : Int) := by omega
      clear hM hw hK hS hO k0 k1 hcl hx q4
      go_wp2_with fail
      generalize hW : World.alloc w5 _ = w6
      have bk := blk3_new w5 (.int .i64 K') (.slice a2 S'.length c2) (.slice b2 O'.length d2) 27
      rw [hW] at bk
      have hb6 : Below w5.heap.size w5 w6 := by rw [← hW]; exact (Below.refl _ _).alloc (Nat.le_refl _) _
      have Z6 := Lib.hid bk
      have X6 := Lib.hid (X5.out.later hb6)
      have P6 := Lib.hid (P5.out.below hb6)
      have N6 := Lib.hid (N5.out.below hb6)
      have s6 := hb6.size
      have B6 := Lib.hid (B5.out.trans (hb6.mono (by omega)))
      have C6 : Hid (∀ i, i < 4 → w6.cell? ⟨bb, oo + j * 4 + i, none⟩ = some (.int .i64 (x i))) := Lib.hid fun i hi => by rw [hb6.cell (p := ⟨bb, oo + j * 4 + i, none⟩) hbl]; exact HCL.out i hi
      clear hW bk hb6 P5 N5 M5 X5
      refine (sIsMachine (some ⟨bb, oo, none⟩) L.length cL L K' a2 S'.length c2 S' b2 O'.length d2 O' _ P6.out N6.out).mono ?_
      rintro e w7 ⟨rfl, hb7⟩
      rw [V.out]
      have Z7 := Lib.hid (Z6.out.later hb7)
      have X7 := Lib.hid (X6.out.later hb7)
      have s7 := hb7.size
      have B7 := Lib.hid (B6.out.trans (hb7.mono (by omega)))
      have lb : bb < w6.heap.size := by omega
      have C7 : Hid (∀ i, i < 4 → w7.cell? ⟨bb, oo + j * 4 + i, none⟩ = some (.int .i64 (x i))) := Lib.hid fun i hi => by rw [hb7.cell (p := ⟨bb, oo + j * 4 + i, none⟩) lb]; exact C6.out i hi
      obtain ⟨e0, e1, e2⟩ := Z7.out.cells
      obtain ⟨f0, f1, f2⟩ := X7.out.cells
      have ez := Z7.out.lt
      have fz := X7.out.lt
      have c0 := C7.out 0 (by omega)
      have c1' := C7.out 1 (by omega)
      have c2' := C7.out 2 (by omega)
      have c3' := C7.out 3 (by omega)
      rw [Nat.add_zero] at c0
      have bz : bb < w7.heap.size := by omega
      clear hb7 P6 N6 Z6 X6 C6 C7 HCL
      have cc : c = 1 ∨ c = 2 ∨ c = 3 ∨ c = 4 ∨ c = 5 ∨ c = 6 ∨ c = 7 ∨ c = 8 ∨ c = 9 ∨ c = 10 ∨ c = 11 ∨ c = 12 ∨ c = 13 ∨ c = 14 := by omega
      rcases cc with rfl | rfl | rfl | rfl | rfl | rfl | rfl | rfl | rfl | rfl | rfl | rfl | rfl | rfl
      · rw [← hc] at c0
        have g1 : (S'.length : Int) - (s.length : Int) = 1 := q1.1 (by omega)
        obtain rfl := q3 (by decide) (by decide)
        clear q1 q2 q3 hc cr
        go_wp2
        go_ret
        exact ⟨rfl, by have b7 := B7.out; (repeat' (first | (with_reducible exact Below.refl _ _) | (with_reducible assumption) | (with_reducible refine below_drewN ?_ _) | (with_reducible refine Below.drew ?_) | (with_reducible refine Below.alloc ?_ ?_ _) | (with_reducible refine Below.setCell ?_ ?_ _) | (with_reducible refine below_gw ?_ ?_ _) | (with_reducible refine below_via ?_ ‹Below _ _ _› ?_) | (with_reducible exact Nat.le_refl _) | (with_reducible refine le_gw ?_ _) | (with_reducible refine le_alloc ?_ _) | (with_reducible refine le_setCell ?_ _ _) | (with_reducible refine le_drew ?_) | (with_reducible refine le_drewN ?_ _) | go_size))⟩
      · rw [← hc] at c0
        have g1 : (((S'.length : Int) - (s.length : Int) : Int) == 1) = false := by rw [beq_eq_false_iff_ne]; exact fun e => by have := q1.2 e; omega
        have g2 : (((S'.length : Int) - (s.length : Int) : Int) == -2) = false := by rw [beq_eq_false_iff_ne]; exact fun e => by have := q2.2 e; omega
        obtain rfl := q3 (by decide) (by decide)
        clear q1 q2 q3 hc cr
        go_wp2
        go_ret
        exact ⟨rfl, by have b7 := B7.out; (repeat' (first | (with_reducible exact Below.refl _ _) | (with_reducible assumption) | (with_reducible refine below_drewN ?_ _) | (with_reducible refine Below.drew ?_) | (with_reducible refine Below.alloc ?_ ?_ _) | (with_reducible refine Below.setCell ?_ ?_ _) | (with_reducible refine below_gw ?_ ?_ _) | (with_reducible refine below_via ?_ ‹Below _ _ _› ?_) | (with_reducible exact Nat.le_refl _) | (with_reducible refine le_gw ?_ _) | (with_reducible refine le_alloc ?_ _) | (with_reducible refine le_setCell ?_ _ _) | (with_reducible refine le_drew ?_) | (with_reducible refine le_drewN ?_ _) | go_size))⟩
      · rw [← hc] at c0
        have g1 : (((S'.length : Int) - (s.length : Int) : Int) == 1) = false := by rw [beq_eq_false_iff_ne]; exact fun e => by have := q1.2 e; omega
        have g2 : (((S'.length : Int) - (s.length : Int) : Int) == -2) = false := by rw [beq_eq_false_iff_ne]; exact fun e => by have := q2.2 e; omega
        obtain rfl := q3 (by decide) (by decide)
        clear q1 q2 q3 hc cr
        go_wp2
        go_ret
        exact ⟨rfl, by have b7 := B7.out; (repeat' (first | (with_reducible exact Below.refl _ _) | (with_reducible assumption) | (with_reducible refine below_drewN ?_ _) | (with_reducible refine Below.drew ?_) | (with_reducible refine Below.alloc ?_ ?_ _) | (with_reducible refine Below.setCell ?_ ?_ _) | (with_reducible refine below_gw ?_ ?_ _) | (with_reducible refine below_via ?_ ‹Below _ _ _› ?_) | (with_reducible exact Nat.le_refl _) | (with_reducible refine le_gw ?_ _) | (with_reducible refine le_alloc ?_ _) | (with_reducible refine le_setCell ?_ _ _) | (with_reducible refine le_drew ?_) | (with_reducible refine le_drewN ?_ _) | go_size))⟩
      · rw [← hc] at c0
        have g1 : (((S'.length : Int) - (s.length : Int) : Int) == 1) = false := by rw [beq_eq_false_iff_ne]; exact fun e => by have := q1.2 e; omega
        have g2 : (((S'.length : Int) - (s.length : Int) : Int) == -2) = false := by rw [beq_eq_false_iff_ne]; exact fun e => by have := q2.2 e; omega
        obtain rfl := q3 (by decide) (by decide)
        clear q1 q2 q3 hc cr
        go_wp2
        go_ret
        exact ⟨rfl, by have b7 := B7.out; (repeat' (first | (with_reducible exact Below.refl _ _) | (with_reducible assumption) | (with_reducible refine below_drewN ?_ _) | (with_reducible refine Below.drew ?_) | (with_reducible refine Below.alloc ?_ ?_ _) | (with_reducible refine Below.setCell ?_ ?_ _) | (with_reducible refine below_gw ?_ ?_ _) | (with_reducible refine below_via ?_ ‹Below _ _ _› ?_) | (with_reducible exact Nat.le_refl _) | (with_reducible refine le_gw ?_ _) | (with_reducible refine le_alloc ?_ _) | (with_reducible refine le_setCell ?_ _ _) | (with_reducible refine le_drew ?_) | (with_reducible refine le_drewN ?_ _) | go_size))⟩
      · rw [← hc] at c0
        have g1 : (((S'.length : Int) - (s.length : Int) : Int) == 1) = false := by rw [beq_eq_false_iff_ne]; exact fun e => by have := q1.2 e; omega
        have g2 : (((S'.length : Int) - (s.length : Int) : Int) == -2) = false := by rw [beq_eq_false_iff_ne]; exact fun e => by have := q2.2 e; omega
        obtain rfl := q3 (by decide) (by decide)
        clear q1 q2 q3 hc cr
        go_wp2
        go_ret
        exact ⟨rfl, by have b7 := B7.out; (repeat' (first | (with_reducible exact Below.refl _ _) | (with_reducible assumption) | (with_reducible refine below_drewN ?_ _) | (with_reducible refine Below.drew ?_) | (with_reducible refine Below.alloc ?_ ?_ _) | (with_reducible refine Below.setCell ?_ ?_ _) | (with_reducible refine below_gw ?_ ?_ _) | (with_reducible refine below_via ?_ ‹Below _ _ _› ?_) | (with_reducible exact Nat.le_refl _) | (with_reducible refine le_gw ?_ _) | (with_reducible refine le_alloc ?_ _) | (with_reducible refine le_setCell ?_ _ _) | (with_reducible refine le_drew ?_) | (with_reducible refine le_drewN ?_ _) | go_size))⟩
      · rw [← hc] at c0
        have g1 : (((S'.length : Int) - (s.length : Int) : Int) == 1) = false := by rw [beq_eq_false_iff_ne]; exact fun e => by have := q1.2 e; omega
        have g2 : (((S'.length : Int) - (s.length : Int) : Int) == -2) = false := by rw [beq_eq_false_iff_ne]; exact fun e => by have := q2.2 e; omega
        obtain rfl := q3 (by decide) (by decide)
        clear q1 q2 q3 hc cr
        go_wp2
        go_ret
        exact ⟨rfl, by have b7 := B7.out; (repeat' (first | (with_reducible exact Below.refl _ _) | (with_reducible assumption) | (with_reducible refine below_drewN ?_ _) | (with_reducible refine Below.drew ?_) | (with_reducible refine Below.alloc ?_ ?_ _) | (with_reducible refine Below.setCell ?_ ?_ _) | (with_reducible refine below_gw ?_ ?_ _) | (with_reducible refine below_via ?_ ‹Below _ _ _› ?_) | (with_reducible exact Nat.le_refl _) | (with_reducible refine le_gw ?_ _) | (with_reducible refine le_alloc ?_ _) | (with_reducible refine le_setCell ?_ _ _) | (with_reducible refine le_drew ?_) | (with_reducible refine le_drewN ?_ _) | go_size))⟩
      · rw [← hc] at c0
        have g1 : (S'.length : Int) - (s.length : Int) = 1 := q1.1 (by omega)
        obtain rfl := q3 (by decide) (by decide)
        clear q1 q2 q3 hc cr
        go_wp2
        go_ret
        exact ⟨rfl, by have b7 := B7.out; (repeat' (first | (with_reducible exact Below.refl _ _) | (with_reducible assumption) | (with_reducible refine below_drewN ?_ _) | (with_reducible refine Below.drew ?_) | (with_reducible refine Below.alloc ?_ ?_ _) | (with_reducible refine Below.setCell ?_ ?_ _) | (with_reducible refine below_gw ?_ ?_ _) | (with_reducible refine below_via ?_ ‹Below _ _ _› ?_) | (with_reducible exact Nat.le_refl _) | (with_reducible refine le_gw ?_ _) | (with_reducible refine le_alloc ?_ _) | (with_reducible refine le_setCell ?_ _ _) | (with_reducible refine le_drew ?_) | (with_reducible refine le_drewN ?_ _) | go_size))⟩
      · rw [← hc] at c0
        have g1 : (((S'.length : Int) - (s.length : Int) : Int) == 1) = false := by rw [beq_eq_false_iff_ne]; exact fun e => by have := q1.2 e; omega
        have g2 : (((S'.length : Int) - (s.length : Int) : Int) == -2) = false := by rw [beq_eq_false_iff_ne]; exact fun e => by have := q2.2 e; omega
        obtain rfl := q3 (by decide) (by decide)
        clear q1 q2 q3 hc cr
        go_wp2
        go_ret
        exact ⟨rfl, by have b7 := B7.out; (repeat' (first | (with_reducible exact Below.refl _ _) | (with_reducible assumption) | (with_reducible refine below_drewN ?_ _) | (with_reducible refine Below.drew ?_) | (with_reducible refine Below.alloc ?_ ?_ _) | (with_reducible refine Below.setCell ?_ ?_ _) | (with_reducible refine below_gw ?_ ?_ _) | (with_reducible refine below_via ?_ ‹Below _ _ _› ?_) | (with_reducible exact Nat.le_refl _) | (with_reducible refine le_gw ?_ _) | (with_reducible refine le_alloc ?_ _) | (with_reducible refine le_setCell ?_ _ _) | (with_reducible refine le_drew ?_) | (with_reducible refine le_drewN ?_ _) | go_size))⟩
      · rw [← hc] at c0
        have g1 : (((S'.length : Int) - (s.length : Int) : Int) == 1) = false := by rw [beq_eq_false_iff_ne]; exact fun e => by have := q1.2 e; omega
        have g2 : (((S'.length : Int) - (s.length : Int) : Int) == -2) = false := by rw [beq_eq_false_iff_ne]; exact fun e => by have := q2.2 e; omega
        obtain rfl := q3 (by decide) (by decide)
        clear q1 q2 q3 hc cr
        go_wp2
        go_ret
        exact ⟨rfl, by have b7 := B7.out; (repeat' (first | (with_reducible exact Below.refl _ _) | (with_reducible assumption) | (with_reducible refine below_drewN ?_ _) | (with_reducible refine Below.drew ?_) | (with_reducible refine Below.alloc ?_ ?_ _) | (with_reducible refine Below.setCell ?_ ?_ _) | (with_reducible refine below_gw ?_ ?_ _) | (with_reducible refine below_via ?_ ‹Below _ _ _› ?_) | (with_reducible exact Nat.le_refl _) | (with_reducible refine le_gw ?_ _) | (with_reducible refine le_alloc ?_ _) | (with_reducible refine le_setCell ?_ _ _) | (with_reducible refine le_drew ?_) | (with_reducible refine le_drewN ?_ _) | go_size))⟩
      · rw [← hc] at c0
        have g1 : (((S'.length : Int) - (s.length : Int) : Int) == 1) = false := by rw [beq_eq_false_iff_ne]; exact fun e => by have := q1.2 e; omega
        have g2 : (((S'.length : Int) - (s.length : Int) : Int) == -2) = false := by rw [beq_eq_false_iff_ne]; exact fun e => by have := q2.2 e; omega
        obtain rfl := q3 (by decide) (by decide)
        clear q1 q2 q3 hc cr
        go_wp2
        go_ret
        exact ⟨rfl, by have b7 := B7.out; (repeat' (first | (with_reducible exact Below.refl _ _) | (with_reducible assumption) | (with_reducible refine below_drewN ?_ _) | (with_reducible refine Below.drew ?_) | (with_reducible refine Below.alloc ?_ ?_ _) | (with_reducible refine Below.setCell ?_ ?_ _) | (with_reducible refine below_gw ?_ ?_ _) | (with_reducible refine below_via ?_ ‹Below _ _ _› ?_) | (with_reducible exact Nat.le_refl _) | (with_reducible refine le_gw ?_ _) | (with_reducible refine le_alloc ?_ _) | (with_reducible refine le_setCell ?_ _ _) | (with_reducible refine le_drew ?_) | (with_reducible refine le_drewN ?_ _) | go_size))⟩
      · rw [← hc] at c0
        have g1 : (((S'.length : Int) - (s.length : Int) : Int) == 1) = false := by rw [beq_eq_false_iff_ne]; exact fun e => by have := q1.2 e; omega
        have g2 : (((S'.length : Int) - (s.length : Int) : Int) == -2) = false := by rw [beq_eq_false_iff_ne]; exact fun e => by have := q2.2 e; omega
        obtain rfl := q3 (by decide) (by decide)
        clear q1 q2 q3 hc cr
        go_wp2
        go_ret
        exact ⟨rfl, by have b7 := B7.out; (repeat' (first | (with_reducible exact Below.refl _ _) | (with_reducible assumption) | (with_reducible refine below_drewN ?_ _) | (with_reducible refine Below.drew ?_) | (with_reducible refine Below.alloc ?_ ?_ _) | (with_reducible refine Below.setCell ?_ ?_ _) | (with_reducible refine below_gw ?_ ?_ _) | (with_reducible refine below_via ?_ ‹Below _ _ _› ?_) | (with_reducible exact Nat.le_refl _) | (with_reducible refine le_gw ?_ _) | (with_reducible refine le_alloc ?_ _) | (with_reducible refine le_setCell ?_ _ _) | (with_reducible refine le_drew ?_) | (with_reducible refine le_drewN ?_ _) | go_size))⟩
      · rw [← hc] at c0
        have g1 : (S'.length : Int) - (s.length : Int) = -2 := q2.1 (by omega)
        obtain rfl := q3 (by decide) (by decide)
        clear q1 q2 q3 hc cr
        go_wp2
        go_ret
        exact ⟨rfl, by have b7 := B7.out; (repeat' (first | (with_reducible exact Below.refl _ _) | (with_reducible assumption) | (with_reducible refine below_drewN ?_ _) | (with_reducible refine Below.drew ?_) | (with_reducible refine Below.alloc ?_ ?_ _) | (with_reducible refine Below.setCell ?_ ?_ _) | (with_reducible refine below_gw ?_ ?_ _) | (with_reducible refine below_via ?_ ‹Below _ _ _› ?_) | (with_reducible exact Nat.le_refl _) | (with_reducible refine le_gw ?_ _) | (with_reducible refine le_alloc ?_ _) | (with_reducible refine le_setCell ?_ _ _) | (with_reducible refine le_drew ?_) | (with_reducible refine le_drewN ?_ _) | go_size))⟩
      · rw [← hc] at c0
        have g1 : (((S'.length : Int) - (s.length : Int) : Int) == 1) = false := by rw [beq_eq_false_iff_ne]; exact fun e => by have := q1.2 e; omega
        have g2 : (((S'.length : Int) - (s.length : Int) : Int) == -2) = false := by rw [beq_eq_false_iff_ne]; exact fun e => by have := q2.2 e; omega
        clear q1 q2 q3 hc cr
        go_wp2
        go_ret
        exact ⟨rfl, by have b7 := B7.out; (repeat' (first | (with_reducible exact Below.refl _ _) | (with_reducible assumption) | (with_reducible refine below_drewN ?_ _) | (with_reducible refine Below.drew ?_) | (with_reducible refine Below.alloc ?_ ?_ _) | (with_reducible refine Below.setCell ?_ ?_ _) | (with_reducible refine below_gw ?_ ?_ _) | (with_reducible refine below_via ?_ ‹Below _ _ _› ?_) | (with_reducible exact Nat.le_refl _) | (with_reducible refine le_gw ?_ _) | (with_reducible refine le_alloc ?_ _) | (with_reducible refine le_setCell ?_ _ _) | (with_reducible refine le_drew ?_) | (with_reducible refine le_drewN ?_ _) | go_size))⟩
      · rw [← hc] at c0
        have g1 : (((S'.length : Int) - (s.length : Int) : Int) == 1) = false := by rw [beq_eq_false_iff_ne]; exact fun e => by have := q1.2 e; omega
        have g2 : (((S'.length : Int) - (s.length : Int) : Int) == -2) = false := by rw [beq_eq_false_iff_ne]; exact fun e => by have := q2.2 e; omega
        clear q1 q2 q3 hc cr
        go_wp2
        go_ret
        exact ⟨rfl, by have b7 := B7.out; (repeat' (first | (with_reducible exact Below.refl _ _) | (with_reducible assumption) | (with_reducible refine below_drewN ?_ _) | (with_reducible refine Below.drew ?_) | (with_reducible refine Below.alloc ?_ ?_ _) | (with_reducible refine Below.setCell ?_ ?_ _) | (with_reducible refine below_gw ?_ ?_ _) | (with_reducible refine below_via ?_ ‹Below _ _ _› ?_) | (with_reducible exact Nat.le_refl _) | (with_reducible refine le_gw ?_ _) | (with_reducible refine le_alloc ?_ _) | (with_reducible refine le_setCell ?_ _ _) | (with_reducible refine le_drew ?_) | (with_reducible refine le_drewN ?_ _) | go_size))⟩
    · obtain ⟨y1, y2, y3, y4⟩ := Tm.step_stays hM hw
      have yr := Tm.why_range L k s
      have yt := Tm.why_two L k s
      obtain ⟨y, hy⟩ : ∃ y, y = Tm.why L k s := ⟨_, rfl⟩
      rw [y1, y2, y3] at V
      rw [y2, y3] at N5
      rw [y1, y2, y3, y4]
      rw [← hy] at yr yt hw ⊢
      obtain ⟨yr0, yr1⟩ := yr
      have k0 : 0 ≤ k ∧ k ≤ L.length := ((Tm.machOk_iff _ _ _ _).1 HM.out).2.1
      have hyn : (y != 0) = true := by simpa using hw
      have hyn2 : (y == 0) = false := by simpa using hw
      have l0 : ¬ y < 0 := by omega
      have l4 : ¬ 4 < y := by omega
      have SD : Hid ((y == 2) = (k == (L.length : Int))) := Lib.hid (by rw [Bool.eq_iff_iff]; simp [yt])
      clear hM y1 y2 y3 y4 hy yt
      go_wp2_with fail
      generalize hW : World.alloc w5 _ = w6
      have bk := blk3_new w5 (.int .i64 k) (.slice a2 s.length c2) (.slice b2 o.length d2) 27
      rw [hW] at bk
      have hb6 : Below w5.heap.size w5 w6 := by rw [← hW]; exact (Below.refl _ _).alloc (Nat.le_refl _) _
      have Z6 := Lib.hid bk
      have X6 := Lib.hid (X5.out.later hb6)
      have P6 := Lib.hid (P5.out.below hb6)
      have N6 := Lib.hid (N5.out.below hb6)
      have M6 := Lib.hid (M5.out.below hb6)
      have s6 := hb6.size
      have B6 := Lib.hid (B5.out.trans (hb6.mono (by omega)))
      clear hW bk hb6 P5 N5 M5 X5
      refine (sIsMachine aL L.length cL L k a2 s.length c2 s b2 o.length d2 o _ P6.out N6.out).mono ?_
      rintro e w7 ⟨rfl, hb7⟩
      rw [V.out]
      have Z7 := Lib.hid (Z6.out.later hb7)
      have X7 := Lib.hid (X6.out.later hb7)
      have N7 := Lib.hid (N6.out.below hb7)
      have M7 := Lib.hid (M6.out.below hb7)
      have s7 := hb7.size
      have B7 := Lib.hid (B6.out.trans (hb7.mono (by omega)))
      obtain ⟨e0, e1, e2⟩ := Z7.out.cells
      obtain ⟨f0, f1, f2⟩ := X7.out.cells
      have ez := Z7.out.lt
      have fz := X7.out.lt
      clear hb7 P6 N6 M6 Z6 X6
      go_wp2_with fail
      refine (ints_any _ _ _ _ _ _ s s _ N7.out.1 M7.out.1).mono ?_
      rintro e w8 ⟨rfl, hb8⟩
      rw [show decide (s = s) = true from by simp]
      have Z8 := Lib.hid (Z7.out.later hb8)
      have X8 := Lib.hid (X7.out.later hb8)
      have N8 := Lib.hid (N7.out.below hb8)
      have M8 := Lib.hid (M7.out.below hb8)
      have s8 := hb8.size
      have B8 := Lib.hid (B7.out.trans (hb8.mono (by omega)))
      clear e0 e1 e2 f0 f1 f2 ez fz hb8 N7 M7 Z7 X7
      obtain ⟨e0, e1, e2⟩ := Z8.out.cells
      obtain ⟨f0, f1, f2⟩ := X8.out.cells
      have ez := Z8.out.lt
      have fz := X8.out.lt
      go_wp2_with fail
      refine (ints_any _ _ _ _ _ _ o o _ N8.out.2 M8.out.2).mono ?_
      rintro e w9 ⟨rfl, hb9⟩
      rw [show decide (o = o) = true from by simp]
      have X9 := Lib.hid (X8.out.later hb9)
      have s9 := hb9.size
      have B9 := Lib.hid (B8.out.trans (hb9.mono (by omega)))
      clear e0 e1 e2 f0 f1 f2 ez fz hb9
      obtain ⟨f0, f1, f2⟩ := X9.out.cells
      have fz := X9.out.lt
      have SD1 := SD.out
      go_wp2
      go_ret
      exact ⟨rfl, B9.out⟩
  · go_enter Tryd.func3, Tryd.ntmps3
    go_wp2
    go_ret
    exact ⟨rfl, Below.refl _ _⟩
end Go.Proofs.YtfnhoiomdjmjhaaDoor

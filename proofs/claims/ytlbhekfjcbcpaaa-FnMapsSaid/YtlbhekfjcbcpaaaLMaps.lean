/- Walks of laws: FnMaps. -/
import Derived.Test.YtlbhekfjcbcpaaaAMath
import Derived.Test.YtlbhekfjcbcpaaaLAm
import Derived.Test.YtlbhekfjcbcpaaaLaw2
import Derived.Test.YtlbhekfjcbcpaaaTr
import Derived.Test.YtlbhekfjcbcpaaaWI4
import Derived.Test.YtlbhekfjcbcpaaaWI3
import Derived.Test.YtlbhekfjcbcpaaaAI
import Derived.Test.YtlbhekfjcbcpaaaAS
import Derived.Test.YtlbhekfjcbcpaaaHeld
namespace Go.Proofs.Ytlbhekfjcbcpaaa
set_option maxRecDepth 20000
open Go.RowKit
set_option maxRecDepth 20000 in
set_option maxHeartbeats 8000000 in
theorem wFnMaps (a0 : Option Addr) (len0 cap0 : Nat) (z0 : List Int) (w : World) (w0 : IsRow .u8 w a0 len0 cap0 z0) : Calls Try.prog 10 #[.slice a0 len0 cap0] w fun e w' => e = .returned (.bool true) ∧ Below w.heap.size w w' := by
  have BY := Lib.hid (Byts.of_row w0)
  have m0 : len0 ≤ 9223372036854775807 := by obtain ⟨h1, h2, _⟩ := BY.out; unfold maxLen at h2; omega
  clear w0
  have B := Lib.hid (Below.refl w.heap.size w)
  by_cases g0 : len0 ≤ 1048576
  · skip
    go_enter Try.func10, Try.ntmps10
    go_wp2_with fail
    refine (at_any a0 len0 cap0 1 _ BY.out (by omega) (by omega) (by omega)).mono ?_
    rintro e w' ⟨x, rfl, x_0, x_1, rfl⟩
    obtain ⟨j, hj⟩ : ∃ j : Nat, x.tmod 25 = (j : Int) := ⟨_, (Int.toNat_of_nonneg (Int.tmod_nonneg _ x_0)).symm⟩
    have j_lt : j < 25 := by have := Int.tmod_lt_of_pos x (show (0 : Int) < 25 by omega); omega
    go_wp2_with fail
    rw [show (2 + (j : Int)) = ((j + 2 : Nat) : Int) from by omega]
    refine (makeExact_any a0 len0 cap0 (j + 2) _ BY.out (by omega) (by omega) (by omega)).mono ?_
    rintro e w0 ⟨xs, b0, c0, rfl, hw, hp, ho, hb⟩
    have hsz := hb.size
    replace BY := Lib.hid (BY.out.below hb)
    replace B := Lib.hid (B.out.trans (hb.mono B.out.size))
    clear hb hsz
    have I_xs := Lib.hid (Ints.of_own ho)
    clear ho
    have W_xs := Lib.hid hw
    clear hw
    have L_xs := Lib.hid hp
    clear hp
    have lx := L_xs.out
    have xs_12 : 2 ≤ xs.length ∧ xs.length ≤ 26 := by omega
    obtain ⟨xs_1, xs_2⟩ := xs_12
    clear lx
    go_wp2_with fail
    refine (fresh_any a0 len0 cap0 3 _ BY.out (by omega) (by omega) (by omega)).mono ?_
    rintro e w1 ⟨a9, len9, cap9, rfl, m9, by9, hb⟩
    have BZ := Lib.hid by9
    clear by9
    have hsz := hb.size
    replace I_xs := Lib.hid (I_xs.out.below hb)
    replace BY := Lib.hid (BY.out.below hb)
    replace B := Lib.hid (B.out.trans (hb.mono B.out.size))
    clear hb hsz
    go_wp2_with fail
    refine (makeExact_any a9 len9 cap9 xs.length _ BZ.out (by omega) (by omega) (by omega)).mono ?_
    rintro e w2 ⟨ys, b2, c2, rfl, hw, hp, ho, hb⟩
    clear BZ
    have hsz := hb.size
    replace I_xs := Lib.hid (I_xs.out.below hb)
    replace BY := Lib.hid (BY.out.below hb)
    replace B := Lib.hid (B.out.trans (hb.mono B.out.size))
    clear hb hsz
    have I_ys := Lib.hid (Ints.of_own ho)
    clear ho
    have W_ys := Lib.hid hw
    have E_ys := Lib.hid hp
    clear hw
    have ys_12 : 2 ≤ ys.length ∧ ys.length ≤ 26 := by omega
    obtain ⟨ys_1, ys_2⟩ := ys_12
    clear hp
    go_wp2_with fail
    refine (at_any a0 len0 cap0 2 _ BY.out (by omega) (by omega) (by omega)).mono ?_
    rintro e w' ⟨y, rfl, y_0, y_1, rfl⟩
    obtain ⟨q, hq⟩ : ∃ j : Nat, y.tmod 3 = (j : Int) := ⟨_, (Int.toNat_of_nonneg (Int.tmod_nonneg _ y_0)).symm⟩
    have q_lt : q < 3 := by have := Int.tmod_lt_of_pos y (show (0 : Int) < 3 by omega); omega
    have AO : Hid (Tm.addOk xs ys ((q : Int) - 1) = true) := Lib.hid (Tm.addOk_of W_xs.out W_ys.out E_ys.out (by omega))
    go_wp2_with fail
    have hok := AO.out
    refine (retIB_ex (iCarriesOf b0 xs.length c0 xs b2 ys.length c2 ys ((q : Int) - 1) _ I_xs.out I_ys.out) hok).mono ?_
    clear hok
    rintro e w3 ⟨cr, b3, c3, hv, rfl, ho, hb, ln3⟩
    have H_cr : Hid (cr = Tm.crs xs ys ((q : Int) - 1)) := Lib.hid hv
    have hsz := hb.size
    replace I_xs := Lib.hid (I_xs.out.below hb)
    replace I_ys := Lib.hid (I_ys.out.below hb)
    replace BY := Lib.hid (BY.out.below hb)
    replace B := Lib.hid (B.out.trans (hb.mono B.out.size))
    clear hb hsz
    have I_cr := Lib.hid (Ints.of_own ho)
    clear ho hv
    go_wp2_with fail
    have hok := AO.out
    refine (retINB_ex (iAddWords b0 xs.length c0 xs b2 ys.length c2 ys ((q : Int) - 1) _ I_xs.out I_ys.out) hok).mono ?_
    clear hok
    rintro e w4 ⟨s, ko, b4, c4, hv, hv2, rfl, ho, hb, ln4⟩
    have H_s : Hid (s = Tm.add xs ys ((q : Int) - 1)) := Lib.hid hv
    have H_ko : Hid (ko = Tm.addC xs ys ((q : Int) - 1)) := Lib.hid hv2
    have hsz := hb.size
    replace I_xs := Lib.hid (I_xs.out.below hb)
    replace I_ys := Lib.hid (I_ys.out.below hb)
    replace I_cr := Lib.hid (I_cr.out.below hb)
    replace BY := Lib.hid (BY.out.below hb)
    replace B := Lib.hid (B.out.trans (hb.mono B.out.size))
    clear hb hsz
    have I_s := Lib.hid (Ints.of_own ho)
    clear ho hv hv2
    have CL : Hid (cr.length = xs.length) := Lib.hid (by rw [H_cr.out, Tm.crs, if_pos AO.out]; exact genL_length _ _)
    have cl : (cr.length : Int) = (xs.length : Int) := by rw [CL.out]
    have CG : Hid (∀ i, i < xs.length → cr.getD i 0 = Tm.crr xs ys ((q : Int) - 1) i) := Lib.hid (by intro i hi; rw [H_cr.out, Tm.crs, if_pos AO.out]; exact genL_get _ _ _ hi)
    have yl0 : ys.length = xs.length := E_ys.out
    have YL := Lib.hid yl0
    have yl : xs.length ≤ ys.length := by omega
    clear yl0
    rcases I_cr.out.2.2.2 with h0 | ⟨bc, oc, rfl, hbc, hcc⟩
    · have := CL.out; omega
    have cl2 : xs.length ≤ cr.length := by have := CL.out; omega
    have ck0 : w4.cell? ⟨bc, oc, none⟩ = some (.int .i64 ((q : Int) - 1)) := by
      have := hcc 0 (by omega)
      rw [CG.out 0 (by omega)] at this
      exact this
    clear hcc
    go_wp2_with fail
    rcases I_xs.out.2.2.2 with h0 | ⟨bx, ox, rfl, hbx, hcx⟩
    · omega
    rcases I_ys.out.2.2.2 with h0 | ⟨by_, oy, rfl, hby, hcy⟩
    · omega
    have HX : Hid (∀ w', Below w4.heap.size w4 w' → ∀ i, i < xs.length → w'.cell? ⟨bx, ox + i, none⟩ = some (.int .i64 (xs.getD i 0)) ∧ w'.cell? ⟨by_, oy + i, none⟩ = some (.int .i64 (ys.getD i 0))) := Lib.hid fun w' hw i hi => ⟨by rw [← hcx i hi]; exact World.cell?_of_block (a := ⟨bx, ox + i, none⟩) (hw.block bx hbx), by rw [← hcy i (by omega)]; exact World.cell?_of_block (a := ⟨by_, oy + i, none⟩) (hw.block by_ hby)⟩
    clear hcx hcy
    have n1 : (0 : Int) < (xs.length : Int) := by omega
    have n2 : (0 : Int) < (ys.length : Int) := by omega
    have n3 : (1 : Int) < (xs.length : Int) := by omega
    have n4 : (1 : Int) < (ys.length : Int) := by omega
    have n5 : xs ≠ [] := by intro e; rw [e] at n1; simp at n1
    have n6 : ys ≠ [] := by intro e; rw [e] at n2; simp at n2
    have n7 : 0 < xs.length := by omega
    have n8 : 0 < ys.length := by omega
    obtain ⟨x0, hx0⟩ : ∃ z, z = xs.getD 0 0 := ⟨_, rfl⟩
    obtain ⟨y0, hy0⟩ : ∃ z, z = ys.getD 0 0 := ⟨_, rfl⟩
    have X0 := Lib.hid hx0
    have Y0 := Lib.hid hy0
    clear hx0 hy0
    have S0 : Hid (∀ w', Below w4.heap.size w4 w' → w'.cell? ⟨bx, ox, none⟩ = some (.int .i64 x0) ∧ w'.cell? ⟨by_, oy, none⟩ = some (.int .i64 y0)) := Lib.hid fun w' hw => by
      have := HX.out w' hw 0 (by omega)
      rw [← X0.out, ← Y0.out] at this
      exact this
    go_region_held3 (fun w' => w'.cell? ⟨bx, ox, none⟩ = some (.int .i64 x0) ∧ w'.cell? ⟨by_, oy, none⟩ = some (.int .i64 y0)) (exact S0.out _ (by (repeat' (first | (with_reducible exact Below.refl _ _) | (with_reducible assumption) | (with_reducible refine below_drewN ?_ _) | (with_reducible refine Below.drew ?_) | (with_reducible refine Below.alloc ?_ ?_ _) | (with_reducible refine Below.setCell ?_ ?_ _) | (with_reducible refine below_gw ?_ ?_ _) | (with_reducible refine below_via ?_ ‹Below _ _ _› ?_) | (with_reducible exact Nat.le_refl _) | (with_reducible refine le_gw ?_ _) | (with_reducible refine le_alloc ?_ _) | (with_reducible refine le_setCell ?_ _ _) | (with_reducible refine le_drew ?_) | (with_reducible refine le_drewN ?_ _) | go_size)))) ((first | (go_at_call 50; refine (iMapOf x0 y0 _).mono ?_; rintro e w1 ⟨rfl, hb⟩; obtain ⟨p, rfl⟩ := gw_of_below hb; clear hb)))
    all_goals
      first
      | (obtain ⟨G, hG⟩ : ∃ G, G = w4.heap.size + p.os.size := ⟨_, rfl⟩
         rw [← hG]
         generalize hW1 : World.alloc _ _ = w20
         have F := Lib.hid hW1
         have FG := Lib.hid hG
         clear hW1 hG
         have T0 : Hid (M3 w20 G (Tm.mp x0 y0)) := Lib.hid (M3.of (by rw [← F.out, FG.out]; go_simp; try omega) (by rw [← F.out, FG.out]; go_simp) (by rw [← F.out, FG.out]; go_simp) (by rw [← F.out, FG.out]; go_simp) (by rw [← F.out, FG.out]; go_simp) (by rw [← F.out, FG.out]; go_simp) (by rw [← F.out, FG.out]; go_simp))
         have b0 : Below w4.heap.size w4 w20 := by rw [← F.out]; (repeat' (first | (with_reducible exact Below.refl _ _) | (with_reducible assumption) | (with_reducible refine below_drewN ?_ _) | (with_reducible refine Below.drew ?_) | (with_reducible refine Below.alloc ?_ ?_ _) | (with_reducible refine Below.setCell ?_ ?_ _) | (with_reducible refine below_gw ?_ ?_ _) | (with_reducible refine below_via ?_ ‹Below _ _ _› ?_) | (with_reducible exact Nat.le_refl _) | (with_reducible refine le_gw ?_ _) | (with_reducible refine le_alloc ?_ _) | (with_reducible refine le_setCell ?_ _ _) | (with_reducible refine le_drew ?_) | (with_reducible refine le_drewN ?_ _) | go_size))
         have g0 : w4.heap.size ≤ G := by rw [FG.out]; omega
         clear F FG)
      | (obtain ⟨G, hG⟩ : ∃ G, G = w4.heap.size := ⟨_, rfl⟩
         generalize hW1 : gw (World.alloc _ _) _ = w20
         rw [← hG]
         have F := Lib.hid hW1
         have FG := Lib.hid hG
         clear hW1 hG
         have T0 : Hid (M3 w20 G (Tm.mp x0 y0)) := Lib.hid (M3.of (by rw [← F.out, FG.out]; go_simp; try omega) (by rw [← F.out, FG.out]; go_simp) (by rw [← F.out, FG.out]; go_simp) (by rw [← F.out, FG.out]; go_simp) (by rw [← F.out, FG.out]; go_simp) (by rw [← F.out, FG.out]; go_simp) (by rw [← F.out, FG.out]; go_simp))
         have b0 : Below w4.heap.size w4 w20 := by rw [← F.out]; (repeat' (first | (with_reducible exact Below.refl _ _) | (with_reducible assumption) | (with_reducible refine below_drewN ?_ _) | (with_reducible refine Below.drew ?_) | (with_reducible refine Below.alloc ?_ ?_ _) | (with_reducible refine Below.setCell ?_ ?_ _) | (with_reducible refine below_gw ?_ ?_ _) | (with_reducible refine below_via ?_ ‹Below _ _ _› ?_) | (with_reducible exact Nat.le_refl _) | (with_reducible refine le_gw ?_ _) | (with_reducible refine le_alloc ?_ _) | (with_reducible refine le_setCell ?_ _ _) | (with_reducible refine le_drew ?_) | (with_reducible refine le_drewN ?_ _) | go_size))
         have g0 : w4.heap.size ≤ G := by rw [FG.out]; omega
         clear F FG)
    all_goals
      have T1 : Hid (M3 w20 G (Tm.maps xs ys 0)) := Lib.hid (by have := T0.out; rw [X0.out, Y0.out] at this; exact this)
      have B0 := Lib.hid b0
      clear T0 b0 ck0
      go_wp2_with fail
      go_loopw [12] (fun i wr => ∃ n m : Nat, Hid (n = m + 1) ∧ n ≤ xs.length ∧ i = .int .i64 n ∧ Hid (M3 wr G (Tm.maps xs ys m)) ∧ Hid (Below w4.heap.size w4 wr)) (fun i _ => xs.length - (intOf i).toNat)
      case atStart => exact ⟨1, 0, Lib.hid rfl, by omega, rfl, T1, B0⟩
      case round =>
        clear T1 B0
        obtain ⟨n, m, N, hm, rfl, TT, BB⟩ := hrel
        have BB2 := BB.out
        have gl := TT.out.1
        by_cases hlt : n < xs.length
        · skip
          have m1 : (n : Int) < (xs.length : Int) := by omega
          have m2 : (n : Int) < (ys.length : Int) := by omega
          have m3 : (n : Int) < (cr.length : Int) := by omega
          have m4 : n < ys.length := by omega
          have m5 : n < cr.length := by omega
          obtain ⟨z, hz⟩ : ∃ z, z = Tm.crr xs ys ((q : Int) - 1) n := ⟨_, rfl⟩
          have IC := I_cr.out.below BB.out
          rcases IC.2.2.2 with h0 | ⟨b7, o7, e7, hb7, hc7⟩
          · omega
          cases e7
          have cc := hc7 n m5
          rw [CG.out n hlt, ← hz] at cc
          clear hc7 hb7 IC
          have cm := TT.out.cell q (by omega)
          rw [show Tm.maps xs ys m q = z from by rw [hz, N.out, ← Tm.maps_crr W_xs.out W_ys.out (show -1 ≤ ((q : Int) - 1) ∧ ((q : Int) - 1) ≤ 1 by omega) m]; congr 1; omega] at cm
          clear hz
          obtain ⟨xm, hxm⟩ : ∃ z, z = xs.getD n 0 := ⟨_, rfl⟩
          obtain ⟨ym, hym⟩ : ∃ z, z = ys.getD n 0 := ⟨_, rfl⟩
          have Xm := Lib.hid hxm
          have Ym := Lib.hid hym
          clear hxm hym
          have Sm : Hid (∀ w', Below w4.heap.size w4 w' → w'.cell? ⟨bx, ox + n, none⟩ = some (.int .i64 xm) ∧ w'.cell? ⟨by_, oy + n, none⟩ = some (.int .i64 ym)) := Lib.hid fun w' hw => by
            have := HX.out w' hw n hlt
            rw [← Xm.out, ← Ym.out] at this
            exact this
          have E : Hid (Tm.maps xs ys (m + 1) = Tm.thn (Tm.maps xs ys m) (Tm.mp xm ym)) := Lib.hid (by rw [Tm.maps, Xm.out, Ym.out, N.out])
          obtain ⟨f, hf⟩ : ∃ f, f = Tm.maps xs ys m := ⟨_, rfl⟩
          rw [← hf] at TT E
          clear hf
          go_wp2_with fail
          go_quiet (fail)
          have c0 := TT.out.cell 0 (by omega)
          have c1 := TT.out.cell 1 (by omega)
          have c2 := TT.out.cell 2 (by omega)
          have z0 := TT.out.frozen 0 (by omega)
          have z1 := TT.out.frozen 1 (by omega)
          have z2 := TT.out.frozen 2 (by omega)
          clear cc cm
          go_wp2_with fail
          obtain ⟨s1, s2⟩ := Sm.out _ BB.out
          go_region_law ((first | (go_simp; go_at_call 50; refine (iMapOf xm ym _).mono ?_; rintro e w1 ⟨rfl, hb⟩; obtain ⟨p, rfl⟩ := gw_of_below hb; clear hb) | (go_simp; go_at_call 51; refine (iThenMap f (Tm.mp xm ym) _).mono ?_; rintro e w1 ⟨rfl, hb⟩; obtain ⟨p, rfl⟩ := gw_of_below hb; clear hb)))
          all_goals
            have gG0 := g0
            go_wp2
            refine ⟨⟨n + 1, m + 1, Lib.hid (by rw [N.out]), by omega, by go_num, Lib.hid ?_, Lib.hid (by (repeat' (first | (with_reducible exact Below.refl _ _) | (with_reducible assumption) | (with_reducible refine below_drewN ?_ _) | (with_reducible refine Below.drew ?_) | (with_reducible refine Below.alloc ?_ ?_ _) | (with_reducible refine Below.setCell ?_ ?_ _) | (with_reducible refine below_gw ?_ ?_ _) | (with_reducible refine below_via ?_ ‹Below _ _ _› ?_) | (with_reducible exact Nat.le_refl _) | (with_reducible refine le_gw ?_ _) | (with_reducible refine le_alloc ?_ _) | (with_reducible refine le_setCell ?_ _ _) | (with_reducible refine le_drew ?_) | (with_reducible refine le_drewN ?_ _) | go_size)))⟩, by simp [intOf]; omega⟩
            rw [E.out]
            exact M3.of (by go_simp; try omega) (by go_simp) (by go_simp) (by go_simp) (by go_simp) (by go_simp) (by go_simp)
        · obtain rfl : n = xs.length := by omega
          clear hlt gl
          have BB0 := BB.out
          have bs := BB0.size
          have ho : Tm.maps xs ys m q = ko := by
            rw [H_ko.out, Tm.addC, if_pos AO.out, N.out, ← Tm.maps_crr W_xs.out W_ys.out (show -1 ≤ ((q : Int) - 1) ∧ ((q : Int) - 1) ≤ 1 by omega) m]; congr 1; omega
          have HO := Lib.hid ho
          clear ho
          have hl : (xs.length : Int) - 1 = (m : Int) := by have := N.out; omega
          have hm2 : m < xs.length := by have := N.out; omega
          have hm3 : m < ys.length := by omega
          have hm4 : (m : Int) < (xs.length : Int) := by omega
          have hm5 : (m : Int) < (ys.length : Int) := by omega
          have hw1 : IntKind.i64.wrap ((xs.length : Int) - 1) = (m : Int) := by rw [hl]; exact IntWalk.i64_in m ⟨by omega, by omega⟩
          have hw2 : IntKind.i64.wrap (m : Int) = (m : Int) := IntWalk.i64_in m ⟨by omega, by omega⟩
          obtain ⟨fa, hfa⟩ : ∃ f, f = Tm.maps xs ys m := ⟨_, rfl⟩
          rw [← hfa] at TT HO
          clear hfa
          go_wp2_with fail
          go_region_held3 (fun w' => w'.cell? ⟨bx, ox, none⟩ = some (.int .i64 x0) ∧ w'.cell? ⟨by_, oy, none⟩ = some (.int .i64 y0)) (exact S0.out _ (by (repeat' (first | (with_reducible exact Below.refl _ _) | (with_reducible assumption) | (with_reducible refine below_drewN ?_ _) | (with_reducible refine Below.drew ?_) | (with_reducible refine Below.alloc ?_ ?_ _) | (with_reducible refine Below.setCell ?_ ?_ _) | (with_reducible refine below_gw ?_ ?_ _) | (with_reducible refine below_via ?_ ‹Below _ _ _› ?_) | (with_reducible exact Nat.le_refl _) | (with_reducible refine le_gw ?_ _) | (with_reducible refine le_alloc ?_ _) | (with_reducible refine le_setCell ?_ _ _) | (with_reducible refine le_drew ?_) | (with_reducible refine le_drewN ?_ _) | go_size)))) ((first | (go_at_call 50; refine (iMapOf x0 y0 _).mono ?_; rintro e w1 ⟨rfl, hb⟩; obtain ⟨p, rfl⟩ := gw_of_below hb; clear hb)))
          all_goals
            first
            | (obtain ⟨G17, hG⟩ : ∃ G, G = wr.heap.size + p.os.size := ⟨_, rfl⟩
               rw [← hG]
               generalize hW1 : World.alloc _ _ = w27
               have F := Lib.hid hW1
               have FG := Lib.hid hG
               clear hW1 hG
               have M17 : Hid (M3 w27 G17 (Tm.mp x0 y0)) := Lib.hid (M3.of (by rw [← F.out, FG.out]; go_simp; try omega) (by rw [← F.out, FG.out]; go_simp) (by rw [← F.out, FG.out]; go_simp) (by rw [← F.out, FG.out]; go_simp) (by rw [← F.out, FG.out]; go_simp) (by rw [← F.out, FG.out]; go_simp) (by rw [← F.out, FG.out]; go_simp))
               have b17 : Below wr.heap.size wr w27 := by rw [← F.out]; (repeat' (first | (with_reducible exact Below.refl _ _) | (with_reducible assumption) | (with_reducible refine below_drewN ?_ _) | (with_reducible refine Below.drew ?_) | (with_reducible refine Below.alloc ?_ ?_ _) | (with_reducible refine Below.setCell ?_ ?_ _) | (with_reducible refine below_gw ?_ ?_ _) | (with_reducible refine below_via ?_ ‹Below _ _ _› ?_) | (with_reducible exact Nat.le_refl _) | (with_reducible refine le_gw ?_ _) | (with_reducible refine le_alloc ?_ _) | (with_reducible refine le_setCell ?_ _ _) | (with_reducible refine le_drew ?_) | (with_reducible refine le_drewN ?_ _) | go_size))
               have g17 : wr.heap.size ≤ G17 := by rw [FG.out]; omega
               clear F FG)
            | (obtain ⟨G17, hG⟩ : ∃ G, G = wr.heap.size := ⟨_, rfl⟩
               generalize hW1 : gw (World.alloc _ _) _ = w27
               rw [← hG]
               have F := Lib.hid hW1
               have FG := Lib.hid hG
               clear hW1 hG
               have M17 : Hid (M3 w27 G17 (Tm.mp x0 y0)) := Lib.hid (M3.of (by rw [← F.out, FG.out]; go_simp; try omega) (by rw [← F.out, FG.out]; go_simp) (by rw [← F.out, FG.out]; go_simp) (by rw [← F.out, FG.out]; go_simp) (by rw [← F.out, FG.out]; go_simp) (by rw [← F.out, FG.out]; go_simp) (by rw [← F.out, FG.out]; go_simp))
               have b17 : Below wr.heap.size wr w27 := by rw [← F.out]; (repeat' (first | (with_reducible exact Below.refl _ _) | (with_reducible assumption) | (with_reducible refine below_drewN ?_ _) | (with_reducible refine Below.drew ?_) | (with_reducible refine Below.alloc ?_ ?_ _) | (with_reducible refine Below.setCell ?_ ?_ _) | (with_reducible refine below_gw ?_ ?_ _) | (with_reducible refine below_via ?_ ‹Below _ _ _› ?_) | (with_reducible exact Nat.le_refl _) | (with_reducible refine le_gw ?_ _) | (with_reducible refine le_alloc ?_ _) | (with_reducible refine le_setCell ?_ _ _) | (with_reducible refine le_drew ?_) | (with_reducible refine le_drewN ?_ _) | go_size))
               have g17 : wr.heap.size ≤ G17 := by rw [FG.out]; omega
               clear F FG)
          all_goals
            have TT := Lib.hid (TT.out.below b17)
            have BB0 := BB0.trans (b17.mono BB0.size)
            have bs := BB0.size
            clear b17
            go_wp2_with fail
            obtain ⟨x18, hx18⟩ : ∃ z, z = xs.getD 1 0 := ⟨_, rfl⟩
            obtain ⟨y18, hy18⟩ : ∃ z, z = ys.getD 1 0 := ⟨_, rfl⟩
            have X18 := Lib.hid hx18
            have Y18 := Lib.hid hy18
            clear hx18 hy18
            have S18 : Hid (∀ w', Below w4.heap.size w4 w' → w'.cell? ⟨bx, ox + 1, none⟩ = some (.int .i64 x18) ∧ w'.cell? ⟨by_, oy + 1, none⟩ = some (.int .i64 y18)) := Lib.hid fun w' hw => by
              have := HX.out w' hw 1 (by omega)
              rw [← X18.out, ← Y18.out] at this
              exact this
            go_region_held3 (fun w' => w'.cell? ⟨bx, ox + 1, none⟩ = some (.int .i64 x18) ∧ w'.cell? ⟨by_, oy + 1, none⟩ = some (.int .i64 y18)) (exact S18.out _ (by (repeat' (first | (with_reducible exact Below.refl _ _) | (with_reducible assumption) | (with_reducible refine below_drewN ?_ _) | (with_reducible refine Below.drew ?_) | (with_reducible refine Below.alloc ?_ ?_ _) | (with_reducible refine Below.setCell ?_ ?_ _) | (with_reducible refine below_gw ?_ ?_ _) | (with_reducible refine below_via ?_ ‹Below _ _ _› ?_) | (with_reducible exact Nat.le_refl _) | (with_reducible refine le_gw ?_ _) | (with_reducible refine le_alloc ?_ _) | (with_reducible refine le_setCell ?_ _ _) | (with_reducible refine le_drew ?_) | (with_reducible refine le_drewN ?_ _) | go_size)))) ((first | (go_at_call 50; refine (iMapOf x18 y18 _).mono ?_; rintro e w1 ⟨rfl, hb⟩; obtain ⟨p, rfl⟩ := gw_of_below hb; clear hb)))
            all_goals
              first
              | (obtain ⟨G18, hG⟩ : ∃ G, G = w27.heap.size + p.os.size := ⟨_, rfl⟩
                 rw [← hG]
                 generalize hW1 : World.alloc _ _ = w28
                 have F := Lib.hid hW1
                 have FG := Lib.hid hG
                 clear hW1 hG
                 have M18 : Hid (M3 w28 G18 (Tm.mp x18 y18)) := Lib.hid (M3.of (by rw [← F.out, FG.out]; go_simp; try omega) (by rw [← F.out, FG.out]; go_simp) (by rw [← F.out, FG.out]; go_simp) (by rw [← F.out, FG.out]; go_simp) (by rw [← F.out, FG.out]; go_simp) (by rw [← F.out, FG.out]; go_simp) (by rw [← F.out, FG.out]; go_simp))
                 have b18 : Below w27.heap.size w27 w28 := by rw [← F.out]; (repeat' (first | (with_reducible exact Below.refl _ _) | (with_reducible assumption) | (with_reducible refine below_drewN ?_ _) | (with_reducible refine Below.drew ?_) | (with_reducible refine Below.alloc ?_ ?_ _) | (with_reducible refine Below.setCell ?_ ?_ _) | (with_reducible refine below_gw ?_ ?_ _) | (with_reducible refine below_via ?_ ‹Below _ _ _› ?_) | (with_reducible exact Nat.le_refl _) | (with_reducible refine le_gw ?_ _) | (with_reducible refine le_alloc ?_ _) | (with_reducible refine le_setCell ?_ _ _) | (with_reducible refine le_drew ?_) | (with_reducible refine le_drewN ?_ _) | go_size))
                 have g18 : w27.heap.size ≤ G18 := by rw [FG.out]; omega
                 clear F FG)
              | (obtain ⟨G18, hG⟩ : ∃ G, G = w27.heap.size := ⟨_, rfl⟩
                 generalize hW1 : gw (World.alloc _ _) _ = w28
                 rw [← hG]
                 have F := Lib.hid hW1
                 have FG := Lib.hid hG
                 clear hW1 hG
                 have M18 : Hid (M3 w28 G18 (Tm.mp x18 y18)) := Lib.hid (M3.of (by rw [← F.out, FG.out]; go_simp; try omega) (by rw [← F.out, FG.out]; go_simp) (by rw [← F.out, FG.out]; go_simp) (by rw [← F.out, FG.out]; go_simp) (by rw [← F.out, FG.out]; go_simp) (by rw [← F.out, FG.out]; go_simp) (by rw [← F.out, FG.out]; go_simp))
                 have b18 : Below w27.heap.size w27 w28 := by rw [← F.out]; (repeat' (first | (with_reducible exact Below.refl _ _) | (with_reducible assumption) | (with_reducible refine below_drewN ?_ _) | (with_reducible refine Below.drew ?_) | (with_reducible refine Below.alloc ?_ ?_ _) | (with_reducible refine Below.setCell ?_ ?_ _) | (with_reducible refine below_gw ?_ ?_ _) | (with_reducible refine below_via ?_ ‹Below _ _ _› ?_) | (with_reducible exact Nat.le_refl _) | (with_reducible refine le_gw ?_ _) | (with_reducible refine le_alloc ?_ _) | (with_reducible refine le_setCell ?_ _ _) | (with_reducible refine le_drew ?_) | (with_reducible refine le_drewN ?_ _) | go_size))
                 have g18 : w27.heap.size ≤ G18 := by rw [FG.out]; omega
                 clear F FG)
            all_goals
              have TT := Lib.hid (TT.out.below b18)
              have M17 := Lib.hid (M17.out.below b18)
              have BB0 := BB0.trans (b18.mono BB0.size)
              have bs := BB0.size
              clear b18
              go_wp2_with fail
              obtain ⟨x19, hx19⟩ : ∃ z, z = xs.getD m 0 := ⟨_, rfl⟩
              obtain ⟨y19, hy19⟩ : ∃ z, z = ys.getD m 0 := ⟨_, rfl⟩
              have X19 := Lib.hid hx19
              have Y19 := Lib.hid hy19
              clear hx19 hy19
              have S19 : Hid (∀ w', Below w4.heap.size w4 w' → w'.cell? ⟨bx, ox + m, none⟩ = some (.int .i64 x19) ∧ w'.cell? ⟨by_, oy + m, none⟩ = some (.int .i64 y19)) := Lib.hid fun w' hw => by
                have := HX.out w' hw m hm2
                rw [← X19.out, ← Y19.out] at this
                exact this
              go_region_held3 (fun w' => w'.cell? ⟨bx, ox + m, none⟩ = some (.int .i64 x19) ∧ w'.cell? ⟨by_, oy + m, none⟩ = some (.int .i64 y19)) (exact S19.out _ (by (repeat' (first | (with_reducible exact Below.refl _ _) | (with_reducible assumption) | (with_reducible refine below_drewN ?_ _) | (with_reducible refine Below.drew ?_) | (with_reducible refine Below.alloc ?_ ?_ _) | (with_reducible refine Below.setCell ?_ ?_ _) | (with_reducible refine below_gw ?_ ?_ _) | (with_reducible refine below_via ?_ ‹Below _ _ _› ?_) | (with_reducible exact Nat.le_refl _) | (with_reducible refine le_gw ?_ _) | (with_reducible refine le_alloc ?_ _) | (with_reducible refine le_setCell ?_ _ _) | (with_reducible refine le_drew ?_) | (with_reducible refine le_drewN ?_ _) | go_size)))) ((first | (go_at_call 50; refine (iMapOf x19 y19 _).mono ?_; rintro e w1 ⟨rfl, hb⟩; obtain ⟨p, rfl⟩ := gw_of_below hb; clear hb)))
              all_goals
                first
                | (obtain ⟨G19, hG⟩ : ∃ G, G = w28.heap.size + p.os.size := ⟨_, rfl⟩
                   rw [← hG]
                   generalize hW1 : World.alloc _ _ = w29
                   have F := Lib.hid hW1
                   have FG := Lib.hid hG
                   clear hW1 hG
                   have M19 : Hid (M3 w29 G19 (Tm.mp x19 y19)) := Lib.hid (M3.of (by rw [← F.out, FG.out]; go_simp; try omega) (by rw [← F.out, FG.out]; go_simp) (by rw [← F.out, FG.out]; go_simp) (by rw [← F.out, FG.out]; go_simp) (by rw [← F.out, FG.out]; go_simp) (by rw [← F.out, FG.out]; go_simp) (by rw [← F.out, FG.out]; go_simp))
                   have b19 : Below w28.heap.size w28 w29 := by rw [← F.out]; (repeat' (first | (with_reducible exact Below.refl _ _) | (with_reducible assumption) | (with_reducible refine below_drewN ?_ _) | (with_reducible refine Below.drew ?_) | (with_reducible refine Below.alloc ?_ ?_ _) | (with_reducible refine Below.setCell ?_ ?_ _) | (with_reducible refine below_gw ?_ ?_ _) | (with_reducible refine below_via ?_ ‹Below _ _ _› ?_) | (with_reducible exact Nat.le_refl _) | (with_reducible refine le_gw ?_ _) | (with_reducible refine le_alloc ?_ _) | (with_reducible refine le_setCell ?_ _ _) | (with_reducible refine le_drew ?_) | (with_reducible refine le_drewN ?_ _) | go_size))
                   have g19 : w28.heap.size ≤ G19 := by rw [FG.out]; omega
                   clear F FG)
                | (obtain ⟨G19, hG⟩ : ∃ G, G = w28.heap.size := ⟨_, rfl⟩
                   generalize hW1 : gw (World.alloc _ _) _ = w29
                   rw [← hG]
                   have F := Lib.hid hW1
                   have FG := Lib.hid hG
                   clear hW1 hG
                   have M19 : Hid (M3 w29 G19 (Tm.mp x19 y19)) := Lib.hid (M3.of (by rw [← F.out, FG.out]; go_simp; try omega) (by rw [← F.out, FG.out]; go_simp) (by rw [← F.out, FG.out]; go_simp) (by rw [← F.out, FG.out]; go_simp) (by rw [← F.out, FG.out]; go_simp) (by rw [← F.out, FG.out]; go_simp) (by rw [← F.out, FG.out]; go_simp))
                   have b19 : Below w28.heap.size w28 w29 := by rw [← F.out]; (repeat' (first | (with_reducible exact Below.refl _ _) | (with_reducible assumption) | (with_reducible refine below_drewN ?_ _) | (with_reducible refine Below.drew ?_) | (with_reducible refine Below.alloc ?_ ?_ _) | (with_reducible refine Below.setCell ?_ ?_ _) | (with_reducible refine below_gw ?_ ?_ _) | (with_reducible refine below_via ?_ ‹Below _ _ _› ?_) | (with_reducible exact Nat.le_refl _) | (with_reducible refine le_gw ?_ _) | (with_reducible refine le_alloc ?_ _) | (with_reducible refine le_setCell ?_ _ _) | (with_reducible refine le_drew ?_) | (with_reducible refine le_drewN ?_ _) | go_size))
                   have g19 : w28.heap.size ≤ G19 := by rw [FG.out]; omega
                   clear F FG)
              all_goals
                have TT := Lib.hid (TT.out.below b19)
                have M17 := Lib.hid (M17.out.below b19)
                have M18 := Lib.hid (M18.out.below b19)
                have BB0 := BB0.trans (b19.mono BB0.size)
                have bs := BB0.size
                clear b19
                go_wp2_with fail
                obtain ⟨u0, hu0⟩ : ∃ f, f = Tm.mp x0 y0 := ⟨_, rfl⟩
                obtain ⟨u1, hu1⟩ : ∃ f, f = Tm.mp x18 y18 := ⟨_, rfl⟩
                obtain ⟨u2, hu2⟩ : ∃ f, f = Tm.mp x19 y19 := ⟨_, rfl⟩
                have t0 : Tm.t3 u0 = true := by rw [hu0]; exact Tm.mp_t3 _ _
                have t1 : Tm.t3 u1 = true := by rw [hu1]; exact Tm.mp_t3 _ _
                have t2 : Tm.t3 u2 = true := by rw [hu2]; exact Tm.mp_t3 _ _
                rw [← hu0] at M17
                rw [← hu1] at M18
                rw [← hu2] at M19
                obtain ⟨v0, hv0⟩ : ∃ f, f = Tm.thn u0 u1 := ⟨_, rfl⟩
                obtain ⟨v1, hv1⟩ : ∃ f, f = Tm.thn u1 u2 := ⟨_, rfl⟩
                obtain ⟨k0, hk0⟩ : ∃ f, f = Tm.thn v0 u2 := ⟨_, rfl⟩
                have C1 := Lib.hid (show ∀ w, Calls Try.prog 51 #[mapV u0, mapV u1] w fun e w' => e = .returned (mapV v0) ∧ Below w.heap.size w w' from fun w => by rw [hv0]; exact iThenMap u0 u1 w)
                have C2 := Lib.hid (show ∀ w, Calls Try.prog 51 #[mapV v0, mapV u2] w fun e w' => e = .returned (mapV k0) ∧ Below w.heap.size w w' from fun w => by rw [hk0]; exact iThenMap v0 u2 w)
                have C3 := Lib.hid (show ∀ w, Calls Try.prog 51 #[mapV u1, mapV u2] w fun e w' => e = .returned (mapV v1) ∧ Below w.heap.size w w' from fun w => by rw [hv1]; exact iThenMap u1 u2 w)
                have C4 := Lib.hid (show ∀ w, Calls Try.prog 51 #[mapV u0, mapV v1] w fun e w' => e = .returned (mapV k0) ∧ Below w.heap.size w w' from fun w => by
                  have := iThenMap u0 v1 w
                  rwa [show mapV (Tm.thn u0 v1) = mapV k0 from by rw [hk0, hv0, hv1]; exact mapV_eq (Tm.thn_assoc t0 t1 t2 0).symm (Tm.thn_assoc t0 t1 t2 1).symm (Tm.thn_assoc t0 t1 t2 2).symm] at this)
                have he := eqMap
                have cq := TT.out.cell q (by omega)
                rw [HO.out] at cq
                have gl := TT.out.1
                have a0' := M17.out.cell 0 (by omega)
                have a1' := M17.out.cell 1 (by omega)
                have a2' := M17.out.cell 2 (by omega)
                have b0' := M18.out.cell 0 (by omega)
                have b1' := M18.out.cell 1 (by omega)
                have b2' := M18.out.cell 2 (by omega)
                have d0' := M19.out.cell 0 (by omega)
                have d1' := M19.out.cell 1 (by omega)
                have d2' := M19.out.cell 2 (by omega)
                have gl1 := M17.out.1
                have gl2 := M18.out.1
                have gl3 := M19.out.1
                clear hu0 hu1 hu2 hv0 hv1 hk0 t0 t1 t2
                refine wp_region_quiet_below (by kernel_rfl) (by kernel_rfl) ?_
                go_big_quiet_step (fail)
                go_big_quiet_step (fail)
                go_big_quiet_step (fail)
                go_big_quiet_step (fail)
                go_big_quiet_step (fail)
                go_big_quiet_step (fail)
                go_big_quiet_step (fail)
                go_big_quiet_step (fail)
                go_big_quiet_step (fail)
                go_big_quiet_step (((go_at_call 51; exact met_below C1.out)))
                go_big_quiet_step (fail)
                go_big_quiet_step (((go_at_call 51; exact met_below C2.out)))
                go_big_quiet_step (fail)
                go_big_quiet_step (fail)
                go_big_quiet_step (fail)
                go_big_quiet_step (((go_at_call 51; exact met_below C3.out)))
                go_big_quiet_step (((go_at_call 51; exact met_below C4.out)))
                go_big_quiet_step (fail)
                go_big_quiet_step (fail)
                go_big_quiet_step (fail)
                refine wpQuiet_nil ?_
                intro wq hwq
                obtain ⟨pq, hpq⟩ := hwq
                have hpq' : wq = gw _ pq := hpq
                clear hpq
                subst hpq'
                have BF := BB0.trans ((below_gw (Below.refl _ _) (Nat.le_refl _) pq).mono BB0.size)
                go_wp2
                go_ret
                exact ⟨rfl, B.out.trans (BF.mono B.out.size)⟩
  · go_enter Try.func10, Try.ntmps10
    go_wp2
    go_ret
    exact ⟨rfl, B.out⟩
end Go.Proofs.Ytlbhekfjcbcpaaa

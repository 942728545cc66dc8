/- The model's balances. -/
import Derived.Test.YteklgngooflhlaaVMath
import Derived.Test.YteklgngooflhlaaVRow
import Derived.Test.YteklgngooflhlaaMs
import Derived.Test.YteklgngooflhlaaFill
namespace Go.Proofs.Yteklgngooflhlaa
set_option maxRecDepth 20000
open Go.RowKit
theorem KeepB.of_grown {p B : Nat} {w w' : World} (h : w.grownBy w' (some p)) (hB : B ≤ w.heap.size) : KeepB p B w w' :=
  ⟨h.os, h.tape, h.output, h.size, fun q hq hp => h.block q (by omega) (fun e => hp (by cases e; rfl))⟩
set_option maxHeartbeats 2000000 in
theorem sBalanceOf (a : Option Addr) (n c : Nat) (s : List Int) (b : Option Addr) (m d : Nat) (o : List Int) (x : Int) (w : World) (h : Ms w a n c s b m d o) : Calls Try.prog 42 #[weigV a n c b m d, .int .i64 x] w fun e w' => e = .returned (.tuple #[.int .i64 (Tm.bal s o x), .bool (Tm.balOk s o x)]) ∧ Below w.heap.size w w' := by
  obtain ⟨i0, hi, hz0, hz1, hz2⟩ := info_parts infoInt
  have H := Lib.hid h
  obtain rfl : n = s.length := h.1.1.symm
  obtain rfl : m = o.length := h.2.1.symm
  have lts : 0 < s.length → ∀ bb oo, a = some ⟨bb, oo, none⟩ → bb < w.heap.size := fun h0 => h.1.lt h0
  have lto : 0 < o.length → ∀ bb oo, b = some ⟨bb, oo, none⟩ → bb < w.heap.size := fun h0 => h.2.lt h0
  have ns := h.1.2.1
  have ns2 := h.1.2.2.1
  have no := h.2.2.1
  have no2 := h.2.2.2.1
  unfold maxLen at ns2 no2
  clear h
  have e30 : Tm.lim 30 = 102945566047324 := by decide
  have SL := Lib.hid (fun w => sLengthOf x w)
  cases hw : Tm.wordOk x 30 with
  | false =>
    have E : Tm.balOk s o x = false := by rw [Tm.balOk, hw]; rfl
    have E2 : Tm.bal s o x = 0 := by rw [Tm.bal, E]; rfl
    have e0 : Tm.lenOf x = 0 := Tm.lenOf_none (fun hf => by
      rw [Tm.wordOk, decide_eq_false_iff_not, e30] at hw
      obtain ⟨f1, f2⟩ := hf
      exact hw ⟨by omega, by omega, by omega, by omega⟩)
    rw [e0] at SL
    rw [E, E2]
    clear e0 E E2
    go_enter Try.func42, Try.ntmps42
    go_wp2_with (go_at_call 21; refine (SL.out _).mono ?_; rintro e w1 ⟨rfl, rfl⟩)
    go_ret2
    exact ⟨rfl, by (repeat' (first | (with_reducible exact Below.refl _ _) | (with_reducible assumption) | (with_reducible refine below_drewN ?_ _) | (with_reducible refine Below.drew ?_) | (with_reducible refine Below.alloc ?_ ?_ _) | (with_reducible refine Below.setCell ?_ ?_ _) | (with_reducible refine below_gw ?_ ?_ _) | (with_reducible refine below_via ?_ ‹Below _ _ _› ?_) | (with_reducible exact Nat.le_refl _) | (with_reducible refine le_gw ?_ _) | (with_reducible refine le_alloc ?_ _) | (with_reducible refine le_setCell ?_ _ _) | (with_reducible refine le_drew ?_) | (with_reducible refine le_drewN ?_ _) | go_size))⟩
  | true =>
    have f := hw
    rw [Tm.wordOk, decide_eq_true_eq, e30] at f
    obtain ⟨-, -, f1, f2⟩ := f
    obtain ⟨s0, s1, s2, -, -⟩ := Tm.lenN_spec (n := x) ⟨by omega, by omega⟩
    rw [s0] at SL
    obtain ⟨K, hK⟩ : ∃ K, K = Tm.lenN x := ⟨_, rfl⟩
    rw [← hK] at SL s1 s2
    have k0 : ((K : Int) == 0) = false := by simp; omega
    have k1 : K ≠ 0 := by omega
    have B0 : Hid (Tm.balOk s o x = ((Tm.pan1 s).1 && (Tm.pan2 s o).1)) := Lib.hid (by rw [Tm.balOk, hw]; rfl)
    have FAIL : Hid (Tm.balOk s o x = false → (Ending.returned (.tuple #[.int .i64 0, .bool false]) : Ending) = .returned (.tuple #[.int .i64 (Tm.bal s o x), .bool (Tm.balOk s o x)])) := Lib.hid (fun e => by rw [Tm.bal, e]; rfl)
    have E1 : Hid (Tm.putF 1 s Tm.g00 = Tm.pan1 s) := Lib.hid rfl
    have E2 : Hid (Tm.putF (-1) o (Tm.pan1 s).2 = Tm.pan2 s o) := Lib.hid rfl
    clear s0 hK hw
    go_enter Try.func42, Try.ntmps42
    go_wp2_with (first | (go_at_call 21; refine (SL.out _).mono ?_; rintro e w1 ⟨rfl, rfl⟩) | (at_make; refine wpList_make_full _ rfl _ _ 24 rfl (w.heap.size + 1) 3 i0 (.int .i64 0) 1 Try.underlying24 hi hz0 hz1 _ _ _ _ (30) rfl rfl (by first | rfl | omega) (by first | rfl | omega) (by rw [hz2]; omega) (by unfold maxLen; omega) (by first | go_size | (simp only [gw_size, World.size_alloc]; omega) | exact Nat.le_refl _ | omega) ?_))
    intro w1 hown hgrow
    have O1 : Hid (w1.ownsRow (w.heap.size + 1) 3 1 (.slice (some ⟨w.heap.size + 1, 0, none⟩) 30 30) 30 (rowV 30 Tm.g00)) := Lib.hid (rowV_own hown)
    have B1 : Hid (Below (w.heap.size + 1) (w.alloc (.cells #[.slice a s.length c, .slice b o.length d] 27)) w1) := Lib.hid ((Below.refl _ _).grown hgrow (by simp) (fun k hk => by cases hk))
    have z1 : w.heap.size + 1 < w1.heap.size := (hown.lt _ rfl).2
    have cc : w1.cell? ⟨w.heap.size, 0, none⟩ = some (.slice a s.length c) ∧ w1.cell? ⟨w.heap.size, 1, none⟩ = some (.slice b o.length d) := by
      rw [B1.out.cell (p := ⟨w.heap.size, 0, none⟩) (by simp), B1.out.cell (p := ⟨w.heap.size, 1, none⟩) (by simp)]
      simp
    obtain ⟨cc0, cc1⟩ := cc
    have DN : Hid (∀ W, KeepB (w.heap.size + 1) (w1.heap.size + 1) (w1.alloc (.cells #[.slice a s.length c, .slice b o.length d] 24)) W → Below w.heap.size w W) := Lib.hid fun W hk =>
      KeepB.below (B := w1.heap.size + 1) (p := w.heap.size + 1) ((((Below.refl w.heap.size w).alloc (Nat.le_refl _) _).trans (B1.out.mono (by omega))).alloc (by omega) _) hk (by omega) (by omega)
    have HW : Hid (Ms (w1.alloc (.cells #[.slice a s.length c, .slice b o.length d] 24)) a s.length c s b o.length d o) := Lib.hid (((H.out.alloc _).below (B1.out.mono (by simp))).alloc _)
    have CS : Hid ((w1.alloc (.cells #[.slice a s.length c, .slice b o.length d] 24)).cell? ⟨w1.heap.size, 0, none⟩ = some (.slice a s.length c) ∧ (w1.alloc (.cells #[.slice a s.length c, .slice b o.length d] 24)).cell? ⟨w1.heap.size, 1, none⟩ = some (.slice b o.length d)) := Lib.hid (by simp)
    have O2 := Lib.hid (own_below O1.out ((Below.refl w1.heap.size w1).alloc (Nat.le_refl _) (.cells #[.slice a s.length c, .slice b o.length d] 24)))
    clear hown hgrow O1 H
    go_wp2_with fail
    obtain ⟨W2, hW2⟩ : ∃ W2, W2 = w1.alloc (.cells #[.slice a s.length c, .slice b o.length d] 24) := ⟨_, rfl⟩
    rw [← hW2] at DN HW CS O2
    have z2 : W2.heap.size = w1.heap.size + 1 := by rw [hW2]; simp
    rw [← hW2]
    clear cc0 cc1 hW2 B1
    refine wp_loop_rounds 3 ?_
    rw [rounds_succ]
    obtain ⟨u0, u1⟩ := CS.out
    go_wp2_with fail
    go_loopw [28] (fun i wr => ∃ (k : Nat) (f : Nat → Int), k ≤ s.length ∧ i = .int .i64 k ∧ W2.heap.size ≤ wr.heap.size ∧ Hid (wr.ownsRow (w.heap.size + 1) 3 1 (.slice (some ⟨w.heap.size + 1, 0, none⟩) 30 30) 30 (rowV 30 f)) ∧ Hid (Tm.putF (1) s Tm.g00 = Tm.putF (1) (s.drop k) f) ∧ Hid (KeepB (w.heap.size + 1) (w1.heap.size + 1) W2 wr)) (fun i _ => s.length - (intOf i).toNat)
    case atStart => exact ⟨0, _, by omega, rfl, by omega, O2, Lib.hid rfl, Lib.hid (KeepB.refl _ _ _)⟩
    case round =>
      obtain ⟨k, f, hk, rfl, hz, OO, FF, KB⟩ := hrel
      by_cases hlt : k < s.length
      · have PY := Lib.hid (fun h => Tm.putF_yes (t := 1) (ps := s) (g := f) hlt h)
        have PN := Lib.hid (fun h => Tm.putF_no (t := 1) (ps := s) (g := f) hlt h)
        have lta := lts (by omega)
        obtain ⟨-, -, -, y4⟩ := HW.out.1.keepB KB.out (fun bb oo e => by have := lta bb oo e; omega)
        rcases y4 with e0 | ⟨bb, oo, rfl, hbl, hc⟩
        · omega
        have cx := hc k hlt
        obtain ⟨y, hy⟩ : ∃ y, y = s.getD k 0 := ⟨_, rfl⟩
        rw [← hy] at cx PY PN
        clear hc hy
        by_cases cy : 0 ≤ y ∧ y < 30
        · obtain ⟨q, rfl⟩ : ∃ q : Nat, y = (q : Int) := ⟨y.toNat, by omega⟩
          rw [Int.toNat_natCast] at PY PN
          have i1 : Tm.inB (q : Int) 0 29 = true := (Tm.inB_iff _ _ _).2 ⟨by omega, by omega⟩
          have q0 : (0 : Int) ≤ (q : Int) := by omega
          have q1 : (q : Int) < 30 := by omega
          have ck := own_cell OO.out q (by omega)
          have fz := OO.out.frozenAt q
          obtain ⟨z, hz'⟩ : ∃ z, z = f q := ⟨_, rfl⟩
          rw [← hz'] at ck PY PN
          by_cases z0 : z = 0
          · have PE := Lib.hid (PY.out ⟨cy.1, cy.2, z0⟩)
            have zz : (z != 0) = false := by simpa using z0
            obtain ⟨p1, p2⟩ := own_put OO.out q (1)
            have PP := Lib.hid p1
            have K2 := Lib.hid (KB.out.trans (KeepB.of_grown (B := w1.heap.size + 1) p2 (by omega)))
            clear PY PN cy hz' p1 p2
            go_wp2_with ((go_at_call 73; refine (sIn _ _ _ _).mono ?_; rintro e w1 ⟨rfl, rfl⟩))
            exact ⟨⟨k + 1, _, by omega, by go_num, by simp; omega, PP, Lib.hid (by rw [FF.out, PE.out]), K2⟩, by simp [intOf]; omega⟩
          · have PE := Lib.hid (PN.out (fun h => z0 h.2.2))
            have zz : (z != 0) = true := by simpa using z0
            clear PY PN cy hz'
            go_wp2_with ((go_at_call 73; refine (sIn _ _ _ _).mono ?_; rintro e w1 ⟨rfl, rfl⟩))
            go_ret2
            exact ⟨FAIL.out (by rw [B0.out, ← E1.out, FF.out, PE.out]; simp), DN.out _ KB.out⟩
        · have i1 : Tm.inB y 0 29 = false := by rw [Tm.inB_no]; omega
          have PE := Lib.hid (PN.out (fun h => cy ⟨h.1, h.2.1⟩))
          clear PY PN cy
          go_wp2_with ((go_at_call 73; refine (sIn _ _ _ _).mono ?_; rintro e w1 ⟨rfl, rfl⟩))
          go_ret2
          exact ⟨FAIL.out (by rw [B0.out, ← E1.out, FF.out, PE.out]; simp), DN.out _ KB.out⟩
      · obtain rfl : k = s.length := by omega
        have PE := Lib.hid (Tm.putF_end (t := 1) (ps := s) (g := f) (k := s.length) (Nat.le_refl _))
        have D1 : Hid (Tm.pan1 s = (true, f)) := Lib.hid (by rw [← E1.out, FF.out, PE.out])
        have GE : Hid (Tm.putF (-1) o f = Tm.putF (-1) o (Tm.pan1 s).2) := Lib.hid (by rw [D1.out])
        have v1 : wr.cell? ⟨w1.heap.size, 1, none⟩ = some (.slice b o.length d) := (World.cell?_of_block (a := ⟨w1.heap.size, 1, none⟩) (KB.out.block w1.heap.size (by omega) (by omega))).trans CS.out.2
        have lt1 : w1.heap.size < wr.heap.size := by omega
        clear FF u0 u1
        go_wp2_with fail
        rw [rounds_succ]
        go_wp2_with fail
        obtain ⟨g1, hg1⟩ : ∃ g1, g1 = f := ⟨_, rfl⟩
        rw [← hg1] at OO D1 GE
        clear hg1 PE f hlt hk
        go_loopw [28] (fun i wr => ∃ (k : Nat) (f : Nat → Int), k ≤ o.length ∧ i = .int .i64 k ∧ W2.heap.size ≤ wr.heap.size ∧ Hid (wr.ownsRow (w.heap.size + 1) 3 1 (.slice (some ⟨w.heap.size + 1, 0, none⟩) 30 30) 30 (rowV 30 f)) ∧ Hid (Tm.putF (-1) o g1 = Tm.putF (-1) (o.drop k) f) ∧ Hid (KeepB (w.heap.size + 1) (w1.heap.size + 1) W2 wr)) (fun i _ => o.length - (intOf i).toNat)
        case atStart => exact ⟨0, _, by omega, rfl, by omega, OO, Lib.hid rfl, KB⟩
        case round =>
          obtain ⟨k, f, hk, rfl, hz, OO, FF, KB⟩ := hrel
          by_cases hlt : k < o.length
          · have PY := Lib.hid (fun h => Tm.putF_yes (t := -1) (ps := o) (g := f) hlt h)
            have PN := Lib.hid (fun h => Tm.putF_no (t := -1) (ps := o) (g := f) hlt h)
            have lta := lto (by omega)
            obtain ⟨-, -, -, y4⟩ := HW.out.2.keepB KB.out (fun bb oo e => by have := lta bb oo e; omega)
            rcases y4 with e0 | ⟨bb, oo, rfl, hbl, hc⟩
            · omega
            have cx := hc k hlt
            obtain ⟨y, hy⟩ : ∃ y, y = o.getD k 0 := ⟨_, rfl⟩
            rw [← hy] at cx PY PN
            clear hc hy
            by_cases cy : 0 ≤ y ∧ y < 30
            · obtain ⟨q, rfl⟩ : ∃ q : Nat, y = (q : Int) := ⟨y.toNat, by omega⟩
              rw [Int.toNat_natCast] at PY PN
              have i1 : Tm.inB (q : Int) 0 29 = true := (Tm.inB_iff _ _ _).2 ⟨by omega, by omega⟩
              have q0 : (0 : Int) ≤ (q : Int) := by omega
              have q1 : (q : Int) < 30 := by omega
              have ck := own_cell OO.out q (by omega)
              have fz := OO.out.frozenAt q
              obtain ⟨z, hz'⟩ : ∃ z, z = f q := ⟨_, rfl⟩
              rw [← hz'] at ck PY PN
              by_cases z0 : z = 0
              · have PE := Lib.hid (PY.out ⟨cy.1, cy.2, z0⟩)
                have zz : (z != 0) = false := by simpa using z0
                obtain ⟨p1, p2⟩ := own_put OO.out q (-1)
                have PP := Lib.hid p1
                have K2 := Lib.hid (KB.out.trans (KeepB.of_grown (B := w1.heap.size + 1) p2 (by omega)))
                clear PY PN cy hz' p1 p2
                go_wp2_with ((go_at_call 73; refine (sIn _ _ _ _).mono ?_; rintro e w1 ⟨rfl, rfl⟩))
                exact ⟨⟨k + 1, _, by omega, by go_num, by simp; omega, PP, Lib.hid (by rw [FF.out, PE.out]), K2⟩, by simp [intOf]; omega⟩
              · have PE := Lib.hid (PN.out (fun h => z0 h.2.2))
                have zz : (z != 0) = true := by simpa using z0
                clear PY PN cy hz'
                go_wp2_with ((go_at_call 73; refine (sIn _ _ _ _).mono ?_; rintro e w1 ⟨rfl, rfl⟩))
                go_ret2
                exact ⟨FAIL.out (by rw [B0.out, D1.out, ← E2.out, ← GE.out, FF.out, PE.out]; simp), DN.out _ KB.out⟩
            · have i1 : Tm.inB y 0 29 = false := by rw [Tm.inB_no]; omega
              have PE := Lib.hid (PN.out (fun h => cy ⟨h.1, h.2.1⟩))
              clear PY PN cy
              go_wp2_with ((go_at_call 73; refine (sIn _ _ _ _).mono ?_; rintro e w1 ⟨rfl, rfl⟩))
              go_ret2
              exact ⟨FAIL.out (by rw [B0.out, D1.out, ← E2.out, ← GE.out, FF.out, PE.out]; simp), DN.out _ KB.out⟩
          · obtain rfl : k = o.length := by omega
            have PE := Lib.hid (Tm.putF_end (t := -1) (ps := o) (g := f) (k := o.length) (Nat.le_refl _))
            have D2 : Hid (Tm.pan2 s o = (true, f)) := Lib.hid (by rw [← E2.out, ← GE.out, FF.out, PE.out])
            have PI := Lib.hid (Tm.pans_isW s o)
            have PV := Tm.val30 PI.out
            have ES : Hid (Tm.pans s o = genL 30 f) := Lib.hid (by rw [Tm.pans, D2.out])
            have OKE : Hid (Tm.balOk s o x = true ∧ Tm.bal s o x = Tm.sgn (x + Tm.val (Tm.pans s o))) := Lib.hid (by
              have e : Tm.balOk s o x = true := by rw [B0.out, D1.out, D2.out]; rfl
              exact ⟨e, by rw [Tm.bal, e, if_pos rfl]⟩)
            have IV : Hid (Ints wr (some ⟨w.heap.size + 1, 0, none⟩) 30 30 (Tm.pans s o)) := Lib.hid (by
              rw [ES.out]
              have := OO.out
              rw [rowV_gen] at this
              exact Ints.of_own this)
            obtain ⟨pp, hp⟩ : ∃ pp, pp = Tm.pans s o := ⟨_, rfl⟩
            rw [← hp] at PI PV IV OKE
            obtain ⟨v, hv⟩ : ∃ v, v = Tm.val pp := ⟨_, rfl⟩
            have SV := Lib.hid (sValue2 _ _ _ pp _ IV.out PI.out)
            rw [← hv] at PV SV OKE
            have WR : IntKind.i64.wrap (x + v) = x + v := IntWalk.i64_in _ (by omega)
            clear hv hp
            go_wp2_with fail
            rw [rounds_succ]
            go_wp2_with fail
            refine SV.out.mono ?_
            rintro e w3 ⟨rfl, rfl⟩
            go_wp2_with ((go_at_call 92; refine (sSignOf _ _).mono ?_; rintro e w1 ⟨rfl, rfl⟩))
            go_ret2
            exact ⟨by rw [OKE.out.1, OKE.out.2]; rfl, DN.out _ KB.out⟩
end Go.Proofs.Yteklgngooflhlaa

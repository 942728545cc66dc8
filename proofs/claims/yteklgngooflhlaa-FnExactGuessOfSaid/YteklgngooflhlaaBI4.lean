/- The program's guesses. -/
import Derived.Test.YteklgngooflhlaaBI3
namespace Go.Proofs.Yteklgngooflhlaa
set_option maxRecDepth 20000
open Go.RowKit
/-- A guess as the results that a call hands back. -/
def gsI (g : Int × Int × Bool) : Ending := .returned (.tuple #[.int .i64 g.1, .int .i64 g.2.1, .bool g.2.2])
set_option maxHeartbeats 2000000 in
theorem iGuessOf0 (a : Option Addr) (n cap : Nat) (L : List (List Int)) (a' : Option Addr) (n' cap' : Nat) (os : List Int) (w : World) (h : Rows w a n cap L) (h' : Ints w a' n' cap' os) : Calls Try.prog 30 #[.slice a n cap, .slice a' n' cap'] w fun e w' => e = gsI (Tm.guess L os) ∧ Below w.heap.size w w' := by
  have H := Lib.hid h
  have H2 := Lib.hid h'
  have m3 := h.2.2.1
  have m2 := h.2.1
  obtain rfl : n = L.length := h.1.symm
  unfold maxLen at m3
  have x4 := h.2.2.2
  clear h h'
  have SW := Lib.hid (iCoinWordsOk a _ cap L w H.out)
  cases hc : Tm.coinsOk L with
  | false =>
    have E : Tm.guess L os = (0, 0, false) := by rw [Tm.guess, hc]; rfl
    rw [hc] at SW
    rw [E]
    clear E
    go_enter Try.func30, Try.ntmps30
    go_wp2_with fail
    refine SW.out.mono ?_
    rintro e w1 ⟨rfl, rfl⟩
    go_wp2
    go_ret3
    exact ⟨rfl, by (repeat' (first | (with_reducible exact Below.refl _ _) | (with_reducible assumption) | (with_reducible refine below_drewN ?_ _) | (with_reducible refine Below.drew ?_) | (with_reducible refine Below.alloc ?_ ?_ _) | (with_reducible refine Below.setCell ?_ ?_ _) | (with_reducible refine below_gw ?_ ?_ _) | (with_reducible refine below_via ?_ ‹Below _ _ _› ?_) | (with_reducible exact Nat.le_refl _) | (with_reducible refine le_gw ?_ _) | (with_reducible refine le_alloc ?_ _) | (with_reducible refine le_setCell ?_ _ _) | (with_reducible refine le_drew ?_) | (with_reducible refine le_drewN ?_ _) | go_size))⟩
  | true =>
    obtain ⟨h0, ha⟩ := Tm.coinsOk_at hc
    rw [hc] at SW
    rcases x4 with e0 | ⟨b, o, rfl, hbl, hcl⟩
    · omega
    obtain ⟨a0, m0, c0, z0, j0⟩ := hcl 0 h0
    rw [Nat.add_zero] at z0
    have w0 := ha 0 h0
    have GZ : Hid (Tm.guess L os = if os = List.replicate (L.getD 0 []).length 0 then (-1, 0, true) else Tm.guessF L os 0) := Lib.hid (by rw [Tm.guess, hc, if_pos rfl])
    have GU := Lib.hid (fun h => Tm.guess_unfit (L := L) (os := os) h)
    obtain ⟨x0, hx0⟩ : ∃ x0, x0 = L.getD 0 [] := ⟨_, rfl⟩
    rw [← hx0] at j0 w0 GZ GU
    have hl0 : (0 : Int) < (L.length : Int) := by omega
    have hn0 : L ≠ [] := by intro e; subst e; simp at h0
    have R2 := Lib.hid (rows_two j0 H2.out 24)
    have AL := Lib.hid (fun W h => iAreAlike (some ⟨w.heap.size, 0, none⟩) 2 2 [x0, os] W h)
    have AE : Tm.alike [x0, os] = Tm.fit x0 os := by
      rw [Tm.alike, Tm.fit, Bool.eq_iff_iff]
      simp only [List.all_cons, List.all_nil, Bool.and_true, Bool.and_eq_true, decide_eq_true_eq, List.getD_cons_zero]
      constructor
      · rintro ⟨⟨q1, -⟩, q2, q3⟩; exact ⟨⟨q1, q2⟩, q3.symm⟩
      · rintro ⟨⟨q1, q2⟩, q3⟩; exact ⟨⟨q1, trivial⟩, q2, q3.symm⟩
    rw [AE] at AL
    clear AE ha hc hx0
    cases hf : Tm.fit x0 os with
    | false =>
      have G0 := GU.out hf
      rw [hf] at AL
      rw [G0]
      clear G0 GU GZ w0 j0 hcl
      go_enter Try.func30, Try.ntmps30
      go_wp2_with fail
      refine SW.out.mono ?_
      rintro e w1 ⟨rfl, rfl⟩
      go_wp2_with fail
      refine (AL.out _ R2.out).mono ?_
      rintro e w1 ⟨rfl, rfl⟩
      go_wp2
      go_ret3
      exact ⟨rfl, by (repeat' (first | (with_reducible exact Below.refl _ _) | (with_reducible assumption) | (with_reducible refine below_drewN ?_ _) | (with_reducible refine Below.drew ?_) | (with_reducible refine Below.alloc ?_ ?_ _) | (with_reducible refine Below.setCell ?_ ?_ _) | (with_reducible refine below_gw ?_ ?_ _) | (with_reducible refine below_via ?_ ‹Below _ _ _› ?_) | (with_reducible exact Nat.le_refl _) | (with_reducible refine le_gw ?_ _) | (with_reducible refine le_alloc ?_ _) | (with_reducible refine le_setCell ?_ _ _) | (with_reducible refine le_drew ?_) | (with_reducible refine le_drewN ?_ _) | go_size))⟩
    | true =>
      rw [hf] at AL
      obtain ⟨f1, f2, f3⟩ := (Tm.fit_iff _ _).1 hf
      have W2 := Lib.hid f2
      have OL := Tm.isW_len f2
      have WZ := Tm.wgt_zero f2
      rw [← f3] at WZ
      have H3 := Lib.hid (H2.out.alloc (.cells #[.slice a0 m0 c0, .slice a' n' cap'] 24))
      clear GU w0 j0 f1 f3 hcl
      by_cases hz : Tm.wgtW os = 0
      · have G1 := GZ.out
        rw [if_pos (WZ.1 hz)] at G1
        rw [G1]
        have IW := Lib.hid (fun W h => iWeightOf a' n' cap' os W h)
        rw [hz] at IW
        clear G1 WZ f2
        go_enter Try.func30, Try.ntmps30
        go_wp2_with fail
        refine SW.out.mono ?_
        rintro e w1 ⟨rfl, rfl⟩
        go_wp2_with fail
        refine (AL.out _ R2.out).mono ?_
        rintro e w1 ⟨rfl, rfl⟩
        go_wp2_with fail
        refine (IW.out _ H3.out).mono ?_
        rintro e w1 ⟨rfl, rfl⟩
        go_wp2
        go_ret3
        exact ⟨rfl, by (repeat' (first | (with_reducible exact Below.refl _ _) | (with_reducible assumption) | (with_reducible refine below_drewN ?_ _) | (with_reducible refine Below.drew ?_) | (with_reducible refine Below.alloc ?_ ?_ _) | (with_reducible refine Below.setCell ?_ ?_ _) | (with_reducible refine below_gw ?_ ?_ _) | (with_reducible refine below_via ?_ ‹Below _ _ _› ?_) | (with_reducible exact Nat.le_refl _) | (with_reducible refine le_gw ?_ _) | (with_reducible refine le_alloc ?_ _) | (with_reducible refine le_setCell ?_ _ _) | (with_reducible refine le_drew ?_) | (with_reducible refine le_drewN ?_ _) | go_size))⟩
      · have G1 := Lib.hid GZ.out
        rw [if_neg (fun e => hz (WZ.2 e))] at G1
        rw [G1.out]
        have IW := Lib.hid (fun W h => iWeightOf a' n' cap' os W h)
        obtain ⟨z, hzz⟩ : ∃ z, z = Tm.wgtW os := ⟨_, rfl⟩
        rw [← hzz] at IW hz
        have z1 : (z == 0) = false := by simpa using hz
        have NE : Tm.negW os = Tm.negL os := by rw [Tm.negW, if_pos f2]
        have IN := Lib.hid (fun W h => iNegateWord a' n' cap' os W h)
        rw [NE] at IN
        have NN := Lib.hid (fun xs => show Tm.negL xs = os ↔ xs = Tm.negL os from ⟨fun e => by rw [← e, Tm.negL_negL], fun e => by rw [e, Tm.negL_negL]⟩)
        obtain ⟨ns, hns⟩ : ∃ ns, ns = Tm.negL os := ⟨_, rfl⟩
        rw [← hns] at IN NN
        clear hzz WZ f2 GZ NE hns
        go_enter Try.func30, Try.ntmps30
        go_wp2_with fail
        refine SW.out.mono ?_
        rintro e w1 ⟨rfl, rfl⟩
        go_wp2_with fail
        refine (AL.out _ R2.out).mono ?_
        rintro e w1 ⟨rfl, rfl⟩
        go_wp2_with fail
        refine (IW.out _ H3.out).mono ?_
        rintro e w1 ⟨rfl, rfl⟩
        go_wp2_with fail
        refine (IN.out _ H3.out).mono ?_
        rintro e w1 ⟨a5, c5, rfl, ho, hb, -⟩
        have I5 := Lib.hid (Ints.of_own ho)
        have B1 := Lib.hid (((Below.refl w.heap.size w).alloc (Nat.le_refl _) (.cells #[.slice a0 m0 c0, .slice a' n' cap'] 24)).trans (hb.mono (by simp)))
        clear ho hb IN IW AL R2 H3
        go_wp2_with fail
        go_loopw [29] (fun i wr => ∃ k : Nat, k ≤ L.length ∧ i = .int .i64 k ∧ Hid (Tm.guessF L os 0 = Tm.guessF (L.drop k) os (k : Int)) ∧ Hid (Below w1.heap.size w1 wr)) (fun i _ => L.length - (intOf i).toNat)
        case atStart => exact ⟨0, by omega, rfl, Lib.hid rfl, Lib.hid (Below.refl _ _)⟩
        case round =>
          obtain ⟨k, hk, rfl, GF, BB⟩ := hrel
          have B2 := Lib.hid (B1.out.trans (BB.out.mono B1.out.size))
          by_cases hlt : k < L.length
          · have GA := Lib.hid (Tm.guessF_at (os := os) hlt)
            obtain ⟨-, -, -, y4⟩ := H.out.below B2.out
            rcases y4 with e0 | ⟨b', o', e1, hbl', hcl⟩
            · omega
            cases e1
            obtain ⟨ak, mk, ck, zk, jk⟩ := hcl k hlt
            obtain ⟨xs, hxs⟩ : ∃ xs, xs = L.getD k [] := ⟨_, rfl⟩
            rw [← hxs] at jk GA
            have JK := Lib.hid jk
            have O2 := Lib.hid (H2.out.below B2.out)
            have N2 := Lib.hid (I5.out.below BB.out)
            have hs := B2.out.size
            have hs2 := BB.out.size
            clear hcl hxs jk
            go_wp2_with fail
            refine (iEqualS _ _ _ xs _ _ _ os _ JK.out O2.out).mono ?_
            by_cases e1 : xs = os
            · rw [decide_eq_true e1]
              rintro e w4 ⟨rfl, hb4⟩
              have B4 := B2.out.trans (hb4.mono hs)
              have E1 := Lib.hid e1
              clear e1
              go_wp2
              go_ret3
              exact ⟨by rw [GF.out, GA.out, if_pos E1.out]; rfl, B4⟩
            · rw [decide_eq_false e1]
              rintro e w4 ⟨rfl, hb4⟩
              have B4 := Lib.hid (BB.out.trans (hb4.mono hs2))
              have B5 := Lib.hid (B2.out.trans (hb4.mono hs))
              have JK4 := Lib.hid (JK.out.below hb4)
              have N4 := Lib.hid (N2.out.below hb4)
              have E1 := Lib.hid e1
              have hs5 := B5.out.size
              have hs4 := B4.out.size
              clear e1 hb4 JK O2 N2
              go_wp2_with fail
              refine (iEqualS _ _ _ xs _ _ _ ns _ JK4.out N4.out).mono ?_
              by_cases e2 : xs = ns
              · rw [decide_eq_true e2]
                rintro e w6 ⟨rfl, hb6⟩
                have B6 := B5.out.trans (hb6.mono hs5)
                have E2 := Lib.hid e2
                clear e2
                go_wp2
                go_ret3
                exact ⟨by rw [GF.out, GA.out, if_neg E1.out, if_pos ((NN.out xs).2 E2.out)]; rfl, B6⟩
              · rw [decide_eq_false e2]
                rintro e w6 ⟨rfl, hb6⟩
                have B6 := Lib.hid (B4.out.trans (hb6.mono hs4))
                have E2 := Lib.hid e2
                clear e2 hb6
                go_wp2
                exact ⟨⟨k + 1, by omega, by go_num, Lib.hid (by rw [GF.out, GA.out, if_neg E1.out, if_neg (fun e => E2.out ((NN.out xs).1 e))]), B6⟩, by simp [intOf]; omega⟩
          · obtain rfl : k = L.length := by omega
            go_wp2
            go_ret3
            exact ⟨by rw [GF.out, List.drop_of_length_le (Nat.le_refl _)]; rfl, B2.out⟩
theorem iGuessOf (a : Option Addr) (n cap : Nat) (L : List (List Int)) (a' : Option Addr) (n' cap' : Nat) (os : List Int) (w : World) (h : Rows w a n cap L) (h' : Ints w a' n' cap' os) : Calls Try.prog 30 #[.slice a n cap, .slice a' n' cap'] w fun e w' => e = .returned (.tuple #[.int .i64 (Tm.guess L os).1, .int .i64 (Tm.guess L os).2.1, .bool (Tm.guess L os).2.2]) ∧ Below w.heap.size w w' := iGuessOf0 a n cap L a' n' cap' os w h h'
end Go.Proofs.Yteklgngooflhlaa

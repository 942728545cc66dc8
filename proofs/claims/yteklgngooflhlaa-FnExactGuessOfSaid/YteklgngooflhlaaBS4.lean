/- The model's guesses. -/
import Derived.Test.YteklgngooflhlaaBS3
namespace Go.Proofs.Yteklgngooflhlaa
set_option maxRecDepth 20000
open Go.RowKit
/-- A guess as the results that a call hands back. -/
def gsV (g : Int × Int × Bool) : Ending := .returned (.tuple #[.int .i64 g.1, .int .i64 g.2.1, .bool g.2.2])
set_option maxHeartbeats 2000000 in
theorem sGuessOf0 (a : Option Addr) (n cap : Nat) (L : List (List Int)) (a' : Option Addr) (n' cap' : Nat) (os : List Int) (w : World) (h : Rows w a n cap L) (h' : Ints w a' n' cap' os) : Calls Try.prog 60 #[.slice a n cap, .slice a' n' cap'] w fun e w' => e = gsV (Tm.guess L os) ∧ Below w.heap.size w w' := by
  have H := Lib.hid h
  have H2 := Lib.hid h'
  have m3 := h.2.2.1
  have m2 := h.2.1
  obtain rfl : n = L.length := h.1.symm
  unfold maxLen at m3
  clear h h'
  have OC := Lib.hid (fun c k w h => sOutcomeOf a L.length cap L c k w h)
  cases hc : Tm.coinsOk L with
  | false =>
    have E : Tm.guess L os = (0, 0, false) := by rw [Tm.guess, hc]; rfl
    have E2 : Tm.outOk L 0 0 = false := by rw [Tm.outOk, hc]; rfl
    have E3 : Tm.outc L 0 0 = [] := by rw [Tm.outc, E2]; rfl
    have O1 := Lib.hid (OC.out 0 0 w H.out)
    rw [E2, E3] at O1
    rw [E]
    clear E E2 E3
    go_enter Try.func60, Try.ntmps60
    go_wp2_with fail
    refine O1.out.mono ?_
    rintro e w1 ⟨b, c, rfl, ho, hb, -⟩
    clear ho
    go_wp2
    go_ret3
    exact ⟨rfl, hb⟩
  | true =>
    obtain ⟨h0, ha⟩ := Tm.coinsOk_at hc
    have E2 : Tm.outOk L 0 0 = true := by rw [Tm.outOk, hc]; rfl
    have E3 : Tm.outc L 0 0 = List.replicate (L.getD 0 []).length 0 := by rw [Tm.outc, E2]; rfl
    have O1 := Lib.hid (OC.out 0 0 w H.out)
    rw [E2, E3] at O1
    have OK : Hid (∀ q : Nat, q < L.length → ∀ kind : Int, kind = 1 ∨ kind = -1 → Tm.outOk L (q : Int) kind = true ∧ Tm.outc L (q : Int) kind = Tm.mulK kind (L.getD q [])) := Lib.hid fun q hq kind hk => by
      have e : Tm.outOk L (q : Int) kind = true := by
        rw [Tm.outOk, hc, decide_eq_true (show 0 ≤ (q : Int) ∧ (q : Int) < (L.length : Int) by omega)]
        rcases hk with rfl | rfl <;> decide
      rw [Tm.outc, e, Int.toNat_natCast]
      refine ⟨rfl, ?_⟩
      rw [if_pos rfl, if_neg (by omega)]
    obtain ⟨zs, hzs⟩ : ∃ zs, zs = List.replicate (L.getD 0 []).length (0 : Int) := ⟨_, rfl⟩
    rw [← hzs] at O1
    have GD : Hid (Tm.guess L os = if os = zs then (-1, 0, true) else Tm.guessF L os 0) := Lib.hid (by rw [Tm.guess, hc, if_pos rfl, hzs])
    clear E2 E3 ha hzs hc
    by_cases hz : zs = os
    · have G1 := Lib.hid GD.out
      rw [if_pos hz.symm] at G1
      have DE : decide (zs = os) = true := decide_eq_true hz
      rw [G1.out]
      clear hz
      go_enter Try.func60, Try.ntmps60
      go_wp2_with fail
      refine O1.out.mono ?_
      rintro e w1 ⟨b, c, rfl, ho, hb, -⟩
      have I1 := Lib.hid (Ints.of_own ho)
      have J1 := Lib.hid (H2.out.below hb)
      clear ho
      go_wp2_with fail
      refine (sEqL _ _ _ zs _ _ _ os _ I1.out J1.out).mono ?_
      rw [DE]
      rintro e w2 ⟨rfl, hb2⟩
      have B2 := hb.trans (hb2.mono hb.size)
      go_wp2
      go_ret3
      exact ⟨rfl, B2⟩
    · have G1 := Lib.hid GD.out
      rw [if_neg (fun e => hz e.symm)] at G1
      have DE : decide (zs = os) = false := decide_eq_false hz
      have GE : Hid (∀ k, Tm.guessF L os 0 = Tm.guessF (L.drop k) os (k : Int) → L.length ≤ k → Tm.guess L os = (0, 0, false)) := Lib.hid fun k e hk => by
        rw [G1.out, e, List.drop_of_length_le hk]; rfl
      clear hz GD
      rw [G1.out]
      go_enter Try.func60, Try.ntmps60
      go_wp2_with fail
      refine O1.out.mono ?_
      rintro e w1 ⟨b, c, rfl, ho, hb, -⟩
      have I1 := Lib.hid (Ints.of_own ho)
      have J1 := Lib.hid (H2.out.below hb)
      have hs1 := hb.size
      clear ho O1
      go_wp2_with fail
      refine (sEqL _ _ _ zs _ _ _ os _ I1.out J1.out).mono ?_
      rw [DE]
      rintro e w2 ⟨rfl, hb2⟩
      have B2 := Lib.hid (hb.trans (hb2.mono hs1))
      clear hb hb2 I1 J1 DE hs1
      go_wp2_with fail
      go_loopw [26] (fun i wr => ∃ k : Nat, k ≤ L.length ∧ i = .int .i64 k ∧ Hid (Tm.guessF L os 0 = Tm.guessF (L.drop k) os (k : Int)) ∧ Hid (Below w.heap.size w wr)) (fun i _ => L.length - (intOf i).toNat)
      case atStart => exact ⟨0, by omega, rfl, Lib.hid rfl, B2⟩
      case round =>
        clear B2
        obtain ⟨k, hk, rfl, GF, BB⟩ := hrel
        by_cases hlt : k < L.length
        · have GA := Lib.hid (Tm.guessF_at (os := os) hlt)
          have o1 := OK.out k hlt 1 (.inl rfl)
          have o2 := OK.out k hlt (-1) (.inr rfl)
          have C1 := Lib.hid (fun w h => OC.out (k : Int) 1 w h)
          have C2 := Lib.hid (fun w h => OC.out (k : Int) (-1) w h)
          rw [o1.1, o1.2, Tm.mulK_one] at C1
          rw [o2.1, o2.2, Tm.mulK_neg] at C2
          obtain ⟨xs, hxs⟩ : ∃ xs, xs = L.getD k [] := ⟨_, rfl⟩
          rw [← hxs] at C1 C2 GA
          obtain ⟨ys, hys⟩ : ∃ ys, ys = Tm.negL xs := ⟨_, rfl⟩
          rw [← hys] at C2 GA
          have hs := BB.out.size
          clear o1 o2 hxs hys
          go_wp2_with fail
          refine wp_loop_rounds 3 ?_
          rw [rounds_succ]
          go_wp2_with fail
          refine (C1.out _ (H.out.below (BB.out.alloc hs _))).mono ?_
          rintro e w3 ⟨b3, c3, rfl, ho, hb, -⟩
          have B3 := Lib.hid (BB.out.trans (((Below.refl wr.heap.size wr).alloc (Nat.le_refl _) _ |>.trans (hb.mono (by simp))).mono hs))
          have I3 := Lib.hid (Ints.of_own ho)
          have cl : w3.cell? ⟨wr.heap.size, 1, none⟩ = some (.int .i64 (-1)) := by rw [hb.cell (p := ⟨wr.heap.size, 1, none⟩) (by simp)]; simp
          have zl : wr.heap.size < w3.heap.size := by have := hb.size; simp at this; omega
          have hs3 := B3.out.size
          clear ho hb
          go_wp2_with fail
          refine (sEqL _ _ _ xs _ _ _ os _ I3.out (H2.out.below B3.out)).mono ?_
          by_cases e1 : xs = os
          · rw [decide_eq_true e1]
            rintro e w4 ⟨rfl, hb4⟩
            have B4 := B3.out.trans (hb4.mono hs3)
            have E1 := Lib.hid e1
            clear e1
            go_wp2
            go_ret3
            exact ⟨by rw [GF.out, GA.out, if_pos E1.out]; rfl, B4⟩
          · rw [decide_eq_false e1]
            rintro e w4 ⟨rfl, hb4⟩
            have B4 := Lib.hid (B3.out.trans (hb4.mono hs3))
            have cl4 : w4.cell? ⟨wr.heap.size, 1, none⟩ = some (.int .i64 (-1)) := by rw [hb4.cell (p := ⟨wr.heap.size, 1, none⟩) zl]; exact cl
            have zl4 : wr.heap.size < w4.heap.size := by have := hb4.size; omega
            have hs4 := B4.out.size
            have E1 := Lib.hid e1
            clear e1 hb4 cl zl B3 I3
            go_wp2_with fail
            rw [rounds_succ]
            go_wp2_with fail
            refine (C2.out _ (H.out.below B4.out)).mono ?_
            rintro e w5 ⟨b5, c5, rfl, ho, hb, -⟩
            have B5 := Lib.hid (B4.out.trans (hb.mono hs4))
            have I5 := Lib.hid (Ints.of_own ho)
            have hs5 := B5.out.size
            clear ho hb
            go_wp2_with fail
            refine (sEqL _ _ _ ys _ _ _ os _ I5.out (H2.out.below B5.out)).mono ?_
            by_cases e2 : ys = os
            · rw [decide_eq_true e2]
              rintro e w6 ⟨rfl, hb6⟩
              have B6 := B5.out.trans (hb6.mono hs5)
              have E2 := Lib.hid e2
              clear e2
              go_wp2
              go_ret3
              exact ⟨by rw [GF.out, GA.out, if_neg E1.out, if_pos E2.out]; rfl, B6⟩
            · rw [decide_eq_false e2]
              rintro e w6 ⟨rfl, hb6⟩
              have B6 := Lib.hid (B5.out.trans (hb6.mono hs5))
              have E2 := Lib.hid e2
              clear e2 hb6
              go_wp2_with fail
              rw [rounds_succ]
              go_wp2
              exact ⟨⟨k + 1, by omega, by go_num, Lib.hid (by rw [GF.out, GA.out, if_neg E1.out, if_neg E2.out]), B6⟩, by simp [intOf]; omega⟩
        · obtain rfl : k = L.length := by omega
          have R0 := Lib.hid (GE.out _ GF.out (Nat.le_refl _))
          go_wp2
          go_ret3
          exact ⟨by rw [← G1.out, R0.out]; rfl, BB.out⟩
theorem sGuessOf (a : Option Addr) (n cap : Nat) (L : List (List Int)) (a' : Option Addr) (n' cap' : Nat) (os : List Int) (w : World) (h : Rows w a n cap L) (h' : Ints w a' n' cap' os) : Calls Try.prog 60 #[.slice a n cap, .slice a' n' cap'] w fun e w' => e = .returned (.tuple #[.int .i64 (Tm.guess L os).1, .int .i64 (Tm.guess L os).2.1, .bool (Tm.guess L os).2.2]) ∧ Below w.heap.size w w' := sGuessOf0 a n cap L a' n' cap' os w h h'
end Go.Proofs.Yteklgngooflhlaa

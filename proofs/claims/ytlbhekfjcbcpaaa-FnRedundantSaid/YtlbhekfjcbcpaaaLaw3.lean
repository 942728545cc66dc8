/- What the laws draw, on: redundant numbers. -/
import Derived.Test.YtlbhekfjcbcpaaaLaw2
import Derived.Test.YtlbhekfjcbcpaaaAMath
namespace Go.Proofs.Ytlbhekfjcbcpaaa
set_option maxRecDepth 20000
open Go.RowKit
/-- A new redundant number. -/
def NewD (p : List Int → Prop) (w : World) (e : Ending) (w' : World) : Prop :=
  ∃ (xs : List Int) (b : Option Addr) (c : Nat), e = .returned (.slice b xs.length c) ∧ Tm.isR xs = true ∧ p xs ∧ w'.ownsRow w.heap.size 3 1 (.slice b xs.length c) xs.length (xs.map (Value.int .i64)) ∧ Below w.heap.size w w'
set_option maxHeartbeats 1000000 in
theorem makeDigits_any (a : Option Addr) (n cap : Nat) (k : Nat) (w : World) (hb : Byts w a n cap) (hn : n ≤ 1048576) (h1 : 1 ≤ k) (h30 : k ≤ 30) : Calls Try.prog 42 #[.slice a n cap, .int .i64 k] w (NewD (fun xs => xs.length = k) w) := by
  obtain ⟨i0, hi, hz0, hz1, hz2⟩ := info_parts infoInt
  have HB := Lib.hid hb
  have h30' : (k : Int) ≤ 30 := by omega
  clear hb
  have main : (k : Int) ≤ 1 ∧ k = 1 ∨ 1 < (k : Int) := by omega
  have MAIN := Lib.hid main
  clear main
  go_enter Try.func42, Try.ntmps42
  go_wp2_with fail
  refine (sNew a n cap _ HB.out hn).mono ?_
  rintro e w1 ⟨p, rfl, hp, hc, hbl⟩
  have hs := hbl.size
  have hpl := hc.lt
  have C1 := Lib.hid (hc.below ((Below.refl _ _).alloc (Nat.le_refl _) (.cells #[] 3)))
  have B1 := Lib.hid hbl
  clear hc hbl
  have hown0 : (w1.alloc (.cells #[] 3)).ownsRow w1.heap.size 3 1 (.slice (some ⟨w1.heap.size, 0, none⟩) 0 0) 0 (([] : List Int).map (Value.int .i64)) := own_empty w1 _ _ (Nat.le_refl _)
  have HO0 := Lib.hid hown0
  have G0 : Hid (w1.grownBy (w1.alloc (.cells #[] 3)) (some p)) := Lib.hid (below_grown ((Below.refl _ _).alloc (Nat.le_refl _) _) (Nat.le_refl _))
  clear hown0
  go_wp2
  go_loopw [6, 7] (fun v i wr => ∃ (j : Nat) (xs : List Int), j ≤ k ∧ i = .int .i64 j ∧ Hid (xs.length = j ∧ ∀ x ∈ xs, -2 ≤ x ∧ x ≤ 2) ∧ Hid (wr.ownsRow w1.heap.size 3 1 v j (xs.map (Value.int .i64))) ∧ Hid (Cur wr w.heap.size p a n cap) ∧ Hid (w1.grownBy wr (some p))) (fun _ i _ => k - (intOf i).toNat)
  case atStart => exact ⟨0, [], by omega, rfl, Lib.hid ⟨rfl, by simp⟩, HO0, C1, G0⟩
  case round =>
    obtain ⟨j, xs, hj, rfl, X, HO, CR, HG⟩ := hrel
    have hsz := HG.out.size
    by_cases hlt : j < k
    · have hm : ((j : Int) < max 1 (k : Int)) := by omega
      go_wp2_with fail
      all_goals
        refine (sBelow w.heap.size p a n cap 5 _ CR.out (by omega) (by omega)).mono ?_
        rintro e w2 ⟨y, rfl, y0, y1, hc2, ht2⟩
        have HO2 := Lib.hid (own_turn HO.out ht2.grown hpl)
        have HG2 := Lib.hid (grown_trans HG.out ht2.grown)
        have hs2 := HG2.out.size
        have C2 := Lib.hid hc2
        clear hc2 ht2
        go_wp2_with (at_builtin; refine wpList_append_own _ rfl _ _ 23 rfl (w1.heap.size) 3 i0 (.int .i64 0) 1 8 Try.underlying23 hi hz0 hz1 hz2 rfl (by decide) _ _ _ rfl (World.ownsRow.alloc HO2.out _) ⟨w2.heap.size, 0, none⟩ 1 1 [.int .i64 (y - 2)] rfl rfl (app_c1 (w2) (y - 2) _) (app_c2 _) (by unfold maxLen; omega) (by omega) (by simp; omega) ?_)
        intro v' w3 hown' hgrow _
        have hg3 := grown_app HG2.out HO2.out (Nat.le_refl _) _ hgrow
        have hc3 : Cur w3 w.heap.size p a n cap := by
          refine C2.out.of_blocks ?_ (fun b hb => ?_)
          · rw [hgrow.block p (by simp; omega) (fun e => by have := (HO2.out.lt p e.symm).1; omega), Below.heap_alloc _ _ _ (by omega)]
          · rw [hgrow.block b (by simp; omega) (fun e => by have := (HO2.out.lt b e.symm).1; omega), Below.heap_alloc _ _ _ (by omega)]
        rw [show [Value.int IntKind.i64 (y - 2)] = [y - 2].map (Value.int .i64) from rfl, ← List.map_append] at hown'
        clear hgrow
        go_wp2
        refine ⟨⟨j + 1, xs ++ [y - 2], by omega, by go_num, Lib.hid ⟨by simp [X.out.1], ?_⟩, Lib.hid hown', Lib.hid hc3, Lib.hid hg3⟩, by simp [intOf]; omega⟩
        intro x hx
        rcases List.mem_append.1 hx with hx | hx
        · exact X.out.2 x hx
        · simp at hx; omega
    · obtain rfl : j = k := by omega
      go_wp2
      all_goals
        first
        | (exfalso; omega)
        | (go_ret
           obtain ⟨x1, x2⟩ := X.out
           obtain ⟨b, c, e⟩ := own_form HO.out
           subst e
           have ho := own_weak HO.out hs
           rw [← x1] at ho
           exact ⟨xs, b, c, by rw [x1]; rfl, (Tm.isR_iff xs).2 ⟨x2, by omega, by omega⟩, x1, ho, B1.out.trans (grown_below HG.out hp hs)⟩)
end Go.Proofs.Ytlbhekfjcbcpaaa

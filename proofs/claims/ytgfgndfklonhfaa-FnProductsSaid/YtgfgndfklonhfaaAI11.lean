/- The program's sums of many words, on. -/
import Derived.Test.YtgfgndfklonhfaaAI10
import Derived.Test.YtgfgndfklonhfaaClone
namespace Go.Proofs.Ytgfgndfklonhfaa
set_option maxRecDepth 20000
open Go.RowKit
namespace Tm
theorem treeOk_alike {L : List (List Int)} (h1 : 1 ≤ L.length) (h2 : L.length ≤ 40) : treeOk L = alike L := by
  rw [Bool.eq_iff_iff, treeOk, Bool.and_eq_true, decide_eq_true_eq, alike, List.all_eq_true, List.all_eq_true]
  have h0 : L.getD 0 [] ∈ L := by
    match L, h1 with
    | a :: r, _ => simp
  rw [head_at]
  constructor
  · rintro ⟨_, h⟩ x hx
    have := (fit_iff _ _).1 (h x hx)
    rw [this.2.1, decide_eq_true this.2.2.symm]; rfl
  · intro h
    refine ⟨⟨h1, h2⟩, fun x hx => ?_⟩
    have a := h x hx
    have b := h _ h0
    rw [Bool.and_eq_true, decide_eq_true_eq] at a b
    exact (fit_iff _ _).2 ⟨b.1, a.1, a.2.symm⟩
end Tm
set_option maxHeartbeats 4000000 in
theorem iTreeSum (a : Option Addr) (n cap : Nat) (L : List (List Int)) (w : World) (h : Rows w a n cap L) : Calls Try.prog 14 #[.slice a n cap] w (RetINB 3 w (Tm.tree L) (Tm.treeN L) (Tm.treeOk L)) := by
  have H := Lib.hid h
  have hn := h.1
  have hm := h.2.1
  have hm2 := h.2.2.1
  unfold maxLen at hm2
  have n63 : n ≤ 9223372036854775807 := by omega
  clear h hm hm2
  by_cases h0 : 1 ≤ n ∧ n ≤ 40
  · obtain ⟨n1, n40⟩ := h0
    have e0 : ¬ ((n : Int) < 1) := by omega
    have e1 : ¬ ((40 : Int) < (n : Int)) := by omega
    have HN := Lib.hid hn
    clear hn
    by_cases hal : Tm.alike L = true
    · have OKK := Lib.hid ((Tm.treeOk_alike (by rw [HN.out]; omega) (by rw [HN.out]; omega)).trans hal)
      go_enter Try.func14, Try.ntmps14
      go_wp2_with (go_at_call 34; refine (iAreAlike a n cap L _ H.out).mono ?_; rintro e w1 ⟨rfl, rfl⟩)
      · skip
        have AW := ((Tm.treeOk_iff L).1 OKK.out).2.2
        obtain ⟨k0, hk0⟩ : ∃ k0, k0 = (L.headD []).length := ⟨_, rfl⟩
        rw [← hk0] at AW
        have TA := Lib.hid (Tm.TreeAt.start AW (by rw [HN.out]; omega) (by rw [HN.out]; omega))
        have HR : Hid (Rows w a L.length cap L) := Lib.hid (by rw [HN.out]; exact H.out)
        have e3 := HN.out
        subst e3
        clear hk0 AW H hal e1 e0
        go_wp2_with fail
        go_loopw [0, 5] (fun v r wr => ∃ (a : Option Addr) (cap : Nat) (M : List (List Int)) (f : Nat) (ρ : Int), v = .slice a M.length cap ∧ r = .int .i64 ρ ∧ 0 ≤ ρ ∧ ρ ≤ 40 ∧ M.length ≤ 40 ∧ 1 ≤ M.length ∧ Hid (Rows wr a M.length cap M) ∧ Hid (Tm.TreeAt k0 L M f ρ) ∧ Hid (Below w.heap.size w wr)) (fun v _ _ => lenV v)
        case atStart => exact ⟨a, cap, L, 40, 0, rfl, rfl, by omega, by omega, n40, n1, HR, TA, Lib.hid (by (repeat' (first | (with_reducible exact Below.refl _ _) | (with_reducible assumption) | (with_reducible refine below_drewN ?_ _) | (with_reducible refine Below.drew ?_) | (with_reducible refine Below.alloc ?_ ?_ _) | (with_reducible refine Below.setCell ?_ ?_ _) | (with_reducible refine below_gw ?_ ?_ _) | (with_reducible refine below_via ?_ ‹Below _ _ _› ?_) | (with_reducible exact Nat.le_refl _) | (with_reducible refine le_gw ?_ _) | (with_reducible refine le_alloc ?_ _) | (with_reducible refine le_setCell ?_ _ _) | (with_reducible refine le_drew ?_) | (with_reducible refine le_drewN ?_ _) | go_size)))⟩
        case round =>
          clear HR TA
          obtain ⟨a, cap, M, f, ρ, rfl, rfl, r0, r1, m40, m1, HR, TA, BB⟩ := hrel
          by_cases hlt : 2 < M.length
          · go_wp2_with fail
            refine (iRound a M.length cap M k0 _ HR.out TA.out.1 m40 (by omega)).mono ?_
            rintro e w1 ⟨a1, cap1, rfl, hr, hb⟩
            obtain ⟨f', TA2, hl⟩ := TA.out.step hlt
            have BB2 := Lib.hid (BB.out.trans (hb.mono BB.out.size))
            have HR2 := Lib.hid hr
            have l1 := TA2.2.2.2.2.1
            have l2 := TA2.2.2.2.2.2.1
            have l3 := TA2.2.2.2.2.2.2.2
            have TA3 := Lib.hid TA2
            clear hb hr TA2
            go_wp2_with fail
            exact ⟨⟨a1, cap1, _, f', ρ + 1, rfl, rfl, by omega, by omega, l2, l1, HR2, TA3, BB2⟩, hl⟩
          · rcases HR.out.2.2.2 with h0 | ⟨b, o, e, hbl, hc⟩
            · omega
            subst e
            by_cases h1 : M.length = 1
            · obtain ⟨xs, rfl⟩ := List.length_eq_one_iff.1 h1
              obtain ⟨a0, m0, c0, z0, i0⟩ := hc 0 (by omega)
              rw [Nat.add_zero] at z0
              have TO := TA.out.one OKK.out
              have I0 : Hid (Ints wr a0 m0 c0 xs) := Lib.hid i0
              have p0 : 0 < m0 := by have := Tm.isW_pos TO.2.2; have := i0.1; simp at this; omega
              have p1 : m0 ≤ 30 := by have := Tm.isW_len TO.2.2; have := i0.1; simp at this; omega
              have TT := Lib.hid TO
              clear hc i0 TO h1 hlt
              go_wp2_with fail
              refine (iClone a0 m0 c0 xs _ I0.out p0 (by omega)).mono ?_
              rintro e w1 ⟨a1, c1, rfl, hown, hb, ln⟩
              have HO := Lib.hid hown
              have HB := Lib.hid hb
              clear hown hb
              go_wp2_with fail
              go_ret3
              rw [TT.out.1, TT.out.2.1, OKK.out]
              exact ⟨a1, c1, rfl, own_weak HO.out BB.out.size, BB.out.trans (HB.out.mono BB.out.size), ln⟩
            · obtain ⟨xs, ys, rfl⟩ : ∃ xs ys, M = [xs, ys] := by
                match M, hlt, h1, m1 with
                | [x, y], _, _, _ => exact ⟨x, y, rfl⟩
                | [_], _, h, _ => simp at h
                | _ :: _ :: _ :: _, h, _, _ => simp at h
              obtain ⟨a0, m0, c0, z0, i0⟩ := hc 0 (by simp)
              obtain ⟨a1, q1, c1, z1, i1⟩ := hc 1 (by simp)
              rw [Nat.add_zero] at z0
              have TO := TA.out.two OKK.out
              have I0 : Hid (Ints wr a0 m0 c0 xs) := Lib.hid i0
              have I1 : Hid (Ints wr a1 q1 c1 ys) := Lib.hid i1
              have WX := Lib.hid ((Tm.fit_iff xs ys).1 (by have := TO.2.2; rw [Tm.addOk, Bool.and_eq_true] at this; exact this.1))
              have AD : Hid (∀ W, Below wr.heap.size wr W → Calls Try.prog 37 #[.slice a0 m0 c0, .slice a1 q1 c1, .int .i64 0] W (RetINB 3 W (Tm.add xs ys 0) (Tm.addC xs ys 0) true)) := Lib.hid fun W hW => by
                have := iAddWords a0 m0 c0 xs a1 q1 c1 ys 0 W (i0.below hW) (i1.below hW)
                rwa [TO.2.2] at this
              have SS : Hid (∀ W, Below wr.heap.size wr W → W.cell? ⟨b, o, none⟩ = some (.slice a0 m0 c0) ∧ W.cell? ⟨b, o + 1, none⟩ = some (.slice a1 q1 c1)) := Lib.hid fun W hW => by
                refine ⟨?_, ?_⟩
                · rw [← z0]; exact World.cell?_of_block (a := ⟨b, o, none⟩) (hW.block b hbl)
                · rw [← z1]; exact World.cell?_of_block (a := ⟨b, o + 1, none⟩) (hW.block b hbl)
              have TT := Lib.hid TO
              have l30 := Tm.isW_len WX.out.1
              clear hc i0 i1 TO z0 z1 hlt
              go_wp2_with fail
              go_region_held3 (fun W => W.cell? ⟨b, o, none⟩ = some (.slice a0 m0 c0) ∧ W.cell? ⟨b, o + 1, none⟩ = some (.slice a1 q1 c1)) (exact SS.out _ (by (repeat' (first | (with_reducible exact Below.refl _ _) | (with_reducible assumption) | (with_reducible refine below_drewN ?_ _) | (with_reducible refine Below.drew ?_) | (with_reducible refine Below.alloc ?_ ?_ _) | (with_reducible refine Below.setCell ?_ ?_ _) | (with_reducible refine below_gw ?_ ?_ _) | (with_reducible refine below_via ?_ ‹Below _ _ _› ?_) | (with_reducible exact Nat.le_refl _) | (with_reducible refine le_gw ?_ _) | (with_reducible refine le_alloc ?_ _) | (with_reducible refine le_setCell ?_ _ _) | (with_reducible refine le_drew ?_) | (with_reducible refine le_drewN ?_ _) | go_size)))) ((first | (go_at_call 37; refine (AD.out _ (by (repeat' (first | (with_reducible exact Below.refl _ _) | (with_reducible assumption) | (with_reducible refine below_drewN ?_ _) | (with_reducible refine Below.drew ?_) | (with_reducible refine Below.alloc ?_ ?_ _) | (with_reducible refine Below.setCell ?_ ?_ _) | (with_reducible refine below_gw ?_ ?_ _) | (with_reducible refine below_via ?_ ‹Below _ _ _› ?_) | (with_reducible exact Nat.le_refl _) | (with_reducible refine le_gw ?_ _) | (with_reducible refine le_alloc ?_ _) | (with_reducible refine le_setCell ?_ _ _) | (with_reducible refine le_drew ?_) | (with_reducible refine le_drewN ?_ _) | go_size)))).mono ?_; rintro e w1 ⟨v, u, rfl, hv, hb, ln⟩; have HV := Lib.hid hv; clear hv; obtain ⟨p, rfl⟩ := gw_of_below hb; clear hb)))
              go_wp2_with fail
              go_ret3
              rw [TT.out.1, TT.out.2.1, OKK.out, show Tm.addL xs ys 0 = Tm.add xs ys 0 from by rw [Tm.add, if_pos TT.out.2.2]]
              exact ret_own_nb (own_weak HV.out BB.out.size) (by have bb := BB.out; have hs := bb.size; (repeat' (first | (with_reducible exact Below.refl _ _) | (with_reducible assumption) | (with_reducible refine below_drewN ?_ _) | (with_reducible refine Below.drew ?_) | (with_reducible refine Below.alloc ?_ ?_ _) | (with_reducible refine Below.setCell ?_ ?_ _) | (with_reducible refine below_gw ?_ ?_ _) | (with_reducible refine below_via ?_ ‹Below _ _ _› ?_) | (with_reducible exact Nat.le_refl _) | (with_reducible refine le_gw ?_ _) | (with_reducible refine le_alloc ?_ _) | (with_reducible refine le_setCell ?_ _ _) | (with_reducible refine le_drew ?_) | (with_reducible refine le_drewN ?_ _) | go_size))) ln
    · simp only [Bool.not_eq_true] at hal
      have ok : Tm.treeOk L = false := (Tm.treeOk_alike (by rw [HN.out]; omega) (by rw [HN.out]; omega)).trans hal
      rw [Tm.tree, Tm.treeN, ok]
      clear ok
      go_enter Try.func14, Try.ntmps14
      go_wp2_with (go_at_call 34; refine (iAreAlike a n cap L _ H.out).mono ?_; rintro e w1 ⟨rfl, rfl⟩)
      go_ret3
      exact ret_nil_nb (by (repeat' (first | (with_reducible exact Below.refl _ _) | (with_reducible assumption) | (with_reducible refine below_drewN ?_ _) | (with_reducible refine Below.drew ?_) | (with_reducible refine Below.alloc ?_ ?_ _) | (with_reducible refine Below.setCell ?_ ?_ _) | (with_reducible refine below_gw ?_ ?_ _) | (with_reducible refine below_via ?_ ‹Below _ _ _› ?_) | (with_reducible exact Nat.le_refl _) | (with_reducible refine le_gw ?_ _) | (with_reducible refine le_alloc ?_ _) | (with_reducible refine le_setCell ?_ _ _) | (with_reducible refine le_drew ?_) | (with_reducible refine le_drewN ?_ _) | go_size)))
  · have ok : Tm.treeOk L = false := by rw [Bool.eq_false_iff]; intro e; rw [Tm.treeOk, Bool.and_eq_true, decide_eq_true_eq] at e; omega
    rw [Tm.tree, Tm.treeN, ok]
    clear ok hn
    by_cases h1 : n = 0
    · subst h1
      go_enter Try.func14, Try.ntmps14
      go_wp2
      go_ret3
      exact ret_nil_nb (by (repeat' (first | (with_reducible exact Below.refl _ _) | (with_reducible assumption) | (with_reducible refine below_drewN ?_ _) | (with_reducible refine Below.drew ?_) | (with_reducible refine Below.alloc ?_ ?_ _) | (with_reducible refine Below.setCell ?_ ?_ _) | (with_reducible refine below_gw ?_ ?_ _) | (with_reducible refine below_via ?_ ‹Below _ _ _› ?_) | (with_reducible exact Nat.le_refl _) | (with_reducible refine le_gw ?_ _) | (with_reducible refine le_alloc ?_ _) | (with_reducible refine le_setCell ?_ _ _) | (with_reducible refine le_drew ?_) | (with_reducible refine le_drewN ?_ _) | go_size)))
    · have h2 : 40 < n := by omega
      have e0 : ¬ ((n : Int) < 1) := by omega
      have e1 : (40 : Int) < (n : Int) := by omega
      clear h0
      go_enter Try.func14, Try.ntmps14
      go_wp2
      go_ret3
      exact ret_nil_nb (by (repeat' (first | (with_reducible exact Below.refl _ _) | (with_reducible assumption) | (with_reducible refine below_drewN ?_ _) | (with_reducible refine Below.drew ?_) | (with_reducible refine Below.alloc ?_ ?_ _) | (with_reducible refine Below.setCell ?_ ?_ _) | (with_reducible refine below_gw ?_ ?_ _) | (with_reducible refine below_via ?_ ‹Below _ _ _› ?_) | (with_reducible exact Nat.le_refl _) | (with_reducible refine le_gw ?_ _) | (with_reducible refine le_alloc ?_ _) | (with_reducible refine le_setCell ?_ _ _) | (with_reducible refine le_drew ?_) | (with_reducible refine le_drewN ?_ _) | go_size)))
end Go.Proofs.Ytgfgndfklonhfaa

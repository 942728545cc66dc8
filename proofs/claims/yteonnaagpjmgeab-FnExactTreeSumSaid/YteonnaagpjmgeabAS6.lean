/- The model's sums of many words, on. -/
import Derived.Test.YteonnaagpjmgeabAS5
namespace Go.Proofs.Yteonnaagpjmgeab
open Go.RowKit
def lenV : Value → Nat
  | .slice _ n _ => n
  | _ => 0
namespace Tm
/-- How far a sum by rounds has come: f rounds at most are left. -/
def TreeAt (k : Nat) (L M : List (List Int)) (f : Nat) (r : Int) : Prop := allW k M ∧ trL f M = trL 40 L ∧ r + trN f M = trN 40 L ∧ M.length ≤ f + 2 ∧ 1 ≤ M.length ∧ M.length ≤ 40 ∧ 0 ≤ r ∧ r + f ≤ 40
theorem TreeAt.start {k : Nat} {L : List (List Int)} (h : allW k L) (h1 : 1 ≤ L.length) (h2 : L.length ≤ 40) : TreeAt k L L 40 0 := ⟨h, rfl, by omega, by omega, h1, h2, by omega, by omega⟩
theorem TreeAt.step {k f : Nat} {L M : List (List Int)} {r : Int} (h : TreeAt k L M f r) (h2 : 2 < M.length) : ∃ f', TreeAt k L (rnd1 M) f' (r + 1) ∧ (rnd1 M).length < M.length := by
  obtain ⟨a, b, c, d, e, g, i, j⟩ := h
  match f, b, c, d, j with
  | 0, _, _, d, _ => omega
  | f + 1, b, c, d, j =>
    have hr := rnd1_length M
    rw [trL, if_pos h2] at b
    rw [trN, if_pos h2] at c
    exact ⟨f, ⟨rnd1_word a, b, by omega, by omega, by omega, by omega, by omega, by omega⟩, by omega⟩
theorem trL_done {f : Nat} {M : List (List Int)} (h : M.length ≤ 2) : trL f M = M := by
  cases f with
  | zero => rfl
  | succ f => rw [trL, if_neg (by omega)]
theorem trN_done {f : Nat} {M : List (List Int)} (h : M.length ≤ 2) : trN f M = 0 := by
  cases f with
  | zero => rfl
  | succ f => rw [trN, if_neg (by omega)]
theorem TreeAt.one {k f : Nat} {L : List (List Int)} {xs : List Int} {r : Int} (h : TreeAt k L [xs] f r) (ho : treeOk L = true) : tree L = xs ∧ treeN L = r ∧ isW xs = true := by
  obtain ⟨a, b, c, _⟩ := h
  rw [trL_done (by simp)] at b
  rw [trN_done (by simp)] at c
  exact ⟨by rw [tree, if_pos ho, ← b]; rfl, by rw [treeN, if_pos ho]; omega, (a xs (by simp)).1⟩
theorem TreeAt.two {k f : Nat} {L : List (List Int)} {xs ys : List Int} {r : Int} (h : TreeAt k L [xs, ys] f r) (ho : treeOk L = true) : tree L = addL xs ys 0 ∧ treeN L = r ∧ addOk xs ys 0 = true := by
  obtain ⟨a, b, c, _⟩ := h
  rw [trL_done (by simp)] at b
  rw [trN_done (by simp)] at c
  have hx := a xs (by simp)
  have hy := a ys (by simp)
  exact ⟨by rw [tree, if_pos ho, ← b]; rfl, by rw [treeN, if_pos ho]; omega, by rw [addOk, Bool.and_eq_true, fit_iff]; exact ⟨⟨hx.1, hy.1, by rw [hx.2, hy.2]⟩, rfl⟩⟩
def FitTo (L : List (List Int)) (k : Nat) : Prop := ∀ j, j < k → fit (L.getD 0 []) (L.getD j []) = true
theorem FitTo.zero (L : List (List Int)) : FitTo L 0 := fun j h => by omega
theorem FitTo.succ {L : List (List Int)} {k : Nat} (h : FitTo L k) (h1 : fit (L.getD 0 []) (L.getD k []) = true) : FitTo L (k + 1) := fun j hj => by
  by_cases e : j = k
  · subst e; exact h1
  · exact h j (by omega)
theorem head_at (L : List (List Int)) : L.headD [] = L.getD 0 [] := by cases L <;> rfl
theorem FitTo.ok {L : List (List Int)} (h : FitTo L L.length) (h1 : 1 ≤ L.length) (h2 : L.length ≤ 40) : treeOk L = true := by
  rw [treeOk, Bool.and_eq_true, decide_eq_true_eq, List.all_eq_true]
  refine ⟨⟨h1, h2⟩, fun x hx => ?_⟩
  obtain ⟨i, hi, rfl⟩ := List.mem_iff_getElem.1 hx
  have := h i hi
  rwa [head_at, ← show L.getD i [] = L[i] from by rw [List.getD_eq_getElem?_getD, List.getElem?_eq_getElem hi]; rfl]
theorem treeOk_no {L : List (List Int)} {k : Nat} (hk : k < L.length) (h : fit (L.getD 0 []) (L.getD k []) = false) : treeOk L = false := by
  rw [Bool.eq_false_iff]
  intro e
  rw [treeOk, Bool.and_eq_true, List.all_eq_true] at e
  have := e.2 _ (List.getElem_mem hk)
  rw [head_at, ← show L.getD k [] = L[k] from by rw [List.getD_eq_getElem?_getD, List.getElem?_eq_getElem hk]; rfl, h] at this
  cases this
end Tm
set_option maxHeartbeats 4000000 in
theorem sTreeSum (a : Option Addr) (n cap : Nat) (L : List (List Int)) (w : World) (h : Rows w a n cap L) : Calls Try.prog 29 #[.slice a n cap] w (RetINB 3 w (Tm.tree L) (Tm.treeN L) (Tm.treeOk L)) := by
  have H := Lib.hid h
  have hn := h.1
  have hm := h.2.1
  have hm2 := h.2.2.1
  unfold maxLen at hm2
  have n63 : n ≤ 9223372036854775807 := by omega
  clear h hm hm2
  by_cases h0 : 1 ≤ n ∧ n ≤ 40
  · obtain ⟨n1, n40⟩ := h0
    have e0 : Tm.inB (n : Int) 1 40 = true := by simp [Tm.inB]; omega
    have HN := Lib.hid hn
    clear hn
    go_enter Try.func29, Try.ntmps29
    go_wp2_with (go_at_call 47; refine (sIn _ _ _ _).mono ?_; rintro e w1 ⟨rfl, rfl⟩)
    go_loop [17] (fun i => ∃ k : Nat, k ≤ n ∧ i = .int .i64 k ∧ Hid (Tm.FitTo L k)) (fun i => n - (intOf i).toNat)
    case atStart => exact ⟨0, by omega, rfl, Lib.hid (Tm.FitTo.zero L)⟩
    case round =>
      obtain ⟨k, hk, rfl, FF⟩ := hrel
      by_cases hlt : k < n
      · rcases H.out.2.2.2 with h0 | ⟨b, o, e, hbl, hc⟩
        · omega
        subst e
        obtain ⟨a0, m0, c0, z0, i0⟩ := hc 0 (by omega)
        obtain ⟨a1, m1, c1, z1, i1⟩ := hc k hlt
        rw [Nat.add_zero] at z0
        have n0 : (0 : Int) < (n : Int) := by omega
        have I0 := Lib.hid i0
        have I1 := Lib.hid i1
        clear hc i0 i1
        have AS := Lib.hid (fun h1 => FF.out.succ h1)
        have NW := Lib.hid (fun h1 => Tm.treeOk_no (L := L) (k := k) (by rw [HN.out]; exact hlt) h1)
        obtain ⟨x0, hx0⟩ : ∃ x, x = L.getD 0 [] := ⟨_, rfl⟩
        obtain ⟨x1, hx1⟩ : ∃ x, x = L.getD k [] := ⟨_, rfl⟩
        rw [← hx0] at I0 AS NW
        rw [← hx1] at I1 AS NW
        clear hx0 hx1
        by_cases hf : Tm.fit x0 x1 = true
        · have F2 := Lib.hid (AS.out hf)
          go_wp2_with (go_at_call 48; refine (sFit a0 m0 c0 x0 a1 m1 c1 x1 _ I0.out I1.out).mono ?_; rintro e w1 ⟨rfl, rfl⟩)
          exact ⟨⟨k + 1, by omega, by go_num, F2⟩, by simp [intOf]; omega⟩
        · simp only [Bool.not_eq_true] at hf
          have NO := Lib.hid (NW.out hf)
          go_wp2_with (go_at_call 48; refine (sFit a0 m0 c0 x0 a1 m1 c1 x1 _ I0.out I1.out).mono ?_; rintro e w1 ⟨rfl, rfl⟩)
          go_ret3
          rw [Tm.tree, Tm.treeN, NO.out]
          exact ret_nil_nb (by (repeat' (first | (with_reducible exact Below.refl _ _) | (with_reducible assumption) | (with_reducible refine below_drewN ?_ _) | (with_reducible refine Below.drew ?_) | (with_reducible refine Below.alloc ?_ ?_ _) | (with_reducible refine Below.setCell ?_ ?_ _) | (with_reducible refine below_gw ?_ ?_ _) | (with_reducible refine below_via ?_ ‹Below _ _ _› ?_) | (with_reducible exact Nat.le_refl _) | (with_reducible refine le_gw ?_ _) | (with_reducible refine le_alloc ?_ _) | (with_reducible refine le_setCell ?_ _ _) | (with_reducible refine le_drew ?_) | (with_reducible refine le_drewN ?_ _) | go_size)))
      · obtain rfl : k = n := by omega
        have ok := FF.out
        rw [← HN.out] at ok
        have OKK := Lib.hid (Tm.FitTo.ok ok (by rw [HN.out]; omega) (by rw [HN.out]; omega))
        have AW := ((Tm.treeOk_iff L).1 OKK.out).2.2
        obtain ⟨k0, hk0⟩ : ∃ k0, k0 = (L.headD []).length := ⟨_, rfl⟩
        rw [← hk0] at AW
        have TA := Lib.hid (Tm.TreeAt.start AW (by rw [HN.out]; omega) (by rw [HN.out]; omega))
        have HR : Hid (Rows w a L.length cap L) := Lib.hid (by rw [HN.out]; exact H.out)
        have e3 := HN.out
        subst e3
        clear hk0 AW ok FF H
        go_wp2_with fail
        go_loopw [0, 7] (fun v r wr => ∃ (a : Option Addr) (cap : Nat) (M : List (List Int)) (f : Nat) (ρ : Int), v = .slice a M.length cap ∧ r = .int .i64 ρ ∧ 0 ≤ ρ ∧ ρ ≤ 40 ∧ M.length ≤ 40 ∧ 1 ≤ M.length ∧ Hid (Rows wr a M.length cap M) ∧ Hid (Tm.TreeAt k0 L M f ρ) ∧ Hid (Below w.heap.size w wr)) (fun v _ _ => lenV v)
        case atStart => exact ⟨a, cap, L, 40, 0, rfl, rfl, by omega, by omega, n40, n1, HR, TA, Lib.hid (by (repeat' (first | (with_reducible exact Below.refl _ _) | (with_reducible assumption) | (with_reducible refine below_drewN ?_ _) | (with_reducible refine Below.drew ?_) | (with_reducible refine Below.alloc ?_ ?_ _) | (with_reducible refine Below.setCell ?_ ?_ _) | (with_reducible refine below_gw ?_ ?_ _) | (with_reducible refine below_via ?_ ‹Below _ _ _› ?_) | (with_reducible exact Nat.le_refl _) | (with_reducible refine le_gw ?_ _) | (with_reducible refine le_alloc ?_ _) | (with_reducible refine le_setCell ?_ _ _) | (with_reducible refine le_drew ?_) | (with_reducible refine le_drewN ?_ _) | go_size)))⟩
        case round =>
          clear HR TA
          obtain ⟨a, cap, M, f, ρ, rfl, rfl, r0, r1, m40, m1, HR, TA, BB⟩ := hrel
          by_cases hlt : 2 < M.length
          · go_wp2_with fail
            refine (sRound a M.length cap M k0 _ HR.out TA.out.1 m40).mono ?_
            rintro e w1 ⟨a1, cap1, rfl, hr, hb⟩
            obtain ⟨f', TA2, hl⟩ := TA.out.step hlt
            have BB2 := Lib.hid (BB.out.trans (hb.mono BB.out.size))
            have HR2 := Lib.hid hr
            have l1 := TA2.2.2.2.2.1
            have l2 := TA2.2.2.2.2.2.1
            have l3 := TA2.2.2.2.2.2.2.2
            have TA3 := Lib.hid TA2
            clear hb hr TA2
            go_wp2_with fail
            exact ⟨⟨a1, cap1, _, f', ρ + 1, rfl, rfl, by omega, by omega, l2, l1, HR2, TA3, BB2⟩, hl⟩
          · rcases HR.out.2.2.2 with h0 | ⟨b, o, e, hbl, hc⟩
            · omega
            subst e
            by_cases h1 : M.length = 1
            · obtain ⟨xs, rfl⟩ := List.length_eq_one_iff.1 h1
              obtain ⟨a0, m0, c0, z0, i0⟩ := hc 0 (by omega)
              rw [Nat.add_zero] at z0
              have TO := TA.out.one OKK.out
              have I0 : Hid (Ints wr a0 m0 c0 xs) := Lib.hid i0
              have p0 : 0 < m0 := by have := Tm.isW_pos TO.2.2; have := i0.1; simp at this; omega
              have p1 : m0 ≤ 30 := by have := Tm.isW_len TO.2.2; have := i0.1; simp at this; omega
              have TT := Lib.hid TO
              clear hc i0 TO h1 hlt
              go_wp2_with fail
              refine (sCopy a0 m0 c0 xs _ I0.out p0 (by omega)).mono ?_
              rintro e w1 ⟨a1, c1, rfl, hown, hb, ln⟩
              have HO := Lib.hid hown
              have HB := Lib.hid hb
              clear hown hb
              go_wp2_with fail
              go_ret3
              rw [TT.out.1, TT.out.2.1, OKK.out]
              exact ⟨a1, c1, rfl, own_weak HO.out BB.out.size, BB.out.trans (HB.out.mono BB.out.size), ln⟩
            · obtain ⟨xs, ys, rfl⟩ : ∃ xs ys, M = [xs, ys] := by
                match M, hlt, h1, m1 with
                | [x, y], _, _, _ => exact ⟨x, y, rfl⟩
                | [_], _, h, _ => simp at h
                | _ :: _ :: _ :: _, h, _, _ => simp at h
              obtain ⟨a0, m0, c0, z0, i0⟩ := hc 0 (by simp)
              obtain ⟨a1, q1, c1, z1, i1⟩ := hc 1 (by simp)
              rw [Nat.add_zero] at z0
              have TO := TA.out.two OKK.out
              have I0 : Hid (Ints wr a0 m0 c0 xs) := Lib.hid i0
              have I1 : Hid (Ints wr a1 q1 c1 ys) := Lib.hid i1
              have WX := Lib.hid ((Tm.fit_iff xs ys).1 (by have := TO.2.2; rw [Tm.addOk, Bool.and_eq_true] at this; exact this.1))
              have AD : Hid (∀ W, Below wr.heap.size wr W → Calls Try.prog 51 #[.slice a0 m0 c0, .slice a1 q1 c1, .int .i64 0] W (RetAdd W xs.length (Tm.sumF xs ys 0) (Tm.crr xs ys 0) (Tm.crr xs ys 0 xs.length))) := Lib.hid fun W hW => sAdd3 a0 m0 c0 xs a1 q1 c1 ys 0 W (i0.below hW) (i1.below hW) WX.out.1 WX.out.2.1 WX.out.2.2 (by omega)
              have SS : Hid (∀ W, Below wr.heap.size wr W → W.cell? ⟨b, o, none⟩ = some (.slice a0 m0 c0) ∧ W.cell? ⟨b, o + 1, none⟩ = some (.slice a1 q1 c1)) := Lib.hid fun W hW => by
                refine ⟨?_, ?_⟩
                · rw [← z0]; exact World.cell?_of_block (a := ⟨b, o, none⟩) (hW.block b hbl)
                · rw [← z1]; exact World.cell?_of_block (a := ⟨b, o + 1, none⟩) (hW.block b hbl)
              have TT := Lib.hid TO
              have l30 := Tm.isW_len WX.out.1
              clear hc i0 i1 TO z0 z1 hlt
              go_wp2_with fail
              go_region_held3 (fun W => W.cell? ⟨b, o, none⟩ = some (.slice a0 m0 c0) ∧ W.cell? ⟨b, o + 1, none⟩ = some (.slice a1 q1 c1)) (exact SS.out _ (by (repeat' (first | (with_reducible exact Below.refl _ _) | (with_reducible assumption) | (with_reducible refine below_drewN ?_ _) | (with_reducible refine Below.drew ?_) | (with_reducible refine Below.alloc ?_ ?_ _) | (with_reducible refine Below.setCell ?_ ?_ _) | (with_reducible refine below_gw ?_ ?_ _) | (with_reducible refine below_via ?_ ‹Below _ _ _› ?_) | (with_reducible exact Nat.le_refl _) | (with_reducible refine le_gw ?_ _) | (with_reducible refine le_alloc ?_ _) | (with_reducible refine le_setCell ?_ _ _) | (with_reducible refine le_drew ?_) | (with_reducible refine le_drewN ?_ _) | go_size)))) ((first | (go_at_call 51; refine (AD.out _ (by (repeat' (first | (with_reducible exact Below.refl _ _) | (with_reducible assumption) | (with_reducible refine below_drewN ?_ _) | (with_reducible refine Below.drew ?_) | (with_reducible refine Below.alloc ?_ ?_ _) | (with_reducible refine Below.setCell ?_ ?_ _) | (with_reducible refine below_gw ?_ ?_ _) | (with_reducible refine below_via ?_ ‹Below _ _ _› ?_) | (with_reducible exact Nat.le_refl _) | (with_reducible refine le_gw ?_ _) | (with_reducible refine le_alloc ?_ _) | (with_reducible refine le_setCell ?_ _ _) | (with_reducible refine le_drew ?_) | (with_reducible refine le_drewN ?_ _) | go_size)))).mono ?_; rintro e w1 ⟨v, u, rfl, hv, -, hb⟩; have HV := Lib.hid hv; clear hv; obtain ⟨p, rfl⟩ := gw_of_below hb; clear hb)))
              go_wp2_with fail
              go_ret3
              rw [TT.out.1, TT.out.2.1, OKK.out, Tm.addL]
              have hv := HV.out
              rw [rowV_gen] at hv
              exact ret_own_nb (own_weak hv BB.out.size) (by have bb := BB.out; have hs := bb.size; (repeat' (first | (with_reducible exact Below.refl _ _) | (with_reducible assumption) | (with_reducible refine below_drewN ?_ _) | (with_reducible refine Below.drew ?_) | (with_reducible refine Below.alloc ?_ ?_ _) | (with_reducible refine Below.setCell ?_ ?_ _) | (with_reducible refine below_gw ?_ ?_ _) | (with_reducible refine below_via ?_ ‹Below _ _ _› ?_) | (with_reducible exact Nat.le_refl _) | (with_reducible refine le_gw ?_ _) | (with_reducible refine le_alloc ?_ _) | (with_reducible refine le_setCell ?_ _ _) | (with_reducible refine le_drew ?_) | (with_reducible refine le_drewN ?_ _) | go_size))) (by omega)
  · have e0 : Tm.inB (n : Int) 1 40 = false := by simp [Tm.inB]; omega
    have ok : Tm.treeOk L = false := by rw [Bool.eq_false_iff]; intro e; rw [Tm.treeOk, Bool.and_eq_true, decide_eq_true_eq] at e; omega
    rw [Tm.tree, Tm.treeN, ok]
    clear ok h0
    go_enter Try.func29, Try.ntmps29
    go_wp2_with (go_at_call 47; refine (sIn _ _ _ _).mono ?_; rintro e w1 ⟨rfl, rfl⟩)
    go_ret3
    exact ret_nil_nb (by (repeat' (first | (with_reducible exact Below.refl _ _) | (with_reducible assumption) | (with_reducible refine below_drewN ?_ _) | (with_reducible refine Below.drew ?_) | (with_reducible refine Below.alloc ?_ ?_ _) | (with_reducible refine Below.setCell ?_ ?_ _) | (with_reducible refine below_gw ?_ ?_ _) | (with_reducible refine below_via ?_ ‹Below _ _ _› ?_) | (with_reducible exact Nat.le_refl _) | (with_reducible refine le_gw ?_ _) | (with_reducible refine le_alloc ?_ _) | (with_reducible refine le_setCell ?_ _ _) | (with_reducible refine le_drew ?_) | (with_reducible refine le_drewN ?_ _) | go_size)))
end Go.Proofs.Yteonnaagpjmgeab

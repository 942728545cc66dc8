/- Lists of rows of integers: the contracts of the laws' own functions on them. -/
import Derived.Test.YtfmpnkckaceigaaOwn
import Derived.Deep.RegionHeld3
namespace Go.Proofs.Ytfmpnkckaceigaa
set_option maxRecDepth 20000
open Go.RowKit
/-- How a list of rows that came in is read. -/
theorem rows_of_open {w : World} {a : Addr} {len cap : Nat} {A : Nat → Option Addr} {Ls C : Nat → Nat} {Z : Nat → List Int} (hl : len ≤ cap) (hm : cap ≤ maxLen)
    (h : ∀ r, r < cap → w.cell? (a.add r) = some (.slice (A r) (Ls r) (C r)) ∧ Ls r ≤ C r ∧ C r ≤ maxLen ∧ (Z r).length = C r ∧ (∀ n ∈ Z r, (Lit.int .i64 n).wf = true) ∧ (A r = none → C r = 0) ∧ ∀ a', A r = some a' → ∀ c, c < C r → w.cell? (a'.add c) = some (.int .i64 ((Z r).getD c 0))) :
    Rows w (some a) len cap ((List.range len).map fun r => (Z r).take (Ls r)) := by
  refine ⟨by simp, hl, hm, ?_⟩
  rcases Nat.eq_zero_or_pos len with h0 | h0
  · exact .inl h0
  obtain ⟨b, o, spot⟩ := a
  have hs : spot = none := by simpa [Addr.add] using World.cell?_spot (h 0 (by omega)).1
  subst hs
  have ad : ∀ r, (⟨b, o, none⟩ : Addr).add r = ⟨b, o + r, none⟩ := fun r => by unfold Addr.add; split <;> simp_all
  refine .inr ⟨b, o, rfl, ?_, fun i hi => ?_⟩
  · have := (h 0 (by omega)).1
    exact World.block_lt_of_cell? (a := (⟨b, o, none⟩ : Addr).add 0) w this
  · obtain ⟨h1, h2, h3, h4, h5, h6, h7⟩ := h i (by omega)
    refine ⟨A i, Ls i, C i, by rw [← ad]; exact h1, ?_⟩
    have e : ((List.range len).map fun r => (Z r).take (Ls r)).getD i [] = (Z i).take (Ls i) := by rw [List.getD_eq_getElem?_getD]; simp [hi]
    rw [e]
    apply Ints.of_row
    cases hA : A i with
    | none =>
      have := h6 hA
      have hz : Z i = [] := List.length_eq_zero_iff.1 (by omega)
      exact .inl ⟨rfl, by omega, this, hz⟩
    | some x => exact .inr ⟨x, rfl, h2, h3, h4, fun j hj => h7 x hA j (by omega), h5⟩
set_option maxHeartbeats 1000000 in
theorem eqIntSS_same (a a' : Option Addr) (n cap cap' : Nat) (L : List (List Int)) (w : World) (h : Rows w a n cap L) (h' : Rows w a' n cap' L) : Calls Try.prog 32 #[.slice a n cap, .slice a' n cap'] w fun e w' => e = .returned (.bool true) ∧ Below w.heap.size w w' := by
  have h2 := h.2.1
  have h3 := h.2.2.1
  unfold maxLen at h3
  have H := Lib.hid h
  have H' := Lib.hid h'
  clear h h'
  go_enter Try.func32, Try.ntmps32
  go_wp2_with fail
  go_loopw [5] (fun i wr => ∃ k : Nat, k ≤ n ∧ i = .int .i64 k ∧ Hid (Below w.heap.size w wr)) (fun i _ => n - (intOf i).toNat)
  case atStart => exact ⟨0, by omega, rfl, Lib.hid (by (repeat' (first | (with_reducible exact Below.refl _ _) | (with_reducible assumption) | (with_reducible refine below_drewN ?_ _) | (with_reducible refine Below.drew ?_) | (with_reducible refine Below.alloc ?_ ?_ _) | (with_reducible refine Below.setCell ?_ ?_ _) | (with_reducible refine below_gw ?_ ?_ _) | (with_reducible refine below_via ?_ ‹Below _ _ _› ?_) | (with_reducible exact Nat.le_refl _) | (with_reducible refine le_gw ?_ _) | (with_reducible refine le_alloc ?_ _) | (with_reducible refine le_setCell ?_ _ _) | (with_reducible refine le_drew ?_) | (with_reducible refine le_drewN ?_ _) | go_size)))⟩
  case round =>
    obtain ⟨k, hk, rfl, BB⟩ := hrel
    by_cases hlt : k < n
    · rcases H.out.2.2.2 with h0 | ⟨b, o, e, hbl, hc⟩
      · omega
      subst e
      rcases H'.out.2.2.2 with h0 | ⟨b', o', e, hbl', hc'⟩
      · omega
      subst e
      obtain ⟨a1, m1, c1, z1, i1⟩ := hc k hlt
      obtain ⟨a2, m2, c2, z2, i2⟩ := hc' k hlt
      have em : m2 = m1 := by rw [← i1.1, ← i2.1]
      subst em
      have I1 : Hid (∀ W, Below wr.heap.size wr W → Ints W a1 m2 c1 (L.getD k []) ∧ Ints W a2 m2 c2 (L.getD k [])) := Lib.hid fun W hW => ⟨(i1.below BB.out).below hW, (i2.below BB.out).below hW⟩
      have SS : Hid (∀ W, Below wr.heap.size wr W → W.cell? ⟨b, o + k, none⟩ = some (.slice a1 m2 c1) ∧ W.cell? ⟨b', o' + k, none⟩ = some (.slice a2 m2 c2)) := Lib.hid fun W hW => by
        have hb := BB.out.trans (hW.mono BB.out.size)
        exact ⟨by rw [← z1]; exact World.cell?_of_block (a := ⟨b, o + k, none⟩) (hb.block b hbl), by rw [← z2]; exact World.cell?_of_block (a := ⟨b', o' + k, none⟩) (hb.block b' hbl')⟩
      clear hc hc' i1 i2 z1 z2
      go_wp2_with fail
      go_region_held3 (fun W => W.cell? ⟨b, o + k, none⟩ = some (.slice a1 m2 c1) ∧ W.cell? ⟨b', o' + k, none⟩ = some (.slice a2 m2 c2)) (exact SS.out _ (by (repeat' (first | (with_reducible exact Below.refl _ _) | (with_reducible assumption) | (with_reducible refine below_drewN ?_ _) | (with_reducible refine Below.drew ?_) | (with_reducible refine Below.alloc ?_ ?_ _) | (with_reducible refine Below.setCell ?_ ?_ _) | (with_reducible refine below_gw ?_ ?_ _) | (with_reducible refine below_via ?_ ‹Below _ _ _› ?_) | (with_reducible exact Nat.le_refl _) | (with_reducible refine le_gw ?_ _) | (with_reducible refine le_alloc ?_ _) | (with_reducible refine le_setCell ?_ _ _) | (with_reducible refine le_drew ?_) | (with_reducible refine le_drewN ?_ _) | go_size)))) ((first | (go_at_call 18; refine (eqIntS_same a1 a2 m2 c1 c2 _ _ (I1.out _ (by (repeat' (first | (with_reducible exact Below.refl _ _) | (with_reducible assumption) | (with_reducible refine below_drewN ?_ _) | (with_reducible refine Below.drew ?_) | (with_reducible refine Below.alloc ?_ ?_ _) | (with_reducible refine Below.setCell ?_ ?_ _) | (with_reducible refine below_gw ?_ ?_ _) | (with_reducible refine below_via ?_ ‹Below _ _ _› ?_) | (with_reducible exact Nat.le_refl _) | (with_reducible refine le_gw ?_ _) | (with_reducible refine le_alloc ?_ _) | (with_reducible refine le_setCell ?_ _ _) | (with_reducible refine le_drew ?_) | (with_reducible refine le_drewN ?_ _) | go_size)))).1 (I1.out _ (by (repeat' (first | (with_reducible exact Below.refl _ _) | (with_reducible assumption) | (with_reducible refine below_drewN ?_ _) | (with_reducible refine Below.drew ?_) | (with_reducible refine Below.alloc ?_ ?_ _) | (with_reducible refine Below.setCell ?_ ?_ _) | (with_reducible refine below_gw ?_ ?_ _) | (with_reducible refine below_via ?_ ‹Below _ _ _› ?_) | (with_reducible exact Nat.le_refl _) | (with_reducible refine le_gw ?_ _) | (with_reducible refine le_alloc ?_ _) | (with_reducible refine le_setCell ?_ _ _) | (with_reducible refine le_drew ?_) | (with_reducible refine le_drewN ?_ _) | go_size)))).2).mono ?_; rintro e w1 ⟨rfl, hb⟩; obtain ⟨p, rfl⟩ := gw_of_below hb; clear hb)))
      go_wp2_with fail
      exact ⟨⟨k + 1, by omega, by go_num, Lib.hid (by have bb := BB.out; have hs := bb.size; (repeat' (first | (with_reducible exact Below.refl _ _) | (with_reducible assumption) | (with_reducible refine below_drewN ?_ _) | (with_reducible refine Below.drew ?_) | (with_reducible refine Below.alloc ?_ ?_ _) | (with_reducible refine Below.setCell ?_ ?_ _) | (with_reducible refine below_gw ?_ ?_ _) | (with_reducible refine below_via ?_ ‹Below _ _ _› ?_) | (with_reducible exact Nat.le_refl _) | (with_reducible refine le_gw ?_ _) | (with_reducible refine le_alloc ?_ _) | (with_reducible refine le_setCell ?_ _ _) | (with_reducible refine le_drew ?_) | (with_reducible refine le_drewN ?_ _) | go_size)))⟩, by simp [intOf]; omega⟩
    · obtain rfl : k = n := by omega
      go_wp2_with fail
      go_ret
      exact ⟨rfl, BB.out⟩
theorem mkL_full (L : List (List Int)) (c : Int) {k : Nat} (h : L.length ≤ k) : mkL L c k = mkL L c L.length := by
  rw [mkL, mkL]
  apply List.map_congr_left
  intro j hj
  have := List.mem_range.1 hj
  rw [if_pos (by omega), if_pos this]
theorem cnt_mk (L : List (List Int)) (c : Int) (k j : Nat) (hj : j ≤ L.length) : cnt (mkL L c k) j = cnt L j := by
  induction j with
  | zero => rfl
  | succ j ih =>
    rw [cnt, cnt, ih (by omega), mkL_at L c k (by omega)]
    split
    · rw [marks_length]
    · rfl
set_option maxHeartbeats 1000000 in
theorem markIntSS_any (B E : Nat) (a : Option Addr) (n cap : Nat) (L : List (List Int)) (c : Int) (w : World) (hn : L.length = n) (h : OwnL w B E 3 22 (.slice a n cap) L) (hs : n + cnt L n ≤ 1048576) (hc0 : 0 ≤ c) (hc1 : c ≤ 1000000000) :
    Calls Try.prog 33 #[.slice a n cap, .int .i64 c] w fun e w' => e = .returned (.int .i64 (c + (cnt L n : Int))) ∧ OwnL w' B E 3 22 (.slice a n cap) (mkL L c n) ∧ Only B E w w' := by
  have O0 : Hid (OwnL w B E 3 22 (.slice a n cap) (mkL L c 0)) := Lib.hid (by rw [mkL_zero]; exact h)
  have HN := Lib.hid hn
  have CN := Lib.hid (fun j (hj : j < n) => (by have := cnt_le L (show j + 1 ≤ n by omega); have e : cnt L (j + 1) = cnt L j + (L.getD j []).length := rfl; omega : cnt L (j + 1) ≤ cnt L n ∧ cnt L j ≤ 1048576 ∧ (L.getD j []).length ≤ 1048576))
  have n1 : n ≤ 1048576 := by omega
  clear h hn hs
  go_enter Try.func33, Try.ntmps33
  go_wp2_with fail
  go_loopw [1, 5] (fun q i wr => ∃ k : Nat, k ≤ n ∧ i = .int .i64 k ∧ q = .int .i64 (c + (cnt L k : Int)) ∧ Hid (OwnL wr B E 3 22 (.slice a n cap) (mkL L c k)) ∧ Hid (Only B E w wr)) (fun _ i _ => n - (intOf i).toNat)
  case atStart => exact ⟨0, by omega, rfl, by simp [cnt], O0, Lib.hid (Only.refl _ _ _)⟩
  case round =>
    clear O0
    obtain ⟨k, hk, rfl, rfl, OO, BB⟩ := hrel
    by_cases hlt : k < n
    · have hl : (mkL L c k).length = n := by rw [mkL_length]; exact HN.out
      obtain ⟨us, h1, h2, h3, h4⟩ := OO.out
      rw [hl] at h1 h3 h4
      obtain ⟨u, e1, ho, ap⟩ := h3 k hlt
      have ml := mkL_at L c k (j := k) (by rw [HN.out]; exact hlt)
      rw [if_neg (by omega)] at ml
      rw [ml] at ho
      obtain ⟨a1, c1, rfl, hi⟩ := ho.form
      rcases h1.2 with ⟨-, e0⟩ | ⟨g, cap', cur, eg, hB, -, -, -, -, -⟩
      · omega
      simp only [Value.slice.injEq] at eg
      obtain ⟨rfl, -, ecc⟩ := eg
      subst ecc
      have ck := h1.cellAt k (by omega)
      rw [e1] at ck
      have CB := CN.out k hlt
      obtain ⟨cb1, cb2, cb3⟩ := CB
      obtain ⟨C0, hC0⟩ : ∃ C0 : Nat, C0 = cnt L k := ⟨_, rfl⟩
      have CC : Hid (cnt L (k + 1) = C0 + (L.getD k []).length) := Lib.hid (by rw [hC0]; rfl)
      rw [← hC0] at cb2 ⊢
      have HO := Lib.hid ho
      have PT : Hid (∀ w', OwnI w' B E 3 (.slice a1 (L.getD k []).length c1) (marks (c + (C0 : Int)) (L.getD k []).length) → wr.grownBy w' (Value.slice a1 (L.getD k []).length c1).ownBlock → OwnL w' B E 3 22 (.slice (some ⟨g, 0, none⟩) n cap) (mkL L c (k + 1))) := Lib.hid fun w' ho' hg => by
        refine OwnL.put (L := mkL L c k) (k := k) (by rw [hl]; exact h1) h2 (by rw [hl]; exact h3) (by rw [hl]; exact h4) (by rw [hl]; exact hlt) e1 (by rw [mkL_length, mkL_length]) (fun j hj => ?_) ?_ hg
        · by_cases hjn : j < L.length
          · rw [mkL_at L c _ hjn, mkL_at L c _ hjn]
            by_cases h5 : j < k
            · rw [if_pos (by omega), if_pos h5]
            · rw [if_neg (by omega), if_neg h5]
          · rw [List.getD_eq_getElem?_getD, List.getD_eq_getElem?_getD, List.getElem?_eq_none (by rw [mkL_length]; omega), List.getElem?_eq_none (by rw [mkL_length]; omega)]
        · rw [mkL_at L c _ (by rw [HN.out]; exact hlt), if_pos (by omega), ← hC0]
          exact ho'
      clear ho h1 h2 h3 h4 e1 ap ml hi hl hC0 OO
      obtain ⟨xk, hxk⟩ : ∃ xk, xk = L.getD k [] := ⟨_, rfl⟩
      rw [← hxk] at HO PT CC cb3 ck
      clear hxk
      go_wp2_with fail
      refine (markIntS_any B a1 _ c1 _ (c + (C0 : Int)) _ rfl HO.out.1 cb3 (by omega) (by omega)).mono ?_
      rintro e w1 ⟨rfl, hown, hg, hz⟩
      have O2 := Lib.hid (PT.out w1 ⟨by rw [marks_length]; exact hown, HO.out.2⟩ hg)
      have B2 := Lib.hid (BB.out.trans (Only.of_row hg hz HO.out.lt))
      clear hown hg hz PT HO BB
      go_wp2_with fail
      refine ⟨⟨k + 1, by omega, by go_num, val_int (by rw [CC.out]; omega), O2, B2⟩, by simp [intOf]; omega⟩
    · obtain rfl : k = n := by omega
      go_wp2_with fail
      go_ret
      exact ⟨rfl, OO.out, BB.out⟩
set_option maxHeartbeats 1000000 in
theorem heldIntSS_marks (a : Option Addr) (n cap : Nat) (L : List (List Int)) (c : Int) (w : World) (h : Rows w a n cap (mkL L c n)) (hs : n + cnt L n ≤ 1048576) (hc0 : 0 ≤ c) (hc1 : c ≤ 1000000000) :
    Calls Try.prog 34 #[.slice a n cap, .int .i64 c] w fun e w' => e = .returned (.int .i64 (c + (cnt L n : Int))) ∧ w = w' := by
  have H := Lib.hid h
  have hn : L.length = n := by have := h.1; rwa [mkL_length] at this
  have HN := Lib.hid hn
  have CN := Lib.hid (fun j (hj : j < n) => (by have := cnt_le L (show j + 1 ≤ n by omega); have e : cnt L (j + 1) = cnt L j + (L.getD j []).length := rfl; omega : cnt L (j + 1) ≤ cnt L n ∧ cnt L j ≤ 1048576 ∧ (L.getD j []).length ≤ 1048576))
  have n1 : n ≤ 1048576 := by omega
  clear h hn hs
  go_enter Try.func34, Try.ntmps34
  go_wp2_with fail
  go_loop [1, 5] (fun q i => ∃ k : Nat, k ≤ n ∧ i = .int .i64 k ∧ q = .int .i64 (c + (cnt L k : Int))) (fun _ i => n - (intOf i).toNat)
  case atStart => exact ⟨0, by omega, rfl, by simp [cnt]⟩
  case round =>
    obtain ⟨k, hk, rfl, rfl⟩ := hrel
    by_cases hlt : k < n
    · rcases H.out.2.2.2 with h0 | ⟨b, o, e, hbl, hc⟩
      · omega
      subst e
      obtain ⟨a1, m1, c1, z1, i1⟩ := hc k hlt
      rw [mkL_at L c n (by rw [HN.out]; exact hlt), if_pos hlt] at i1
      have hm : (L.getD k []).length = m1 := by have := i1.1; rwa [marks_length] at this
      obtain ⟨cb1, cb2, cb3⟩ := CN.out k hlt
      rw [hm] at i1 cb3
      obtain ⟨C0, hC0⟩ : ∃ C0 : Nat, C0 = cnt L k := ⟨_, rfl⟩
      have CC : Hid (cnt L (k + 1) = C0 + m1) := Lib.hid (by rw [hC0, ← hm]; rfl)
      rw [← hC0] at cb2 i1 ⊢
      have I1 := Lib.hid i1
      clear hc i1 hm hC0
      go_wp2_with fail
      refine (heldIntS_marks a1 m1 c1 (c + (C0 : Int)) _ I1.out cb3 (by omega) (by omega)).mono ?_
      rintro e w' ⟨rfl, rfl⟩
      go_wp2_with fail
      exact ⟨⟨k + 1, by omega, by go_num, val_int (by rw [CC.out]; omega)⟩, by simp [intOf]; omega⟩
    · obtain rfl : k = n := by omega
      go_wp2_with fail
      go_ret
      exact ⟨rfl, rfl⟩
end Go.Proofs.Ytfmpnkckaceigaa

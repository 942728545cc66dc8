/- Lists of rows of integers: the contracts of the laws' own functions on them. -/
import Derived.Test.YteklgngooflhlaaOwn
import Derived.Deep.RegionHeld3
namespace Go.Proofs.Yteklgngooflhlaa
set_option maxRecDepth 20000
open Go.RowKit
/-- How a list of rows that came in is read. -/
theorem rows_of_open {w : World} {a : Addr} {len cap : Nat} {A : Nat → Option Addr} {Ls C : Nat → Nat} {Z : Nat → List Int} (hl : len ≤ cap) (hm : cap ≤ maxLen)
    (h : ∀ r, r < cap → w.cell? (a.add r) = some (.slice (A r) (Ls r) (C r)) ∧ Ls r ≤ C r ∧ C r ≤ maxLen ∧ (Z r).length = C r ∧ (∀ n ∈ Z r, (Lit.int .i64 n).wf = true) ∧ (A r = none → C r = 0) ∧ ∀ a', A r = some a' → ∀ c, c < C r → w.cell? (a'.add c) = some (.int .i64 ((Z r).getD c 0))) :
    Rows w (some a) len cap ((List.range len).map fun r => (Z r).take (Ls r)) := by
  refine ⟨by simp, hl, hm, ?_⟩
  rcases Nat.eq_zero_or_pos len with h0 | h0
  · exact .inl h0
  obtain ⟨b, o, spot⟩ := a
  have hs : spot = none := by simpa [Addr.add] using World.cell?_spot (h 0 (by omega)).1
  subst hs
  have ad : ∀ r, (⟨b, o, none⟩ : Addr).add r = ⟨b, o + r, none⟩ := fun r => by unfold Addr.add; split <;> simp_all
  refine .inr ⟨b, o, rfl, ?_, fun i hi => ?_⟩
  · have := (h 0 (by omega)).1
    exact World.block_lt_of_cell? (a := (⟨b, o, none⟩ : Addr).add 0) w this
  · obtain ⟨h1, h2, h3, h4, h5, h6, h7⟩ := h i (by omega)
    refine ⟨A i, Ls i, C i, by rw [← ad]; exact h1, ?_⟩
    have e : ((List.range len).map fun r => (Z r).take (Ls r)).getD i [] = (Z i).take (Ls i) := by rw [List.getD_eq_getElem?_getD]; simp [hi]
    rw [e]
    apply Ints.of_row
    cases hA : A i with
    | none =>
      have := h6 hA
      have hz : Z i = [] := List.length_eq_zero_iff.1 (by omega)
      exact .inl ⟨rfl, by omega, this, hz⟩
    | some x => exact .inr ⟨x, rfl, h2, h3, h4, fun j hj => h7 x hA j (by omega), h5⟩
theorem szInts (a : Option Addr) (n cap : Nat) (xs : List Int) (left : Int) (w : World) (h : Ints w a n cap xs) (h0 : 0 ≤ left) (h1 : left ≤ 1048576) : Calls Try.prog 91 #[.slice a n cap, .int .i64 left] w fun e w' => e = .returned (.int .i64 (if left - (n : Int) < 0 then -1 else left - (n : Int))) ∧ w = w' := by
  obtain ⟨_, h2, h3, _⟩ := h
  unfold maxLen at h3
  by_cases hlt : left - (n : Int) < 0
  · rw [if_pos hlt]
    go_enter Try.func91, Try.ntmps91
    go_wp2
    go_ret
    exact ⟨rfl, rfl⟩
  · rw [if_neg hlt]
    go_enter Try.func91, Try.ntmps91
    go_wp2
    go_ret
    exact ⟨rfl, rfl⟩
theorem szTo_bd (L : List (List Int)) {left : Int} (h1 : left ≤ 1048576) (k : Nat) : szTo L left k ≤ 1048576 ∧ -1 ≤ szTo L left k := by
  induction k with
  | zero => rw [szTo_zero]; split <;> omega
  | succ k ih =>
    by_cases hk : k < L.length
    · rw [szTo_succ L left hk]; repeat' split
      all_goals omega
    · have e : szTo L left (k + 1) = szTo L left k := by rw [szTo, szTo, List.take_of_length_le (by omega), List.take_of_length_le (by omega)]
      rw [e]; exact ih
theorem szL_neg {L : List (List Int)} {left : Int} {k : Nat} (hk : k ≤ L.length) (h : szTo L left k < 0) : szL L left < 0 := by
  by_cases h' : szL L left < 0
  · exact h'
  · have h' : 0 ≤ szL L left := by omega
    rw [← szTo_all] at h'
    have := (szTo_cnt L left L.length (Nat.le_refl _) h').2 k hk
    omega
set_option maxHeartbeats 1000000 in
theorem szIntSS_any (a : Option Addr) (n cap : Nat) (L : List (List Int)) (left : Int) (w : World) (h : Rows w a n cap L) (l00 : 0 ≤ left) (l01 : left ≤ 1048576) : Calls Try.prog 51 #[.slice a n cap, .int .i64 left] w fun e w' => e = .returned (.int .i64 (szL L left)) ∧ w = w' := by
  have hn := h.1
  have h2 := h.2.1
  have h3 := h.2.2.1
  unfold maxLen at h3
  have H := Lib.hid h
  clear h
  by_cases h0 : left - (n : Int) < 0
  · have e : szL L left = -1 := by
      have := szL_neg (L := L) (left := left) (k := 0) (by omega) (by rw [szTo_zero, if_pos (by omega)]; omega)
      have b := szTo_bd L (left := left) (by omega) L.length
      rw [szTo_all] at b
      omega
    rw [e]
    clear e hn
    go_enter Try.func51, Try.ntmps51
    go_wp2
    go_ret
    exact ⟨rfl, rfl⟩
  · have HN := Lib.hid hn
    clear hn
    have S0 : Hid (szTo L left 0 = left - (n : Int)) := Lib.hid (by rw [szTo_zero, HN.out, if_neg h0])
    go_enter Try.func51, Try.ntmps51
    go_wp2_with fail
    go_loop [1, 5] (fun q i => ∃ (k : Nat) (l : Int), k ≤ n ∧ i = .int .i64 k ∧ q = .int .i64 l ∧ 0 ≤ l ∧ l ≤ 1048576 ∧ Hid (szTo L left k = l)) (fun _ i => n - (intOf i).toNat)
    case atStart => exact ⟨0, _, by omega, rfl, rfl, by omega, by omega, S0⟩
    case round =>
      obtain ⟨k, l, hk, rfl, rfl, l0, l1, SL⟩ := hrel
      clear S0
      by_cases hlt : k < n
      · rcases H.out.2.2.2 with h0 | ⟨b, o, e, hbl, hc⟩
        · omega
        subst e
        obtain ⟨a1, m1, c1, z1, i1⟩ := hc k hlt
        have I1 := Lib.hid i1
        have SS := Lib.hid (szTo_succ L left (k := k) (by rw [HN.out]; exact hlt))
        have ML : Hid ((L.getD k []).length = m1) := Lib.hid i1.1
        clear hc i1
        by_cases hm : l - (m1 : Int) < 0
        · have NG : Hid (szL L left = -1) := Lib.hid (by
            have e1 : szTo L left (k + 1) = -1 := by rw [SS.out, SL.out, ML.out, if_neg (by omega), if_pos hm]
            have := szL_neg (L := L) (left := left) (k := k + 1) (by rw [HN.out]; omega) (by omega)
            have b := szTo_bd L (left := left) (by omega) L.length
            rw [szTo_all] at b
            omega)
          have e2 : (if l - (m1 : Int) < 0 then -1 else l - (m1 : Int)) = -1 := if_pos hm
          go_wp2_with fail
          refine (szInts a1 m1 c1 _ l _ I1.out l0 l1).mono ?_
          rw [e2]
          clear e2 hm
          rintro e w' ⟨rfl, rfl⟩
          go_wp2_with fail
          go_ret
          exact ⟨ret_int NG.out.symm, rfl⟩
        · have e2 : (if l - (m1 : Int) < 0 then -1 else l - (m1 : Int)) = l - (m1 : Int) := if_neg hm
          have S1 : Hid (szTo L left (k + 1) = l - (m1 : Int)) := Lib.hid (by rw [SS.out, SL.out, ML.out, if_neg (by omega), if_neg hm])
          have l2 : 0 ≤ l - (m1 : Int) := by omega
          go_wp2_with fail
          refine (szInts a1 m1 c1 _ l _ I1.out l0 l1).mono ?_
          rw [e2]
          clear e2 hm
          obtain ⟨l', hl'⟩ : ∃ l', l' = l - (m1 : Int) := ⟨_, rfl⟩
          rw [← hl'] at S1 l2 ⊢
          have l3 : l' ≤ 1048576 := by omega
          clear hl'
          rintro e w' ⟨rfl, rfl⟩
          go_wp2_with fail
          exact ⟨⟨k + 1, l', by omega, by go_num, rfl, l2, l3, S1⟩, by simp [intOf]; omega⟩
      · obtain rfl : k = n := by omega
        go_wp2_with fail
        go_ret
        exact ⟨ret_int (by rw [← szTo_all, HN.out]; exact SL.out.symm), rfl⟩
set_option maxHeartbeats 1000000 in
theorem eqIntSS_same (a a' : Option Addr) (n cap cap' : Nat) (L : List (List Int)) (w : World) (h : Rows w a n cap L) (h' : Rows w a' n cap' L) : Calls Try.prog 48 #[.slice a n cap, .slice a' n cap'] w fun e w' => e = .returned (.bool true) ∧ Below w.heap.size w w' := by
  have h2 := h.2.1
  have h3 := h.2.2.1
  unfold maxLen at h3
  have H := Lib.hid h
  have H' := Lib.hid h'
  clear h h'
  go_enter Try.func48, Try.ntmps48
  go_wp2_with fail
  go_loopw [5] (fun i wr => ∃ k : Nat, k ≤ n ∧ i = .int .i64 k ∧ Hid (Below w.heap.size w wr)) (fun i _ => n - (intOf i).toNat)
  case atStart => exact ⟨0, by omega, rfl, Lib.hid (by (repeat' (first | (with_reducible exact Below.refl _ _) | (with_reducible assumption) | (with_reducible refine below_drewN ?_ _) | (with_reducible refine Below.drew ?_) | (with_reducible refine Below.alloc ?_ ?_ _) | (with_reducible refine Below.setCell ?_ ?_ _) | (with_reducible refine below_gw ?_ ?_ _) | (with_reducible refine below_via ?_ ‹Below _ _ _› ?_) | (with_reducible exact Nat.le_refl _) | (with_reducible refine le_gw ?_ _) | (with_reducible refine le_alloc ?_ _) | (with_reducible refine le_setCell ?_ _ _) | (with_reducible refine le_drew ?_) | (with_reducible refine le_drewN ?_ _) | go_size)))⟩
  case round =>
    obtain ⟨k, hk, rfl, BB⟩ := hrel
    by_cases hlt : k < n
    · rcases H.out.2.2.2 with h0 | ⟨b, o, e, hbl, hc⟩
      · omega
      subst e
      rcases H'.out.2.2.2 with h0 | ⟨b', o', e, hbl', hc'⟩
      · omega
      subst e
      obtain ⟨a1, m1, c1, z1, i1⟩ := hc k hlt
      obtain ⟨a2, m2, c2, z2, i2⟩ := hc' k hlt
      have em : m2 = m1 := by rw [← i1.1, ← i2.1]
      subst em
      have I1 : Hid (∀ W, Below wr.heap.size wr W → Ints W a1 m2 c1 (L.getD k []) ∧ Ints W a2 m2 c2 (L.getD k [])) := Lib.hid fun W hW => ⟨(i1.below BB.out).below hW, (i2.below BB.out).below hW⟩
      have SS : Hid (∀ W, Below wr.heap.size wr W → W.cell? ⟨b, o + k, none⟩ = some (.slice a1 m2 c1) ∧ W.cell? ⟨b', o' + k, none⟩ = some (.slice a2 m2 c2)) := Lib.hid fun W hW => by
        have hb := BB.out.trans (hW.mono BB.out.size)
        exact ⟨by rw [← z1]; exact World.cell?_of_block (a := ⟨b, o + k, none⟩) (hb.block b hbl), by rw [← z2]; exact World.cell?_of_block (a := ⟨b', o' + k, none⟩) (hb.block b' hbl')⟩
      clear hc hc' i1 i2 z1 z2
      go_wp2_with fail
      go_region_held3 (fun W => W.cell? ⟨b, o + k, none⟩ = some (.slice a1 m2 c1) ∧ W.cell? ⟨b', o' + k, none⟩ = some (.slice a2 m2 c2)) (exact SS.out _ (by (repeat' (first | (with_reducible exact Below.refl _ _) | (with_reducible assumption) | (with_reducible refine below_drewN ?_ _) | (with_reducible refine Below.drew ?_) | (with_reducible refine Below.alloc ?_ ?_ _) | (with_reducible refine Below.setCell ?_ ?_ _) | (with_reducible refine below_gw ?_ ?_ _) | (with_reducible refine below_via ?_ ‹Below _ _ _› ?_) | (with_reducible exact Nat.le_refl _) | (with_reducible refine le_gw ?_ _) | (with_reducible refine le_alloc ?_ _) | (with_reducible refine le_setCell ?_ _ _) | (with_reducible refine le_drew ?_) | (with_reducible refine le_drewN ?_ _) | go_size)))) ((first | (go_at_call 46; refine (eqIntS_same a1 a2 m2 c1 c2 _ _ (I1.out _ (by (repeat' (first | (with_reducible exact Below.refl _ _) | (with_reducible assumption) | (with_reducible refine below_drewN ?_ _) | (with_reducible refine Below.drew ?_) | (with_reducible refine Below.alloc ?_ ?_ _) | (with_reducible refine Below.setCell ?_ ?_ _) | (with_reducible refine below_gw ?_ ?_ _) | (with_reducible refine below_via ?_ ‹Below _ _ _› ?_) | (with_reducible exact Nat.le_refl _) | (with_reducible refine le_gw ?_ _) | (with_reducible refine le_alloc ?_ _) | (with_reducible refine le_setCell ?_ _ _) | (with_reducible refine le_drew ?_) | (with_reducible refine le_drewN ?_ _) | go_size)))).1 (I1.out _ (by (repeat' (first | (with_reducible exact Below.refl _ _) | (with_reducible assumption) | (with_reducible refine below_drewN ?_ _) | (with_reducible refine Below.drew ?_) | (with_reducible refine Below.alloc ?_ ?_ _) | (with_reducible refine Below.setCell ?_ ?_ _) | (with_reducible refine below_gw ?_ ?_ _) | (with_reducible refine below_via ?_ ‹Below _ _ _› ?_) | (with_reducible exact Nat.le_refl _) | (with_reducible refine le_gw ?_ _) | (with_reducible refine le_alloc ?_ _) | (with_reducible refine le_setCell ?_ _ _) | (with_reducible refine le_drew ?_) | (with_reducible refine le_drewN ?_ _) | go_size)))).2).mono ?_; rintro e w1 ⟨rfl, hb⟩; obtain ⟨p, rfl⟩ := gw_of_below hb; clear hb)))
      go_wp2_with fail
      exact ⟨⟨k + 1, by omega, by go_num, Lib.hid (by have bb := BB.out; have hs := bb.size; (repeat' (first | (with_reducible exact Below.refl _ _) | (with_reducible assumption) | (with_reducible refine below_drewN ?_ _) | (with_reducible refine Below.drew ?_) | (with_reducible refine Below.alloc ?_ ?_ _) | (with_reducible refine Below.setCell ?_ ?_ _) | (with_reducible refine below_gw ?_ ?_ _) | (with_reducible refine below_via ?_ ‹Below _ _ _› ?_) | (with_reducible exact Nat.le_refl _) | (with_reducible refine le_gw ?_ _) | (with_reducible refine le_alloc ?_ _) | (with_reducible refine le_setCell ?_ _ _) | (with_reducible refine le_drew ?_) | (with_reducible refine le_drewN ?_ _) | go_size)))⟩, by simp [intOf]; omega⟩
    · obtain rfl : k = n := by omega
      go_wp2_with fail
      go_ret
      exact ⟨rfl, BB.out⟩
theorem infoRow : (Try.prog.info? 24).map (fun i => (i.zero, i.size, i.bytes)) = some (some (.slice none 0 0), 1, 24) := by kernel_rfl
set_option maxHeartbeats 1000000 in
theorem toIntSS_any (a : Option Addr) (n cap : Nat) (L : List (List Int)) (w : World) (h : Rows w a n cap L) (hs : 0 ≤ szL L 1048576) : Calls Try.prog 53 #[.slice a n cap] w (RetL 3 24 w L) := by
  obtain ⟨j0, hj, hy0, hy1, hy2⟩ := info_parts infoRow
  have hn := h.1
  have sf := szL_facts hs
  have n1 : n ≤ 1048576 := by omega
  have CN := Lib.hid (fun j hj => (by have := sf.2 j hj; omega : (L.getD j []).length ≤ 1048576))
  have h3 := h.2.2.1
  unfold maxLen at h3
  have H := Lib.hid h
  have HN := Lib.hid hn
  clear h sf hs hn
  go_enter Try.func53, Try.ntmps53
  go_wp2_with (at_make; refine wpList_make_full _ rfl _ _ 37 rfl w.heap.size 24 j0 (.slice none 0 0) 1 Try.underlying37 hj hy0 hy1 _ _ _ _ n rfl rfl (by first | rfl | omega) (by first | rfl | omega) (by rw [hy2]; omega) (by unfold maxLen; omega) (by omega) ?_)
  intro w1 hown hgrow
  have B1 := Lib.hid ((Below.refl w.heap.size w).grown hgrow (Nat.le_refl _) (fun k hk => by cases hk))
  have O1 : Hid (∃ us, w1.ownsRow w.heap.size 24 1 (.slice (some ⟨w.heap.size, 0, none⟩) n n) n us ∧ us.length = n ∧ (∀ j, j < 0 → ∃ u, us[j]? = some u ∧ OwnI w1 w.heap.size w1.heap.size 3 u (L.getD j []) ∧ Apart u (.slice (some ⟨w.heap.size, 0, none⟩) n n)) ∧ ∀ i j, i < j → j < 0 → ∀ u u', us[i]? = some u → us[j]? = some u' → Apart u u') := Lib.hid ⟨_, hown, by have := hown.1; omega, fun j hj => by omega, fun i j _ hj => by omega⟩
  have z1 := (hown.lt _ rfl).2
  clear hown hgrow
  obtain ⟨G, hG⟩ : ∃ G, G = w.heap.size := ⟨_, rfl⟩
  rw [← hG] at O1 B1 z1 ⊢
  have HG := Lib.hid hG
  clear hG
  go_wp2_with fail
  go_loopw [4] (fun i wr => ∃ k : Nat, k ≤ n ∧ i = .int .i64 k ∧ G < wr.heap.size ∧ Hid (∃ us, wr.ownsRow G 24 1 (.slice (some ⟨G, 0, none⟩) n n) n us ∧ us.length = n ∧ (∀ j, j < k → ∃ u, us[j]? = some u ∧ OwnI wr G wr.heap.size 3 u (L.getD j []) ∧ Apart u (.slice (some ⟨G, 0, none⟩) n n)) ∧ ∀ i j, i < j → j < k → ∀ u u', us[i]? = some u → us[j]? = some u' → Apart u u') ∧ Hid (Below G w wr)) (fun i _ => n - (intOf i).toNat)
  case atStart => exact ⟨0, by omega, rfl, z1, O1, B1⟩
  case round =>
    clear O1 B1 z1
    obtain ⟨k, hk, rfl, z1, OO, BB⟩ := hrel
    by_cases hlt : k < n
    · rcases H.out.2.2.2 with h0 | ⟨b, o, e, hbl, hc⟩
      · omega
      subst e
      obtain ⟨a1, m1, c1, q1, i1⟩ := hc k hlt
      rw [← HG.out] at hbl
      have q2 : wr.cell? ⟨b, o + k, none⟩ = some (.slice a1 m1 c1) := by rw [← q1]; exact World.cell?_of_block (a := ⟨b, o + k, none⟩) (BB.out.block b hbl)
      have bl : b < wr.heap.size := by omega
      have I1 := Lib.hid (i1.below (by rw [← HG.out]; exact BB.out))
      have m1b : m1 ≤ 1048576 := by rw [← i1.1]; exact CN.out k (by rw [HN.out]; exact hlt)
      clear hc i1 q1
      go_wp2_with fail
      refine (toIntS_any a1 m1 c1 _ _ I1.out m1b).mono ?_
      rintro e w2 ⟨a2, c2, rfl, hown, hb, ln⟩
      obtain ⟨us, ow, ul, u1, u2⟩ := OO.out
      have hs2 := hb.size
      have ow2 := own_below ow hb
      have ck := ow2.cellAt k (by omega)
      obtain ⟨uk, huk⟩ : ∃ uk, us[k]? = some uk := ⟨_, List.getElem?_eq_getElem (by omega)⟩
      rw [huk] at ck
      clear huk
      have fz := ow2.frozenAt k
      have ST := Lib.hid (ow2.stored k (.slice a2 (L.getD k []).length c2))
      have NB : Hid (∀ q, (Value.slice a2 (L.getD k []).length c2).ownBlock = some q → wr.heap.size ≤ q ∧ q < w2.heap.size) := Lib.hid hown.lt
      have gl : G < w2.heap.size := by omega
      have OU := Lib.hid (OwnI.of (own_weak2 hown (Nat.le_of_lt z1)))
      have UU : Hid ((∀ j, j < k → ∃ u, us[j]? = some u ∧ OwnI w2 G wr.heap.size 3 u (L.getD j []) ∧ Apart u (.slice (some ⟨G, 0, none⟩) n n)) ∧ (∀ i j, i < j → j < k → ∀ u u', us[i]? = some u → us[j]? = some u' → Apart u u')) := Lib.hid ⟨fun j hj => by
        obtain ⟨u, e, ho, ap⟩ := u1 j hj
        exact ⟨u, e, ho.stay (SameIn.of_below hb (Nat.le_refl _)), ap⟩, u2⟩
      have UL := Lib.hid ul
      have BB2 := Lib.hid (BB.out.trans (hb.mono (by omega)))
      clear ow ul u1 u2 hown hb ow2 OO BB q2 I1
      go_wp2_with fail
      have GB := ST.out.2
      have AG : Apart (.slice a2 (L.getD k []).length c2) (.slice (some ⟨G, 0, none⟩) n n) := fun q e1 e2 => by
        have := (NB.out q e1).1
        simp [Value.ownBlock] at e2
        omega
      have keep : ∀ {E : Nat} {u : Value} {xs : List Int}, OwnI w2 G E 3 u xs → Apart u (.slice (some ⟨G, 0, none⟩) n n) → OwnI (w2.setCell ⟨G, k, none⟩ (.slice a2 (L.getD k []).length c2)) G E 3 u xs := fun ho ap => ⟨own_stable ho.1 fun q hq => GB.block q (ho.1.lt q hq).2 (fun e => by cases e; exact ap _ hq rfl), ho.2⟩
      refine ⟨⟨k + 1, by omega, by go_num, by simp; omega, Lib.hid ⟨us.set k (.slice a2 (L.getD k []).length c2), ST.out.1, by simp; exact UL.out, fun j hj => ?_, fun i j hij hj u u' e1 e2 => ?_⟩, Lib.hid (BB2.out.grown GB (by omega) (fun q hq => by cases hq; omega))⟩, by simp [intOf]; omega⟩
      · rw [World.size_setCell]
        by_cases e : j = k
        · subst e
          exact ⟨_, by rw [List.getElem?_set_self (by rw [UL.out]; exact hlt)], keep OU.out AG, AG⟩
        · obtain ⟨u, e1, ho, ap⟩ := UU.out.1 j (by omega)
          exact ⟨u, by rw [List.getElem?_set_ne (by omega)]; exact e1, keep (ho.wide (Nat.le_refl _) hs2) ap, ap⟩
      · rw [List.getElem?_set_ne (by omega)] at e1
        by_cases e : j = k
        · subst e
          rw [List.getElem?_set_self (by rw [UL.out]; exact hlt)] at e2
          cases e2
          obtain ⟨u0, e3, ho, _⟩ := UU.out.1 i hij
          rw [e1] at e3
          cases e3
          intro q h1 h2
          have := (NB.out q h2).1
          have := ho.2 q h1
          omega
        · rw [List.getElem?_set_ne (by omega)] at e2
          exact UU.out.2 i j hij (by omega) _ _ e1 e2
    · obtain rfl : k = n := by omega
      go_wp2_with fail
      go_ret
      obtain ⟨us, ow, ul, u1, u2⟩ := OO.out
      have e := HN.out
      subst e
      exact ⟨_, rfl, ⟨us, by rw [← HG.out]; exact ow, fun q hq => by cases hq; exact z1, by rw [← HG.out]; exact u1, u2⟩, by rw [← HG.out]; exact BB.out⟩
theorem mkL_full (L : List (List Int)) (c : Int) {k : Nat} (h : L.length ≤ k) : mkL L c k = mkL L c L.length := by
  rw [mkL, mkL]
  apply List.map_congr_left
  intro j hj
  have := List.mem_range.1 hj
  rw [if_pos (by omega), if_pos this]
theorem cnt_mk (L : List (List Int)) (c : Int) (k j : Nat) (hj : j ≤ L.length) : cnt (mkL L c k) j = cnt L j := by
  induction j with
  | zero => rfl
  | succ j ih =>
    rw [cnt, cnt, ih (by omega), mkL_at L c k (by omega)]
    split
    · rw [marks_length]
    · rfl
set_option maxHeartbeats 1000000 in
theorem markIntSS_any (B E : Nat) (a : Option Addr) (n cap : Nat) (L : List (List Int)) (c : Int) (w : World) (hn : L.length = n) (h : OwnL w B E 3 24 (.slice a n cap) L) (hs : n + cnt L n ≤ 1048576) (hc0 : 0 ≤ c) (hc1 : c ≤ 1000000000) :
    Calls Try.prog 49 #[.slice a n cap, .int .i64 c] w fun e w' => e = .returned (.int .i64 (c + (cnt L n : Int))) ∧ OwnL w' B E 3 24 (.slice a n cap) (mkL L c n) ∧ Only B E w w' := by
  have O0 : Hid (OwnL w B E 3 24 (.slice a n cap) (mkL L c 0)) := Lib.hid (by rw [mkL_zero]; exact h)
  have HN := Lib.hid hn
  have CN := Lib.hid (fun j (hj : j < n) => (by have := cnt_le L (show j + 1 ≤ n by omega); have e : cnt L (j + 1) = cnt L j + (L.getD j []).length := rfl; omega : cnt L (j + 1) ≤ cnt L n ∧ cnt L j ≤ 1048576 ∧ (L.getD j []).length ≤ 1048576))
  have n1 : n ≤ 1048576 := by omega
  clear h hn hs
  go_enter Try.func49, Try.ntmps49
  go_wp2_with fail
  go_loopw [1, 5] (fun q i wr => ∃ k : Nat, k ≤ n ∧ i = .int .i64 k ∧ q = .int .i64 (c + (cnt L k : Int)) ∧ Hid (OwnL wr B E 3 24 (.slice a n cap) (mkL L c k)) ∧ Hid (Only B E w wr)) (fun _ i _ => n - (intOf i).toNat)
  case atStart => exact ⟨0, by omega, rfl, by simp [cnt], O0, Lib.hid (Only.refl _ _ _)⟩
  case round =>
    clear O0
    obtain ⟨k, hk, rfl, rfl, OO, BB⟩ := hrel
    by_cases hlt : k < n
    · have hl : (mkL L c k).length = n := by rw [mkL_length]; exact HN.out
      obtain ⟨us, h1, h2, h3, h4⟩ := OO.out
      rw [hl] at h1 h3 h4
      obtain ⟨u, e1, ho, ap⟩ := h3 k hlt
      have ml := mkL_at L c k (j := k) (by rw [HN.out]; exact hlt)
      rw [if_neg (by omega)] at ml
      rw [ml] at ho
      obtain ⟨a1, c1, rfl, hi⟩ := ho.form
      rcases h1.2 with ⟨-, e0⟩ | ⟨g, cap', cur, eg, hB, -, -, -, -, -⟩
      · omega
      simp only [Value.slice.injEq] at eg
      obtain ⟨rfl, -, ecc⟩ := eg
      subst ecc
      have ck := h1.cellAt k (by omega)
      rw [e1] at ck
      have CB := CN.out k hlt
      obtain ⟨cb1, cb2, cb3⟩ := CB
      obtain ⟨C0, hC0⟩ : ∃ C0 : Nat, C0 = cnt L k := ⟨_, rfl⟩
      have CC : Hid (cnt L (k + 1) = C0 + (L.getD k []).length) := Lib.hid (by rw [hC0]; rfl)
      rw [← hC0] at cb2 ⊢
      have HO := Lib.hid ho
      have PT : Hid (∀ w', OwnI w' B E 3 (.slice a1 (L.getD k []).length c1) (marks (c + (C0 : Int)) (L.getD k []).length) → wr.grownBy w' (Value.slice a1 (L.getD k []).length c1).ownBlock → OwnL w' B E 3 24 (.slice (some ⟨g, 0, none⟩) n cap) (mkL L c (k + 1))) := Lib.hid fun w' ho' hg => by
        refine OwnL.put (L := mkL L c k) (k := k) (by rw [hl]; exact h1) h2 (by rw [hl]; exact h3) (by rw [hl]; exact h4) (by rw [hl]; exact hlt) e1 (by rw [mkL_length, mkL_length]) (fun j hj => ?_) ?_ hg
        · by_cases hjn : j < L.length
          · rw [mkL_at L c _ hjn, mkL_at L c _ hjn]
            by_cases h5 : j < k
            · rw [if_pos (by omega), if_pos h5]
            · rw [if_neg (by omega), if_neg h5]
          · rw [List.getD_eq_getElem?_getD, List.getD_eq_getElem?_getD, List.getElem?_eq_none (by rw [mkL_length]; omega), List.getElem?_eq_none (by rw [mkL_length]; omega)]
        · rw [mkL_at L c _ (by rw [HN.out]; exact hlt), if_pos (by omega), ← hC0]
          exact ho'
      clear ho h1 h2 h3 h4 e1 ap ml hi hl hC0 OO
      obtain ⟨xk, hxk⟩ : ∃ xk, xk = L.getD k [] := ⟨_, rfl⟩
      rw [← hxk] at HO PT CC cb3 ck
      clear hxk
      go_wp2_with fail
      refine (markIntS_any B a1 _ c1 _ (c + (C0 : Int)) _ rfl HO.out.1 cb3 (by omega) (by omega)).mono ?_
      rintro e w1 ⟨rfl, hown, hg, hz⟩
      have O2 := Lib.hid (PT.out w1 ⟨by rw [marks_length]; exact hown, HO.out.2⟩ hg)
      have B2 := Lib.hid (BB.out.trans (Only.of_row hg hz HO.out.lt))
      clear hown hg hz PT HO BB
      go_wp2_with fail
      refine ⟨⟨k + 1, by omega, by go_num, val_int (by rw [CC.out]; omega), O2, B2⟩, by simp [intOf]; omega⟩
    · obtain rfl : k = n := by omega
      go_wp2_with fail
      go_ret
      exact ⟨rfl, OO.out, BB.out⟩
set_option maxHeartbeats 1000000 in
theorem heldIntSS_marks (a : Option Addr) (n cap : Nat) (L : List (List Int)) (c : Int) (w : World) (h : Rows w a n cap (mkL L c n)) (hs : n + cnt L n ≤ 1048576) (hc0 : 0 ≤ c) (hc1 : c ≤ 1000000000) :
    Calls Try.prog 50 #[.slice a n cap, .int .i64 c] w fun e w' => e = .returned (.int .i64 (c + (cnt L n : Int))) ∧ w = w' := by
  have H := Lib.hid h
  have hn : L.length = n := by have := h.1; rwa [mkL_length] at this
  have HN := Lib.hid hn
  have CN := Lib.hid (fun j (hj : j < n) => (by have := cnt_le L (show j + 1 ≤ n by omega); have e : cnt L (j + 1) = cnt L j + (L.getD j []).length := rfl; omega : cnt L (j + 1) ≤ cnt L n ∧ cnt L j ≤ 1048576 ∧ (L.getD j []).length ≤ 1048576))
  have n1 : n ≤ 1048576 := by omega
  clear h hn hs
  go_enter Try.func50, Try.ntmps50
  go_wp2_with fail
  go_loop [1, 5] (fun q i => ∃ k : Nat, k ≤ n ∧ i = .int .i64 k ∧ q = .int .i64 (c + (cnt L k : Int))) (fun _ i => n - (intOf i).toNat)
  case atStart => exact ⟨0, by omega, rfl, by simp [cnt]⟩
  case round =>
    obtain ⟨k, hk, rfl, rfl⟩ := hrel
    by_cases hlt : k < n
    · rcases H.out.2.2.2 with h0 | ⟨b, o, e, hbl, hc⟩
      · omega
      subst e
      obtain ⟨a1, m1, c1, z1, i1⟩ := hc k hlt
      rw [mkL_at L c n (by rw [HN.out]; exact hlt), if_pos hlt] at i1
      have hm : (L.getD k []).length = m1 := by have := i1.1; rwa [marks_length] at this
      obtain ⟨cb1, cb2, cb3⟩ := CN.out k hlt
      rw [hm] at i1 cb3
      obtain ⟨C0, hC0⟩ : ∃ C0 : Nat, C0 = cnt L k := ⟨_, rfl⟩
      have CC : Hid (cnt L (k + 1) = C0 + m1) := Lib.hid (by rw [hC0, ← hm]; rfl)
      rw [← hC0] at cb2 i1 ⊢
      have I1 := Lib.hid i1
      clear hc i1 hm hC0
      go_wp2_with fail
      refine (heldIntS_marks a1 m1 c1 (c + (C0 : Int)) _ I1.out cb3 (by omega) (by omega)).mono ?_
      rintro e w' ⟨rfl, rfl⟩
      go_wp2_with fail
      exact ⟨⟨k + 1, by omega, by go_num, val_int (by rw [CC.out]; omega)⟩, by simp [intOf]; omega⟩
    · obtain rfl : k = n := by omega
      go_wp2_with fail
      go_ret
      exact ⟨rfl, rfl⟩
end Go.Proofs.Yteklgngooflhlaa

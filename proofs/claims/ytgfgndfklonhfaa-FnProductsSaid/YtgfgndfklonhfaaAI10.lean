/- The program's sums of many words. -/
import Derived.Test.YtgfgndfklonhfaaAS6
import Derived.Test.YtgfgndfklonhfaaAI1
import Derived.Test.YtgfgndfklonhfaaAI3
namespace Go.Proofs.Ytgfgndfklonhfaa
set_option maxRecDepth 20000
open Go.RowKit
/-- The values of a list that came in, read later. -/
theorem Rows.values {w wr : World} {b o n cap B : Nat} {L : List (List Int)} {v : Value} (h : Rows w (some ⟨b, o, none⟩) n cap L) (hb : Below w.heap.size w wr) (hv : ∀ k, v.ownBlock = some k → B ≤ k) (hB : w.heap.size ≤ B) :
    ∃ news : List Value, news.length = n ∧ (∀ j u, news[j]? = some u → wr.cell? ((⟨b, o, none⟩ : Addr).add j) = some u) ∧ (∀ u ∈ news, u.oneCell' = true) ∧ SSof wr v.ownBlock L news := by
  obtain ⟨h1, h2, h3, h4⟩ := h
  rcases h4 with h4 | ⟨b', o', e, hlt, hc⟩
  · subst h4
    obtain rfl : L = [] := List.length_eq_zero_iff.1 h1
    exact ⟨[], rfl, fun j u hu => by simp at hu, fun u hu => by simp at hu, SSof.nil _ _⟩
  · cases e
    have at_ : ∀ i, i < n → ((List.range n).map fun i => (w.cell? ⟨b, o + i, none⟩).getD (.bool false))[i]? = w.cell? ⟨b, o + i, none⟩ := by
      intro i hi
      obtain ⟨a, m, c, e1, -⟩ := hc i hi
      simp [hi, e1]
    refine ⟨(List.range n).map fun i => (w.cell? ⟨b, o + i, none⟩).getD (.bool false), by simp, fun j u hu => ?_, fun u hu => ?_, by simp [h1], fun j hj => ?_⟩
    · have hj : j < n := by
        rcases Nat.lt_or_ge j n with h | h
        · exact h
        · rw [List.getElem?_eq_none (by simpa using h)] at hu; cases hu
      rw [at_ j hj] at hu
      have e : (⟨b, o, none⟩ : Addr).add j = ⟨b, o + j, none⟩ := by unfold Addr.add; split <;> simp_all
      rw [e, ← hu]
      exact World.cell?_of_block (a := ⟨b, o + j, none⟩) (hb.block b hlt)
    · obtain ⟨i, hi, rfl⟩ := List.mem_map.1 hu
      obtain ⟨a, m, c, e1, -⟩ := hc i (by simpa using hi)
      rw [e1]; rfl
    · obtain ⟨a, m, c, e1, e2⟩ := hc j (by omega)
      refine ⟨a, m, c, by rw [at_ j (by omega)]; exact e1, e2.below hb, fun hm b' o' e' e3 => ?_⟩
      have := e2.lt hm b' o' e'
      have := hv b' e3.symm
      omega
set_option maxHeartbeats 4000000 in
theorem iRound (a : Option Addr) (n cap : Nat) (L : List (List Int)) (k0 : Nat) (w : World) (h : Rows w a n cap L) (hw : Tm.allW k0 L) (hn : n ≤ 40) (h3 : 3 ≤ n) : Calls Try.prog 35 #[.slice a n cap] w (RetRows w (Tm.rnd1 L)) := by
  obtain ⟨j0, hj, hy0, hy1, hy2⟩ := info_parts infoSS
  have HW := Lib.hid hw
  have HN := Lib.hid h.1
  rcases h.2.2.2 with h0 | ⟨b, o, e, hbl, -⟩
  · omega
  subst e
  have H := Lib.hid h
  have cl := h.2.2.1
  have cl2 := h.2.1
  unfold maxLen at cl
  clear h hw
  go_enter Try.func35, Try.ntmps35
  go_wp2_with fail
  go_loopw [0, 3] (fun ws v wr => ∃ (k r o' c' : Nat) (L' : List (List Int)), k + r = n ∧ L'.length ≤ k ∧ c' ≤ cap ∧ ws = .slice (some ⟨b, o', none⟩) r c' ∧ r ≤ c' ∧ Hid (Rows w (some ⟨b, o', none⟩) r c' (L.drop k)) ∧ Hid (OwnSS wr w.heap.size 23 v L') ∧ Hid (L' ++ Tm.rnd1 (L.drop k) = Tm.rnd1 L) ∧ Hid (Below w.heap.size w wr)) (fun ws _ _ => lenV ws)
  case atStart => exact ⟨0, n, o, cap, [], by omega, by simp, by omega, rfl, cl2, H, Lib.hid (own_nilS _ _ _), Lib.hid rfl, Lib.hid (by (repeat' (first | (with_reducible exact Below.refl _ _) | (with_reducible assumption) | (with_reducible refine below_drewN ?_ _) | (with_reducible refine Below.drew ?_) | (with_reducible refine Below.alloc ?_ ?_ _) | (with_reducible refine Below.setCell ?_ ?_ _) | (with_reducible refine below_gw ?_ ?_ _) | (with_reducible refine below_via ?_ ‹Below _ _ _› ?_) | (with_reducible exact Nat.le_refl _) | (with_reducible refine le_gw ?_ _) | (with_reducible refine le_alloc ?_ _) | (with_reducible refine le_setCell ?_ _ _) | (with_reducible refine le_drew ?_) | (with_reducible refine le_drewN ?_ _) | go_size)))⟩
  case round =>
    clear H
    obtain ⟨k, r, o', c', L', hk, hl, hc1, rfl, hc2, H, OO, EE, BB⟩ := hrel
    by_cases hlt : 2 < r
    · have h1 : ((2 : Int) < (r : Int)) := by omega
      rcases H.out.2.2.2 with h0 | ⟨b', o1, e, hbl, hc⟩
      · omega
      cases e
      obtain ⟨a1, m1, c1, z1, i1⟩ := hc 0 (by omega)
      obtain ⟨a2, m2, c2, z2, i2⟩ := hc 1 (by omega)
      obtain ⟨a3, m3, c3, z3, i3⟩ := hc 2 (by omega)
      clear hc
      rw [Nat.add_zero] at z1
      have dl : (L.drop k).length = r := H.out.1
      have LL : k + 2 < L.length := by simp at dl; omega
      have gd : ∀ j, (L.drop k).getD j [] = L.getD (k + j) [] := fun j => by simp [List.getD_eq_getElem?_getD]
      rw [gd] at i1 i2 i3
      have w1 := Tm.allW_at HW.out (i := k + 0) (by omega)
      have w2 := Tm.allW_at HW.out (i := k + 1) (by omega)
      have w3 := Tm.allW_at HW.out (i := k + 2) LL
      have EE2 := Lib.hid (Tm.rnd1_step (L := L) (k := k) LL)
      obtain ⟨xs, hxs⟩ : ∃ xs, xs = L.getD (k + 0) [] := ⟨_, rfl⟩
      obtain ⟨ys, hys⟩ : ∃ ys, ys = L.getD (k + 1) [] := ⟨_, rfl⟩
      obtain ⟨zs, hzs⟩ : ∃ zs, zs = L.getD (k + 2) [] := ⟨_, rfl⟩
      rw [← hxs] at i1 w1
      rw [Nat.add_zero] at hxs
      rw [← hxs] at EE2
      rw [← hys] at i2 w2 EE2
      rw [← hzs] at i3 w3 EE2
      have SV := Lib.hid (Tm.sav_of w1 w2 w3)
      have i1 := i1.below BB.out
      have i2 := i2.below BB.out
      have i3 := i3.below BB.out
      have CS : Hid (∀ W, Below wr.heap.size wr W → Calls Try.prog 55 #[.slice a1 m1 c1, .slice a2 m2 c2, .slice a3 m3 c3] W (Ret2B 3 W (genL xs.length (Tm.sav1 xs ys zs)) (genL xs.length (Tm.sav2 xs ys zs)) true)) := Lib.hid fun W hW => by
        have := iCarrySave a1 m1 c1 xs a2 m2 c2 ys a3 m3 c3 zs W (i1.below hW) (i2.below hW) (i3.below hW)
        rw [SV.out.1, SV.out.2.1, SV.out.2.2] at this
        exact this
      have S3 : Hid (∀ W, Below wr.heap.size wr W → W.cell? ⟨b, o', none⟩ = some (.slice a1 m1 c1) ∧ W.cell? ⟨b, o' + 1, none⟩ = some (.slice a2 m2 c2) ∧ W.cell? ⟨b, o' + 2, none⟩ = some (.slice a3 m3 c3)) := Lib.hid fun W hW => by
        have hb := (BB.out.trans (hW.mono BB.out.size)).block b hbl
        refine ⟨?_, ?_, ?_⟩
        · rw [← z1]; exact World.cell?_of_block (a := ⟨b, o', none⟩) hb
        · rw [← z2]; exact World.cell?_of_block (a := ⟨b, o' + 1, none⟩) hb
        · rw [← z3]; exact World.cell?_of_block (a := ⟨b, o' + 2, none⟩) hb
      have VL := Lib.hid (fun q hq => (OO.out.lt q hq).2)
      have j1 : (0 : Int) < (r : Int) := by omega
      have j2 : (1 : Int) < (r : Int) := by omega
      have j3 : 0 < r := by omega
      have j4 : 1 < r := by omega
      have j5 : 2 < r := by omega
      clear i1 i2 i3 w1 w2 w3 hxs hys hzs z1 z2 z3 gd dl LL
      go_wp2_with fail
      go_region_held3 (fun W => W.cell? ⟨b, o', none⟩ = some (.slice a1 m1 c1) ∧ W.cell? ⟨b, o' + 1, none⟩ = some (.slice a2 m2 c2) ∧ W.cell? ⟨b, o' + 2, none⟩ = some (.slice a3 m3 c3)) (exact S3.out _ (by (repeat' (first | (with_reducible exact Below.refl _ _) | (with_reducible assumption) | (with_reducible refine below_drewN ?_ _) | (with_reducible refine Below.drew ?_) | (with_reducible refine Below.alloc ?_ ?_ _) | (with_reducible refine Below.setCell ?_ ?_ _) | (with_reducible refine below_gw ?_ ?_ _) | (with_reducible refine below_via ?_ ‹Below _ _ _› ?_) | (with_reducible exact Nat.le_refl _) | (with_reducible refine le_gw ?_ _) | (with_reducible refine le_alloc ?_ _) | (with_reducible refine le_setCell ?_ _ _) | (with_reducible refine le_drew ?_) | (with_reducible refine le_drewN ?_ _) | go_size)))) ((first | (go_at_call 55; refine (CS.out _ (by (repeat' (first | (with_reducible exact Below.refl _ _) | (with_reducible assumption) | (with_reducible refine below_drewN ?_ _) | (with_reducible refine Below.drew ?_) | (with_reducible refine Below.alloc ?_ ?_ _) | (with_reducible refine Below.setCell ?_ ?_ _) | (with_reducible refine below_gw ?_ ?_ _) | (with_reducible refine below_via ?_ ‹Below _ _ _› ?_) | (with_reducible exact Nat.le_refl _) | (with_reducible refine le_gw ?_ _) | (with_reducible refine le_alloc ?_ _) | (with_reducible refine le_setCell ?_ _ _) | (with_reducible refine le_drew ?_) | (with_reducible refine le_drewN ?_ _) | go_size)))).mono ?_; rintro e w1 ⟨d1, e1, d2, e2, rfl, ho1, ho2, ap, hb, -, -⟩; have HO1 := Lib.hid ho1; have HO2 := Lib.hid ho2; clear ho1 ho2 ap; obtain ⟨p, rfl⟩ := gw_of_below hb; clear hb)))
      obtain ⟨W, hWW⟩ : ∃ W, W = gw wr p := ⟨_, rfl⟩
      have BW : Below wr.heap.size wr W := by rw [hWW]; (repeat' (first | (with_reducible exact Below.refl _ _) | (with_reducible assumption) | (with_reducible refine below_drewN ?_ _) | (with_reducible refine Below.drew ?_) | (with_reducible refine Below.alloc ?_ ?_ _) | (with_reducible refine Below.setCell ?_ ?_ _) | (with_reducible refine below_gw ?_ ?_ _) | (with_reducible refine below_via ?_ ‹Below _ _ _› ?_) | (with_reducible exact Nat.le_refl _) | (with_reducible refine le_gw ?_ _) | (with_reducible refine le_alloc ?_ _) | (with_reducible refine le_setCell ?_ _ _) | (with_reducible refine le_drew ?_) | (with_reducible refine le_drewN ?_ _) | go_size))
      have I1 : Ints W d1 (genL xs.length (Tm.sav1 xs ys zs)).length e1 (genL xs.length (Tm.sav1 xs ys zs)) := by rw [hWW]; exact Ints.of_own HO1.out
      have I2 : Ints W d2 (genL xs.length (Tm.sav2 xs ys zs)).length e2 (genL xs.length (Tm.sav2 xs ys zs)) := by rw [hWW]; exact Ints.of_own HO2.out
      have SN := Lib.hid (ss_two (s := wr.heap.size) I1 I2 VL.out (fun q hq => (HO1.out.lt q hq).1) (fun q hq => (HO2.out.lt q hq).1))
      obtain ⟨vs, hv1, hv2⟩ := OO.out.below BW
      have OW0 := Lib.hid hv1
      have SS0 := Lib.hid hv2
      have B1 := Lib.hid (BB.out.trans (BW.mono BB.out.size))
      have hs1 := B1.out.size
      rw [← hWW]
      clear hWW BW I1 I2 hv1 hv2 OO BB HO1 HO2 VL S3 CS
      have E3 : Hid ((L' ++ [genL xs.length (Tm.sav1 xs ys zs), genL xs.length (Tm.sav2 xs ys zs)]) ++ Tm.rnd1 (L.drop (k + 3)) = Tm.rnd1 L) := Lib.hid (by rw [← EE.out, EE2.out, List.append_assoc]; rfl)
      have HT := Lib.hid (H.out.tail 3 (by omega))
      clear EE EE2
      by_cases h3c : c' = 3
      · have r3 : r - 3 = 0 := by omega
        have H0 : Hid (Rows w (some ⟨b, o', none⟩) (r - 3) 0 (L.drop (k + 3))) := Lib.hid (by
          have e1 := HT.out.1
          rw [List.drop_drop] at e1
          exact ⟨e1, by omega, by omega, .inl r3⟩)
        clear r3
        go_wp2_with (at_builtin; refine wpList_append_own_at _ rfl _ _ 28 rfl (w.heap.size) 23 j0 (.slice none 0 0) 1 24 Try.underlying28 hj hy0 hy1 hy2 rfl (by decide) _ _ _ rfl (World.ownsRow.alloc OW0.out _) ⟨W.heap.size, 0, none⟩ 2 2 [.slice d1 _ e1, .slice d2 _ e2] rfl rfl (app_s2 _ _ _ _) (app_s4 _ _ _ _ _ _) (by unfold maxLen; omega) (by omega) (by simp; omega) ?_)
        intro v' w2 hv hg _ hat
        have O2 := Lib.hid (OwnSS.appended (SS0.out.below ((Below.refl _ _).alloc (Nat.le_refl _) _)) (SN.out.below ((Below.refl _ _).alloc (Nat.le_refl _) _)) hv hg (by rw [World.size_alloc]; exact hat))
        have B2 := Lib.hid ((B1.out.alloc hs1 _).grown hg (by simp; omega) (fun j hj => (OW0.out.lt j hj).1))
        clear hv hg hat OW0 SS0 SN B1 hs1
        go_wp2_with fail
        exact ⟨⟨k + 3, r - 3, o', 0, _, by omega, by simp; omega, by omega, rfl, by omega, H0, O2, E3, B2⟩, by simp [lenV]; omega⟩
      · have H0 : Hid (Rows w (some ⟨b, o' + 3, none⟩) (r - 3) (c' - 3) (L.drop (k + 3))) := Lib.hid (by
          have := HT.out
          rw [List.drop_drop] at this
          exact this)
        go_wp2_with (at_builtin; refine wpList_append_own_at _ rfl _ _ 28 rfl (w.heap.size) 23 j0 (.slice none 0 0) 1 24 Try.underlying28 hj hy0 hy1 hy2 rfl (by decide) _ _ _ rfl (World.ownsRow.alloc OW0.out _) ⟨W.heap.size, 0, none⟩ 2 2 [.slice d1 _ e1, .slice d2 _ e2] rfl rfl (app_s2 _ _ _ _) (app_s4 _ _ _ _ _ _) (by unfold maxLen; omega) (by omega) (by simp; omega) ?_)
        intro v' w2 hv hg _ hat
        have O2 := Lib.hid (OwnSS.appended (SS0.out.below ((Below.refl _ _).alloc (Nat.le_refl _) _)) (SN.out.below ((Below.refl _ _).alloc (Nat.le_refl _) _)) hv hg (by rw [World.size_alloc]; exact hat))
        have B2 := Lib.hid ((B1.out.alloc hs1 _).grown hg (by simp; omega) (fun j hj => (OW0.out.lt j hj).1))
        clear hv hg hat OW0 SS0 SN B1 hs1
        go_wp2_with fail
        exact ⟨⟨k + 3, r - 3, o' + 3, c' - 3, _, by omega, by simp; omega, by omega, rfl, by omega, H0, O2, E3, B2⟩, by simp [lenV]; omega⟩
    · have h1 : ¬ ((2 : Int) < (r : Int)) := by omega
      have KK : Hid (L' ++ L.drop k = Tm.rnd1 L) := Lib.hid (by rw [← EE.out, Tm.rnd1_short (L := L.drop k) (by rw [H.out.1]; omega)])
      obtain ⟨news, nl, nc, n1, ns⟩ := H.out.values BB.out (v := u3) (fun q hq => (OO.out.lt q hq).1) (Nat.le_refl _)
      obtain ⟨vs, hv1, hv2⟩ := OO.out
      have NC := Lib.hid nc
      have N1 := Lib.hid n1
      have NL := Lib.hid nl
      have SN := Lib.hid ns
      have OW0 := Lib.hid hv1
      have SS0 := Lib.hid hv2
      have hs1 := BB.out.size
      have LD := Lib.hid (show (L.drop k).length = r from H.out.1)
      clear nc n1 nl ns hv1 hv2 OO EE
      go_wp2_with (at_builtin; refine wpList_append_own_at _ rfl _ _ 28 rfl w.heap.size 23 j0 (.slice none 0 0) 1 24 Try.underlying28 hj hy0 hy1 hy2 rfl (by decide) _ _ _ rfl OW0.out ⟨b, o', none⟩ r c' news rfl (by rw [NL.out]; omega) NC.out N1.out (by unfold maxLen; omega) (by omega) (by omega) ?_)
      intro v' w2 hv hg _ hat
      have O2 := Lib.hid (OwnSS.appended SS0.out SN.out (by rw [LD.out]; exact hv) hg hat)
      have B2 := Lib.hid (BB.out.grown hg (by omega) (fun j hj => (OW0.out.lt j hj).1))
      clear hv hg hat
      go_wp2_with fail
      go_ret
      have o2 := O2.out
      rw [KK.out] at o2
      obtain ⟨a2, cap2, rfl, hr⟩ := o2.rows
      exact ⟨a2, cap2, rfl, hr, B2.out⟩
end Go.Proofs.Ytgfgndfklonhfaa

/- The model's sums of many words. -/
import Derived.Test.YteonnaagpjmgeabOS
import Derived.Test.YteonnaagpjmgeabAS3
import Derived.Test.YteonnaagpjmgeabWS3
import Derived.Test.YteonnaagpjmgeabAMath4
import Derived.Deep.RegionHeld3
namespace Go.Proofs.Yteonnaagpjmgeab
open Go.RowKit
namespace Tm
theorem rnd1_step {L : List (List Int)} {k : Nat} (h : k + 2 < L.length) : rnd1 (L.drop k) = genL (L.getD k []).length (sav1 (L.getD k []) (L.getD (k + 1) []) (L.getD (k + 2) [])) :: genL (L.getD k []).length (sav2 (L.getD k []) (L.getD (k + 1) []) (L.getD (k + 2) [])) :: rnd1 (L.drop (k + 3)) := by
  have g : ∀ i, i < L.length → L.drop i = L.getD i [] :: L.drop (i + 1) := fun i hi => by
    rw [List.drop_eq_getElem_cons hi, List.getD_eq_getElem?_getD, List.getElem?_eq_getElem hi]; rfl
  rw [g k (by omega), g (k + 1) (by omega), g (k + 1 + 1) (by omega), rnd1]
theorem rnd1_short {L : List (List Int)} (h : L.length ≤ 2) : rnd1 L = L := by
  match L, h with
  | [], _ => rfl
  | [_], _ => rfl
  | [_, _], _ => rfl
theorem drop_cons {L : List (List Int)} {i : Nat} (hi : i < L.length) : L.drop i = L.getD i [] :: L.drop (i + 1) := by
  rw [List.drop_eq_getElem_cons hi, List.getD_eq_getElem?_getD, List.getElem?_eq_getElem hi]; rfl
theorem allW_at {k : Nat} {L : List (List Int)} (h : allW k L) {i : Nat} (hi : i < L.length) : isW (L.getD i []) = true ∧ (L.getD i []).length = k := by
  rw [List.getD_eq_getElem?_getD, List.getElem?_eq_getElem hi]
  exact h _ (List.getElem_mem hi)
theorem sav_of {k : Nat} {xs ys zs : List Int} (hx : isW xs = true ∧ xs.length = k) (hy : isW ys = true ∧ ys.length = k) (hz : isW zs = true ∧ zs.length = k) : savOk xs ys zs = true ∧ sv1 xs ys zs = genL xs.length (sav1 xs ys zs) ∧ sv2 xs ys zs = genL xs.length (sav2 xs ys zs) := by
  have o : savOk xs ys zs = true := by
    rw [savOk, Bool.and_eq_true, fit_iff, fit_iff]
    exact ⟨⟨hx.1, hy.1, by rw [hx.2, hy.2]⟩, hx.1, hz.1, by rw [hx.2, hz.2]⟩
  exact ⟨o, by rw [sv1, if_pos o], by rw [sv2, if_pos o]⟩
end Tm
theorem ss_two {w : World} {v : Value} {s : Nat} {a1 a2 : Option Addr} {n1 c1 n2 c2 : Nat} {xs ys : List Int} (h1 : Ints w a1 n1 c1 xs) (h2 : Ints w a2 n2 c2 ys) (hv : ∀ k, v.ownBlock = some k → k < s) (g1 : ∀ k, (Value.slice a1 n1 c1).ownBlock = some k → s ≤ k) (g2 : ∀ k, (Value.slice a2 n2 c2).ownBlock = some k → s ≤ k) : SSof w v.ownBlock [xs, ys] [.slice a1 n1 c1, .slice a2 n2 c2] := by
  have one : ∀ (a : Option Addr) (n c : Nat) (_ : ∀ k, (Value.slice a n c).ownBlock = some k → s ≤ k) b o, a = some ⟨b, o, none⟩ → some b ≠ v.ownBlock := fun a n c g b o e e2 => by
    have := g b (by rw [e]; rfl)
    have := hv b e2.symm
    omega
  exact SSof.append (SSof.cons_one h1 fun _ b o e => one a1 n1 c1 g1 b o e) (SSof.cons_one h2 fun _ b o e => one a2 n2 c2 g2 b o e)
/-- A list of slices is handed back. -/
def RetRows (w : World) (L : List (List Int)) (r : Ending) (w' : World) : Prop :=
  ∃ a cap, r = .returned (.slice a L.length cap) ∧ Rows w' a L.length cap L ∧ Below w.heap.size w w'
theorem infoSS : (Try.prog.info? 23).map (fun i => (i.zero, i.size, i.bytes)) = some (some (.slice none 0 0), 1, 24) := by kernel_rfl
set_option maxHeartbeats 4000000 in
theorem sRound (a : Option Addr) (n cap : Nat) (L : List (List Int)) (k0 : Nat) (w : World) (h : Rows w a n cap L) (hw : Tm.allW k0 L) (hn : n ≤ 40) : Calls Try.prog 49 #[.slice a n cap] w (RetRows w (Tm.rnd1 L)) := by
  obtain ⟨j0, hj, hy0, hy1, hy2⟩ := info_parts infoSS
  have H := Lib.hid h
  have HW := Lib.hid hw
  have HN := Lib.hid h.1
  clear h hw
  go_enter Try.func49, Try.ntmps49
  go_wp2_with fail
  go_loopw [3, 4] (fun v i wr => ∃ (k : Nat) (L' : List (List Int)), k ≤ n ∧ i = .int .i64 k ∧ L'.length ≤ k ∧ Hid (OwnSS wr w.heap.size 23 v L') ∧ Hid (L' ++ Tm.rnd1 (L.drop k) = Tm.rnd1 L) ∧ Hid (Below w.heap.size w wr)) (fun _ i _ => n - (intOf i).toNat)
  case atStart => exact ⟨0, [], by omega, rfl, by simp, Lib.hid (own_emptyS _ _ _ (Nat.le_refl _)), Lib.hid rfl, Lib.hid (by (repeat' (first | (with_reducible exact Below.refl _ _) | (with_reducible assumption) | (with_reducible refine below_drewN ?_ _) | (with_reducible refine Below.drew ?_) | (with_reducible refine Below.alloc ?_ ?_ _) | (with_reducible refine Below.setCell ?_ ?_ _) | (with_reducible refine below_gw ?_ ?_ _) | (with_reducible refine below_via ?_ ‹Below _ _ _› ?_) | (with_reducible exact Nat.le_refl _) | (with_reducible refine le_gw ?_ _) | (with_reducible refine le_alloc ?_ _) | (with_reducible refine le_setCell ?_ _ _) | (with_reducible refine le_drew ?_) | (with_reducible refine le_drewN ?_ _) | go_size)))⟩
  case round =>
    obtain ⟨k, L', hk, rfl, hl, OO, EE, BB⟩ := hrel
    by_cases hlt : k + 2 < n
    · have h1 : ((k : Int) + 2 < (n : Int)) := by omega
      rcases (H.out.below BB.out).2.2.2 with h0 | ⟨b, o, e, hbl, hc⟩
      · omega
      subst e
      obtain ⟨a1, m1, c1, z1, i1⟩ := hc k (by omega)
      obtain ⟨a2, m2, c2, z2, i2⟩ := hc (k + 1) (by omega)
      obtain ⟨a3, m3, c3, z3, i3⟩ := hc (k + 2) (by omega)
      clear hc
      have w1 := Tm.allW_at HW.out (i := k) (by rw [HN.out]; omega)
      have w2 := Tm.allW_at HW.out (i := k + 1) (by rw [HN.out]; omega)
      have w3 := Tm.allW_at HW.out (i := k + 2) (by rw [HN.out]; omega)
      have EE2 := Lib.hid (Tm.rnd1_step (L := L) (k := k) (by rw [HN.out]; omega))
      obtain ⟨xs, hxs⟩ : ∃ xs, xs = L.getD k [] := ⟨_, rfl⟩
      obtain ⟨ys, hys⟩ : ∃ ys, ys = L.getD (k + 1) [] := ⟨_, rfl⟩
      obtain ⟨zs, hzs⟩ : ∃ zs, zs = L.getD (k + 2) [] := ⟨_, rfl⟩
      rw [← hxs] at i1 w1 EE2
      rw [← hys] at i2 w2 EE2
      rw [← hzs] at i3 w3 EE2
      have SV := Lib.hid (Tm.sav_of w1 w2 w3)
      have CS : Hid (∀ W, Below wr.heap.size wr W → Calls Try.prog 60 #[.slice a1 m1 c1, .slice a2 m2 c2, .slice a3 m3 c3] W (Ret2B 3 W (genL xs.length (Tm.sav1 xs ys zs)) (genL xs.length (Tm.sav2 xs ys zs)) true)) := Lib.hid fun W hW => by
        have := sCarrySave a1 m1 c1 xs a2 m2 c2 ys a3 m3 c3 zs W (i1.below hW) (i2.below hW) (i3.below hW)
        rw [SV.out.1, SV.out.2.1, SV.out.2.2] at this
        exact this
      have S3 : Hid (∀ W, Below wr.heap.size wr W → W.cell? ⟨b, o + k, none⟩ = some (.slice a1 m1 c1) ∧ W.cell? ⟨b, o + (k + 1), none⟩ = some (.slice a2 m2 c2) ∧ W.cell? ⟨b, o + (k + 2), none⟩ = some (.slice a3 m3 c3)) := Lib.hid fun W hW => by
        refine ⟨?_, ?_, ?_⟩
        · rw [← z1]; exact World.cell?_of_block (a := ⟨b, o + k, none⟩) (hW.block b hbl)
        · rw [← z2]; exact World.cell?_of_block (a := ⟨b, o + (k + 1), none⟩) (hW.block b hbl)
        · rw [← z3]; exact World.cell?_of_block (a := ⟨b, o + (k + 2), none⟩) (hW.block b hbl)
      clear i1 i2 i3 w1 w2 w3 hxs hys hzs z1 z2 z3
      have VL := Lib.hid (fun q hq => (OO.out.lt q hq).2)
      have j1 : IntKind.i64.wrap ((k : Int) + 1) = (k : Int) + 1 := IntWalk.i64_in _ (by omega)
      have j2 : IntKind.i64.wrap ((k : Int) + 2) = (k : Int) + 2 := IntWalk.i64_in _ (by omega)
      have j3 : (0 : Int) ≤ (k : Int) + 1 := by omega
      have j4 : (0 : Int) ≤ (k : Int) + 2 := by omega
      have j5 : (k : Int) + 1 < (n : Int) := by omega
      have j6 : (k : Int) < (n : Int) := by omega
      have j7 : ((k : Int) + 1).toNat = k + 1 := by omega
      have j8 : ((k : Int) + 2).toNat = k + 2 := by omega
      go_wp2_with fail
      go_region_held3 (fun W => W.cell? ⟨b, o + k, none⟩ = some (.slice a1 m1 c1) ∧ W.cell? ⟨b, o + (k + 1), none⟩ = some (.slice a2 m2 c2) ∧ W.cell? ⟨b, o + (k + 2), none⟩ = some (.slice a3 m3 c3)) (exact S3.out _ (by (repeat' (first | (with_reducible exact Below.refl _ _) | (with_reducible assumption) | (with_reducible refine below_drewN ?_ _) | (with_reducible refine Below.drew ?_) | (with_reducible refine Below.alloc ?_ ?_ _) | (with_reducible refine Below.setCell ?_ ?_ _) | (with_reducible refine below_gw ?_ ?_ _) | (with_reducible refine below_via ?_ ‹Below _ _ _› ?_) | (with_reducible exact Nat.le_refl _) | (with_reducible refine le_gw ?_ _) | (with_reducible refine le_alloc ?_ _) | (with_reducible refine le_setCell ?_ _ _) | (with_reducible refine le_drew ?_) | (with_reducible refine le_drewN ?_ _) | go_size)))) ((first | (go_at_call 60; refine (CS.out _ (by (repeat' (first | (with_reducible exact Below.refl _ _) | (with_reducible assumption) | (with_reducible refine below_drewN ?_ _) | (with_reducible refine Below.drew ?_) | (with_reducible refine Below.alloc ?_ ?_ _) | (with_reducible refine Below.setCell ?_ ?_ _) | (with_reducible refine below_gw ?_ ?_ _) | (with_reducible refine below_via ?_ ‹Below _ _ _› ?_) | (with_reducible exact Nat.le_refl _) | (with_reducible refine le_gw ?_ _) | (with_reducible refine le_alloc ?_ _) | (with_reducible refine le_setCell ?_ _ _) | (with_reducible refine le_drew ?_) | (with_reducible refine le_drewN ?_ _) | go_size)))).mono ?_; rintro e w1 ⟨d1, e1, d2, e2, rfl, ho1, ho2, ap, hb, -, -⟩; have HO1 := Lib.hid ho1; have HO2 := Lib.hid ho2; clear ho1 ho2 ap; obtain ⟨p, rfl⟩ := gw_of_below hb; clear hb)))
      obtain ⟨W, hWW⟩ : ∃ W, W = gw wr p := ⟨_, rfl⟩
      have BW : Below wr.heap.size wr W := by rw [hWW]; (repeat' (first | (with_reducible exact Below.refl _ _) | (with_reducible assumption) | (with_reducible refine below_drewN ?_ _) | (with_reducible refine Below.drew ?_) | (with_reducible refine Below.alloc ?_ ?_ _) | (with_reducible refine Below.setCell ?_ ?_ _) | (with_reducible refine below_gw ?_ ?_ _) | (with_reducible refine below_via ?_ ‹Below _ _ _› ?_) | (with_reducible exact Nat.le_refl _) | (with_reducible refine le_gw ?_ _) | (with_reducible refine le_alloc ?_ _) | (with_reducible refine le_setCell ?_ _ _) | (with_reducible refine le_drew ?_) | (with_reducible refine le_drewN ?_ _) | go_size))
      have I1 : Ints W d1 (genL xs.length (Tm.sav1 xs ys zs)).length e1 (genL xs.length (Tm.sav1 xs ys zs)) := by rw [hWW]; exact Ints.of_own HO1.out
      have I2 : Ints W d2 (genL xs.length (Tm.sav2 xs ys zs)).length e2 (genL xs.length (Tm.sav2 xs ys zs)) := by rw [hWW]; exact Ints.of_own HO2.out
      have SN := Lib.hid (ss_two (s := wr.heap.size) I1 I2 VL.out (fun q hq => (HO1.out.lt q hq).1) (fun q hq => (HO2.out.lt q hq).1))
      obtain ⟨vs, hv1, hv2⟩ := OO.out.below BW
      have OW0 := Lib.hid hv1
      have SS0 := Lib.hid hv2
      have B1 := Lib.hid (BB.out.trans (BW.mono BB.out.size))
      have hs1 := B1.out.size
      rw [← hWW]
      clear hWW BW I1 I2 hv1 hv2 OO BB HO1 HO2 VL S3 CS j1 j2 j3 j4 j5 j6 j7 j8
      go_wp2_with (at_builtin; refine wpList_append_own_at _ rfl _ _ 41 rfl (w.heap.size) 23 j0 (.slice none 0 0) 1 24 Try.underlying41 hj hy0 hy1 hy2 rfl (by decide) _ _ _ rfl (World.ownsRow.alloc OW0.out _) ⟨W.heap.size, 0, none⟩ 2 2 [.slice d1 _ e1, .slice d2 _ e2] rfl rfl (app_s2 _ _ _ _) (app_s4 _ _ _ _ _ _) (by unfold maxLen; omega) (by omega) (by simp; omega) ?_)
      intro v' w2 hv hg _ hat
      have O2 := Lib.hid (OwnSS.appended (SS0.out.below ((Below.refl _ _).alloc (Nat.le_refl _) _)) (SN.out.below ((Below.refl _ _).alloc (Nat.le_refl _) _)) hv hg (by rw [World.size_alloc]; exact hat))
      have B2 := Lib.hid ((B1.out.alloc hs1 _).grown hg (by simp; omega) (fun j hj => (OW0.out.lt j hj).1))
      have E3 : Hid ((L' ++ [genL xs.length (Tm.sav1 xs ys zs), genL xs.length (Tm.sav2 xs ys zs)]) ++ Tm.rnd1 (L.drop (k + 3)) = Tm.rnd1 L) := Lib.hid (by rw [← EE.out, EE2.out, List.append_assoc]; rfl)
      clear hv hg hat OW0 SS0 SN B1 hs1
      go_wp2_with fail
      exact ⟨⟨k + 3, _, by omega, by go_num, by simp; omega, O2, E3, B2⟩, by simp [intOf]; omega⟩
    · have h1 : ¬ ((k : Int) + 2 < (n : Int)) := by omega
      have KK : Hid (L' ++ L.drop k = Tm.rnd1 L) := Lib.hid (by rw [← EE.out, Tm.rnd1_short (L := L.drop k) (by simp only [List.length_drop, HN.out]; omega)])
      go_wp2_with fail
      go_loopw [3, 4] (fun v i wr => ∃ (k : Nat) (L' : List (List Int)), k ≤ n ∧ i = .int .i64 k ∧ L'.length ≤ k ∧ Hid (OwnSS wr w.heap.size 23 v L') ∧ Hid (L' ++ L.drop k = Tm.rnd1 L) ∧ Hid (Below w.heap.size w wr)) (fun _ i _ => n - (intOf i).toNat)
      case atStart => exact ⟨k, L', hk, rfl, hl, OO, KK, BB⟩
      case round =>
        clear OO EE BB KK h1 hlt hk hl
        obtain ⟨k, L', hk, rfl, hl, OO, KK, BB⟩ := hrel
        by_cases hlt : k < n
        · rcases H.out.2.2.2 with h0 | ⟨b, o, e, hbl, hc⟩
          · omega
          subst e
          obtain ⟨a1, m1, c1, z1, i1⟩ := hc k hlt
          clear hc
          have z2 := (World.cell?_of_block (a := ⟨b, o + k, none⟩) (BB.out.block b hbl)).trans z1
          have e2 := Tm.drop_cons (L := L) (i := k) (by rw [HN.out]; exact hlt)
          obtain ⟨xs, hxs⟩ : ∃ xs, xs = L.getD k [] := ⟨_, rfl⟩
          rw [← hxs] at i1 e2
          have E3 : Hid ((L' ++ [xs]) ++ L.drop (k + 1) = Tm.rnd1 L) := Lib.hid (by rw [← KK.out, e2, List.append_assoc]; rfl)
          obtain ⟨vs, hv1, hv2⟩ := OO.out
          have SN := Lib.hid (SSof.cons_one (i1.below BB.out) (fun hm b' o' e' (e2 : some b' = u3.ownBlock) => by have := i1.lt hm b' o' e'; have := (hv1.lt b' e2.symm).1; omega))
          have OW0 := Lib.hid hv1
          have SS0 := Lib.hid hv2
          have hs1 := BB.out.size
          clear z1 e2 hxs i1 hv1 hv2 OO KK
          go_wp2_with (at_builtin; refine wpList_append_own_at _ rfl _ _ 41 rfl (w.heap.size) 23 j0 (.slice none 0 0) 1 24 Try.underlying41 hj hy0 hy1 hy2 rfl (by decide) _ _ _ rfl (World.ownsRow.alloc OW0.out _) ⟨wr.heap.size, 0, none⟩ 1 1 [.slice a1 m1 c1] rfl rfl (app_s1 _ _ _) (app_s3 _ _ _) (by unfold maxLen; omega) (by omega) (by simp; omega) ?_)
          intro v' w2 hv hg _ hat
          have O2 := Lib.hid (OwnSS.appended (SS0.out.below ((Below.refl _ _).alloc (Nat.le_refl _) _)) (SN.out.below ((Below.refl _ _).alloc (Nat.le_refl _) _)) hv hg (by rw [World.size_alloc]; exact hat))
          have B2 := Lib.hid ((BB.out.alloc hs1 _).grown hg (by simp; omega) (fun j hj => (OW0.out.lt j hj).1))
          clear hv hg hat OW0 SS0 SN hs1 z2
          go_wp2_with fail
          exact ⟨⟨k + 1, _, by omega, by go_num, by simp; omega, O2, E3, B2⟩, by simp [intOf]; omega⟩
        · obtain rfl : k = n := by omega
          go_wp2_with fail
          go_ret
          have e := KK.out
          rw [← HN.out, List.drop_length, List.append_nil] at e
          subst e
          obtain ⟨a2, cap2, rfl, hr⟩ := OO.out.rows
          exact ⟨a2, cap2, rfl, hr, BB.out⟩
end Go.Proofs.Yteonnaagpjmgeab

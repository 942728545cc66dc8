/- The program joins two carry maps, and remembers what came of it. -/
import Derived.Test.YtlbhekfjcbcpaaaAI6
namespace Go.Proofs.Ytlbhekfjcbcpaaa
set_option maxRecDepth 20000
open Go.RowKit
theorem memo_gw {w : World} {b n : Nat} {D : DataW Unit} (h : w.ownsMap Try.prog 81 mapElem b n D) (p : Regrown) : (gw w p).ownsMap Try.prog 81 mapElem b n D :=
  h.kept (grown_of_below (below_gw (Below.refl _ _) (Nat.le_refl _) p) none) (by simp)
theorem memo_same {w w' : World} {b n : Nat} {D : DataW Unit} {r r' : Ending} (h1 : w.ownsMap Try.prog 81 mapElem b n D)
    (h2 : ∀ f g kl, Tm.t3 f = true → Tm.t3 g = true → keyOf Try.prog 81 (pairV f g) = some kl → Maps.has D kl = true → ∀ z, D.atKey kl z = datM (Tm.thn f g)) (e : r = r') (hB : Below w.heap.size w w') : r = r' ∧ Memo w' b (n + 1) ∧ w.grownBy w' (some b) :=
  ⟨e, ⟨D, (World.ownsMap.kept h1 (grown_of_below hB none) (by simp)).mono (Nat.le_succ n), h2⟩, grown_of_below hB _⟩
set_option maxHeartbeats 4000000 in
theorem iThen (b n : Nat) (f g : Nat → Int) (w : World) (hm : Memo w b n) (hf : Tm.t3 f = true) (hg : Tm.t3 g = true) (hn : n < maxLen) : Calls Try.prog 85 #[.map (some b), mapV f, mapV g] w fun e w' => e = .returned (mapV (Tm.thn f g)) ∧ Memo w' b (n + 1) ∧ w.grownBy w' (some b) := by
  obtain ⟨D, h1, h2⟩ := hm
  have hb := h1.lt
  obtain ⟨kl, hk⟩ := pair_key hf hg
  have H1 := Lib.hid h1
  have H2 := Lib.hid h2
  have HK := Lib.hid hk
  have HF := Lib.hid hf
  have HG := Lib.hid hg
  clear h1 h2 hk hf hg
  obtain ⟨s, hs⟩ : ∃ s, s = w.heap.size := ⟨_, rfl⟩
  have HS := Lib.hid hs
  rw [← hs] at hb
  clear hs
  by_cases hh : Maps.has D kl = true
  · have VV := Lib.hid (H2.out f g kl HF.out HG.out HK.out hh (datM fun _ => 0))
    go_enter Try.func85, Try.ntmps85
    go_wp2_with (at_lookup; refine wpList_lookup_own_ok _ rfl _ _ 79 rfl 81 50 pairKeyed Try.underlying79 mapElem (zeroM _) (datM fun _ => 0) [] (mapElem_mk _) b n D rfl (by repeat' (first | exact H1.out | refine World.ownsMap.drew ?_ | refine World.ownsMap.alloc ?_ _ | (refine World.ownsMap.setCell ?_ (by simp [← HS.out]; omega) _))) _ kl rfl HK.out ?_)
    intro v ps hv
    rw [VV.out] at hv
    obtain rfl := mapElem_inv hv
    go_wp2_with fail
    go_returns
    exact memo_same H1.out H2.out rfl (by (repeat' (first | (with_reducible exact Below.refl _ _) | (with_reducible assumption) | (with_reducible refine below_drewN ?_ _) | (with_reducible refine Below.drew ?_) | (with_reducible refine Below.alloc ?_ ?_ _) | (with_reducible refine Below.setCell ?_ ?_ _) | (with_reducible refine below_gw ?_ ?_ _) | (with_reducible refine below_via ?_ ‹Below _ _ _› ?_) | (with_reducible exact Nat.le_refl _) | (with_reducible refine le_gw ?_ _) | (with_reducible refine le_alloc ?_ _) | (with_reducible refine le_setCell ?_ _ _) | (with_reducible refine le_drew ?_) | (with_reducible refine le_drewN ?_ _) | go_size)))
  · simp only [Bool.not_eq_true] at hh
    have VV : Hid (D.atKey kl (datM fun _ => 0) = datM fun _ => 0) := Lib.hid (Maps.atKey_of_not_has hh _)
    go_enter Try.func85, Try.ntmps85
    go_wp2_with (at_lookup; refine wpList_lookup_own_ok _ rfl _ _ 79 rfl 81 50 pairKeyed Try.underlying79 mapElem (zeroM _) (datM fun _ => 0) [] (mapElem_mk _) b n D rfl (by repeat' (first | exact H1.out | refine World.ownsMap.drew ?_ | refine World.ownsMap.alloc ?_ _ | (refine World.ownsMap.setCell ?_ (by simp [← HS.out]; omega) _))) _ kl rfl HK.out ?_)
    intro v ps hv
    rw [VV.out] at hv
    obtain rfl := mapElem_inv hv
    go_wp2_with fail
    refine (iThenMap f g _).mono ?_
    rintro e w1 ⟨rfl, hb1⟩
    obtain ⟨p, rfl⟩ := gw_of_below hb1
    clear hb1
    generalize hW : gw _ _ = W
    have BW : Below w.heap.size w W := by subst hW; (repeat' (first | (with_reducible exact Below.refl _ _) | (with_reducible assumption) | (with_reducible refine below_drewN ?_ _) | (with_reducible refine Below.drew ?_) | (with_reducible refine Below.alloc ?_ ?_ _) | (with_reducible refine Below.setCell ?_ ?_ _) | (with_reducible refine below_gw ?_ ?_ _) | (with_reducible refine below_via ?_ ‹Below _ _ _› ?_) | (with_reducible exact Nat.le_refl _) | (with_reducible refine le_gw ?_ _) | (with_reducible refine le_alloc ?_ _) | (with_reducible refine le_setCell ?_ _ _) | (with_reducible refine le_drew ?_) | (with_reducible refine le_drewN ?_ _) | go_size))
    have OW := Lib.hid (World.ownsMap.kept H1.out (grown_of_below BW none) (by simp))
    rw [← HS.out] at BW ⊢
    have hs := HS.out
    have sz : s + 5 ≤ W.heap.size := by subst hW; rw [hs]; go_simp; try omega
    have F0 : ∀ i, i < 3 → W.cell? ⟨s + 1 + 1, i, none⟩ = some (.int .i64 0) ∧ W.frozen? ⟨s + 1 + 1, i, none⟩ = false := by
      intro i hi
      subst hW
      rw [hs]
      match i, hi with
      | 0, _ => constructor <;> go_simp
      | 1, _ => constructor <;> go_simp
      | 2, _ => constructor <;> go_simp
    have F1 : ∀ i, i < 3 → W.cell? ⟨s + 1 + 1 + 1 + 1, i, none⟩ = some (.int .i64 0) ∧ W.frozen? ⟨s + 1 + 1 + 1 + 1, i, none⟩ = false := by
      intro i hi
      subst hW
      rw [hs]
      match i, hi with
      | 0, _ => constructor <;> go_simp
      | 1, _ => constructor <;> go_simp
      | 2, _ => constructor <;> go_simp
    have P0 : W.cell? ⟨s + 1 + 1 + 1, 0, none⟩ = some (.int .i64 (f 0)) := by subst hW; rw [hs]; go_simp
    have P1 : W.cell? ⟨s + 1 + 1 + 1, 1, none⟩ = some (.int .i64 (f 1)) := by subst hW; rw [hs]; go_simp
    have P2 : W.cell? ⟨s + 1 + 1 + 1, 2, none⟩ = some (.int .i64 (f 2)) := by subst hW; rw [hs]; go_simp
    have P3 : W.cell? ⟨s + 1 + 1 + 1, 3, none⟩ = some (.int .i64 (g 0)) := by subst hW; rw [hs]; go_simp
    have P4 : W.cell? ⟨s + 1 + 1 + 1, 4, none⟩ = some (.int .i64 (g 1)) := by subst hW; rw [hs]; go_simp
    have P5 : W.cell? ⟨s + 1 + 1 + 1, 5, none⟩ = some (.int .i64 (g 2)) := by subst hW; rw [hs]; go_simp
    have F10 := (F1 0 (by omega)).1
    have F11 := (F1 1 (by omega)).1
    have F12 := (F1 2 (by omega)).1
    have Z10 := (F1 0 (by omega)).2
    have Z11 := (F1 1 (by omega)).2
    have Z12 := (F1 2 (by omega)).2
    obtain ⟨h, hh2⟩ : ∃ h, h = Tm.thn f g := ⟨_, rfl⟩
    rw [← hh2]
    have HH := Lib.hid hh2
    have F0 := Lib.hid F0
    have nn : ∀ k, b ≠ s + k := fun k => by omega
    clear hW F1 hh hs hh2
    go_wp2_with (at_mapUpdate; refine wpList_mapUpdate_own _ rfl _ _ _ 79 rfl 81 50 pairKeyed Try.underlying79 mapElem b n D rfl (by repeat' (first | exact OW.out | refine World.ownsMap.drew ?_ | refine World.ownsMap.alloc ?_ _ | (refine World.ownsMap.setCell ?_ (by simp only [Nat.add_assoc]; exact nn _) _))) hn _ _ kl rfl rfl HK.out (datM h) [] (mapElem_mk h) ?_)
    intro w1 hown1 hgrow1
    have sz1 := hgrow1.size
    simp only [World.size_setCell] at sz1
    have G1 := Lib.hid hgrow1
    have O1 := Lib.hid hown1
    have l2 : s + 1 + 1 < w1.heap.size := by omega
    have l4 : s + 1 + 1 + 1 + 1 < w1.heap.size := by omega
    have b2 := hgrow1.block (s + 1 + 1) (by simp only [World.size_setCell]; omega) (by have := nn 2; simp only [Nat.add_assoc, Nat.reduceAdd, ne_eq, Option.some.injEq]; omega)
    have b4 := hgrow1.block (s + 1 + 1 + 1 + 1) (by simp only [World.size_setCell]; omega) (by have := nn 4; simp only [Nat.add_assoc, Nat.reduceAdd, ne_eq, Option.some.injEq]; omega)
    have c0 : w1.cell? ⟨s + 1 + 1 + 1 + 1, 0, none⟩ = some (.int .i64 (h 0)) := by rw [World.cell?_of_block (a := ⟨s + 1 + 1 + 1 + 1, 0, none⟩) b4]; go_simp
    have c1 : w1.cell? ⟨s + 1 + 1 + 1 + 1, 1, none⟩ = some (.int .i64 (h 1)) := by rw [World.cell?_of_block (a := ⟨s + 1 + 1 + 1 + 1, 1, none⟩) b4]; go_simp
    have c2 : w1.cell? ⟨s + 1 + 1 + 1 + 1, 2, none⟩ = some (.int .i64 (h 2)) := by rw [World.cell?_of_block (a := ⟨s + 1 + 1 + 1 + 1, 2, none⟩) b4]; go_simp
    have r0 : w1.cell? ⟨s + 1 + 1, 0, none⟩ = some (.int .i64 0) := by rw [World.cell?_of_block (a := ⟨s + 1 + 1, 0, none⟩) b2]; have := (F0.out 0 (by omega)).1; go_simp
    have r1 : w1.cell? ⟨s + 1 + 1, 1, none⟩ = some (.int .i64 0) := by rw [World.cell?_of_block (a := ⟨s + 1 + 1, 1, none⟩) b2]; have := (F0.out 1 (by omega)).1; go_simp
    have r2 : w1.cell? ⟨s + 1 + 1, 2, none⟩ = some (.int .i64 0) := by rw [World.cell?_of_block (a := ⟨s + 1 + 1, 2, none⟩) b2]; have := (F0.out 2 (by omega)).1; go_simp
    have q0 : w1.frozen? ⟨s + 1 + 1, 0, none⟩ = false := by rw [World.frozen?_of_block (a := ⟨s + 1 + 1, 0, none⟩) b2]; have := (F0.out 0 (by omega)).2; go_simp
    have q1 : w1.frozen? ⟨s + 1 + 1, 1, none⟩ = false := by rw [World.frozen?_of_block (a := ⟨s + 1 + 1, 1, none⟩) b2]; have := (F0.out 1 (by omega)).2; go_simp
    have q2 : w1.frozen? ⟨s + 1 + 1, 2, none⟩ = false := by rw [World.frozen?_of_block (a := ⟨s + 1 + 1, 2, none⟩) b2]; have := (F0.out 2 (by omega)).2; go_simp
    have NN := Lib.hid nn
    clear hgrow1 hown1 b2 b4 P0 P1 P2 P3 P4 P5 F10 F11 F12 Z10 Z11 Z12 nn
    go_wp2_with fail
    generalize hX : World.setCell _ _ _ = X
    have X0 : X.cell? ⟨s + 1 + 1, 0, none⟩ = some (.int .i64 (h 0)) := by subst hX; go_simp
    have X1 : X.cell? ⟨s + 1 + 1, 1, none⟩ = some (.int .i64 (h 1)) := by subst hX; go_simp
    have X2 : X.cell? ⟨s + 1 + 1, 2, none⟩ = some (.int .i64 (h 2)) := by subst hX; go_simp
    refine bodyPost_ret (by simp [results, Try.results85, go_sem, X0, X1, X2]; try rfl) rfl ?_
    subst hX
    have hss := HS.out
    have e1 : Value.agg #[.int .i64 (h 0), .int .i64 (h 1), .int .i64 (h 2)] = mapV (Tm.thn f g) := by rw [← HH.out]
    have n2 : b ≠ s + 1 + 1 := by have := NN.out 2; omega
    rw [HS.out] at BW
    refine ⟨by rw [← e1], Memo.put HK.out H1.out H2.out ?_, ?_⟩
    · rw [← HH.out]
      exact World.ownsMap.setCell (World.ownsMap.setCell (World.ownsMap.setCell O1.out (by exact n2) _) (by exact n2) _) (by exact n2) _
    · refine grown_low (grown_then (grown_of_below ?_ _) G1.out) ?_
      · rw [hss]; (repeat' (first | (with_reducible exact Below.refl _ _) | (with_reducible assumption) | (with_reducible refine below_drewN ?_ _) | (with_reducible refine Below.drew ?_) | (with_reducible refine Below.alloc ?_ ?_ _) | (with_reducible refine Below.setCell ?_ ?_ _) | (with_reducible refine below_gw ?_ ?_ _) | (with_reducible refine below_via ?_ ‹Below _ _ _› ?_) | (with_reducible exact Nat.le_refl _) | (with_reducible refine le_gw ?_ _) | (with_reducible refine le_alloc ?_ _) | (with_reducible refine le_setCell ?_ _ _) | (with_reducible refine le_drew ?_) | (with_reducible refine le_drewN ?_ _) | go_size))
      · rw [hss]
        have : w.heap.size ≤ w1.heap.size := by omega
        (repeat' (first | (with_reducible exact Below.refl _ _) | (with_reducible assumption) | (with_reducible refine below_drewN ?_ _) | (with_reducible refine Below.drew ?_) | (with_reducible refine Below.alloc ?_ ?_ _) | (with_reducible refine Below.setCell ?_ ?_ _) | (with_reducible refine below_gw ?_ ?_ _) | (with_reducible refine below_via ?_ ‹Below _ _ _› ?_) | (with_reducible exact Nat.le_refl _) | (with_reducible refine le_gw ?_ _) | (with_reducible refine le_alloc ?_ _) | (with_reducible refine le_setCell ?_ _ _) | (with_reducible refine le_drew ?_) | (with_reducible refine le_drewN ?_ _) | go_size))
end Go.Proofs.Ytlbhekfjcbcpaaa

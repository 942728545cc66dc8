/- The program's DualCircuit. -/
import Derived.Test.YtjbmgppgkgacpaaGRen
import Derived.Test.YtjbmgppgkgacpaaGMap
import Derived.Test.YtjbmgppgkgacpaaGI1
namespace Go.Proofs.Ytjbmgppgkgacpaa
set_option maxRecDepth 20000
open Go.RowKit
namespace Tm
/-- The first j gates have their dual tables. -/
def rowD (L : List (Nat → Int)) (j : Nat) : List (Nat → Int) := (L.take j).map dualG ++ (L.drop j).map (renG otherL)
theorem rowD_zero (L : List (Nat → Int)) : rowD L 0 = L.map (renG otherL) := by simp [rowD]
theorem rowD_all (L : List (Nat → Int)) : rowD L L.length = L.map dualG := by simp [rowD]
theorem rowD_length (L : List (Nat → Int)) (j : Nat) : (rowD L j).length = L.length := by simp [rowD]; omega
theorem rowD_at (L : List (Nat → Int)) {j : Nat} (h : j < L.length) : (rowD L j).getD j g0 = renG otherL (L.getD j g0) := by
  have l : ((L.take j).map dualG).length = j := by rw [List.length_map, List.length_take]; omega
  rw [rowD, List.getD_eq_getElem?_getD, List.getElem?_append_right (by omega), l, Nat.sub_self, List.drop_eq_getElem_cons h, List.map_cons, List.getElem?_cons_zero, List.getD_eq_getElem?_getD, List.getElem?_eq_getElem h]
  rfl
theorem rowD_succ (L : List (Nat → Int)) {j : Nat} (h : j < L.length) : rowD L (j + 1) = (rowD L j).set j (dualG (L.getD j g0)) := by
  have l : ((L.take j).map dualG).length = j := by rw [List.length_map, List.length_take]; omega
  rw [rowD, rowD, take_snoc' L g0 h, List.map_append, List.append_assoc, List.set_append_right _ _ (by omega), l, Nat.sub_self, List.drop_eq_getElem_cons h]
  rfl
end Tm
def nine (h : Nat → Int) : List Value := [.int .i64 (h 0), .int .i64 (h 1), .int .i64 (h 2), .int .i64 (h 3), .int .i64 (h 4), .int .i64 (h 5), .int .i64 (h 6), .int .i64 (h 7), .int .i64 (h 8)]
theorem setAll_nine (L : List (Nat → Int)) (h : Nat → Int) : ∀ j, j < L.length → (L.getD j Tm.g0) 9 = h 9 → (L.getD j Tm.g0) 10 = h 10 → setAll ((Tm.flat L).map (Value.int .i64)) (j * 11) (nine h) = (Tm.flat (L.set j h)).map (Value.int .i64) := by
  induction L with
  | nil => intro j hj; simp at hj
  | cons g r ih =>
    intro j hj h9 h10
    have e : ∀ (x : Nat → Int) (M : List (Nat → Int)), (Tm.flat (x :: M)).map (Value.int .i64) = gcells x ++ (Tm.flat M).map (Value.int .i64) := fun x M => rfl
    cases j with
    | zero =>
      rw [List.getD_cons_zero] at h9 h10
      rw [e, List.set_cons_zero, e]
      simp [gcells, nine, setAll, h9, h10]
    | succ j =>
      rw [List.getD_cons_succ] at h9 h10
      have := setAll_right (gcells g) (nine h) ((Tm.flat r).map (Value.int .i64)) (j * 11)
      rw [e, List.set_cons_succ, e, ← ih j (by simpa using hj) h9 h10, ← this]
      congr 1
      simp only [gcells, List.length_cons, List.length_nil]; omega
/-- All blocks stay but those from B below E, and the map's. -/
structure TurnM (B E mb : Nat) (w w' : World) : Prop where
  os : w'.os = w.os
  tape : w'.tape = w.tape
  output : w'.output = w.output
  size : w.heap.size ≤ w'.heap.size
  block : ∀ q, q < w.heap.size → (q < B ∨ E ≤ q) → q ≠ mb → w'.heap[q]? = w.heap[q]?
theorem TurnM.refl (B E mb : Nat) (w : World) : TurnM B E mb w w := ⟨rfl, rfl, rfl, Nat.le_refl _, fun _ _ _ _ => rfl⟩
theorem TurnM.below {B E mb : Nat} {w W wr : World} (h : TurnM B E mb W wr) (hb : Below w.heap.size w W) (h1 : w.heap.size ≤ B) (h2 : w.heap.size ≤ mb) : Below w.heap.size w wr :=
  ⟨h.os.trans hb.os, h.tape.trans hb.tape, h.output.trans hb.output, Nat.le_trans hb.size h.size, fun q hq => (h.block q (Nat.lt_of_lt_of_le hq hb.size) (.inl (by omega)) (by omega)).trans (hb.block q hq)⟩
theorem TurnM.grown {B E mb : Nat} {w W W2 : World} {r : Option Nat} (h : TurnM B E mb w W) (hg : W.grownBy W2 r) (hr : ∀ q, r = some q → q = mb ∨ (B ≤ q ∧ q < E) ∨ w.heap.size ≤ q) : TurnM B E mb w W2 :=
  ⟨hg.os.trans h.os, hg.tape.trans h.tape, hg.output.trans h.output, Nat.le_trans h.size hg.size, fun q h1 h2 h3 => (hg.block q (Nat.lt_of_lt_of_le h1 h.size) (fun e => by
    rcases hr q e.symm with h4 | h4 | h4 <;> omega)).trans (h.block q h1 h2 h3)⟩
set_option maxHeartbeats 4000000 in
theorem iDualC (k : Int) (a : Option Addr) (n c : Nat) (L : List (Nat → Int)) (b : Option Addr) (m d : Nat) (o : List Int) (w : World) (h : Cs w a n c L b m d o) : Calls Try.prog 18 #[circV k a n c b m d] w (RetC w (Tm.duK k L o) (Tm.duL k L o) (Tm.duO k L o)) := by
  obtain rfl : n = L.length := h.1.1.symm
  obtain rfl : m = o.length := h.2.1.symm
  have H := Lib.hid h
  have SI := Lib.hid (fun (w : World) h => iIsCircuit k a L.length c L b o.length d o w h)
  clear h
  cases hC : Tm.isCirc k L o with
  | false =>
    rw [Tm.duK, Tm.duL, Tm.duO, hC]
    rw [hC] at SI
    clear hC
    go_enter Try.func18, Try.ntmps18
    go_wp2_with fail
    refine (SI.out _ (H.out.below (by (repeat' (first | (with_reducible exact Below.refl _ _) | (with_reducible assumption) | (with_reducible refine below_drewN ?_ _) | (with_reducible refine Below.drew ?_) | (with_reducible refine Below.alloc ?_ ?_ _) | (with_reducible refine Below.setCell ?_ ?_ _) | (with_reducible refine below_gw ?_ ?_ _) | (with_reducible refine below_via ?_ ‹Below _ _ _› ?_) | (with_reducible exact Nat.le_refl _) | (with_reducible refine le_gw ?_ _) | (with_reducible refine le_alloc ?_ _) | (with_reducible refine le_setCell ?_ _ _) | (with_reducible refine le_drew ?_) | (with_reducible refine le_drewN ?_ _) | go_size))))).mono ?_
    rintro r w1 ⟨rfl, hb⟩
    obtain ⟨p, rfl⟩ := gw_of_below hb
    clear hb
    go_wp2
    go_returns
    exact ⟨none, 0, none, 0, rfl, ⟨⟨⟨by simp [Tm.flat], .inl ⟨rfl, rfl⟩⟩, (fun x hx => by cases hx)⟩, ⟨⟨by simp, .inl ⟨rfl, rfl⟩⟩, (fun x hx => by cases hx)⟩, (fun x hx => by cases hx), rfl⟩, by (repeat' (first | (with_reducible exact Below.refl _ _) | (with_reducible assumption) | (with_reducible refine below_drewN ?_ _) | (with_reducible refine Below.drew ?_) | (with_reducible refine Below.alloc ?_ ?_ _) | (with_reducible refine Below.setCell ?_ ?_ _) | (with_reducible refine below_gw ?_ ?_ _) | (with_reducible refine below_via ?_ ‹Below _ _ _› ?_) | (with_reducible exact Nat.le_refl _) | (with_reducible refine le_gw ?_ _) | (with_reducible refine le_alloc ?_ _) | (with_reducible refine le_setCell ?_ _ _) | (with_reducible refine le_drew ?_) | (with_reducible refine le_drewN ?_ _) | go_size)), by simp, by simp⟩
  | true =>
    rw [Tm.duK, Tm.duL, Tm.duO, hC]
    rw [hC] at SI
    have hC' := (Tm.isCirc_iff _ _ _).1 hC
    obtain ⟨⟨k1, k2⟩, hn, hm, -⟩ := hC'
    clear hC
    go_enter Try.func18, Try.ntmps18
    go_wp2_with fail
    refine (SI.out _ (H.out.below (by (repeat' (first | (with_reducible exact Below.refl _ _) | (with_reducible assumption) | (with_reducible refine below_drewN ?_ _) | (with_reducible refine Below.drew ?_) | (with_reducible refine Below.alloc ?_ ?_ _) | (with_reducible refine Below.setCell ?_ ?_ _) | (with_reducible refine below_gw ?_ ?_ _) | (with_reducible refine below_via ?_ ‹Below _ _ _› ?_) | (with_reducible exact Nat.le_refl _) | (with_reducible refine le_gw ?_ _) | (with_reducible refine le_alloc ?_ _) | (with_reducible refine le_setCell ?_ _ _) | (with_reducible refine le_drew ?_) | (with_reducible refine le_drewN ?_ _) | go_size))))).mono ?_
    rintro r w1 ⟨rfl, hb⟩
    obtain ⟨p, rfl⟩ := gw_of_below hb
    clear hb
    go_wp2_with fail
    refine (iRenumD k a L.length c L b o.length d o _ (H.out.below (by (repeat' (first | (with_reducible exact Below.refl _ _) | (with_reducible assumption) | (with_reducible refine below_drewN ?_ _) | (with_reducible refine Below.drew ?_) | (with_reducible refine Below.alloc ?_ ?_ _) | (with_reducible refine Below.setCell ?_ ?_ _) | (with_reducible refine below_gw ?_ ?_ _) | (with_reducible refine below_via ?_ ‹Below _ _ _› ?_) | (with_reducible exact Nat.le_refl _) | (with_reducible refine le_gw ?_ _) | (with_reducible refine le_alloc ?_ _) | (with_reducible refine le_setCell ?_ _ _) | (with_reducible refine le_drew ?_) | (with_reducible refine le_drewN ?_ _) | go_size)))) (by omega) (by omega)).mono ?_
    intro r w2 hh
    unfold RetC at hh
    obtain ⟨a1, c1, b1, d1, rfl, OC, hb, -, -⟩ := hh
    simp only [List.length_map] at OC ⊢
    have x1 : w2.cell? ⟨w.heap.size, 1, none⟩ = some (.slice a L.length c) := by rw [hb.cell (p := ⟨w.heap.size, 1, none⟩) (by simp only [gw_size, World.size_alloc]; omega)]; go_simp
    have R0 : Hid (∀ i, i < 3 → w2.frozen? ⟨w.heap.size + 1, i, none⟩ = false ∧ ∃ u, w2.cell? ⟨w.heap.size + 1, i, none⟩ = some u) := Lib.hid fun i hi => by
      have e := World.frozen?_of_block (a := ⟨w.heap.size + 1, i, none⟩) (hb.block (w.heap.size + 1) (by simp only [gw_size, World.size_alloc]; omega))
      have e2 := World.cell?_of_block (a := ⟨w.heap.size + 1, i, none⟩) (hb.block (w.heap.size + 1) (by simp only [gw_size, World.size_alloc]; omega))
      rw [e, e2]
      match i, hi with
      | 0, _ | 1, _ | 2, _ => exact ⟨by go_simp, _, by go_simp; rfl⟩
    have hs2 : w.heap.size + 2 ≤ w2.heap.size := Nat.le_trans (by simp only [gw_size, World.size_alloc]; omega) hb.size
    have HB2 : Below w.heap.size w w2 := Below.trans (by (repeat' (first | (with_reducible exact Below.refl _ _) | (with_reducible assumption) | (with_reducible refine below_drewN ?_ _) | (with_reducible refine Below.drew ?_) | (with_reducible refine Below.alloc ?_ ?_ _) | (with_reducible refine Below.setCell ?_ ?_ _) | (with_reducible refine below_gw ?_ ?_ _) | (with_reducible refine below_via ?_ ‹Below _ _ _› ?_) | (with_reducible exact Nat.le_refl _) | (with_reducible refine le_gw ?_ _) | (with_reducible refine le_alloc ?_ _) | (with_reducible refine le_setCell ?_ _ _) | (with_reducible refine le_drew ?_) | (with_reducible refine le_drewN ?_ _) | go_size))) (hb.mono (by simp only [gw_size, World.size_alloc]; omega))
    obtain ⟨B, hB⟩ : ∃ B, B = (gw ((w.alloc (.cells #[.int .i64 k, .slice a L.length c, .slice b o.length d] 25)).alloc (.cells #[.int .i64 0, .slice none 0 0, .slice none 0 0] 25)) p).heap.size := ⟨_, rfl⟩
    have hB2 : w.heap.size + 2 ≤ B := by rw [hB]; simp only [gw_size, World.size_alloc]; omega
    rw [← hB] at OC
    have OC := Lib.hid OC
    clear hb hB
    have q0 : w.heap.size < w2.heap.size := by omega
    have q1 : w.heap.size + 1 < w2.heap.size := by omega
    have mk := fun W => run_makeMap (P := Try.prog) 71 W
    go_wp2_with fail
    clear mk
    obtain ⟨W0, hW0⟩ : ∃ W0, W0 = (w2.alloc (.cells #[.int .i64 k, .slice a1 L.length c1, .slice b1 o.length d1] 25)).alloc (.map #[] 0) := ⟨_, rfl⟩
    rw [← hW0]
    have OC0 : Hid (OwnC W0 B w2.heap.size a1 L.length c1 (Tm.flat (Tm.rowD L 0)) b1 o.length d1 (o.map Tm.otherL)) := Lib.hid (by rw [Tm.rowD_zero, hW0]; exact OC.out.later (((Below.refl _ _).alloc (Nat.le_refl _) _).alloc (by simp) _) (Nat.le_refl _))
    have BX0 : Hid (Box3 W0 w2.heap.size (.int .i64 k) (.slice a1 L.length c1) (.slice b1 o.length d1)) := Lib.hid (by rw [hW0]; exact (box3_new _ _ _ _ _).below ((Below.refl _ _).alloc (Nat.le_refl _) _))
    have M0 : Hid (MapD W0 (w2.heap.size + 1)) := Lib.hid (by
      rw [hW0]
      have := mapD_new (w2.alloc (.cells #[.int .i64 k, .slice a1 L.length c1, .slice b1 o.length d1] 25))
      rwa [World.size_alloc] at this)
    have BW0 : Hid (Below w.heap.size w W0) := Lib.hid (by rw [hW0]; exact (HB2.alloc (by omega) _).alloc (by simp; omega) _)
    have SB : W0.heap.size = w2.heap.size + 1 + 1 := by rw [hW0, World.size_alloc, World.size_alloc]
    have D0 : Hid (∀ i, i < 3 → W0.frozen? ⟨w2.heap.size, i, none⟩ = false) := Lib.hid (fun i hi => by rw [hW0]; simp)
    have X1 : Hid (W0.cell? ⟨w.heap.size, 1, none⟩ = some (.slice a L.length c)) := Lib.hid (by rw [hW0, World.cell?_alloc_lt _ _ _ (by simp; omega), World.cell?_alloc_lt _ _ _ (by omega)]; exact x1)
    have BR0 : Hid (∀ q, q < w2.heap.size → W0.heap[q]? = w2.heap[q]?) := Lib.hid (fun q hq => by rw [hW0, Below.heap_alloc _ _ _ (by simp; omega), Below.heap_alloc _ _ _ hq])
    clear hW0 x1 OC
    go_loopw [17] (fun i wr => ∃ j : Nat, j ≤ L.length ∧ i = .int .i64 j ∧ Hid (OwnC wr B w2.heap.size a1 L.length c1 (Tm.flat (Tm.rowD L j)) b1 o.length d1 (o.map Tm.otherL)) ∧ Hid (MapD wr (w2.heap.size + 1)) ∧ Hid (TurnM B w2.heap.size (w2.heap.size + 1) W0 wr)) (fun i _ => L.length - (intOf i).toNat)
    case atStart => exact ⟨0, by omega, rfl, OC0, M0, Lib.hid (TurnM.refl _ _ _ _)⟩
    case round =>
      clear OC0 M0
      obtain ⟨j, hj, rfl, OW, MD, TT⟩ := hrel
      have hbw : Below w.heap.size w wr := TT.out.below BW0.out (by omega) (by omega)
      have hsw : w2.heap.size + 1 + 1 ≤ wr.heap.size := by rw [← SB]; exact TT.out.size
      have bt := TT.out.block w2.heap.size (by omega) (.inr (Nat.le_refl _)) (by omega)
      by_cases hlt : j < L.length
      · have xc : wr.cell? ⟨w.heap.size, 1, none⟩ = some (.slice a L.length c) := (World.cell?_of_block (a := ⟨w.heap.size, 1, none⟩) (TT.out.block w.heap.size (by omega) (.inl (by omega)) (by omega))).trans X1.out
        obtain ⟨-, -, -, y⟩ := H.out.1.below hbw
        rcases y with h0 | ⟨bb, oo, rfl, hbl, hc⟩
        · omega
        obtain ⟨g, hg, g1⟩ := Gs.gate hc hlt
        have GG := Lib.hid hg
        obtain ⟨p0, p1, p2, p3, p4, p5, p6, p7, p8, p9, p10⟩ := g1
        clear hg hc
        obtain ⟨ga, cc, e⟩ := own_shapeS OW.out.g.1 (by omega)
        cases e
        have t1 : wr.cell? ⟨w2.heap.size, 1, none⟩ = some (.slice (some ⟨ga, 0, none⟩) L.length c1) := (World.cell?_of_block (a := ⟨w2.heap.size, 1, none⟩) bt).trans BX0.out.2.2.1
        have gl1 := OW.out.g.1.lt ga rfl
        have gl2 := OW.out.g.2 ga rfl
        have j0 : (0 : Int) ≤ (j : Int) := by omega
        have j1 : (j : Int) < (L.length : Int) := by omega
        have hu45 := Try.underlying33
        have hi45 : (Try.prog.info? 33).map (·.size) = some ([.int .i64 (g 0), .int .i64 (g 1), .int .i64 (g 2), .int .i64 (g 3), .int .i64 (g 4), .int .i64 (g 5), .int .i64 (g 6), .int .i64 (g 7), .int .i64 (g 8)] : List Value).length := by kernel_rfl
        go_wp2_with fail
        clear p0 p1 p2 p3 p4 p5 p6 p7 p8 p9 p10 xc
        have SS : Hid (∀ W : World, (wr.alloc (.cells #[.int .i64 (g 0), .int .i64 (g 1), .int .i64 (g 2), .int .i64 (g 3), .int .i64 (g 4), .int .i64 (g 5), .int .i64 (g 6), .int .i64 (g 7), .int .i64 (g 8), .int .i64 (g 9), .int .i64 (g 10)] 59)).grownBy W (some (w2.heap.size + 1)) → W.cell? ⟨w2.heap.size, 1, none⟩ = some (.slice (some ⟨ga, 0, none⟩) L.length c1) ∧ W.rangeAt wr.heap.size 0 [.int .i64 (g 0), .int .i64 (g 1), .int .i64 (g 2), .int .i64 (g 3), .int .i64 (g 4), .int .i64 (g 5), .int .i64 (g 6), .int .i64 (g 7), .int .i64 (g 8)]) := Lib.hid fun W hW => by
          have rg := range_new wr [.int .i64 (g 0), .int .i64 (g 1), .int .i64 (g 2), .int .i64 (g 3), .int .i64 (g 4), .int .i64 (g 5), .int .i64 (g 6), .int .i64 (g 7), .int .i64 (g 8), .int .i64 (g 9), .int .i64 (g 10)] 59
          refine ⟨?_, ?_⟩
          · rw [World.cell?_of_block (a := ⟨w2.heap.size, 1, none⟩) (hW.block w2.heap.size (by simp; omega) (fun e => by have e2 : w2.heap.size = w2.heap.size + 1 := Option.some.inj e; omega)), World.cell?_alloc_lt _ _ _ (show w2.heap.size < wr.heap.size by omega)]; exact t1
          · have r9 : (wr.alloc (.cells #[.int .i64 (g 0), .int .i64 (g 1), .int .i64 (g 2), .int .i64 (g 3), .int .i64 (g 4), .int .i64 (g 5), .int .i64 (g 6), .int .i64 (g 7), .int .i64 (g 8), .int .i64 (g 9), .int .i64 (g 10)] 59)).rangeAt wr.heap.size 0 [.int .i64 (g 0), .int .i64 (g 1), .int .i64 (g 2), .int .i64 (g 3), .int .i64 (g 4), .int .i64 (g 5), .int .i64 (g 6), .int .i64 (g 7), .int .i64 (g 8)] := range_part rg 0 (by
              intro j v hj
              match j, hj with
              | 0, hj | 1, hj | 2, hj | 3, hj | 4, hj | 5, hj | 6, hj | 7, hj | 8, hj => simpa using hj
              | j + 9, hj => simp at hj)
            intro i v hv
            exact (World.cell?_of_block (a := ⟨wr.heap.size, 0 + i, none⟩) (hW.block wr.heap.size (by simp) (fun e => by have e2 : wr.heap.size = w2.heap.size + 1 := Option.some.inj e; omega))).trans (r9 i v hv)
        refine wp_region_T [9] (fun W : World => W.cell? ⟨w2.heap.size, 1, none⟩ = some (.slice (some ⟨ga, 0, none⟩) L.length c1) ∧ W.rangeAt wr.heap.size 0 [.int .i64 (g 0), .int .i64 (g 1), .int .i64 (g 2), .int .i64 (g 3), .int .i64 (g 4), .int .i64 (g 5), .int .i64 (g 6), .int .i64 (g 7), .int .i64 (g 8)]) (by kernel_rfl) ?_
        have bA : Below wr.heap.size wr (wr.alloc (.cells #[.int .i64 (g 0), .int .i64 (g 1), .int .i64 (g 2), .int .i64 (g 3), .int .i64 (g 4), .int .i64 (g 5), .int .i64 (g 6), .int .i64 (g 7), .int .i64 (g 8), .int .i64 (g 9), .int .i64 (g 10)] 59)) := (Below.refl _ _).alloc (Nat.le_refl _) _
        have GA : wr.grownBy (wr.alloc (.cells #[.int .i64 (g 0), .int .i64 (g 1), .int .i64 (g 2), .int .i64 (g 3), .int .i64 (g 4), .int .i64 (g 5), .int .i64 (g 6), .int .i64 (g 7), .int .i64 (g 8), .int .i64 (g 9), .int .i64 (g 10)] 59)) (some (w2.heap.size + 1)) := World.grownBy_alloc wr _ _
        have sA : (wr.alloc (.cells #[.int .i64 (g 0), .int .i64 (g 1), .int .i64 (g 2), .int .i64 (g 3), .int .i64 (g 4), .int .i64 (g 5), .int .i64 (g 6), .int .i64 (g 7), .int .i64 (g 8), .int .i64 (g 9), .int .i64 (g 10)] 59)).heap.size = wr.heap.size + 1 := by simp
        generalize hA : (wr.alloc (.cells #[.int .i64 (g 0), .int .i64 (g 1), .int .i64 (g 2), .int .i64 (g 3), .int .i64 (g 4), .int .i64 (g 5), .int .i64 (g 6), .int .i64 (g 7), .int .i64 (g 8), .int .i64 (g 9), .int .i64 (g 10)] 59)) = A at SS GA bA sA ⊢
        clear hA t1
        have G0 : Hid (A.grownBy A.drew (some (w2.heap.size + 1))) := Lib.hid ⟨rfl, rfl, rfl, Nat.le_refl _, fun _ _ _ => rfl⟩
        have bD : Below A.heap.size A A.drew := Below.drew (Below.refl _ _)
        generalize World.drew A = v0 at G0 bD ⊢
        have GV := Lib.hid (GA.trans G0.out)
        have MV := Lib.hid (show MapD v0 (w2.heap.size + 1) from MD.out.keep ((bA.trans (bD.mono (by omega))).block _ (by omega)))
        refine wpAnyT_take (i := 0) (v := ?v1) rfl (by kernel_rfl) (by kernel_rfl) (by kernel_rfl) (by kernel_rfl) (by kernel_rfl) (fun _ _ _ h => h) (SS.out _ G0.out) rfl ?hy1 ?hh1
        case hy1 => (intro W hW; obtain ⟨h1, h2⟩ := hW; have q0_ : W.cell? ⟨wr.heap.size, 0, none⟩ = some (.int .i64 (g 0)) := h2 0 _ rfl; have q1_ : W.cell? ⟨wr.heap.size, 1, none⟩ = some (.int .i64 (g 1)) := h2 1 _ rfl; have q2_ : W.cell? ⟨wr.heap.size, 2, none⟩ = some (.int .i64 (g 2)) := h2 2 _ rfl; have q3_ : W.cell? ⟨wr.heap.size, 3, none⟩ = some (.int .i64 (g 3)) := h2 3 _ rfl; have q4_ : W.cell? ⟨wr.heap.size, 4, none⟩ = some (.int .i64 (g 4)) := h2 4 _ rfl; have q5_ : W.cell? ⟨wr.heap.size, 5, none⟩ = some (.int .i64 (g 5)) := h2 5 _ rfl; have q6_ : W.cell? ⟨wr.heap.size, 6, none⟩ = some (.int .i64 (g 6)) := h2 6 _ rfl; have q7_ : W.cell? ⟨wr.heap.size, 7, none⟩ = some (.int .i64 (g 7)) := h2 7 _ rfl; have q8_ : W.cell? ⟨wr.heap.size, 8, none⟩ = some (.int .i64 (g 8)) := h2 8 _ rfl; go_simp; try with_reducible rfl)
        case hh1 =>
        (try simp only [Act.put])
        refine wpAnyT_take (i := 1) (v := ?v2) rfl (by kernel_rfl) (by kernel_rfl) (by kernel_rfl) (by kernel_rfl) (by kernel_rfl) (fun _ _ _ h => h) (SS.out _ G0.out) rfl ?hy2 ?hh2
        case hy2 => (intro W hW; obtain ⟨h1, h2⟩ := hW; have q0_ : W.cell? ⟨wr.heap.size, 0, none⟩ = some (.int .i64 (g 0)) := h2 0 _ rfl; have q1_ : W.cell? ⟨wr.heap.size, 1, none⟩ = some (.int .i64 (g 1)) := h2 1 _ rfl; have q2_ : W.cell? ⟨wr.heap.size, 2, none⟩ = some (.int .i64 (g 2)) := h2 2 _ rfl; have q3_ : W.cell? ⟨wr.heap.size, 3, none⟩ = some (.int .i64 (g 3)) := h2 3 _ rfl; have q4_ : W.cell? ⟨wr.heap.size, 4, none⟩ = some (.int .i64 (g 4)) := h2 4 _ rfl; have q5_ : W.cell? ⟨wr.heap.size, 5, none⟩ = some (.int .i64 (g 5)) := h2 5 _ rfl; have q6_ : W.cell? ⟨wr.heap.size, 6, none⟩ = some (.int .i64 (g 6)) := h2 6 _ rfl; have q7_ : W.cell? ⟨wr.heap.size, 7, none⟩ = some (.int .i64 (g 7)) := h2 7 _ rfl; have q8_ : W.cell? ⟨wr.heap.size, 8, none⟩ = some (.int .i64 (g 8)) := h2 8 _ rfl; go_simp; try with_reducible rfl)
        case hh2 =>
        (try simp only [Act.put])
        refine wpAnyT_take (i := 2) (v := ?v3) rfl (by kernel_rfl) (by kernel_rfl) (by kernel_rfl) (by kernel_rfl) (by kernel_rfl) (fun _ _ _ h => h) (SS.out _ G0.out) rfl ?hy3 ?hh3
        case hy3 => (intro W hW; obtain ⟨h1, h2⟩ := hW; have q0_ : W.cell? ⟨wr.heap.size, 0, none⟩ = some (.int .i64 (g 0)) := h2 0 _ rfl; have q1_ : W.cell? ⟨wr.heap.size, 1, none⟩ = some (.int .i64 (g 1)) := h2 1 _ rfl; have q2_ : W.cell? ⟨wr.heap.size, 2, none⟩ = some (.int .i64 (g 2)) := h2 2 _ rfl; have q3_ : W.cell? ⟨wr.heap.size, 3, none⟩ = some (.int .i64 (g 3)) := h2 3 _ rfl; have q4_ : W.cell? ⟨wr.heap.size, 4, none⟩ = some (.int .i64 (g 4)) := h2 4 _ rfl; have q5_ : W.cell? ⟨wr.heap.size, 5, none⟩ = some (.int .i64 (g 5)) := h2 5 _ rfl; have q6_ : W.cell? ⟨wr.heap.size, 6, none⟩ = some (.int .i64 (g 6)) := h2 6 _ rfl; have q7_ : W.cell? ⟨wr.heap.size, 7, none⟩ = some (.int .i64 (g 7)) := h2 7 _ rfl; have q8_ : W.cell? ⟨wr.heap.size, 8, none⟩ = some (.int .i64 (g 8)) := h2 8 _ rfl; go_simp; try with_reducible rfl)
        case hh3 =>
        (try simp only [Act.put])
        refine wpAnyT_take (i := 3) (v := ?v4) rfl (by kernel_rfl) (by kernel_rfl) (by kernel_rfl) (by kernel_rfl) (by kernel_rfl) (fun _ _ _ h => h) (SS.out _ G0.out) rfl ?hy4 ?hh4
        case hy4 => (intro W hW; obtain ⟨h1, h2⟩ := hW; have q0_ : W.cell? ⟨wr.heap.size, 0, none⟩ = some (.int .i64 (g 0)) := h2 0 _ rfl; have q1_ : W.cell? ⟨wr.heap.size, 1, none⟩ = some (.int .i64 (g 1)) := h2 1 _ rfl; have q2_ : W.cell? ⟨wr.heap.size, 2, none⟩ = some (.int .i64 (g 2)) := h2 2 _ rfl; have q3_ : W.cell? ⟨wr.heap.size, 3, none⟩ = some (.int .i64 (g 3)) := h2 3 _ rfl; have q4_ : W.cell? ⟨wr.heap.size, 4, none⟩ = some (.int .i64 (g 4)) := h2 4 _ rfl; have q5_ : W.cell? ⟨wr.heap.size, 5, none⟩ = some (.int .i64 (g 5)) := h2 5 _ rfl; have q6_ : W.cell? ⟨wr.heap.size, 6, none⟩ = some (.int .i64 (g 6)) := h2 6 _ rfl; have q7_ : W.cell? ⟨wr.heap.size, 7, none⟩ = some (.int .i64 (g 7)) := h2 7 _ rfl; have q8_ : W.cell? ⟨wr.heap.size, 8, none⟩ = some (.int .i64 (g 8)) := h2 8 _ rfl; go_simp; try with_reducible rfl)
        case hh4 =>
        (try simp only [Act.put])
        refine wpAnyT_take (i := 4) (v := ?v5) rfl (by kernel_rfl) (by kernel_rfl) (by kernel_rfl) (by kernel_rfl) (by kernel_rfl) (fun _ _ _ h => h) (SS.out _ G0.out) rfl ?hy5 ?hh5
        case hy5 => (intro W hW; obtain ⟨h1, h2⟩ := hW; have q0_ : W.cell? ⟨wr.heap.size, 0, none⟩ = some (.int .i64 (g 0)) := h2 0 _ rfl; have q1_ : W.cell? ⟨wr.heap.size, 1, none⟩ = some (.int .i64 (g 1)) := h2 1 _ rfl; have q2_ : W.cell? ⟨wr.heap.size, 2, none⟩ = some (.int .i64 (g 2)) := h2 2 _ rfl; have q3_ : W.cell? ⟨wr.heap.size, 3, none⟩ = some (.int .i64 (g 3)) := h2 3 _ rfl; have q4_ : W.cell? ⟨wr.heap.size, 4, none⟩ = some (.int .i64 (g 4)) := h2 4 _ rfl; have q5_ : W.cell? ⟨wr.heap.size, 5, none⟩ = some (.int .i64 (g 5)) := h2 5 _ rfl; have q6_ : W.cell? ⟨wr.heap.size, 6, none⟩ = some (.int .i64 (g 6)) := h2 6 _ rfl; have q7_ : W.cell? ⟨wr.heap.size, 7, none⟩ = some (.int .i64 (g 7)) := h2 7 _ rfl; have q8_ : W.cell? ⟨wr.heap.size, 8, none⟩ = some (.int .i64 (g 8)) := h2 8 _ rfl; go_simp; try with_reducible rfl)
        case hh5 =>
        (try simp only [Act.put])
        refine wpAnyT_take (i := 5) (v := ?v6) rfl (by kernel_rfl) (by kernel_rfl) (by kernel_rfl) (by kernel_rfl) (by kernel_rfl) (fun _ _ _ h => h) (SS.out _ G0.out) rfl ?hy6 ?hh6
        case hy6 => (intro W hW; obtain ⟨h1, h2⟩ := hW; have q0_ : W.cell? ⟨wr.heap.size, 0, none⟩ = some (.int .i64 (g 0)) := h2 0 _ rfl; have q1_ : W.cell? ⟨wr.heap.size, 1, none⟩ = some (.int .i64 (g 1)) := h2 1 _ rfl; have q2_ : W.cell? ⟨wr.heap.size, 2, none⟩ = some (.int .i64 (g 2)) := h2 2 _ rfl; have q3_ : W.cell? ⟨wr.heap.size, 3, none⟩ = some (.int .i64 (g 3)) := h2 3 _ rfl; have q4_ : W.cell? ⟨wr.heap.size, 4, none⟩ = some (.int .i64 (g 4)) := h2 4 _ rfl; have q5_ : W.cell? ⟨wr.heap.size, 5, none⟩ = some (.int .i64 (g 5)) := h2 5 _ rfl; have q6_ : W.cell? ⟨wr.heap.size, 6, none⟩ = some (.int .i64 (g 6)) := h2 6 _ rfl; have q7_ : W.cell? ⟨wr.heap.size, 7, none⟩ = some (.int .i64 (g 7)) := h2 7 _ rfl; have q8_ : W.cell? ⟨wr.heap.size, 8, none⟩ = some (.int .i64 (g 8)) := h2 8 _ rfl; go_simp; try with_reducible rfl)
        case hh6 =>
        (try simp only [Act.put])
        refine wpAnyT_only (i := 6) rfl (by kernel_rfl) (fun K hK => ?_)
        go_simp
        go_at_call 51
        refine (iDualOf g (w2.heap.size + 1) v0 MV.out).mono ?_
        rintro e w5 ⟨rfl, hm5, hg5⟩
        have M5 := Lib.hid hm5
        have G5 := Lib.hid (GV.out.trans hg5)
        refine hK _ _ (fun _ _ => SS.out _ (G0.out.trans hg5)) ?_
        clear hK K hm5 hg5
        (try simp only [Act.put])
        refine wpAnyT_takeA (i := 7) (v := ?v7) rfl (by kernel_rfl) (by kernel_rfl) (by kernel_rfl) (fun _ _ _ h => h) rfl ?hy7 ?hh7
        case hy7 => (intro W; go_simp; try with_reducible rfl)
        case hh7 =>
        (try simp only [Act.put])
        refine wpAnyT_takeA (i := 8) (v := ?v8) rfl (by kernel_rfl) (by kernel_rfl) (by kernel_rfl) (fun _ _ _ h => h) rfl ?hy8 ?hh8
        case hy8 => (intro W; go_simp; try with_reducible rfl)
        case hh8 =>
        (try simp only [Act.put])
        have sv := G5.out.size
        have hv5 : ∀ q, q < wr.heap.size → q ≠ w2.heap.size + 1 → w5.heap[q]? = wr.heap[q]? := fun q h1 h2 => G5.out.block q h1 (fun e => h2 (Option.some.inj e))
        have O5 : w5.ownsRow B 59 11 (.slice (some ⟨ga, 0, none⟩) L.length c1) L.length ((Tm.flat (Tm.rowD L j)).map (Value.int .i64)) := own_stable OW.out.g.1 fun q hq => hv5 q (OW.out.g.1.lt q hq).2 (by have := OW.out.g.2 q hq; omega)
        have I5 := own_stable OW.out.i.1 (w' := w5) fun q hq => hv5 q (OW.out.i.1.lt q hq).2 (by have := OW.out.i.2 q hq; omega)
        have fz := O5.frozenAt
        have gl3 : ga < w5.heap.size := by omega
        have gt := own_gate O5 (j := j) (by rw [Tm.rowD_length]; exact hlt)
        have RA := Tm.rowD_at L hlt
        rw [← GG.out] at RA
        obtain ⟨z0, z1, z2, z3, z4, z5, z6, z7, z8, z9, z10⟩ := gt
        have st := own_setCells (nine (Tm.dualG g)) w5 _ (j * 11) O5
        rw [setAll_nine _ _ j (by rw [Tm.rowD_length]; exact hlt) (by rw [RA]; rfl) (by rw [RA]; rfl), GG.out, ← Tm.rowD_succ L hlt, ← GG.out] at st
        have NEW : Hid (OwnC (w5.setCells ga (j * 11) (nine (Tm.dualG g))) B w2.heap.size (some ⟨ga, 0, none⟩) L.length c1 (Tm.flat (Tm.rowD L (j + 1))) b1 o.length d1 (o.map Tm.otherL) ∧ MapD (w5.setCells ga (j * 11) (nine (Tm.dualG g))) (w2.heap.size + 1) ∧ TurnM B w2.heap.size (w2.heap.size + 1) W0 (w5.setCells ga (j * 11) (nine (Tm.dualG g)))) := Lib.hid
          ⟨⟨⟨st.1, OW.out.g.2⟩, ⟨own_stable I5 fun q hq => st.2.block q (I5.lt q hq).2 (fun e => OW.out.ap q e.symm hq), OW.out.i.2⟩, OW.out.ap, OW.out.lo⟩, M5.out.keep (st.2.block _ M5.out.lt (fun e => by have := Option.some.inj e; omega)), (TT.out.grown G5.out (fun q e => .inl (Option.some.inj e).symm)).grown st.2 (fun q e => .inr (.inl (by have := Option.some.inj e; subst this; exact ⟨gl1.1, gl2⟩)))⟩
        clear st O5 I5 RA
        refine wpAnyT_only (i := 9) rfl (by kernel_rfl) (fun K hK => ?_)
        go_simp
        refine hK _ _ (fun h => (h (by decide)).elim) ?_
        clear hK K z0 z1 z2 z3 z4 z5 z6 z7 z8 z9 z10 fz
        (try simp only [Act.put])
        refine wpAnyT_done (by kernel_rfl) ?_ _
        clear SS hu45 hi45 G0 GV MV G5 M5 GA bA bD
        go_wp2_with fail
        exact ⟨⟨j + 1, by omega, by go_num, Lib.hid NEW.out.1, Lib.hid NEW.out.2.1, Lib.hid NEW.out.2.2⟩, by simp [intOf]; omega⟩
      · obtain rfl : j = L.length := by omega
        rw [Tm.rowD_all] at OW
        have t0 : wr.cell? ⟨w2.heap.size, 0, none⟩ = some (.int .i64 k) := (World.cell?_of_block (a := ⟨w2.heap.size, 0, none⟩) bt).trans BX0.out.2.1
        have t1 : wr.cell? ⟨w2.heap.size, 1, none⟩ = some (.slice a1 L.length c1) := (World.cell?_of_block (a := ⟨w2.heap.size, 1, none⟩) bt).trans BX0.out.2.2.1
        have t2 : wr.cell? ⟨w2.heap.size, 2, none⟩ = some (.slice b1 o.length d1) := (World.cell?_of_block (a := ⟨w2.heap.size, 2, none⟩) bt).trans BX0.out.2.2.2
        have br : wr.heap[w.heap.size + 1]? = w2.heap[w.heap.size + 1]? := (TT.out.block _ (by omega) (.inl (by omega)) (by omega)).trans (BR0.out _ (by omega))
        have RR : ∀ i, i < 3 → wr.frozen? ⟨w.heap.size + 1, i, none⟩ = false ∧ ∃ u, wr.cell? ⟨w.heap.size + 1, i, none⟩ = some u := fun i hi => by
          obtain ⟨f, u, hu⟩ := R0.out i hi
          exact ⟨(World.frozen?_of_block (a := ⟨w.heap.size + 1, i, none⟩) br).trans f, u, (World.cell?_of_block (a := ⟨w.heap.size + 1, i, none⟩) br).trans hu⟩
        obtain ⟨f0, u0, r0⟩ := RR 0 (by omega)
        obtain ⟨f1, u1, r1⟩ := RR 1 (by omega)
        obtain ⟨f2, u2, r2⟩ := RR 2 (by omega)
        obtain ⟨m0, m1, m2⟩ := three_cells r0 r1 r2 (.int .i64 k) (.slice a1 L.length c1) (.slice b1 o.length d1)
        have lR : w.heap.size + 1 < wr.heap.size := by omega
        have lD : w2.heap.size < wr.heap.size := by omega
        clear RR br bt
        go_wp2_with fail
        refine bodyPost_ret (v := circV k a1 L.length c1 b1 o.length d1) (by simp [results, Try.results18, go_sem, m0, m1, m2]) rfl ?_
        have ll : (L.map Tm.dualG).length = L.length := List.length_map ..
        have lo : (o.map Tm.otherL).length = o.length := List.length_map ..
        have N1 : (Value.slice a1 L.length c1).ownBlock ≠ some (w.heap.size + 1) := fun e => by have := (OW.out.g.1.lt _ e).1; omega
        have N2 : (Value.slice b1 o.length d1).ownBlock ≠ some (w.heap.size + 1) := fun e => by have := (OW.out.i.1.lt _ e).1; omega
        have O1 := own_weak2 (own_set (own_set (own_set OW.out.g.1 (w.heap.size + 1) 0 (.int .i64 k) N1) (w.heap.size + 1) 1 (.slice a1 L.length c1) N1) (w.heap.size + 1) 2 (.slice b1 o.length d1) N1) (show w.heap.size ≤ B by omega)
        have O2 := own_weak2 (own_set (own_set (own_set OW.out.i.1 (w.heap.size + 1) 0 (.int .i64 k) N2) (w.heap.size + 1) 1 (.slice a1 L.length c1) N2) (w.heap.size + 1) 2 (.slice b1 o.length d1) N2) (show w.heap.size ≤ B by omega)
        have hbF := Below.trans' (Below.trans' (Below.trans' hbw (w.heap.size + 1) 0 (.int .i64 k)) (w.heap.size + 1) 1 (.slice a1 L.length c1)) (w.heap.size + 1) 2 (.slice b1 o.length d1)
        refine ⟨a1, c1, b1, d1, by simp only [ll, lo], ?_, hbF, by simp only [ll]; omega, by simp only [lo]; omega⟩
        simp only [ll, lo]
        exact ⟨⟨O1, fun q hq => (O1.lt q hq).2⟩, ⟨by first | exact O2 | (rw [lo]; exact O2) | (rw [lo] at O2; exact O2), fun q hq => (O2.lt q hq).2⟩, OW.out.ap, lo⟩
end Go.Proofs.Ytjbmgppgkgacpaa

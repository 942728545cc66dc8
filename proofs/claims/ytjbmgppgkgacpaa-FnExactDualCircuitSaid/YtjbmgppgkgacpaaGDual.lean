/- The model's DualCircuit. -/
import Derived.Test.YtjbmgppgkgacpaaGCopy2
import Derived.Test.YtjbmgppgkgacpaaGS
import Derived.Test.YtjbmgppgkgacpaaTab4
namespace Go.Proofs.Ytjbmgppgkgacpaa
set_option maxRecDepth 20000
open Go.RowKit
namespace Tm
def otherL (x : Int) : Int := if x = 0 ∨ x = 2 then 2 - x else x
def dualG (g : Nat → Int) : Nat → Int := mkG (dual g) (otherL (g 9)) (otherL (g 10))
/-- The first j of a list are changed. -/
def chg {α : Type} (f : α → α) (L : List α) (j : Nat) : List α := (L.take j).map f ++ L.drop j
theorem chg_zero {α : Type} (f : α → α) (L : List α) : chg f L 0 = L := by simp [chg]
theorem chg_all {α : Type} (f : α → α) (L : List α) : chg f L L.length = L.map f := by simp [chg]
theorem chg_length {α : Type} (f : α → α) (L : List α) (j : Nat) : (chg f L j).length = L.length := by simp [chg]; omega
theorem chg_succ {α : Type} (f : α → α) (L : List α) (z : α) {j : Nat} (h : j < L.length) : chg f L (j + 1) = (chg f L j).set j (f (L.getD j z)) := by
  have h1 : (L.take j).length = j := by rw [List.length_take]; omega
  rw [chg, chg, take_snoc' L z h, List.map_append, List.append_assoc, List.set_append_right _ _ (by rw [List.length_map, h1]; exact Nat.le_refl _), List.length_map, h1, Nat.sub_self, List.drop_eq_getElem_cons h]
  rfl
def duK (k : Int) (L : List (Nat → Int)) (o : List Int) : Int := if isCirc k L o then k else 0
def duL (k : Int) (L : List (Nat → Int)) (o : List Int) : List (Nat → Int) := if isCirc k L o then L.map dualG else []
def duO (k : Int) (L : List (Nat → Int)) (o : List Int) : List Int := if isCirc k L o then o.map otherL else []
end Tm
theorem setAll_right (A : List Value) (vs : List Value) : ∀ (R : List Value) (k : Nat), setAll (A ++ R) (A.length + k) vs = A ++ setAll R k vs := by
  induction vs with
  | nil => intro R k; rfl
  | cons v r ih =>
    intro R k
    rw [setAll, setAll, List.set_append_right _ _ (by omega), show A.length + k - A.length = k by omega, show A.length + k + 1 = A.length + (k + 1) by omega, ih]
theorem setAll_gate (L : List (Nat → Int)) (h : Nat → Int) : ∀ j, j < L.length → setAll ((Tm.flat L).map (Value.int .i64)) (j * 11) (gcells h) = (Tm.flat (L.set j h)).map (Value.int .i64) := by
  induction L with
  | nil => intro j hj; simp at hj
  | cons g r ih =>
    intro j hj
    have e : ∀ (x : Nat → Int) (M : List (Nat → Int)), (Tm.flat (x :: M)).map (Value.int .i64) = gcells x ++ (Tm.flat M).map (Value.int .i64) := fun x M => rfl
    cases j with
    | zero => rw [e, List.set_cons_zero, e]; rfl
    | succ j =>
      have := setAll_right (gcells g) (gcells h) ((Tm.flat r).map (Value.int .i64)) (j * 11)
      rw [e, List.set_cons_succ, e, ← ih j (by simpa using hj), ← this]
      congr 1
      simp only [gcells, List.length_cons, List.length_nil]; omega
theorem own_shapeS {w : World} {B e s n : Nat} {v : Value} {xs : List Value} (h : w.ownsRow B e s v n xs) (hn : 0 < n) : ∃ g cap, v = .slice (some ⟨g, 0, none⟩) n cap := by
  rcases h.2 with ⟨_, e2⟩ | ⟨g, cap, cur, e1, _, _, h4, h5, _⟩
  · omega
  · exact ⟨g, cap, e1⟩
/-- The gate j of a row of one's own. -/
theorem own_gate {w : World} {B e g n cap : Nat} {L : List (Nat → Int)} (h : w.ownsRow B e 11 (.slice (some ⟨g, 0, none⟩) n cap) n ((Tm.flat L).map (Value.int .i64))) {j : Nat} (hj : j < L.length) : GateAt w g (j * 11) (L.getD j Tm.g0) :=
  gateAt_of fun i hi => by
    rw [h.cellAt (j * 11 + i) (by have := h.1; rw [List.length_map, Tm.flat_length] at this; omega), List.getElem?_map, List.getElem?_eq_getElem (by rw [Tm.flat_length]; omega)]
    have := Tm.flat_at L j i hj hi
    rw [List.getD_eq_getElem?_getD, List.getElem?_eq_getElem (by rw [Tm.flat_length]; omega)] at this
    simpa using this
theorem sOther (x : Int) (w : World) (h1 : -1000 ≤ x) (h2 : x ≤ 1000) : Calls Try.prog 45 #[.int .i64 x] w fun r w' => r = .returned (.int .i64 (Tm.otherL x)) ∧ w = w' := by
  have e1 : IntKind.i64.wrap (2 - x) = 2 - x := IntWalk.i64_in _ ⟨by omega, by omega⟩
  by_cases c0 : x = 0
  · subst c0
    go_enter Try.func45, Try.ntmps45
    go_wp2
    go_ret
    exact ⟨rfl, rfl⟩
  · by_cases c2 : x = 2
    · subst c2
      go_enter Try.func45, Try.ntmps45
      go_wp2
      go_ret
      exact ⟨rfl, rfl⟩
    · have e : Tm.otherL x = x := by rw [Tm.otherL, if_neg (by omega)]
      rw [e]
      have d0 : (x == 0) = false := by simpa using c0
      have d2 : (x == 2) = false := by simpa using c2
      have d3 : ¬ (x = 0 ∨ x = 2) := by omega
      go_enter Try.func45, Try.ntmps45
      go_wp2
      go_ret
      exact ⟨rfl, rfl⟩
set_option maxHeartbeats 4000000 in
theorem sDualC (k : Int) (a : Option Addr) (n c : Nat) (L : List (Nat → Int)) (b : Option Addr) (m d : Nat) (o : List Int) (w : World) (h : Cs w a n c L b m d o) : Calls Try.prog 16 #[circV k a n c b m d] w (RetC w (Tm.duK k L o) (Tm.duL k L o) (Tm.duO k L o)) := by
  obtain rfl : n = L.length := h.1.1.symm
  obtain rfl : m = o.length := h.2.1.symm
  have H := Lib.hid h
  have SI := Lib.hid (fun (w : World) h => sIsCircuit k a L.length c L b o.length d o w h)
  clear h
  cases hC : Tm.isCirc k L o with
  | false =>
    rw [Tm.duK, Tm.duL, Tm.duO, hC]
    rw [hC] at SI
    clear hC
    go_enter Try.func16, Try.ntmps16
    go_wp2_with fail
    refine (SI.out _ (H.out.below (by (repeat' (first | (with_reducible exact Below.refl _ _) | (with_reducible assumption) | (with_reducible refine below_drewN ?_ _) | (with_reducible refine Below.drew ?_) | (with_reducible refine Below.alloc ?_ ?_ _) | (with_reducible refine Below.setCell ?_ ?_ _) | (with_reducible refine below_gw ?_ ?_ _) | (with_reducible refine below_via ?_ ‹Below _ _ _› ?_) | (with_reducible exact Nat.le_refl _) | (with_reducible refine le_gw ?_ _) | (with_reducible refine le_alloc ?_ _) | (with_reducible refine le_setCell ?_ _ _) | (with_reducible refine le_drew ?_) | (with_reducible refine le_drewN ?_ _) | go_size))))).mono ?_
    rintro r w1 ⟨rfl, hb⟩
    obtain ⟨p, rfl⟩ := gw_of_below hb
    clear hb
    go_wp2
    go_returns
    exact ⟨none, 0, none, 0, rfl, ⟨⟨⟨by simp [Tm.flat], .inl ⟨rfl, rfl⟩⟩, (fun x hx => by cases hx)⟩, ⟨⟨by simp, .inl ⟨rfl, rfl⟩⟩, (fun x hx => by cases hx)⟩, (fun x hx => by cases hx), rfl⟩, by (repeat' (first | (with_reducible exact Below.refl _ _) | (with_reducible assumption) | (with_reducible refine below_drewN ?_ _) | (with_reducible refine Below.drew ?_) | (with_reducible refine Below.alloc ?_ ?_ _) | (with_reducible refine Below.setCell ?_ ?_ _) | (with_reducible refine below_gw ?_ ?_ _) | (with_reducible refine below_via ?_ ‹Below _ _ _› ?_) | (with_reducible exact Nat.le_refl _) | (with_reducible refine le_gw ?_ _) | (with_reducible refine le_alloc ?_ _) | (with_reducible refine le_setCell ?_ _ _) | (with_reducible refine le_drew ?_) | (with_reducible refine le_drewN ?_ _) | go_size)), by simp, by simp⟩
  | true =>
    rw [Tm.duK, Tm.duL, Tm.duO, hC]
    rw [hC] at SI
    have hC' := (Tm.isCirc_iff _ _ _).1 hC
    obtain ⟨⟨k1, k2⟩, hn, hm, -⟩ := hC'
    have GL := Lib.hid (fun j (hj : j < L.length) g (hg : g = L.getD j Tm.g0) => Tm.gate_lines hC hj hg)
    have OL := Lib.hid (fun j (hj : j < o.length) => Tm.outs_lines hC hj)
    clear hC
    go_enter Try.func16, Try.ntmps16
    go_wp2_with fail
    refine (SI.out _ (H.out.below (by (repeat' (first | (with_reducible exact Below.refl _ _) | (with_reducible assumption) | (with_reducible refine below_drewN ?_ _) | (with_reducible refine Below.drew ?_) | (with_reducible refine Below.alloc ?_ ?_ _) | (with_reducible refine Below.setCell ?_ ?_ _) | (with_reducible refine below_gw ?_ ?_ _) | (with_reducible refine below_via ?_ ‹Below _ _ _› ?_) | (with_reducible exact Nat.le_refl _) | (with_reducible refine le_gw ?_ _) | (with_reducible refine le_alloc ?_ _) | (with_reducible refine le_setCell ?_ _ _) | (with_reducible refine le_drew ?_) | (with_reducible refine le_drewN ?_ _) | go_size))))).mono ?_
    rintro r w1 ⟨rfl, hb⟩
    obtain ⟨p, rfl⟩ := gw_of_below hb
    clear hb
    go_wp2_with fail
    refine (sCopyC k a L.length c L b o.length d o _ (H.out.below (by (repeat' (first | (with_reducible exact Below.refl _ _) | (with_reducible assumption) | (with_reducible refine below_drewN ?_ _) | (with_reducible refine Below.drew ?_) | (with_reducible refine Below.alloc ?_ ?_ _) | (with_reducible refine Below.setCell ?_ ?_ _) | (with_reducible refine below_gw ?_ ?_ _) | (with_reducible refine below_via ?_ ‹Below _ _ _› ?_) | (with_reducible exact Nat.le_refl _) | (with_reducible refine le_gw ?_ _) | (with_reducible refine le_alloc ?_ _) | (with_reducible refine le_setCell ?_ _ _) | (with_reducible refine le_drew ?_) | (with_reducible refine le_drewN ?_ _) | go_size)))) (by omega) (by omega)).mono ?_
    intro r w2 hh
    unfold RetC at hh
    obtain ⟨a1, c1, b1, d1, rfl, OC, hb, -, -⟩ := hh
    have x1 : w2.cell? ⟨w.heap.size, 1, none⟩ = some (.slice a L.length c) := by rw [hb.cell (p := ⟨w.heap.size, 1, none⟩) (by simp only [gw_size, World.size_alloc]; omega)]; go_simp
    have x2 : w2.cell? ⟨w.heap.size, 2, none⟩ = some (.slice b o.length d) := by rw [hb.cell (p := ⟨w.heap.size, 2, none⟩) (by simp only [gw_size, World.size_alloc]; omega)]; go_simp
    have R0 : Hid (∀ i, i < 3 → w2.frozen? ⟨w.heap.size + 1, i, none⟩ = false ∧ ∃ u, w2.cell? ⟨w.heap.size + 1, i, none⟩ = some u) := Lib.hid fun i hi => by
      have e := World.frozen?_of_block (a := ⟨w.heap.size + 1, i, none⟩) (hb.block (w.heap.size + 1) (by simp only [gw_size, World.size_alloc]; omega))
      have e2 := World.cell?_of_block (a := ⟨w.heap.size + 1, i, none⟩) (hb.block (w.heap.size + 1) (by simp only [gw_size, World.size_alloc]; omega))
      rw [e, e2]
      match i, hi with
      | 0, _ | 1, _ | 2, _ => exact ⟨by go_simp, _, by go_simp; rfl⟩
    have hs2 : w.heap.size + 2 ≤ w2.heap.size := Nat.le_trans (by simp only [gw_size, World.size_alloc]; omega) hb.size
    have HB2 : Below w.heap.size w w2 := Below.trans (by (repeat' (first | (with_reducible exact Below.refl _ _) | (with_reducible assumption) | (with_reducible refine below_drewN ?_ _) | (with_reducible refine Below.drew ?_) | (with_reducible refine Below.alloc ?_ ?_ _) | (with_reducible refine Below.setCell ?_ ?_ _) | (with_reducible refine below_gw ?_ ?_ _) | (with_reducible refine below_via ?_ ‹Below _ _ _› ?_) | (with_reducible exact Nat.le_refl _) | (with_reducible refine le_gw ?_ _) | (with_reducible refine le_alloc ?_ _) | (with_reducible refine le_setCell ?_ _ _) | (with_reducible refine le_drew ?_) | (with_reducible refine le_drewN ?_ _) | go_size))) (hb.mono (by simp only [gw_size, World.size_alloc]; omega))
    obtain ⟨B, hB⟩ : ∃ B, B = (gw ((w.alloc (.cells #[.int .i64 k, .slice a L.length c, .slice b o.length d] 25)).alloc (.cells #[.int .i64 0, .slice none 0 0, .slice none 0 0] 25)) p).heap.size := ⟨_, rfl⟩
    have hB2 : w.heap.size + 2 ≤ B := by rw [hB]; simp only [gw_size, World.size_alloc]; omega
    rw [← hB] at OC
    have OC := Lib.hid OC
    clear hb hB
    have q0 : w.heap.size < w2.heap.size := by omega
    have q1 : w.heap.size + 1 < w2.heap.size := by omega
    go_wp2_with fail
    obtain ⟨W0, hW0⟩ : ∃ W0, W0 = w2.alloc (.cells #[.int .i64 k, .slice a1 L.length c1, .slice b1 o.length d1] 25) := ⟨_, rfl⟩
    rw [← hW0]
    have OC0 : Hid (OwnC W0 B w2.heap.size a1 L.length c1 (Tm.flat (Tm.chg Tm.dualG L 0)) b1 o.length d1 o) := Lib.hid (by rw [Tm.chg_zero, hW0]; exact OC.out.later ((Below.refl _ _).alloc (Nat.le_refl _) _) (Nat.le_refl _))
    have BX0 : Hid (Box3 W0 w2.heap.size (.int .i64 k) (.slice a1 L.length c1) (.slice b1 o.length d1)) := Lib.hid (by rw [hW0]; exact box3_new _ _ _ _ _)
    have BW0 : Hid (Below w.heap.size w W0) := Lib.hid (by rw [hW0]; exact HB2.alloc (by omega) _)
    have SB : W0.heap.size = w2.heap.size + 1 := by rw [hW0, World.size_alloc]
    go_loopw [17] (fun i wr => ∃ j : Nat, j ≤ L.length ∧ i = .int .i64 j ∧ Hid (OwnC wr B w2.heap.size a1 L.length c1 (Tm.flat (Tm.chg Tm.dualG L j)) b1 o.length d1 o) ∧ Hid (TurnF B w2.heap.size W0 wr)) (fun i _ => L.length - (intOf i).toNat)
    case atStart => exact ⟨0, by omega, rfl, OC0, Lib.hid ⟨rfl, rfl, rfl, Nat.le_refl _, fun _ _ _ => rfl⟩⟩
    case round =>
      obtain ⟨j, hj, rfl, OW, TT⟩ := hrel
      have hbw : Below w.heap.size w wr := TT.out.below BW0.out (by omega) (by omega)
      have hsw : w2.heap.size + 1 ≤ wr.heap.size := by rw [← SB]; exact TT.out.size
      by_cases hlt : j < L.length
      · obtain ⟨-, -, -, y⟩ := H.out.1.below hbw
        rcases y with h0 | ⟨bb, oo, rfl, hbl, hc⟩
        · omega
        obtain ⟨g, hg, g1⟩ := Gs.gate hc hlt
        have GG := Lib.hid hg
        obtain ⟨A, A2, e9, e10, l9, l10, -⟩ := GL.out j hlt g hg
        obtain ⟨p0, p1, p2, p3, p4, p5, p6, p7, p8, p9, p10⟩ := g1
        clear hg hc
        obtain ⟨ga, cc, e⟩ := own_shapeS OW.out.g.1 (by omega)
        cases e
        have bt := TT.out.block w2.heap.size (by omega) (by omega)
        have t1 : wr.cell? ⟨w2.heap.size, 1, none⟩ = some (.slice (some ⟨ga, 0, none⟩) L.length c1) := (World.cell?_of_block (a := ⟨w2.heap.size, 1, none⟩) bt).trans BX0.out.2.2.1
        have gl := OW.out.g.lt ga rfl
        obtain ⟨gl1, gl2⟩ := gl
        have gl3 : ga < wr.heap.size := by omega
        obtain ⟨z0, z1, z2, z3, z4, z5, z6, z7, z8, z9, z10⟩ := own_gate OW.out.g.1 (j := j) (by rw [Tm.chg_length]; exact hlt)
        have fz := OW.out.g.1.frozenAt
        have SO9 := Lib.hid (fun w => sOther (g 9) w (by omega) (by omega))
        have SO10 := Lib.hid (fun w => sOther (g 10) w (by omega) (by omega))
        clear bt e9 e10 l9 l10
        go_wp2_with fail
        have HS : Hid (∀ W, Below (wr.heap.size + 1) (wr.alloc (.cells #[.int .i64 (g 0), .int .i64 (g 1), .int .i64 (g 2), .int .i64 (g 3), .int .i64 (g 4), .int .i64 (g 5), .int .i64 (g 6), .int .i64 (g 7), .int .i64 (g 8), .int .i64 (g 9), .int .i64 (g 10)] 59)) W → W.cell? ⟨w2.heap.size, 1, none⟩ = some (.slice (some ⟨ga, 0, none⟩) L.length c1) ∧ W.rangeAt wr.heap.size 0 [.int .i64 (g 0), .int .i64 (g 1), .int .i64 (g 2), .int .i64 (g 3), .int .i64 (g 4), .int .i64 (g 5), .int .i64 (g 6), .int .i64 (g 7), .int .i64 (g 8)] ∧ W.cell? ⟨wr.heap.size, 9, none⟩ = some (.int .i64 (g 9)) ∧ W.cell? ⟨wr.heap.size, 10, none⟩ = some (.int .i64 (g 10))) := Lib.hid fun W hW => by
          have rg := below_range hW (Nat.lt_succ_self _) (range_new wr [.int .i64 (g 0), .int .i64 (g 1), .int .i64 (g 2), .int .i64 (g 3), .int .i64 (g 4), .int .i64 (g 5), .int .i64 (g 6), .int .i64 (g 7), .int .i64 (g 8), .int .i64 (g 9), .int .i64 (g 10)] 59)
          refine ⟨?_, range_part rg 0 ?_, rg 9 _ rfl, rg 10 _ rfl⟩
          · rw [hW.cell (p := ⟨w2.heap.size, 1, none⟩) (by simp; omega), World.cell?_alloc_lt _ _ _ (by simp; omega)]; exact t1
          intro j v hj
          match j, hj with
          | 0, hj | 1, hj | 2, hj | 3, hj | 4, hj | 5, hj | 6, hj | 7, hj | 8, hj => simpa using hj
          | j + 9, hj => simp at hj
        have KB : Hid (∀ W W' : World, Below (wr.heap.size + 1) W W' → (W.cell? ⟨w2.heap.size, 1, none⟩ = some (.slice (some ⟨ga, 0, none⟩) L.length c1) ∧ W.rangeAt wr.heap.size 0 [.int .i64 (g 0), .int .i64 (g 1), .int .i64 (g 2), .int .i64 (g 3), .int .i64 (g 4), .int .i64 (g 5), .int .i64 (g 6), .int .i64 (g 7), .int .i64 (g 8)] ∧ W.cell? ⟨wr.heap.size, 9, none⟩ = some (.int .i64 (g 9)) ∧ W.cell? ⟨wr.heap.size, 10, none⟩ = some (.int .i64 (g 10))) → (W'.cell? ⟨w2.heap.size, 1, none⟩ = some (.slice (some ⟨ga, 0, none⟩) L.length c1) ∧ W'.rangeAt wr.heap.size 0 [.int .i64 (g 0), .int .i64 (g 1), .int .i64 (g 2), .int .i64 (g 3), .int .i64 (g 4), .int .i64 (g 5), .int .i64 (g 6), .int .i64 (g 7), .int .i64 (g 8)] ∧ W'.cell? ⟨wr.heap.size, 9, none⟩ = some (.int .i64 (g 9)) ∧ W'.cell? ⟨wr.heap.size, 10, none⟩ = some (.int .i64 (g 10)))) := Lib.hid fun W W' hW ⟨s1, s2, s3, s4⟩ => by
          refine ⟨?_, below_range hW (Nat.lt_succ_self _) s2, ?_, ?_⟩
          · rw [hW.cell (p := ⟨w2.heap.size, 1, none⟩) (by first | (simp; done) | (simp; omega))]; exact s1
          · rw [hW.cell (p := ⟨wr.heap.size, 9, none⟩) (by first | (simp; done) | (simp; omega))]; exact s3
          · rw [hW.cell (p := ⟨wr.heap.size, 10, none⟩) (by first | (simp; done) | (simp; omega))]; exact s4
        have KG : Hid (∀ (W : World) (q : Regrown), wr.heap.size + 1 ≤ W.heap.size → (W.cell? ⟨w2.heap.size, 1, none⟩ = some (.slice (some ⟨ga, 0, none⟩) L.length c1) ∧ W.rangeAt wr.heap.size 0 [.int .i64 (g 0), .int .i64 (g 1), .int .i64 (g 2), .int .i64 (g 3), .int .i64 (g 4), .int .i64 (g 5), .int .i64 (g 6), .int .i64 (g 7), .int .i64 (g 8)] ∧ W.cell? ⟨wr.heap.size, 9, none⟩ = some (.int .i64 (g 9)) ∧ W.cell? ⟨wr.heap.size, 10, none⟩ = some (.int .i64 (g 10))) → ((gw W q).cell? ⟨w2.heap.size, 1, none⟩ = some (.slice (some ⟨ga, 0, none⟩) L.length c1) ∧ (gw W q).rangeAt wr.heap.size 0 [.int .i64 (g 0), .int .i64 (g 1), .int .i64 (g 2), .int .i64 (g 3), .int .i64 (g 4), .int .i64 (g 5), .int .i64 (g 6), .int .i64 (g 7), .int .i64 (g 8)] ∧ (gw W q).cell? ⟨wr.heap.size, 9, none⟩ = some (.int .i64 (g 9)) ∧ (gw W q).cell? ⟨wr.heap.size, 10, none⟩ = some (.int .i64 (g 10)))) := Lib.hid fun W q h s => KB.out W (gw W q) (below_gw (Below.refl _ _) h q) s
        have KC : Hid (∀ (W : World) (i : Nat) (v : Value), W.cell? ⟨w2.heap.size, 1, none⟩ = some (.slice (some ⟨ga, 0, none⟩) L.length c1) → (W.setCell ⟨ga, i, none⟩ v).cell? ⟨w2.heap.size, 1, none⟩ = some (.slice (some ⟨ga, 0, none⟩) L.length c1)) := Lib.hid fun W i v s1 => by
          rw [World.cell?_setCell_other _ _ _ _ (by first | (simp; done) | (simp; omega))]; exact s1
        have T1 := Lib.hid t1
        have KA : Hid (∀ (W : World), W.heap.size = wr.heap.size → W.cell? ⟨w2.heap.size, 1, none⟩ = some (.slice (some ⟨ga, 0, none⟩) L.length c1) → ((W.alloc (.cells #[.int .i64 (g 0), .int .i64 (g 1), .int .i64 (g 2), .int .i64 (g 3), .int .i64 (g 4), .int .i64 (g 5), .int .i64 (g 6), .int .i64 (g 7), .int .i64 (g 8), .int .i64 (g 9), .int .i64 (g 10)] 59)).cell? ⟨w2.heap.size, 1, none⟩ = some (.slice (some ⟨ga, 0, none⟩) L.length c1) ∧ (W.alloc (.cells #[.int .i64 (g 0), .int .i64 (g 1), .int .i64 (g 2), .int .i64 (g 3), .int .i64 (g 4), .int .i64 (g 5), .int .i64 (g 6), .int .i64 (g 7), .int .i64 (g 8), .int .i64 (g 9), .int .i64 (g 10)] 59)).rangeAt wr.heap.size 0 [.int .i64 (g 0), .int .i64 (g 1), .int .i64 (g 2), .int .i64 (g 3), .int .i64 (g 4), .int .i64 (g 5), .int .i64 (g 6), .int .i64 (g 7), .int .i64 (g 8)] ∧ (W.alloc (.cells #[.int .i64 (g 0), .int .i64 (g 1), .int .i64 (g 2), .int .i64 (g 3), .int .i64 (g 4), .int .i64 (g 5), .int .i64 (g 6), .int .i64 (g 7), .int .i64 (g 8), .int .i64 (g 9), .int .i64 (g 10)] 59)).cell? ⟨wr.heap.size, 9, none⟩ = some (.int .i64 (g 9)) ∧ (W.alloc (.cells #[.int .i64 (g 0), .int .i64 (g 1), .int .i64 (g 2), .int .i64 (g 3), .int .i64 (g 4), .int .i64 (g 5), .int .i64 (g 6), .int .i64 (g 7), .int .i64 (g 8), .int .i64 (g 9), .int .i64 (g 10)] 59)).cell? ⟨wr.heap.size, 10, none⟩ = some (.int .i64 (g 10)))) := Lib.hid fun W hz s1 => by
          have rg := range_new W [.int .i64 (g 0), .int .i64 (g 1), .int .i64 (g 2), .int .i64 (g 3), .int .i64 (g 4), .int .i64 (g 5), .int .i64 (g 6), .int .i64 (g 7), .int .i64 (g 8), .int .i64 (g 9), .int .i64 (g 10)] 59
          rw [hz] at rg
          refine ⟨?_, range_part rg 0 ?_, rg 9 _ rfl, rg 10 _ rfl⟩
          · rw [World.cell?_alloc_lt _ _ _ (by simp; omega)]; exact s1
          intro j v hj
          match j, hj with
          | 0, hj | 1, hj | 2, hj | 3, hj | 4, hj | 5, hj | 6, hj | 7, hj | 8, hj => simpa using hj
          | j + 9, hj => simp at hj
        have EC : Tm.chg Tm.dualG L (j + 1) = (Tm.chg Tm.dualG L j).set j (Tm.dualG g) := by rw [Tm.chg_succ _ _ Tm.g0 hlt, ← GG.out]
        have st := own_setCells (gcells (Tm.dualG g)) wr _ (j * 11) OW.out.g.1
        rw [setAll_gate _ _ j (by rw [Tm.chg_length]; exact hlt), ← EC] at st
        have ST := Lib.hid st
        clear st EC
        have hsz : wr.heap.size + 1 ≤ (wr.alloc (.cells #[.int .i64 (g 0), .int .i64 (g 1), .int .i64 (g 2), .int .i64 (g 3), .int .i64 (g 4), .int .i64 (g 5), .int .i64 (g 6), .int .i64 (g 7), .int .i64 (g 8), .int .i64 (g 9), .int .i64 (g 10)] 59)).heap.size := by simp
        have hu45 := Try.underlying33
        have hi45 : (Try.prog.info? 33).map (·.size) = some ([.int .i64 (g 0), .int .i64 (g 1), .int .i64 (g 2), .int .i64 (g 3), .int .i64 (g 4), .int .i64 (g 5), .int .i64 (g 6), .int .i64 (g 7), .int .i64 (g 8)] : List Value).length := by kernel_rfl
        clear p0 p1 p2 p3 p4 p5 p6 p7 p8 p9 p10
        go_region_held3 (fun W => W.cell? ⟨w2.heap.size, 1, none⟩ = some (.slice (some ⟨ga, 0, none⟩) L.length c1) ∧ W.rangeAt wr.heap.size 0 [.int .i64 (g 0), .int .i64 (g 1), .int .i64 (g 2), .int .i64 (g 3), .int .i64 (g 4), .int .i64 (g 5), .int .i64 (g 6), .int .i64 (g 7), .int .i64 (g 8)] ∧ W.cell? ⟨wr.heap.size, 9, none⟩ = some (.int .i64 (g 9)) ∧ W.cell? ⟨wr.heap.size, 10, none⟩ = some (.int .i64 (g 10))) (first | (with_reducible exact HS.out _ (Below.refl _ _)) | (with_reducible exact HS.out _ (Below.drew (Below.refl _ _))) | (with_reducible exact HS.out _ (below_gw (Below.refl _ _) hsz _)) | (with_reducible exact KG.out _ _ (by simp only [World.size_setCell, World.size_alloc]; exact Nat.le_refl _) (KA.out _ (by simp only [World.size_setCell]) (KC.out _ _ _ (KC.out _ _ _ (KC.out _ _ _ (KC.out _ _ _ (KC.out _ _ _ (KC.out _ _ _ (KC.out _ _ _ (KC.out _ _ _ (KC.out _ _ _ (KC.out _ _ _ (KC.out _ _ _ (T1.out)))))))))))))) | fail) ((first | (go_at_call 44; (with_reducible refine (sDualTable g _).mono ?_); rintro e w3 ⟨rfl, hb1⟩; obtain ⟨p1, rfl⟩ := gw_of_below hb1; clear hb1) | (go_at_call 45; (with_reducible refine (SO9.out _).mono ?_); rintro e w3 ⟨rfl, rfl⟩) | (go_at_call 45; (with_reducible refine (SO10.out _).mono ?_); rintro e w3 ⟨rfl, rfl⟩)))
        clear HS KB KG KC KA T1 SO9 SO10 hu45 hi45 z0 z1 z2 z3 z4 z5 z6 z7 z8 z9 z10 fz t1
        rename_i hHeld
        clear hHeld
        go_wp2_with fail
        obtain ⟨WS, hWS⟩ : ∃ WS, WS = (wr.setCells ga (j * 11) (gcells (Tm.dualG g))) := ⟨_, rfl⟩
        have SZ : WS.heap.size = wr.heap.size := by rw [hWS, setCells_size]
        rw [← hWS] at ST
        have HN : Hid (OwnC (gw (WS.alloc (.cells #[.int .i64 (g 0), .int .i64 (g 1), .int .i64 (g 2), .int .i64 (g 3), .int .i64 (g 4), .int .i64 (g 5), .int .i64 (g 6), .int .i64 (g 7), .int .i64 (g 8), .int .i64 (g 9), .int .i64 (g 10)] 59)) p1) B w2.heap.size (some ⟨ga, 0, none⟩) L.length c1 (Tm.flat (Tm.chg Tm.dualG L (j + 1))) b1 o.length d1 o ∧ TurnF B w2.heap.size W0 (gw (WS.alloc (.cells #[.int .i64 (g 0), .int .i64 (g 1), .int .i64 (g 2), .int .i64 (g 3), .int .i64 (g 4), .int .i64 (g 5), .int .i64 (g 6), .int .i64 (g 7), .int .i64 (g 8), .int .i64 (g 9), .int .i64 (g 10)] 59)) p1)) := Lib.hid (by
          have hbl2 : Below WS.heap.size WS (gw (WS.alloc (.cells #[.int .i64 (g 0), .int .i64 (g 1), .int .i64 (g 2), .int .i64 (g 3), .int .i64 (g 4), .int .i64 (g 5), .int .i64 (g 6), .int .i64 (g 7), .int .i64 (g 8), .int .i64 (g 9), .int .i64 (g 10)] 59)) p1) := below_gw ((Below.refl _ _).alloc (Nat.le_refl _) _) (by rw [World.size_alloc]; omega) p1
          have oc : OwnC WS B w2.heap.size (some ⟨ga, 0, none⟩) L.length c1 (Tm.flat (Tm.chg Tm.dualG L (j + 1))) b1 o.length d1 o := ⟨⟨ST.out.1, OW.out.g.2⟩, ⟨own_stable OW.out.i.1 fun q hq => ST.out.2.block q (OW.out.i.1.lt q hq).2 (fun e => OW.out.ap q e.symm hq), OW.out.i.2⟩, OW.out.ap, OW.out.lo⟩
          exact ⟨oc.later hbl2 (by omega), (TT.out.grown ST.out.2 (fun q hq => by cases hq; exact ⟨gl1, gl2⟩)).grown (grown_of hbl2 (World.grownBy.refl _ none)) (fun q hq => by cases hq)⟩)
        subst hWS
        exact ⟨⟨j + 1, by omega, by go_num, Lib.hid HN.out.1, Lib.hid HN.out.2⟩, by simp [intOf]; omega⟩
      · obtain rfl : j = L.length := by omega
        rw [Tm.chg_all] at OW
        have T0 := TT
        have OW0 : Hid (OwnC wr B w2.heap.size a1 L.length c1 (Tm.flat (L.map Tm.dualG)) b1 o.length d1 (Tm.chg Tm.otherL o 0)) := Lib.hid (by rw [Tm.chg_zero]; exact OW.out)
        have bt := TT.out.block w.heap.size (by omega) (by omega)
        have t2 : wr.cell? ⟨w.heap.size, 2, none⟩ = some (.slice b o.length d) := by
          rw [World.cell?_of_block (a := ⟨w.heap.size, 2, none⟩) bt, hW0, World.cell?_alloc_lt _ _ _ q0]; exact x2
        clear bt OC0
        go_wp2_with fail
        go_loopw [40] (fun i wr => ∃ j : Nat, j ≤ o.length ∧ i = .int .i64 j ∧ Hid (OwnC wr B w2.heap.size a1 L.length c1 (Tm.flat (L.map Tm.dualG)) b1 o.length d1 (Tm.chg Tm.otherL o j)) ∧ Hid (TurnF B w2.heap.size W0 wr)) (fun i _ => o.length - (intOf i).toNat)
        case atStart => exact ⟨0, by omega, rfl, OW0, T0⟩
        case round =>
          obtain ⟨j, hj, rfl, OV, TV⟩ := hrel
          have hbv : Below w.heap.size w wr := TV.out.below BW0.out (by omega) (by omega)
          have hsv : w2.heap.size + 1 ≤ wr.heap.size := by rw [← SB]; exact TV.out.size
          by_cases hlt2 : j < o.length
          · obtain ⟨-, -, -, y⟩ := H.out.2.below hbv
            rcases y with h0 | ⟨bb2, oo2, rfl, hbl2, hc2⟩
            · omega
            have cj := hc2 j hlt2
            obtain ⟨A, eA, lA⟩ := OL.out j hlt2
            obtain ⟨x, hx⟩ : ∃ x, x = o.getD j 0 := ⟨_, rfl⟩
            rw [← hx] at cj eA
            have SO := Lib.hid (fun w => sOther x w (by omega) (by omega))
            have XX := Lib.hid hx
            clear hx eA lA hc2
            have oi := OV.out.i.1
            rw [Tm.chg_length] at oi
            obtain ⟨gb, cc, e⟩ := own_shapeS oi (by omega)
            cases e
            have bt := TV.out.block w2.heap.size (by omega) (by omega)
            have t3 : wr.cell? ⟨w2.heap.size, 2, none⟩ = some (.slice (some ⟨gb, 0, none⟩) o.length d1) := (World.cell?_of_block (a := ⟨w2.heap.size, 2, none⟩) bt).trans BX0.out.2.2.2
            obtain ⟨gl1, gl2⟩ := OV.out.i.lt gb rfl
            have ck := own_get oi hlt2
            have fz := oi.frozenAt
            have EC : ((Tm.chg Tm.otherL o j).map (Value.int .i64)).set j (.int .i64 (Tm.otherL x)) = (Tm.chg Tm.otherL o (j + 1)).map (Value.int .i64) := by rw [Tm.chg_succ _ _ 0 hlt2, ← XX.out, List.map_set]
            have st := oi.stored j (.int .i64 (Tm.otherL x))
            rw [EC] at st
            have ST := Lib.hid st
            have gne : gb ≠ w2.heap.size := by omega
            have gne2 : w2.heap.size ≠ gb := by omega
            have HN : Hid (OwnC (wr.setCell ⟨gb, j, none⟩ (.int .i64 (Tm.otherL x))) B w2.heap.size a1 L.length c1 (Tm.flat (L.map Tm.dualG)) (some ⟨gb, 0, none⟩) o.length d1 (Tm.chg Tm.otherL o (j + 1)) ∧ TurnF B w2.heap.size W0 (wr.setCell ⟨gb, j, none⟩ (.int .i64 (Tm.otherL x)))) := Lib.hid (by
              refine ⟨⟨⟨own_stable OV.out.g.1 fun q hq => ST.out.2.block q (OV.out.g.1.lt q hq).2 (fun e => OV.out.ap q hq e.symm), OV.out.g.2⟩, ⟨?_, OV.out.i.2⟩, OV.out.ap, Tm.chg_length _ _ _⟩, TV.out.grown ST.out.2 (fun q hq => by cases hq; exact ⟨gl1, gl2⟩)⟩
              rw [Tm.chg_length]; exact ST.out.1)
            clear bt oi EC st ST
            go_wp2_with fail
            go_region_held3 (fun W => W.cell? ⟨w2.heap.size, 2, none⟩ = some (.slice (some ⟨gb, 0, none⟩) o.length d1)) (go_simp) ((first | (go_at_call 45; (with_reducible refine (SO.out _).mono ?_); rintro e w3 ⟨rfl, rfl⟩)))
            rename_i hHeld
            clear hHeld
            go_wp2_with fail
            exact ⟨⟨j + 1, by omega, by go_num, Lib.hid (HN.out.1.later (Below.drew (Below.refl _ _)) (by rw [World.size_setCell]; omega)), Lib.hid (HN.out.2.grown (grown_of (Below.drew (Below.refl _ _)) (World.grownBy.refl _ none)) (fun q hq => by cases hq))⟩, by simp [intOf]; omega⟩
          · obtain rfl : j = o.length := by omega
            rw [Tm.chg_all] at OV
            have bt := TV.out.block w2.heap.size (by omega) (by omega)
            obtain ⟨-, y0, y1, y2⟩ := BX0.out.same TV.out.size bt
            have br := TV.out.block (w.heap.size + 1) (by omega) (by omega)
            have RR : ∀ i, i < 3 → wr.frozen? ⟨w.heap.size + 1, i, none⟩ = false ∧ ∃ u, wr.cell? ⟨w.heap.size + 1, i, none⟩ = some u := fun i hi => by
              obtain ⟨f, u, hu⟩ := R0.out i hi
              refine ⟨?_, u, ?_⟩
              · rw [World.frozen?_of_block (a := ⟨w.heap.size + 1, i, none⟩) br, hW0]; first | exact f | (rw [World.frozen?_alloc_lt _ _ _ q1]; exact f) | (go_simp)
              · rw [World.cell?_of_block (a := ⟨w.heap.size + 1, i, none⟩) br, hW0, World.cell?_alloc_lt _ _ _ q1]; exact hu
            obtain ⟨f0, u0, r0⟩ := RR 0 (by omega)
            obtain ⟨f1, u1, r1⟩ := RR 1 (by omega)
            obtain ⟨f2, u2, r2⟩ := RR 2 (by omega)
            obtain ⟨m0, m1, m2⟩ := three_cells r0 r1 r2 (.int .i64 k) (.slice a1 L.length c1) (.slice b1 o.length d1)
            clear RR br bt
            go_wp2_with fail
            refine bodyPost_ret (v := circV k a1 L.length c1 b1 o.length d1) (by simp [results, Try.results16, go_sem, m0, m1, m2]) rfl ?_
            have ll : (L.map Tm.dualG).length = L.length := List.length_map ..
            have lo : (o.map Tm.otherL).length = o.length := List.length_map ..
            have HO2 : Hid (OwnC (((wr.setCell ⟨w.heap.size + 1, 0, none⟩ (.int .i64 k)).setCell ⟨w.heap.size + 1, 1, none⟩ (.slice a1 L.length c1)).setCell ⟨w.heap.size + 1, 2, none⟩ (.slice b1 o.length d1)) B w2.heap.size a1 L.length c1 (Tm.flat (L.map Tm.dualG)) b1 o.length d1 (o.map Tm.otherL)) := Lib.hid (OV.out.stay ⟨by simp only [World.size_setCell]; exact Nat.le_refl _, fun q h1 h2 => (heap_setCell_other _ ⟨w.heap.size + 1, 2, none⟩ q _ (by simp; omega)).trans ((heap_setCell_other _ ⟨w.heap.size + 1, 1, none⟩ q _ (by simp; omega)).trans (heap_setCell_other _ ⟨w.heap.size + 1, 0, none⟩ q _ (by simp; omega)))⟩)
            have hbF : Below w.heap.size w (((wr.setCell ⟨w.heap.size + 1, 0, none⟩ (.int .i64 k)).setCell ⟨w.heap.size + 1, 1, none⟩ (.slice a1 L.length c1)).setCell ⟨w.heap.size + 1, 2, none⟩ (.slice b1 o.length d1)) := by
              have g := grown_set (grown_set (grown_set (grown_of hbv (World.grownBy.refl wr none)) (w.heap.size + 1) 0 (.int .i64 k) (by omega)) (w.heap.size + 1) 1 (.slice a1 L.length c1) (by omega)) (w.heap.size + 1) 2 (.slice b1 o.length d1) (by omega)
              exact (Below.refl _ _).grown g (Nat.le_refl _) (fun q hq => by cases hq)
            have HF := Lib.hid (HO2.out.wide (B' := w.heap.size) (E' := (((wr.setCell ⟨w.heap.size + 1, 0, none⟩ (.int .i64 k)).setCell ⟨w.heap.size + 1, 1, none⟩ (.slice a1 L.length c1)).setCell ⟨w.heap.size + 1, 2, none⟩ (.slice b1 o.length d1)).heap.size) (by omega) (by simp only [World.size_setCell]; omega))
            refine ⟨a1, c1, b1, d1, ?_, ?_, hbF, ?_, ?_⟩
            · simp only [ll, lo]
            · simp only [ll, lo]; exact HF.out
            · simp only [ll]; omega
            · simp only [lo]; omega
end Go.Proofs.Ytjbmgppgkgacpaa

/- What the laws draw: operations and programs. -/
import Derived.Test.YtfnhoiomdjmjhaaDoorMDg
import Derived.Test.YtfnhoiomdjmjhaaDoorMOps
import Derived.Test.YtfnhoiomdjmjhaaDoorGBox
import Derived.Test.YtfnhoiomdjmjhaaDoorMMath
import Derived.Maps.AppendAt
namespace Go.Proofs.YtfnhoiomdjmjhaaDoor
set_option maxRecDepth 20000
open Go.RowKit
/-- A block of four cells. -/
def Blk4 (w : World) (p : Nat) (v0 v1 v2 v3 : Value) (t : TypeId) : Prop := w.heap[p]? = some (.cells #[v0, v1, v2, v3] t (0, 0))
theorem Blk4.lt {w : World} {p : Nat} {v0 v1 v2 v3 : Value} {t : TypeId} (h : Blk4 w p v0 v1 v2 v3 t) : p < w.heap.size := (Array.getElem?_eq_some_iff.1 h).1
theorem Blk4.cells {w : World} {p : Nat} {v0 v1 v2 v3 : Value} {t : TypeId} (h : Blk4 w p v0 v1 v2 v3 t) : w.cell? ⟨p, 0, none⟩ = some v0 ∧ w.cell? ⟨p, 1, none⟩ = some v1 ∧ w.cell? ⟨p, 2, none⟩ = some v2 ∧ w.cell? ⟨p, 3, none⟩ = some v3 := by
  unfold Blk4 at h
  refine ⟨?_, ?_, ?_, ?_⟩ <;> simp [World.cell?, h]
theorem Blk4.frozen {w : World} {p : Nat} {v0 v1 v2 v3 : Value} {t : TypeId} (h : Blk4 w p v0 v1 v2 v3 t) (o : Nat) : w.frozen? ⟨p, o, none⟩ = false := by
  unfold Blk4 at h
  simp [World.frozen?, h]
theorem Blk4.keep {w w' : World} {p : Nat} {v0 v1 v2 v3 : Value} {t : TypeId} (h : Blk4 w p v0 v1 v2 v3 t) (hb : w'.heap[p]? = w.heap[p]?) : Blk4 w' p v0 v1 v2 v3 t := by
  unfold Blk4 at h ⊢
  rw [hb]; exact h
theorem blk4_new (w : World) (v0 v1 v2 v3 : Value) (t : TypeId) : Blk4 (w.alloc (.cells #[v0, v1, v2, v3] t)) w.heap.size v0 v1 v2 v3 t := heap_alloc_new w _
theorem Blk4.set {w : World} {p : Nat} {v0 v1 v2 v3 : Value} {t : TypeId} (h : Blk4 w p v0 v1 v2 v3 t) (u0 u1 u2 u3 : Value) : Blk4 ((((w.setCell ⟨p, 0, none⟩ u0).setCell ⟨p, 1, none⟩ u1).setCell ⟨p, 2, none⟩ u2).setCell ⟨p, 3, none⟩ u3) p u0 u1 u2 u3 t := by
  have h0 : Blk4 (w.setCell ⟨p, 0, none⟩ u0) p u0 v1 v2 v3 t := by have := heap_set_same h 0 u0; simpa [Blk4] using this
  have h1 : Blk4 ((w.setCell ⟨p, 0, none⟩ u0).setCell ⟨p, 1, none⟩ u1) p u0 u1 v2 v3 t := by have := heap_set_same h0 1 u1; simpa [Blk4] using this
  have h2 : Blk4 (((w.setCell ⟨p, 0, none⟩ u0).setCell ⟨p, 1, none⟩ u1).setCell ⟨p, 2, none⟩ u2) p u0 u1 u2 v3 t := by have := heap_set_same h1 2 u2; simpa [Blk4] using this
  have := heap_set_same h2 3 u3
  simpa [Blk4] using this
theorem grown_set {w W : World} {p r o : Nat} {v : Value} (h : w.grownBy W (some p)) (hr : w.heap.size ≤ r) : w.grownBy (W.setCell ⟨r, o, none⟩ v) (some p) :=
  ⟨h.os, h.tape, h.output, by have := h.size; simp; omega, fun k hk hne => (heap_setCell_other W ⟨r, o, none⟩ k v (fun e => by have e : k = r := e; omega)).trans (h.block k hk hne)⟩
theorem Cur.set {w : World} {q p r o : Nat} {a : Option Addr} {n cap : Nat} {v : Value} (h : Cur w q p a n cap) (hr : p < r) : Cur (w.setCell ⟨r, o, none⟩ v) q p a n cap := by
  have qp := h.qp
  exact h.of_blocks (heap_setCell_other w ⟨r, o, none⟩ p v (fun e => by have e : p = r := e; omega)) (fun b hb => heap_setCell_other w ⟨r, o, none⟩ b v (fun e => by have e : b = r := e; omega))
namespace Tm
def opF4 (c a b d : Int) : Nat → Int := fun j => if j = 0 then c else if j = 1 then a else if j = 2 then b else d
end Tm
/-- Some valid operation is drawn. -/
def DrawnO (q p : Nat) (a : Option Addr) (m cap : Nat) (n : Int) (w : World) (e : Ending) (w' : World) : Prop :=
  ∃ x : Nat → Int, e = .returned (opV x) ∧ Tm.opOk n x = true ∧ Cur w' q p a m cap ∧ w.grownBy w' (some p)
theorem draw_end {w W WF : World} {q p : Nat} {a : Option Addr} {m cap : Nat} {v0 v1 v2 v3 u0 u1 u2 u3 : Value} {t : TypeId} (hc : Cur W q p a m cap) (hg : w.grownBy W (some p)) (hb : Blk4 W w.heap.size v0 v1 v2 v3 t) (hp : p < w.heap.size)
    (hW : WF = (((W.setCell ⟨w.heap.size, 0, none⟩ u0).setCell ⟨w.heap.size, 1, none⟩ u1).setCell ⟨w.heap.size, 2, none⟩ u2).setCell ⟨w.heap.size, 3, none⟩ u3) :
    Blk4 WF w.heap.size u0 u1 u2 u3 t ∧ Cur WF q p a m cap ∧ w.grownBy WF (some p) := by
  subst hW
  exact ⟨hb.set u0 u1 u2 u3, (((hc.set hp).set hp).set hp).set hp, grown_set (grown_set (grown_set (grown_set hg (Nat.le_refl _)) (Nat.le_refl _)) (Nat.le_refl _)) (Nat.le_refl _)⟩
set_option maxHeartbeats 2000000 in
theorem sDraw7 (q p : Nat) (a : Option Addr) (m cap : Nat) (n : Int) (w : World) (hc : Cur w q p a m cap) (n1 : 1 ≤ n) (n2 : n ≤ 80) : Calls Tryd.prog 36 #[.pointer (some ⟨p, 0, none⟩), .int .i64 n] w (DrawnO q p a m cap n w) := by
  have hpl := hc.lt
  have nw : IntKind.i64.wrap (n + 1) = n + 1 := IntWalk.i64_in _ (by omega)
  obtain ⟨A, hA⟩ : ∃ A, A = w.alloc (.cells #[.int .i64 0, .int .i64 0, .int .i64 0, .int .i64 0] 35) := ⟨_, rfl⟩
  have sA : A.heap.size = w.heap.size + 1 := by rw [hA]; simp
  have BA := Lib.hid (show Blk4 A w.heap.size (.int .i64 0) (.int .i64 0) (.int .i64 0) (.int .i64 0) 35 by rw [hA]; exact blk4_new _ _ _ _ _ _)
  have GA := Lib.hid (show w.grownBy A (some p) by rw [hA]; exact grown_alloc (grown_refl _ _) _)
  have CA := Lib.hid (show Cur A q p a m cap by rw [hA]; exact hc.below ((Below.refl _ _).alloc (Nat.le_refl _) _))
  clear hc
  go_enter Tryd.func36, Tryd.ntmps36
  go_wp2_with fail
  rw [← hA]
  clear hA
  refine (sBelow q p a m cap 9 _ CA.out (by omega) (by omega)).mono ?_
  rintro e w1 ⟨j, rfl, j0, j1, hc1, ht1⟩
  have C1 := Lib.hid hc1
  have G1 := Lib.hid (grown_trans GA.out ht1.grown)
  have B1 := Lib.hid (BA.out.keep (ht1.grown.block _ BA.out.lt (by simp; omega)))
  have s1 := ht1.same
  clear hc1 ht1 BA GA CA
  have cc : j = 0 ∨ j = 1 ∨ j = 2 ∨ j = 3 ∨ j = 4 ∨ j = 5 ∨ j = 6 ∨ j = 7 ∨ j = 8 := by omega
  have l1 := B1.out.lt
  have gz := G1.out.size
  rcases cc with rfl | rfl | rfl | rfl | rfl | rfl | rfl | rfl | rfl
  · skip
    go_wp2_with fail
    refine (sPickNew q p a m cap [0, 1, -1, 5, -13, 13, 14, 9841, -9841, 364] _ w1 _ (by omega) _ rfl rfl C1.out (by decide) (by decide)).mono ?_
    rintro e w2 ⟨x, rfl, hx, hc2, hg2⟩
    have C2 := Lib.hid hc2
    have G2 := Lib.hid (grown_trans G1.out hg2)
    have B2 := Lib.hid (B1.out.keep (hg2.block _ B1.out.lt (by simp; omega)))
    have s2 := hg2.size
    clear hc2 hg2
    simp only [List.mem_cons, List.mem_nil_iff, or_false] at hx
    obtain ⟨z0, z1, z2, z3⟩ := B2.out.cells
    have fz := B2.out.frozen
    have lt2 := B2.out.lt
    go_wp2
    obtain ⟨WF, hWF⟩ : ∃ WF, WF = (((w2.setCell ⟨w.heap.size, 0, none⟩ (.int .i64 (1))).setCell ⟨w.heap.size, 1, none⟩ (.int .i64 (x))).setCell ⟨w.heap.size, 2, none⟩ (.int .i64 (0))).setCell ⟨w.heap.size, 3, none⟩ (.int .i64 (0)) := ⟨_, rfl⟩
    rw [← hWF]
    obtain ⟨b4, c4, g4⟩ := draw_end C2.out G2.out B2.out hpl hWF
    obtain ⟨f0, f1, f2, f3⟩ := b4.cells
    refine bodyPost_ret (v := opV (Tm.opF4 (1) (x) (0) (0))) (by simp [results, Tryd.results36, go_sem, f0, f1, f2, f3]; try exact ⟨rfl, rfl, rfl, rfl⟩) rfl ?_
    exact ⟨_, rfl, (Tm.opOk_iff _ _).2 (by simp [Tm.opF4]; omega), c4, g4⟩
  · skip
    go_wp2_with fail
    refine (sPickNew q p a m cap [0, 1, -1, 5, -13, 13, 14, 9841, -9841, 364] _ w1 _ (by omega) _ rfl rfl C1.out (by decide) (by decide)).mono ?_
    rintro e w2 ⟨x, rfl, hx, hc2, hg2⟩
    have C2 := Lib.hid hc2
    have G2 := Lib.hid (grown_trans G1.out hg2)
    have B2 := Lib.hid (B1.out.keep (hg2.block _ B1.out.lt (by simp; omega)))
    have s2 := hg2.size
    clear hc2 hg2
    simp only [List.mem_cons, List.mem_nil_iff, or_false] at hx
    obtain ⟨z0, z1, z2, z3⟩ := B2.out.cells
    have fz := B2.out.frozen
    have lt2 := B2.out.lt
    go_wp2
    obtain ⟨WF, hWF⟩ : ∃ WF, WF = (((w2.setCell ⟨w.heap.size, 0, none⟩ (.int .i64 (1))).setCell ⟨w.heap.size, 1, none⟩ (.int .i64 (x))).setCell ⟨w.heap.size, 2, none⟩ (.int .i64 (0))).setCell ⟨w.heap.size, 3, none⟩ (.int .i64 (0)) := ⟨_, rfl⟩
    rw [← hWF]
    obtain ⟨b4, c4, g4⟩ := draw_end C2.out G2.out B2.out hpl hWF
    obtain ⟨f0, f1, f2, f3⟩ := b4.cells
    refine bodyPost_ret (v := opV (Tm.opF4 (1) (x) (0) (0))) (by simp [results, Tryd.results36, go_sem, f0, f1, f2, f3]; try exact ⟨rfl, rfl, rfl, rfl⟩) rfl ?_
    exact ⟨_, rfl, (Tm.opOk_iff _ _).2 (by simp [Tm.opF4]; omega), c4, g4⟩
  · skip
    go_wp2_with fail
    refine (sPickNew q p a m cap [0, 1, -1, 5, -13, 13, 14, 9841, -9841, 364] _ w1 _ (by omega) _ rfl rfl C1.out (by decide) (by decide)).mono ?_
    rintro e w2 ⟨x, rfl, hx, hc2, hg2⟩
    have C2 := Lib.hid hc2
    have G2 := Lib.hid (grown_trans G1.out hg2)
    have B2 := Lib.hid (B1.out.keep (hg2.block _ B1.out.lt (by simp; omega)))
    have s2 := hg2.size
    clear hc2 hg2
    simp only [List.mem_cons, List.mem_nil_iff, or_false] at hx
    obtain ⟨z0, z1, z2, z3⟩ := B2.out.cells
    have fz := B2.out.frozen
    have lt2 := B2.out.lt
    go_wp2
    obtain ⟨WF, hWF⟩ : ∃ WF, WF = (((w2.setCell ⟨w.heap.size, 0, none⟩ (.int .i64 (1))).setCell ⟨w.heap.size, 1, none⟩ (.int .i64 (x))).setCell ⟨w.heap.size, 2, none⟩ (.int .i64 (0))).setCell ⟨w.heap.size, 3, none⟩ (.int .i64 (0)) := ⟨_, rfl⟩
    rw [← hWF]
    obtain ⟨b4, c4, g4⟩ := draw_end C2.out G2.out B2.out hpl hWF
    obtain ⟨f0, f1, f2, f3⟩ := b4.cells
    refine bodyPost_ret (v := opV (Tm.opF4 (1) (x) (0) (0))) (by simp [results, Tryd.results36, go_sem, f0, f1, f2, f3]; try exact ⟨rfl, rfl, rfl, rfl⟩) rfl ?_
    exact ⟨_, rfl, (Tm.opOk_iff _ _).2 (by simp [Tm.opF4]; omega), c4, g4⟩
  · skip
    go_wp2_with fail
    refine (sBelow q p a m cap (19) _ C1.out (by omega) (by omega)).mono ?_
    rintro e w2 ⟨y, rfl, y0, y1, hc2, ht2⟩
    have hg2 := ht2.grown
    clear ht2
    have C2 := Lib.hid hc2
    have G2 := Lib.hid (grown_trans G1.out hg2)
    have B2 := Lib.hid (B1.out.keep (hg2.block _ B1.out.lt (by simp; omega)))
    have s2 := hg2.size
    clear hc2 hg2
    have ew : IntKind.i64.wrap (y - 9) = y - 9 := IntWalk.i64_in _ (by omega)
    obtain ⟨z0, z1, z2, z3⟩ := B2.out.cells
    have fz := B2.out.frozen
    have lt2 := B2.out.lt
    go_wp2
    obtain ⟨WF, hWF⟩ : ∃ WF, WF = (((w2.setCell ⟨w.heap.size, 0, none⟩ (.int .i64 (10))).setCell ⟨w.heap.size, 1, none⟩ (.int .i64 (y - 9))).setCell ⟨w.heap.size, 2, none⟩ (.int .i64 (0))).setCell ⟨w.heap.size, 3, none⟩ (.int .i64 (0)) := ⟨_, rfl⟩
    rw [← hWF]
    obtain ⟨b4, c4, g4⟩ := draw_end C2.out G2.out B2.out hpl hWF
    obtain ⟨f0, f1, f2, f3⟩ := b4.cells
    refine bodyPost_ret (v := opV (Tm.opF4 (10) (y - 9) (0) (0))) (by simp [results, Tryd.results36, go_sem, f0, f1, f2, f3]; try exact ⟨rfl, rfl, rfl, rfl⟩) rfl ?_
    exact ⟨_, rfl, (Tm.opOk_iff _ _).2 (by simp [Tm.opF4]; omega), c4, g4⟩
  · skip
    go_wp2_with fail
    refine (sBelow q p a m cap (n + 1) _ C1.out (by omega) (by omega)).mono ?_
    rintro e w2 ⟨x, rfl, x0, x1, hc2, ht2⟩
    have hg2 := ht2.grown
    clear ht2
    have C2 := Lib.hid hc2
    have G2 := Lib.hid (grown_trans G1.out hg2)
    have B2 := Lib.hid (B1.out.keep (hg2.block _ B1.out.lt (by simp; omega)))
    have s2 := hg2.size
    clear hc2 hg2
    go_wp2_with fail
    refine (sBelow q p a m cap (n + 1) _ C2.out (by omega) (by omega)).mono ?_
    rintro e w3 ⟨y, rfl, y0, y1, hc3, ht3⟩
    have hg3 := ht3.grown
    clear ht3
    have C3 := Lib.hid hc3
    have G3 := Lib.hid (grown_trans G2.out hg3)
    have B3 := Lib.hid (B2.out.keep (hg3.block _ B2.out.lt (by simp; omega)))
    have s3 := hg3.size
    clear hc3 hg3
    go_wp2_with fail
    refine (sBelow q p a m cap (n + 1) _ C3.out (by omega) (by omega)).mono ?_
    rintro e w4 ⟨z, rfl, z0, z1, hc4, ht4⟩
    have hg4 := ht4.grown
    clear ht4
    have C4 := Lib.hid hc4
    have G4 := Lib.hid (grown_trans G3.out hg4)
    have B4 := Lib.hid (B3.out.keep (hg4.block _ B3.out.lt (by simp; omega)))
    have s4 := hg4.size
    clear hc4 hg4
    obtain ⟨z0, z1, z2, z3⟩ := B4.out.cells
    have fz := B4.out.frozen
    have lt2 := B4.out.lt
    go_wp2
    obtain ⟨WF, hWF⟩ : ∃ WF, WF = (((w4.setCell ⟨w.heap.size, 0, none⟩ (.int .i64 (14))).setCell ⟨w.heap.size, 1, none⟩ (.int .i64 (x))).setCell ⟨w.heap.size, 2, none⟩ (.int .i64 (y))).setCell ⟨w.heap.size, 3, none⟩ (.int .i64 (z)) := ⟨_, rfl⟩
    rw [← hWF]
    obtain ⟨b4, c4, g4⟩ := draw_end C4.out G4.out B4.out hpl hWF
    obtain ⟨f0, f1, f2, f3⟩ := b4.cells
    refine bodyPost_ret (v := opV (Tm.opF4 (14) (x) (y) (z))) (by simp [results, Tryd.results36, go_sem, f0, f1, f2, f3]; try exact ⟨rfl, rfl, rfl, rfl⟩) rfl ?_
    exact ⟨_, rfl, (Tm.opOk_iff _ _).2 (by simp [Tm.opF4]; omega), c4, g4⟩
  · skip
    go_wp2_with fail
    refine (sOnce q p a m cap 3 _ C1.out (by omega) (by omega)).mono ?_
    rintro e w2 ⟨b, rfl, hc2, ht2⟩
    have hg2 := ht2.grown
    clear ht2
    have C2 := Lib.hid hc2
    have G2 := Lib.hid (grown_trans G1.out hg2)
    have B2 := Lib.hid (B1.out.keep (hg2.block _ B1.out.lt (by simp; omega)))
    have s2 := hg2.size
    clear hc2 hg2
    cases b
    · skip
      go_wp2_with fail
      refine (sPickNew q p a m cap [2, 3, 4, 5, 6, 7, 7, 8, 9, 11, 12, 15, 2, 4] _ w2 _ (by omega) _ rfl rfl C2.out (by decide) (by decide)).mono ?_
      rintro e w3 ⟨x, rfl, hx, hc3, hg3⟩
      have C3 := Lib.hid hc3
      have G3 := Lib.hid (grown_trans G2.out hg3)
      have B3 := Lib.hid (B2.out.keep (hg3.block _ B2.out.lt (by simp; omega)))
      have s3 := hg3.size
      clear hc3 hg3
      simp only [List.mem_cons, List.mem_nil_iff, or_false] at hx
      obtain ⟨z0, z1, z2, z3⟩ := B3.out.cells
      have fz := B3.out.frozen
      have lt2 := B3.out.lt
      go_wp2
      obtain ⟨WF, hWF⟩ : ∃ WF, WF = (((w3.setCell ⟨w.heap.size, 0, none⟩ (.int .i64 (x))).setCell ⟨w.heap.size, 1, none⟩ (.int .i64 (0))).setCell ⟨w.heap.size, 2, none⟩ (.int .i64 (0))).setCell ⟨w.heap.size, 3, none⟩ (.int .i64 (0)) := ⟨_, rfl⟩
      rw [← hWF]
      obtain ⟨b4, c4, g4⟩ := draw_end C3.out G3.out B3.out hpl hWF
      obtain ⟨f0, f1, f2, f3⟩ := b4.cells
      refine bodyPost_ret (v := opV (Tm.opF4 (x) (0) (0) (0))) (by simp [results, Tryd.results36, go_sem, f0, f1, f2, f3]; try exact ⟨rfl, rfl, rfl, rfl⟩) rfl ?_
      exact ⟨_, rfl, (Tm.opOk_iff _ _).2 (by simp [Tm.opF4]; omega), c4, g4⟩
    · skip
      go_wp2_with fail
      refine (sBelow q p a m cap (n + 1) _ C2.out (by omega) (by omega)).mono ?_
      rintro e w3 ⟨y, rfl, y0, y1, hc3, ht3⟩
      have hg3 := ht3.grown
      clear ht3
      have C3 := Lib.hid hc3
      have G3 := Lib.hid (grown_trans G2.out hg3)
      have B3 := Lib.hid (B2.out.keep (hg3.block _ B2.out.lt (by simp; omega)))
      have s3 := hg3.size
      clear hc3 hg3
      obtain ⟨z0, z1, z2, z3⟩ := B3.out.cells
      have fz := B3.out.frozen
      have lt2 := B3.out.lt
      go_wp2
      obtain ⟨WF, hWF⟩ : ∃ WF, WF = (((w3.setCell ⟨w.heap.size, 0, none⟩ (.int .i64 (13))).setCell ⟨w.heap.size, 1, none⟩ (.int .i64 (y))).setCell ⟨w.heap.size, 2, none⟩ (.int .i64 (0))).setCell ⟨w.heap.size, 3, none⟩ (.int .i64 (0)) := ⟨_, rfl⟩
      rw [← hWF]
      obtain ⟨b4, c4, g4⟩ := draw_end C3.out G3.out B3.out hpl hWF
      obtain ⟨f0, f1, f2, f3⟩ := b4.cells
      refine bodyPost_ret (v := opV (Tm.opF4 (13) (y) (0) (0))) (by simp [results, Tryd.results36, go_sem, f0, f1, f2, f3]; try exact ⟨rfl, rfl, rfl, rfl⟩) rfl ?_
      exact ⟨_, rfl, (Tm.opOk_iff _ _).2 (by simp [Tm.opF4]; omega), c4, g4⟩
  · skip
    go_wp2_with fail
    refine (sPickNew q p a m cap [2, 3, 4, 5, 6, 7, 7, 8, 9, 11, 12, 15, 2, 4] _ w1 _ (by omega) _ rfl rfl C1.out (by decide) (by decide)).mono ?_
    rintro e w2 ⟨x, rfl, hx, hc2, hg2⟩
    have C2 := Lib.hid hc2
    have G2 := Lib.hid (grown_trans G1.out hg2)
    have B2 := Lib.hid (B1.out.keep (hg2.block _ B1.out.lt (by simp; omega)))
    have s2 := hg2.size
    clear hc2 hg2
    simp only [List.mem_cons, List.mem_nil_iff, or_false] at hx
    obtain ⟨z0, z1, z2, z3⟩ := B2.out.cells
    have fz := B2.out.frozen
    have lt2 := B2.out.lt
    go_wp2
    obtain ⟨WF, hWF⟩ : ∃ WF, WF = (((w2.setCell ⟨w.heap.size, 0, none⟩ (.int .i64 (x))).setCell ⟨w.heap.size, 1, none⟩ (.int .i64 (0))).setCell ⟨w.heap.size, 2, none⟩ (.int .i64 (0))).setCell ⟨w.heap.size, 3, none⟩ (.int .i64 (0)) := ⟨_, rfl⟩
    rw [← hWF]
    obtain ⟨b4, c4, g4⟩ := draw_end C2.out G2.out B2.out hpl hWF
    obtain ⟨f0, f1, f2, f3⟩ := b4.cells
    refine bodyPost_ret (v := opV (Tm.opF4 (x) (0) (0) (0))) (by simp [results, Tryd.results36, go_sem, f0, f1, f2, f3]; try exact ⟨rfl, rfl, rfl, rfl⟩) rfl ?_
    exact ⟨_, rfl, (Tm.opOk_iff _ _).2 (by simp [Tm.opF4]; omega), c4, g4⟩
  · skip
    go_wp2_with fail
    refine (sPickNew q p a m cap [2, 3, 4, 5, 6, 7, 7, 8, 9, 11, 12, 15, 2, 4] _ w1 _ (by omega) _ rfl rfl C1.out (by decide) (by decide)).mono ?_
    rintro e w2 ⟨x, rfl, hx, hc2, hg2⟩
    have C2 := Lib.hid hc2
    have G2 := Lib.hid (grown_trans G1.out hg2)
    have B2 := Lib.hid (B1.out.keep (hg2.block _ B1.out.lt (by simp; omega)))
    have s2 := hg2.size
    clear hc2 hg2
    simp only [List.mem_cons, List.mem_nil_iff, or_false] at hx
    obtain ⟨z0, z1, z2, z3⟩ := B2.out.cells
    have fz := B2.out.frozen
    have lt2 := B2.out.lt
    go_wp2
    obtain ⟨WF, hWF⟩ : ∃ WF, WF = (((w2.setCell ⟨w.heap.size, 0, none⟩ (.int .i64 (x))).setCell ⟨w.heap.size, 1, none⟩ (.int .i64 (0))).setCell ⟨w.heap.size, 2, none⟩ (.int .i64 (0))).setCell ⟨w.heap.size, 3, none⟩ (.int .i64 (0)) := ⟨_, rfl⟩
    rw [← hWF]
    obtain ⟨b4, c4, g4⟩ := draw_end C2.out G2.out B2.out hpl hWF
    obtain ⟨f0, f1, f2, f3⟩ := b4.cells
    refine bodyPost_ret (v := opV (Tm.opF4 (x) (0) (0) (0))) (by simp [results, Tryd.results36, go_sem, f0, f1, f2, f3]; try exact ⟨rfl, rfl, rfl, rfl⟩) rfl ?_
    exact ⟨_, rfl, (Tm.opOk_iff _ _).2 (by simp [Tm.opF4]; omega), c4, g4⟩
  · skip
    go_wp2_with fail
    refine (sPickNew q p a m cap [2, 3, 4, 5, 6, 7, 7, 8, 9, 11, 12, 15, 2, 4] _ w1 _ (by omega) _ rfl rfl C1.out (by decide) (by decide)).mono ?_
    rintro e w2 ⟨x, rfl, hx, hc2, hg2⟩
    have C2 := Lib.hid hc2
    have G2 := Lib.hid (grown_trans G1.out hg2)
    have B2 := Lib.hid (B1.out.keep (hg2.block _ B1.out.lt (by simp; omega)))
    have s2 := hg2.size
    clear hc2 hg2
    simp only [List.mem_cons, List.mem_nil_iff, or_false] at hx
    obtain ⟨z0, z1, z2, z3⟩ := B2.out.cells
    have fz := B2.out.frozen
    have lt2 := B2.out.lt
    go_wp2
    obtain ⟨WF, hWF⟩ : ∃ WF, WF = (((w2.setCell ⟨w.heap.size, 0, none⟩ (.int .i64 (x))).setCell ⟨w.heap.size, 1, none⟩ (.int .i64 (0))).setCell ⟨w.heap.size, 2, none⟩ (.int .i64 (0))).setCell ⟨w.heap.size, 3, none⟩ (.int .i64 (0)) := ⟨_, rfl⟩
    rw [← hWF]
    obtain ⟨b4, c4, g4⟩ := draw_end C2.out G2.out B2.out hpl hWF
    obtain ⟨f0, f1, f2, f3⟩ := b4.cells
    refine bodyPost_ret (v := opV (Tm.opF4 (x) (0) (0) (0))) (by simp [results, Tryd.results36, go_sem, f0, f1, f2, f3]; try exact ⟨rfl, rfl, rfl, rfl⟩) rfl ?_
    exact ⟨_, rfl, (Tm.opOk_iff _ _).2 (by simp [Tm.opF4]; omega), c4, g4⟩
end Go.Proofs.YtfnhoiomdjmjhaaDoor

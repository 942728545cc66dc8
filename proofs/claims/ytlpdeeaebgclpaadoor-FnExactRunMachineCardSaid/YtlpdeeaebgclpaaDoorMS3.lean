/- The model's machine: an operation is executed. The model's machine: a copy of a machine, a number shifted. The model's machine: an operation is executed, on: what makes memory. Written by tools/laws/mch.py. -/
import Derived.Test.YtlpdeeaebgclpaaDoorMS2
import Derived.StillTailTactics
import Derived.Test.YtlpdeeaebgclpaaDoorCopy
import Derived.Test.YtlpdeeaebgclpaaDoorWS4
import Derived.Test.YtlpdeeaebgclpaaDoorTail
import Derived.Test.YtlpdeeaebgclpaaDoorStep
namespace Go.Proofs.YtlpdeeaebgclpaaDoor
set_option maxRecDepth 20000
open Go.RowKit
/-- The blocks that were there stay, but those of the two rows. -/
structure Fr (v u : Value) (w w' : World) : Prop where
  block : ∀ q, q < w.heap.size → v.ownBlock ≠ some q → u.ownBlock ≠ some q → w'.heap[q]? = w.heap[q]?
theorem Fr.start {v u : Value} {w A : World} (h : Below w.heap.size w A) : Fr v u w A := ⟨fun q hq _ _ => h.block q hq⟩
theorem Fr.set {v u : Value} {w W : World} {r o : Nat} {x : Value} (h : Fr v u w W) (hr : w.heap.size ≤ r ∨ v.ownBlock = some r ∨ u.ownBlock = some r) : Fr v u w (W.setCell ⟨r, o, none⟩ x) := ⟨fun q hq n1 n2 => by
  rw [← h.block q hq n1 n2]
  refine heap_setCell_other W ⟨r, o, none⟩ q x (fun e => ?_)
  have e : q = r := e
  subst e
  rcases hr with h1 | h1 | h1
  · omega
  · exact n1 h1
  · exact n2 h1⟩
theorem Fr.drew {v u : Value} {w W : World} (h : Fr v u w W) : Fr v u w W.drew := ⟨h.block⟩
theorem Fr.later {v u : Value} {w W W' : World} (h : Fr v u w W) (hb : Below w.heap.size W W') : Fr v u w W' := ⟨fun q hq n1 n2 => (hb.block q hq).trans (h.block q hq n1 n2)⟩
theorem Fr.turn {v u : Value} {w A W : World} {p : Nat} (h : Below w.heap.size w A) (t : TurnV p v A W) (hp : w.heap.size ≤ p) : Fr v u w W := ⟨fun q hq n1 _ => (t.block q (Nat.lt_of_lt_of_le hq h.size) (by omega) n1).trans (h.block q hq)⟩
/-- What lies in memory when an operation is executed: the operation, the machine, the result. -/
theorem change_start {w A : World} {B : Nat} {x0 x1 x2 x3 k : Int} {v u : Value} {s o : List Int} (hA : A = ((w.alloc (.cells #[.int .i64 x0, .int .i64 x1, .int .i64 x2, .int .i64 x3] 47)).alloc (.cells #[.int .i64 k, v, u] 28)).alloc (.cells #[.int .i64 0, .slice none 0 0, .slice none 0 0] 28)) (hB : B ≤ w.heap.size)
    (hv : w.ownsRow B 3 1 v s.length (s.map (Value.int .i64))) (hu : w.ownsRow B 3 1 u o.length (o.map (Value.int .i64))) (ap : Apart v u) :
    A.heap.size = w.heap.size + 3 ∧ Below w.heap.size w A ∧ MSt A B (w.heap.size + 1) k v s u o ∧ Blk3 A (w.heap.size + 1 + 1) (.int .i64 0) (.slice none 0 0) (.slice none 0 0) 28 ∧ A.cell? ⟨w.heap.size, 0, none⟩ = some (.int .i64 x0) ∧ A.cell? ⟨w.heap.size, 1, none⟩ = some (.int .i64 x1) ∧ A.cell? ⟨w.heap.size, 2, none⟩ = some (.int .i64 x2) ∧ A.cell? ⟨w.heap.size, 3, none⟩ = some (.int .i64 x3) := by
  have b1 : Below w.heap.size w A := by rw [hA]; exact ((((Below.refl _ _).alloc (Nat.le_refl _) _).alloc (by simp) _).alloc (by simp; omega) _)
  have h1 := blk3_new (w.alloc (.cells #[.int .i64 x0, .int .i64 x1, .int .i64 x2, .int .i64 x3] 47)) (.int .i64 k) v u 28
  have h2 := blk3_new ((w.alloc (.cells #[.int .i64 x0, .int .i64 x1, .int .i64 x2, .int .i64 x3] 47)).alloc (.cells #[.int .i64 k, v, u] 28)) (.int .i64 0) (.slice none 0 0) (.slice none 0 0) 28
  have h3 := h1.later (w' := A) (by rw [hA]; exact (Below.refl _ _).alloc (Nat.le_refl _) _)
  rw [← hA] at h2
  simp only [World.size_alloc] at h2 h3
  refine ⟨by rw [hA]; simp, b1, ⟨h3, by omega, own_below hv b1, own_below hu b1, ap, fun e => by have := (hv.lt _ e).2; omega, fun e => by have := (hu.lt _ e).2; omega⟩, h2, ?_, ?_, ?_, ?_⟩ <;> (rw [hA, World.cell?_alloc_lt _ _ _ (by simp; omega), World.cell?_alloc_lt _ _ _ (by simp)]; simp)
/-- The result is laid down. -/
theorem change_end {w W1 : World} {B r : Nat} {v u a b c : Value} {s o : List Int} {k : Int} {t : TypeId} (hv : W1.ownsRow B 3 1 v s.length (s.map (Value.int .i64))) (hu : W1.ownsRow B 3 1 u o.length (o.map (Value.int .i64))) (nv : v.ownBlock ≠ some r) (nu : u.ownBlock ≠ some r) (hr : Blk3 W1 r a b c t) (hb : Below B w W1) (hB : B ≤ r) {WF : World} (hW : WF = (((W1.setCell ⟨r, 0, none⟩ (.int .i64 k)).setCell ⟨r, 1, none⟩ v).setCell ⟨r, 2, none⟩ u).drew) :
    (WF.cell? ⟨r, 0, none⟩ = some (.int .i64 k) ∧ WF.cell? ⟨r, 1, none⟩ = some v ∧ WF.cell? ⟨r, 2, none⟩ = some u) ∧ WF.ownsRow B 3 1 v s.length (s.map (Value.int .i64)) ∧ WF.ownsRow B 3 1 u o.length (o.map (Value.int .i64)) ∧ Below B w WF := by
  subst hW
  have h3 : Blk3 (((W1.setCell ⟨r, 0, none⟩ (.int .i64 k)).setCell ⟨r, 1, none⟩ v).setCell ⟨r, 2, none⟩ u).drew r (.int .i64 k) v u t := ((hr.set0 (.int .i64 k)).set1 v).set2 u
  exact ⟨h3.cells, (own_set (own_set (own_set hv r 0 _ nv) r 1 _ nv) r 2 _ nv).drew, (own_set (own_set (own_set hu r 0 _ nu) r 1 _ nu) r 2 _ nu).drew, (((hb.setCell hB _).setCell hB _).setCell hB _).drew⟩
set_option maxHeartbeats 1000000 in
theorem sCh5 (x1 x2 x3 : Int) (B : Nat) (k : Int) (v u : Value) (o t : List Int) (x : Int) (w : World) (hB : B ≤ w.heap.size) (hv : w.ownsRow B 3 1 v (t ++ [x]).length ((t ++ [x]).map (Value.int .i64))) (hu : w.ownsRow B 3 1 u o.length (o.map (Value.int .i64))) (ap : Apart v u) (hn : (t ++ [x]).length ≤ 20) (hx : -9841 ≤ x ∧ x ≤ 9841) (hk : 0 ≤ k ∧ k ≤ 1000) :
    Calls Tryd.prog 22 #[.agg #[.int .i64 5, .int .i64 x1, .int .i64 x2, .int .i64 x3], .agg #[.int .i64 k, v, u]] w fun e w' => ∃ v' u', e = .returned (.agg #[.int .i64 (k + 1), v', u']) ∧ w'.ownsRow B 3 1 v' (t ++ [-x]).length ((t ++ [-x]).map (Value.int .i64)) ∧ w'.ownsRow B 3 1 u' o.length (o.map (Value.int .i64)) ∧ Apart v' u' ∧ Below B w w' ∧ Fr v u w w' := by
  obtain ⟨A, hA⟩ : ∃ A, A = ((w.alloc (.cells #[.int .i64 5, .int .i64 x1, .int .i64 x2, .int .i64 x3] 47)).alloc (.cells #[.int .i64 (k + 1), v, u] 28)).alloc (.cells #[.int .i64 0, .slice none 0 0, .slice none 0 0] 28) := ⟨_, rfl⟩
  obtain ⟨sA, bA, mA, rA, a0, a1, a2, a3⟩ := change_start hA hB hv hu ap
  obtain ⟨g, c, rfl, gp, hc, cx⟩ := stack_one mA
  have gl : g < w.heap.size := by have := (hv.lt g rfl).2; omega
  obtain ⟨ua, uc, rfl⟩ := own_form hu
  have HM := Lib.hid mA
  have HR := Lib.hid rA
  obtain ⟨c0, c1, c2⟩ := mA.blk.cells
  have fz := mA.blk.frozen
  obtain ⟨r0, r1, r2⟩ := rA.cells
  have rz := rA.frozen
  have fg := mA.sv
  rw [List.length_append, List.length_singleton] at fg hn
  have fzg := fg.frozenAt
  have SV := Lib.hid fg
  have BA := Lib.hid bA
  have HU := Lib.hid hu
  obtain ⟨x0, x9⟩ := hx
  obtain ⟨k0, k9⟩ := hk
  have e1 : IntKind.i64.wrap (k + 1) = k + 1 := IntWalk.i64_in _ (by omega)
  have e2 : IntKind.i64.wrap ((t.length : Int) + 1 - 1) = (t.length : Int) := by rw [IntWalk.i64_in _ (by omega)]; omega
  have e3 : IntKind.i64.wrap (t.length : Int) = (t.length : Int) := IntWalk.i64_in _ (by omega)
  have t0 : (0 : Int) ≤ (t.length : Int) := by omega
  have t1 : (t.length : Int) < (t.length : Int) + 1 := by omega
  have lp : w.heap.size + 1 < A.heap.size := by omega
  have lr : w.heap.size + 1 + 1 < A.heap.size := by omega
  have lg : g < A.heap.size := by omega
  have gr0 : g ≠ w.heap.size + 1 + 1 := by omega
  have gr1 : w.heap.size + 1 + 1 ≠ g := by omega
  have gn0 : g ≠ w.heap.size + 1 := gp
  have gn1 : w.heap.size + 1 ≠ g := fun e => gp e.symm
  clear mA rA fg hv hu bA
  go_enter Tryd.func22, Tryd.ntmps22
  go_wp2_with fail
  rw [← hA]
  clear hA
  have d1 : ({ A with drawn := A.drawn + 1 } : World).cell? ⟨w.heap.size + 1, 1, none⟩ = some (.slice (some ⟨g, 0, none⟩) (t.length + 1) c) := c1
  have dx : ({ A with drawn := A.drawn + 1 } : World).cell? ⟨g, t.length, none⟩ = some (.int .i64 x) := cx
  go_still_tail 12, (by kernel_rfl)
  rw [show ({ A with drawn := A.drawn + 1 } : World) = A.drew from rfl]
  go_wp2
  obtain ⟨WF, hWF⟩ : ∃ WF, WF = ((((A.setCell ⟨g, t.length, none⟩ (.int .i64 (-x))).setCell ⟨w.heap.size + 1 + 1, 0, none⟩ (.int .i64 (k + 1))).setCell ⟨w.heap.size + 1 + 1, 1, none⟩ (.slice (some ⟨g, 0, none⟩) (t.length + 1) c)).setCell ⟨w.heap.size + 1 + 1, 2, none⟩ (.slice ua o.length uc)).drew := ⟨_, rfl⟩
  rw [← hWF]
  obtain ⟨o1, g1⟩ := SV.out.stored t.length (.int .i64 (-x))
  have L1 : (List.map (Value.int .i64) (t ++ [x])).set t.length (.int .i64 (-x)) = List.map (Value.int .i64) (t ++ [-x]) := by
    rw [← List.map_set]; congr 1; simp
  rw [L1] at o1
  have HA := HM.out
  have hu1 := own_stable HA.ou fun q hq => g1.block q (HA.ou.lt q hq).2 (fun e => HA.ap g rfl (e ▸ hq))
  have hB' : B ≤ g := (HA.sv.lt g rfl).1
  have b1 : Below B w (A.setCell ⟨g, t.length, none⟩ (.int .i64 (-x))) := (BA.out.mono hB).setCell hB' _
  obtain ⟨⟨e0, e1, e2⟩, w1, w2, w3⟩ := change_end (s := t ++ [-x]) (k := k + 1) (r := w.heap.size + 1 + 1) (v := .slice (some ⟨g, 0, none⟩) (t.length + 1) c) (by rw [List.length_append, List.length_singleton]; exact o1) hu1 (fun (e : some g = some (w.heap.size + 1 + 1)) => gr0 (Option.some.inj e)) (fun e => by have := (HU.out.lt _ e).2; omega) (HR.out.keep (g1.block _ HR.out.lt (fun e => gr1 (Option.some.inj e)))) b1 (by omega) hWF
  refine bodyPost_ret (v := .agg #[.int .i64 (k + 1), .slice (some ⟨g, 0, none⟩) (t.length + 1) c, .slice ua o.length uc]) (by simp [results, Tryd.results22, go_sem, e0, e1, e2]) rfl ?_
  exact ⟨_, _, rfl, w1, w2, HA.ap, w3, by rw [hWF]; repeat (first | with_reducible exact Fr.start BA.out | with_reducible refine Fr.drew ?_ | (with_reducible refine Fr.set ?_ ?hr; case hr => (first | (left; omega) | exact .inr (.inl rfl) | exact .inr (.inr rfl))))⟩
set_option maxHeartbeats 1000000 in
theorem sCh6 (x1 x2 x3 : Int) (B : Nat) (k : Int) (v u : Value) (o t : List Int) (x : Int) (w : World) (hB : B ≤ w.heap.size) (hv : w.ownsRow B 3 1 v (t ++ [x]).length ((t ++ [x]).map (Value.int .i64))) (hu : w.ownsRow B 3 1 u o.length (o.map (Value.int .i64))) (ap : Apart v u) (hn : (t ++ [x]).length ≤ 20) (hx : -9841 ≤ x ∧ x ≤ 9841) (hk : 0 ≤ k ∧ k ≤ 1000) :
    Calls Tryd.prog 22 #[.agg #[.int .i64 6, .int .i64 x1, .int .i64 x2, .int .i64 x3], .agg #[.int .i64 k, v, u]] w fun e w' => ∃ v' u', e = .returned (.agg #[.int .i64 (k + 1), v', u']) ∧ w'.ownsRow B 3 1 v' (t ++ [Tm.sgn x]).length ((t ++ [Tm.sgn x]).map (Value.int .i64)) ∧ w'.ownsRow B 3 1 u' o.length (o.map (Value.int .i64)) ∧ Apart v' u' ∧ Below B w w' ∧ Fr v u w w' := by
  obtain ⟨A, hA⟩ : ∃ A, A = ((w.alloc (.cells #[.int .i64 6, .int .i64 x1, .int .i64 x2, .int .i64 x3] 47)).alloc (.cells #[.int .i64 (k + 1), v, u] 28)).alloc (.cells #[.int .i64 0, .slice none 0 0, .slice none 0 0] 28) := ⟨_, rfl⟩
  obtain ⟨sA, bA, mA, rA, a0, a1, a2, a3⟩ := change_start hA hB hv hu ap
  obtain ⟨g, c, rfl, gp, hc, cx⟩ := stack_one mA
  have gl : g < w.heap.size := by have := (hv.lt g rfl).2; omega
  obtain ⟨ua, uc, rfl⟩ := own_form hu
  have HM := Lib.hid mA
  have HR := Lib.hid rA
  obtain ⟨c0, c1, c2⟩ := mA.blk.cells
  have fz := mA.blk.frozen
  obtain ⟨r0, r1, r2⟩ := rA.cells
  have rz := rA.frozen
  have fg := mA.sv
  rw [List.length_append, List.length_singleton] at fg hn
  have fzg := fg.frozenAt
  have SV := Lib.hid fg
  have BA := Lib.hid bA
  have HU := Lib.hid hu
  obtain ⟨x0, x9⟩ := hx
  obtain ⟨k0, k9⟩ := hk
  have e1 : IntKind.i64.wrap (k + 1) = k + 1 := IntWalk.i64_in _ (by omega)
  have e2 : IntKind.i64.wrap ((t.length : Int) + 1 - 1) = (t.length : Int) := by rw [IntWalk.i64_in _ (by omega)]; omega
  have e3 : IntKind.i64.wrap (t.length : Int) = (t.length : Int) := IntWalk.i64_in _ (by omega)
  have t0 : (0 : Int) ≤ (t.length : Int) := by omega
  have t1 : (t.length : Int) < (t.length : Int) + 1 := by omega
  have lp : w.heap.size + 1 < A.heap.size := by omega
  have lr : w.heap.size + 1 + 1 < A.heap.size := by omega
  have lg : g < A.heap.size := by omega
  have gr0 : g ≠ w.heap.size + 1 + 1 := by omega
  have gr1 : w.heap.size + 1 + 1 ≠ g := by omega
  have gn0 : g ≠ w.heap.size + 1 := gp
  have gn1 : w.heap.size + 1 ≠ g := fun e => gp e.symm
  clear mA rA fg hv hu bA
  go_enter Tryd.func22, Tryd.ntmps22
  go_wp2_with fail
  rw [← hA]
  clear hA
  have d1 : ({ A with drawn := A.drawn + 1 } : World).cell? ⟨w.heap.size + 1, 1, none⟩ = some (.slice (some ⟨g, 0, none⟩) (t.length + 1) c) := c1
  have dx : ({ A with drawn := A.drawn + 1 } : World).cell? ⟨g, t.length, none⟩ = some (.int .i64 x) := cx
  have d2 : ({ A with drawn := A.drawn + 1 } : World).cell? ⟨w.heap.size + 1, 1, none⟩ = some (.slice (some ⟨g, 0, none⟩) (t.length + 1) c) := c1
  go_still_tail 12, (by kernel_rfl)
  still_call ((sSignOf x _).mono fun _ _ h => ⟨h.1, h.2.symm⟩)
  repeat still_step
  refine wpStill_nil ?_
  rw [show ({ A with drawn := A.drawn + 1 } : World) = A.drew from rfl]
  go_wp2
  obtain ⟨WF, hWF⟩ : ∃ WF, WF = ((((A.setCell ⟨g, t.length, none⟩ (.int .i64 (Tm.sgn x))).setCell ⟨w.heap.size + 1 + 1, 0, none⟩ (.int .i64 (k + 1))).setCell ⟨w.heap.size + 1 + 1, 1, none⟩ (.slice (some ⟨g, 0, none⟩) (t.length + 1) c)).setCell ⟨w.heap.size + 1 + 1, 2, none⟩ (.slice ua o.length uc)).drew := ⟨_, rfl⟩
  rw [← hWF]
  obtain ⟨o1, g1⟩ := SV.out.stored t.length (.int .i64 (Tm.sgn x))
  have L1 : (List.map (Value.int .i64) (t ++ [x])).set t.length (.int .i64 (Tm.sgn x)) = List.map (Value.int .i64) (t ++ [Tm.sgn x]) := by
    rw [← List.map_set]; congr 1; simp
  rw [L1] at o1
  have HA := HM.out
  have hu1 := own_stable HA.ou fun q hq => g1.block q (HA.ou.lt q hq).2 (fun e => HA.ap g rfl (e ▸ hq))
  have hB' : B ≤ g := (HA.sv.lt g rfl).1
  have b1 : Below B w (A.setCell ⟨g, t.length, none⟩ (.int .i64 (Tm.sgn x))) := (BA.out.mono hB).setCell hB' _
  obtain ⟨⟨e0, e1, e2⟩, w1, w2, w3⟩ := change_end (s := t ++ [Tm.sgn x]) (k := k + 1) (r := w.heap.size + 1 + 1) (v := .slice (some ⟨g, 0, none⟩) (t.length + 1) c) (by rw [List.length_append, List.length_singleton]; exact o1) hu1 (fun (e : some g = some (w.heap.size + 1 + 1)) => gr0 (Option.some.inj e)) (fun e => by have := (HU.out.lt _ e).2; omega) (HR.out.keep (g1.block _ HR.out.lt (fun e => gr1 (Option.some.inj e)))) b1 (by omega) hWF
  refine bodyPost_ret (v := .agg #[.int .i64 (k + 1), .slice (some ⟨g, 0, none⟩) (t.length + 1) c, .slice ua o.length uc]) (by simp [results, Tryd.results22, go_sem, e0, e1, e2]) rfl ?_
  exact ⟨_, _, rfl, w1, w2, HA.ap, w3, by rw [hWF]; repeat (first | with_reducible exact Fr.start BA.out | with_reducible refine Fr.drew ?_ | (with_reducible refine Fr.set ?_ ?hr; case hr => (first | (left; omega) | exact .inr (.inl rfl) | exact .inr (.inr rfl))))⟩
set_option maxHeartbeats 1000000 in
theorem sCh13 (x1 x2 x3 : Int) (B : Nat) (k : Int) (v u : Value) (s o : List Int) (w : World) (hB : B ≤ w.heap.size) (hv : w.ownsRow B 3 1 v s.length (s.map (Value.int .i64))) (hu : w.ownsRow B 3 1 u o.length (o.map (Value.int .i64))) (ap : Apart v u) (_hn : s.length ≤ 20) (hk : 0 ≤ k ∧ k ≤ 1000) :
    Calls Tryd.prog 22 #[.agg #[.int .i64 13, .int .i64 x1, .int .i64 x2, .int .i64 x3], .agg #[.int .i64 k, v, u]] w fun e w' => ∃ v' u', e = .returned (.agg #[.int .i64 x1, v', u']) ∧ w'.ownsRow B 3 1 v' s.length (s.map (Value.int .i64)) ∧ w'.ownsRow B 3 1 u' o.length (o.map (Value.int .i64)) ∧ Apart v' u' ∧ Below B w w' ∧ Fr v u w w' := by
  obtain ⟨va, vc, rfl⟩ := own_form hv
  obtain ⟨ua, uc, rfl⟩ := own_form hu
  have HV := Lib.hid hv
  have HU := Lib.hid hu
  obtain ⟨k0, k9⟩ := hk
  have e1 : IntKind.i64.wrap (k + 1) = k + 1 := IntWalk.i64_in _ (by omega)
  clear hv hu
  go_enter Tryd.func22, Tryd.ntmps22
  go_wp2
  refine bodyPost_ret (v := .agg #[.int .i64 x1, .slice va s.length vc, .slice ua o.length uc]) (by simp [results, Tryd.results22, go_sem]) rfl ?_
  exact ⟨_, _, rfl, own_below HV.out (by (repeat' (first | (with_reducible exact Below.refl _ _) | (with_reducible assumption) | (with_reducible refine below_drewN ?_ _) | (with_reducible refine Below.drew ?_) | (with_reducible refine Below.alloc ?_ ?_ _) | (with_reducible refine Below.setCell ?_ ?_ _) | (with_reducible refine below_gw ?_ ?_ _) | (with_reducible refine below_via ?_ ‹Below _ _ _› ?_) | (with_reducible exact Nat.le_refl _) | (with_reducible refine le_gw ?_ _) | (with_reducible refine le_alloc ?_ _) | (with_reducible refine le_setCell ?_ _ _) | (with_reducible refine le_drew ?_) | (with_reducible refine le_drewN ?_ _) | go_size))), own_below HU.out (by (repeat' (first | (with_reducible exact Below.refl _ _) | (with_reducible assumption) | (with_reducible refine below_drewN ?_ _) | (with_reducible refine Below.drew ?_) | (with_reducible refine Below.alloc ?_ ?_ _) | (with_reducible refine Below.setCell ?_ ?_ _) | (with_reducible refine below_gw ?_ ?_ _) | (with_reducible refine below_via ?_ ‹Below _ _ _› ?_) | (with_reducible exact Nat.le_refl _) | (with_reducible refine le_gw ?_ _) | (with_reducible refine le_alloc ?_ _) | (with_reducible refine le_setCell ?_ _ _) | (with_reducible refine le_drew ?_) | (with_reducible refine le_drewN ?_ _) | go_size))), ap, by (repeat' (first | (with_reducible exact Below.refl _ _) | (with_reducible assumption) | (with_reducible refine below_drewN ?_ _) | (with_reducible refine Below.drew ?_) | (with_reducible refine Below.alloc ?_ ?_ _) | (with_reducible refine Below.setCell ?_ ?_ _) | (with_reducible refine below_gw ?_ ?_ _) | (with_reducible refine below_via ?_ ‹Below _ _ _› ?_) | (with_reducible exact Nat.le_refl _) | (with_reducible refine le_gw ?_ _) | (with_reducible refine le_alloc ?_ _) | (with_reducible refine le_setCell ?_ _ _) | (with_reducible refine le_drew ?_) | (with_reducible refine le_drewN ?_ _) | go_size)), Fr.start (by (repeat' (first | (with_reducible exact Below.refl _ _) | (with_reducible assumption) | (with_reducible refine below_drewN ?_ _) | (with_reducible refine Below.drew ?_) | (with_reducible refine Below.alloc ?_ ?_ _) | (with_reducible refine Below.setCell ?_ ?_ _) | (with_reducible refine below_gw ?_ ?_ _) | (with_reducible refine below_via ?_ ‹Below _ _ _› ?_) | (with_reducible exact Nat.le_refl _) | (with_reducible refine le_gw ?_ _) | (with_reducible refine le_alloc ?_ _) | (with_reducible refine le_setCell ?_ _ _) | (with_reducible refine le_drew ?_) | (with_reducible refine le_drewN ?_ _) | go_size)))⟩
set_option maxHeartbeats 1000000 in
theorem sCh9 (x1 x2 x3 : Int) (B : Nat) (k : Int) (v u : Value) (o t : List Int) (x : Int) (w : World) (hB : B ≤ w.heap.size) (hv : w.ownsRow B 3 1 v (t ++ [x]).length ((t ++ [x]).map (Value.int .i64))) (hu : w.ownsRow B 3 1 u o.length (o.map (Value.int .i64))) (ap : Apart v u) (hn : (t ++ [x]).length ≤ 20) (hk : 0 ≤ k ∧ k ≤ 1000) :
    Calls Tryd.prog 22 #[.agg #[.int .i64 9, .int .i64 x1, .int .i64 x2, .int .i64 x3], .agg #[.int .i64 k, v, u]] w fun e w' => ∃ v' u', e = .returned (.agg #[.int .i64 (k + 1), v', u']) ∧ w'.ownsRow B 3 1 v' t.length (t.map (Value.int .i64)) ∧ w'.ownsRow B 3 1 u' o.length (o.map (Value.int .i64)) ∧ Apart v' u' ∧ Below B w w' ∧ Fr v u w w' := by
  rw [List.length_append, List.length_singleton] at hv hn
  obtain ⟨g, c, rfl⟩ := own_shapeN hv (by omega)
  obtain ⟨ua, uc, rfl⟩ := own_form hu
  have hc := (Ints.of_own hv).2.1
  have HV := Lib.hid (own_take hv (show t.length ≤ t.length + 1 by omega))
  rw [List.take_left] at HV
  have HU := Lib.hid hu
  have AP : Apart (.slice (some ⟨g, 0, none⟩) t.length c) (.slice ua o.length uc) := ap
  obtain ⟨k0, k9⟩ := hk
  have e1 : IntKind.i64.wrap (k + 1) = k + 1 := IntWalk.i64_in _ (by omega)
  have e2 : IntKind.i64.wrap ((t.length : Int) + 1 - 1) = (t.length : Int) := by rw [IntWalk.i64_in _ (by omega)]; omega
  have e3 : IntKind.i64.wrap (t.length : Int) = (t.length : Int) := IntWalk.i64_in _ (by omega)
  have t0 : (0 : Int) ≤ (t.length : Int) := by omega
  have t1 : (t.length : Int) ≤ (c : Int) := by omega
  have t2 : t.length ≤ c := by omega
  clear hv hu ap
  go_enter Tryd.func22, Tryd.ntmps22
  go_wp2
  refine bodyPost_ret (v := .agg #[.int .i64 (k + 1), .slice (some ⟨g, 0, none⟩) t.length c, .slice ua o.length uc]) (by simp [results, Tryd.results22, go_sem]) rfl ?_
  exact ⟨_, _, rfl, own_below HV.out (by (repeat' (first | (with_reducible exact Below.refl _ _) | (with_reducible assumption) | (with_reducible refine below_drewN ?_ _) | (with_reducible refine Below.drew ?_) | (with_reducible refine Below.alloc ?_ ?_ _) | (with_reducible refine Below.setCell ?_ ?_ _) | (with_reducible refine below_gw ?_ ?_ _) | (with_reducible refine below_via ?_ ‹Below _ _ _› ?_) | (with_reducible exact Nat.le_refl _) | (with_reducible refine le_gw ?_ _) | (with_reducible refine le_alloc ?_ _) | (with_reducible refine le_setCell ?_ _ _) | (with_reducible refine le_drew ?_) | (with_reducible refine le_drewN ?_ _) | go_size))), own_below HU.out (by (repeat' (first | (with_reducible exact Below.refl _ _) | (with_reducible assumption) | (with_reducible refine below_drewN ?_ _) | (with_reducible refine Below.drew ?_) | (with_reducible refine Below.alloc ?_ ?_ _) | (with_reducible refine Below.setCell ?_ ?_ _) | (with_reducible refine below_gw ?_ ?_ _) | (with_reducible refine below_via ?_ ‹Below _ _ _› ?_) | (with_reducible exact Nat.le_refl _) | (with_reducible refine le_gw ?_ _) | (with_reducible refine le_alloc ?_ _) | (with_reducible refine le_setCell ?_ _ _) | (with_reducible refine le_drew ?_) | (with_reducible refine le_drewN ?_ _) | go_size))), AP, by (repeat' (first | (with_reducible exact Below.refl _ _) | (with_reducible assumption) | (with_reducible refine below_drewN ?_ _) | (with_reducible refine Below.drew ?_) | (with_reducible refine Below.alloc ?_ ?_ _) | (with_reducible refine Below.setCell ?_ ?_ _) | (with_reducible refine below_gw ?_ ?_ _) | (with_reducible refine below_via ?_ ‹Below _ _ _› ?_) | (with_reducible exact Nat.le_refl _) | (with_reducible refine le_gw ?_ _) | (with_reducible refine le_alloc ?_ _) | (with_reducible refine le_setCell ?_ _ _) | (with_reducible refine le_drew ?_) | (with_reducible refine le_drewN ?_ _) | go_size)), Fr.start (by (repeat' (first | (with_reducible exact Below.refl _ _) | (with_reducible assumption) | (with_reducible refine below_drewN ?_ _) | (with_reducible refine Below.drew ?_) | (with_reducible refine Below.alloc ?_ ?_ _) | (with_reducible refine Below.setCell ?_ ?_ _) | (with_reducible refine below_gw ?_ ?_ _) | (with_reducible refine below_via ?_ ‹Below _ _ _› ?_) | (with_reducible exact Nat.le_refl _) | (with_reducible refine le_gw ?_ _) | (with_reducible refine le_alloc ?_ _) | (with_reducible refine le_setCell ?_ _ _) | (with_reducible refine le_drew ?_) | (with_reducible refine le_drewN ?_ _) | go_size)))⟩
set_option maxHeartbeats 1000000 in
theorem sCh11 (x1 x2 x3 : Int) (B : Nat) (k : Int) (v u : Value) (o t : List Int) (i : Nat) (w : World) (hB : B ≤ w.heap.size) (hv : w.ownsRow B 3 1 v (t ++ [(i : Int) - 13]).length ((t ++ [(i : Int) - 13]).map (Value.int .i64))) (hu : w.ownsRow B 3 1 u o.length (o.map (Value.int .i64))) (ap : Apart v u) (hn : (t ++ [(i : Int) - 13]).length ≤ 20) (z : Int) (hz : o.getD i 0 = z) (hi : i < 27) (ho : o.length = 27) (hk : 0 ≤ k ∧ k ≤ 1000) :
    Calls Tryd.prog 22 #[.agg #[.int .i64 11, .int .i64 x1, .int .i64 x2, .int .i64 x3], .agg #[.int .i64 k, v, u]] w fun e w' => ∃ v' u', e = .returned (.agg #[.int .i64 (k + 1), v', u']) ∧ w'.ownsRow B 3 1 v' (t ++ [z]).length ((t ++ [z]).map (Value.int .i64)) ∧ w'.ownsRow B 3 1 u' o.length (o.map (Value.int .i64)) ∧ Apart v' u' ∧ Below B w w' ∧ Fr v u w w' := by
  obtain ⟨A, hA⟩ : ∃ A, A = ((w.alloc (.cells #[.int .i64 11, .int .i64 x1, .int .i64 x2, .int .i64 x3] 47)).alloc (.cells #[.int .i64 (k + 1), v, u] 28)).alloc (.cells #[.int .i64 0, .slice none 0 0, .slice none 0 0] 28) := ⟨_, rfl⟩
  obtain ⟨sA, bA, mA, rA, a0, a1, a2, a3⟩ := change_start hA hB hv hu ap
  obtain ⟨g, c, rfl, gp, hc, cx⟩ := stack_one mA
  have gl : g < w.heap.size := by have := (hv.lt g rfl).2; omega
  obtain ⟨gb, uc, rfl⟩ := own_shapeN hu (by omega)
  have cu : A.cell? ⟨gb, i, none⟩ = some (.int .i64 z) := by
    rcases (Ints.of_own mA.ou).2.2.2 with h | ⟨b, q, e, hb, hh⟩
    · omega
    · simp only [Option.some.injEq, Addr.mk.injEq, and_true] at e
      obtain ⟨rfl, rfl⟩ := e
      have := hh i (by omega)
      rwa [Nat.zero_add, hz] at this
  have e4 : IntKind.i64.wrap ((i : Int) - 13 + 13) = (i : Int) := by rw [IntWalk.i64_in _ (by omega)]; omega
  have e5 : IntKind.i64.wrap (i : Int) = (i : Int) := IntWalk.i64_in _ (by omega)
  have i0 : (0 : Int) ≤ (i : Int) := by omega
  have i1 : (i : Int) < (o.length : Int) := by omega
  have i2 : i < o.length := by omega
  have HM := Lib.hid mA
  have HR := Lib.hid rA
  obtain ⟨c0, c1, c2⟩ := mA.blk.cells
  have fz := mA.blk.frozen
  obtain ⟨r0, r1, r2⟩ := rA.cells
  have rz := rA.frozen
  have fg := mA.sv
  rw [List.length_append, List.length_singleton] at fg hn
  have fzg := fg.frozenAt
  have SV := Lib.hid fg
  have BA := Lib.hid bA
  have HU := Lib.hid hu
  obtain ⟨k0, k9⟩ := hk
  have e1 : IntKind.i64.wrap (k + 1) = k + 1 := IntWalk.i64_in _ (by omega)
  have e2 : IntKind.i64.wrap ((t.length : Int) + 1 - 1) = (t.length : Int) := by rw [IntWalk.i64_in _ (by omega)]; omega
  have e3 : IntKind.i64.wrap (t.length : Int) = (t.length : Int) := IntWalk.i64_in _ (by omega)
  have t0 : (0 : Int) ≤ (t.length : Int) := by omega
  have t1 : (t.length : Int) < (t.length : Int) + 1 := by omega
  have lp : w.heap.size + 1 < A.heap.size := by omega
  have lr : w.heap.size + 1 + 1 < A.heap.size := by omega
  have lg : g < A.heap.size := by omega
  have gr0 : g ≠ w.heap.size + 1 + 1 := by omega
  have gr1 : w.heap.size + 1 + 1 ≠ g := by omega
  have gn0 : g ≠ w.heap.size + 1 := gp
  have gn1 : w.heap.size + 1 ≠ g := fun e => gp e.symm
  clear mA rA fg hv hu bA ho hz
  go_enter Tryd.func22, Tryd.ntmps22
  go_wp2_with fail
  rw [← hA]
  clear hA
  have d1 : ({ A with drawn := A.drawn + 1 } : World).cell? ⟨w.heap.size + 1, 1, none⟩ = some (.slice (some ⟨g, 0, none⟩) (t.length + 1) c) := c1
  have dx : ({ A with drawn := A.drawn + 1 } : World).cell? ⟨g, t.length, none⟩ = some (.int .i64 ((i : Int) - 13)) := cx
  have d2 : ({ A with drawn := A.drawn + 1 } : World).cell? ⟨w.heap.size + 1, 2, none⟩ = some (.slice (some ⟨gb, 0, none⟩) o.length uc) := c2
  have d3 : ({ A with drawn := A.drawn + 1 } : World).cell? ⟨gb, i, none⟩ = some (.int .i64 z) := cu
  go_still_tail 16, (by kernel_rfl)
  rw [show ({ A with drawn := A.drawn + 1 } : World) = A.drew from rfl]
  go_wp2
  obtain ⟨WF, hWF⟩ : ∃ WF, WF = ((((A.setCell ⟨g, t.length, none⟩ (.int .i64 z)).setCell ⟨w.heap.size + 1 + 1, 0, none⟩ (.int .i64 (k + 1))).setCell ⟨w.heap.size + 1 + 1, 1, none⟩ (.slice (some ⟨g, 0, none⟩) (t.length + 1) c)).setCell ⟨w.heap.size + 1 + 1, 2, none⟩ (.slice (some ⟨gb, 0, none⟩) o.length uc)).drew := ⟨_, rfl⟩
  rw [← hWF]
  obtain ⟨o1, g1⟩ := SV.out.stored t.length (.int .i64 z)
  have L1 : (List.map (Value.int .i64) (t ++ [(i : Int) - 13])).set t.length (.int .i64 z) = List.map (Value.int .i64) (t ++ [z]) := by
    rw [← List.map_set]; congr 1; simp
  rw [L1] at o1
  have HA := HM.out
  have hu1 := own_stable HA.ou fun q hq => g1.block q (HA.ou.lt q hq).2 (fun e => HA.ap g rfl (e ▸ hq))
  have hB' : B ≤ g := (HA.sv.lt g rfl).1
  have b1 : Below B w (A.setCell ⟨g, t.length, none⟩ (.int .i64 z)) := (BA.out.mono hB).setCell hB' _
  obtain ⟨⟨e0, e1, e2⟩, w1, w2, w3⟩ := change_end (s := t ++ [z]) (k := k + 1) (r := w.heap.size + 1 + 1) (v := .slice (some ⟨g, 0, none⟩) (t.length + 1) c) (by rw [List.length_append, List.length_singleton]; exact o1) hu1 (fun (e : some g = some (w.heap.size + 1 + 1)) => gr0 (Option.some.inj e)) (fun e => by have := (HU.out.lt _ e).2; omega) (HR.out.keep (g1.block _ HR.out.lt (fun e => gr1 (Option.some.inj e)))) b1 (by omega) hWF
  refine bodyPost_ret (v := .agg #[.int .i64 (k + 1), .slice (some ⟨g, 0, none⟩) (t.length + 1) c, .slice (some ⟨gb, 0, none⟩) o.length uc]) (by simp [results, Tryd.results22, go_sem, e0, e1, e2]) rfl ?_
  exact ⟨_, _, rfl, w1, w2, HA.ap, w3, by rw [hWF]; repeat (first | with_reducible exact Fr.start BA.out | with_reducible refine Fr.drew ?_ | (with_reducible refine Fr.set ?_ ?hr; case hr => (first | (left; omega) | exact .inr (.inl rfl) | exact .inr (.inr rfl))))⟩
set_option maxHeartbeats 1000000 in
theorem sCh8 (x1 x2 x3 : Int) (B : Nat) (k : Int) (v u : Value) (o t : List Int) (z x : Int) (w : World) (hB : B ≤ w.heap.size) (hv : w.ownsRow B 3 1 v (t ++ [z, x]).length ((t ++ [z, x]).map (Value.int .i64))) (hu : w.ownsRow B 3 1 u o.length (o.map (Value.int .i64))) (ap : Apart v u) (hn : (t ++ [z, x]).length ≤ 20) (hk : 0 ≤ k ∧ k ≤ 1000) :
    Calls Tryd.prog 22 #[.agg #[.int .i64 8, .int .i64 x1, .int .i64 x2, .int .i64 x3], .agg #[.int .i64 k, v, u]] w fun e w' => ∃ v' u', e = .returned (.agg #[.int .i64 (k + 1), v', u']) ∧ w'.ownsRow B 3 1 v' (t ++ [x, z]).length ((t ++ [x, z]).map (Value.int .i64)) ∧ w'.ownsRow B 3 1 u' o.length (o.map (Value.int .i64)) ∧ Apart v' u' ∧ Below B w w' ∧ Fr v u w w' := by
  obtain ⟨A, hA⟩ : ∃ A, A = ((w.alloc (.cells #[.int .i64 8, .int .i64 x1, .int .i64 x2, .int .i64 x3] 47)).alloc (.cells #[.int .i64 (k + 1), v, u] 28)).alloc (.cells #[.int .i64 0, .slice none 0 0, .slice none 0 0] 28) := ⟨_, rfl⟩
  obtain ⟨sA, bA, mA, rA, a0, a1, a2, a3⟩ := change_start hA hB hv hu ap
  obtain ⟨g, c, rfl, gp, hc, cz, cx⟩ := stack_two mA
  have gl : g < w.heap.size := by have := (hv.lt g rfl).2; omega
  obtain ⟨ua, uc, rfl⟩ := own_form hu
  have cwx : w.cell? ⟨g, t.length + 1, none⟩ = some (.int .i64 x) := by
    rw [← cx, hA, World.cell?_alloc_lt _ _ _ (by simp; omega), World.cell?_alloc_lt _ _ _ (by simp; omega), World.cell?_alloc_lt _ _ _ gl]
  have cxL := cx
  rw [hA] at cxL
  have gl1 : g < w.heap.size + 1 := by omega
  have gl2 : g < w.heap.size + 1 + 1 := by omega
  have HM := Lib.hid mA
  have HR := Lib.hid rA
  obtain ⟨c0, c1, c2⟩ := mA.blk.cells
  have fz := mA.blk.frozen
  obtain ⟨r0, r1, r2⟩ := rA.cells
  have rz := rA.frozen
  have fg := mA.sv
  have l2 : (t ++ [z, x]).length = t.length + 2 := by simp
  rw [l2] at fg hn
  have fzg := fg.frozenAt
  have SV := Lib.hid fg
  have BA := Lib.hid bA
  have HU := Lib.hid hu
  have cw := Lib.hid (mA.ap)
  obtain ⟨k0, k9⟩ := hk
  have e1 : IntKind.i64.wrap (k + 1) = k + 1 := IntWalk.i64_in _ (by omega)
  have e2 : IntKind.i64.wrap ((t.length : Int) + 2 - 1) = (t.length : Int) + 1 := by rw [IntWalk.i64_in _ (by omega)]; omega
  have e4 : IntKind.i64.wrap ((t.length : Int) + 2 - 2) = (t.length : Int) := by rw [IntWalk.i64_in _ (by omega)]; omega
  have e3 : IntKind.i64.wrap (t.length : Int) = (t.length : Int) := IntWalk.i64_in _ (by omega)
  have e5 : IntKind.i64.wrap ((t.length : Int) + 1) = (t.length : Int) + 1 := IntWalk.i64_in _ (by omega)
  have t0 : (0 : Int) ≤ (t.length : Int) := by omega
  have t1 : (t.length : Int) < (t.length : Int) + 2 := by omega
  have t2 : (t.length : Int) + 1 < (t.length : Int) + 2 := by omega
  have t3 : (0 : Int) ≤ (t.length : Int) + 1 := by omega
  have t4 : ((t.length : Int) + 1).toNat = t.length + 1 := by omega
  have t5 : t.length + 1 < t.length + 2 := by omega
  have lp : w.heap.size + 1 < A.heap.size := by omega
  have lr : w.heap.size + 1 + 1 < A.heap.size := by omega
  have lg : g < A.heap.size := by omega
  have gr0 : g ≠ w.heap.size + 1 + 1 := by omega
  have gr1 : w.heap.size + 1 + 1 ≠ g := by omega
  have gn0 : g ≠ w.heap.size + 1 := gp
  have gn1 : w.heap.size + 1 ≠ g := fun e => gp e.symm
  clear mA rA fg hv hu bA l2
  go_enter Tryd.func22, Tryd.ntmps22
  go_wp2_with fail
  rw [← hA]
  clear hA
  have d1 : ({ A with drawn := A.drawn + 1 } : World).cell? ⟨w.heap.size + 1, 1, none⟩ = some (.slice (some ⟨g, 0, none⟩) (t.length + 2) c) := c1
  have dx : ({ A with drawn := A.drawn + 1 } : World).cell? ⟨g, t.length, none⟩ = some (.int .i64 z) := cz
  go_still_tail 11, (by kernel_rfl)
  rw [show ({ A with drawn := A.drawn + 1 } : World) = A.drew from rfl]
  go_wp2
  obtain ⟨WF, hWF⟩ : ∃ WF, WF = (((((A.setCell ⟨g, t.length + 1, none⟩ (.int .i64 z)).setCell ⟨g, t.length, none⟩ (.int .i64 x)).setCell ⟨w.heap.size + 1 + 1, 0, none⟩ (.int .i64 (k + 1))).setCell ⟨w.heap.size + 1 + 1, 1, none⟩ (.slice (some ⟨g, 0, none⟩) (t.length + 2) c)).setCell ⟨w.heap.size + 1 + 1, 2, none⟩ (.slice ua o.length uc)).drew := ⟨_, rfl⟩
  rw [← hWF]
  obtain ⟨o1, g1⟩ := SV.out.stored (t.length + 1) (.int .i64 z)
  obtain ⟨o2, g2⟩ := o1.stored t.length (.int .i64 x)
  have L1 : ((List.map (Value.int .i64) (t ++ [z, x])).set (t.length + 1) (.int .i64 z)).set t.length (.int .i64 x) = List.map (Value.int .i64) (t ++ [x, z]) := by
    rw [← List.map_set, ← List.map_set]; congr 1; simp
  rw [L1] at o2
  have HA := HM.out
  have sz : (A.setCell ⟨g, t.length + 1, none⟩ (.int .i64 z)).heap.size = A.heap.size := by simp only [World.size_setCell]
  have hu1 := own_stable HA.ou fun q hq => g1.block q (HA.ou.lt q hq).2 (fun e => HA.ap g rfl (e ▸ hq))
  have hu2 := own_stable hu1 fun q hq => g2.block q (by have := (HA.ou.lt q hq).2; omega) (fun e => HA.ap g rfl (e ▸ hq))
  have hB' : B ≤ g := (HA.sv.lt g rfl).1
  have b1 : Below B w ((A.setCell ⟨g, t.length + 1, none⟩ (.int .i64 z)).setCell ⟨g, t.length, none⟩ (.int .i64 x)) := ((BA.out.mono hB).setCell hB' _).setCell hB' _
  have h1 := HR.out.keep (g1.block _ HR.out.lt (fun e => gr1 (Option.some.inj e)))
  have h2 := h1.keep (g2.block _ h1.lt (fun e => gr1 (Option.some.inj e)))
  obtain ⟨⟨e0, e1, e2⟩, w1, w2, w3⟩ := change_end (s := t ++ [x, z]) (k := k + 1) (r := w.heap.size + 1 + 1) (v := .slice (some ⟨g, 0, none⟩) (t.length + 2) c) (by rw [List.length_append, show [x, z].length = 2 from rfl]; exact o2) hu2 (fun (e : some g = some (w.heap.size + 1 + 1)) => gr0 (Option.some.inj e)) (fun e => by have := (HU.out.lt _ e).2; omega) h2 b1 (by omega) hWF
  refine bodyPost_ret (v := .agg #[.int .i64 (k + 1), .slice (some ⟨g, 0, none⟩) (t.length + 2) c, .slice ua o.length uc]) (by simp [results, Tryd.results22, go_sem, e0, e1, e2]) rfl ?_
  exact ⟨_, _, rfl, w1, w2, HA.ap, w3, by rw [hWF]; repeat (first | with_reducible exact Fr.start BA.out | with_reducible refine Fr.drew ?_ | (with_reducible refine Fr.set ?_ ?hr; case hr => (first | (left; omega) | exact .inr (.inl rfl) | exact .inr (.inr rfl))))⟩
set_option maxHeartbeats 1000000 in
theorem sCh12 (x1 x2 x3 : Int) (B : Nat) (k : Int) (v u : Value) (o t : List Int) (z : Int) (i : Nat) (w : World) (hB : B ≤ w.heap.size) (hv : w.ownsRow B 3 1 v (t ++ [z, (i : Int) - 13]).length ((t ++ [z, (i : Int) - 13]).map (Value.int .i64))) (hu : w.ownsRow B 3 1 u o.length (o.map (Value.int .i64))) (ap : Apart v u) (hn : (t ++ [z, (i : Int) - 13]).length ≤ 20) (hi : i < 27) (ho : o.length = 27) (hk : 0 ≤ k ∧ k ≤ 1000) :
    Calls Tryd.prog 22 #[.agg #[.int .i64 12, .int .i64 x1, .int .i64 x2, .int .i64 x3], .agg #[.int .i64 k, v, u]] w fun e w' => ∃ v' u', e = .returned (.agg #[.int .i64 (k + 1), v', u']) ∧ w'.ownsRow B 3 1 v' t.length (t.map (Value.int .i64)) ∧ w'.ownsRow B 3 1 u' (o.set i z).length ((o.set i z).map (Value.int .i64)) ∧ Apart v' u' ∧ Below B w w' ∧ Fr v u w w' := by
  obtain ⟨A, hA⟩ : ∃ A, A = ((w.alloc (.cells #[.int .i64 12, .int .i64 x1, .int .i64 x2, .int .i64 x3] 47)).alloc (.cells #[.int .i64 (k + 1), v, u] 28)).alloc (.cells #[.int .i64 0, .slice none 0 0, .slice none 0 0] 28) := ⟨_, rfl⟩
  obtain ⟨sA, bA, mA, rA, a0, a1, a2, a3⟩ := change_start hA hB hv hu ap
  obtain ⟨g, c, rfl, gp, hc, cz, cx⟩ := stack_two mA
  have gl : g < w.heap.size := by have := (hv.lt g rfl).2; omega
  obtain ⟨gb, uc, rfl⟩ := own_shapeN hu (by omega)
  have gbl : gb < w.heap.size := (hu.lt gb rfl).2
  obtain ⟨y, cu⟩ : ∃ y, A.cell? ⟨gb, i, none⟩ = some (.int .i64 y) := by
    rcases (Ints.of_own mA.ou).2.2.2 with h | ⟨b, q, e, hb, hh⟩
    · omega
    · simp only [Option.some.injEq, Addr.mk.injEq, and_true] at e
      obtain ⟨rfl, rfl⟩ := e
      have := hh i (by omega)
      rw [Nat.zero_add] at this
      exact ⟨_, this⟩
  have ggb : g ≠ gb := fun e => ap g rfl (by rw [e]; rfl)
  have HM := Lib.hid mA
  have HR := Lib.hid rA
  obtain ⟨c0, c1, c2⟩ := mA.blk.cells
  have fz := mA.blk.frozen
  obtain ⟨r0, r1, r2⟩ := rA.cells
  have rz := rA.frozen
  have fg := mA.sv
  have fu := mA.ou
  have l2 : (t ++ [z, (i : Int) - 13]).length = t.length + 2 := by simp
  rw [l2] at fg hn
  have fzu := fu.frozenAt
  have TK := Lib.hid (own_take fg (show t.length ≤ t.length + 2 by omega))
  rw [List.take_left] at TK
  have BA := Lib.hid bA
  obtain ⟨k0, k9⟩ := hk
  have e1 : IntKind.i64.wrap (k + 1) = k + 1 := IntWalk.i64_in _ (by omega)
  have e2 : IntKind.i64.wrap ((t.length : Int) + 2 - 1) = (t.length : Int) + 1 := by rw [IntWalk.i64_in _ (by omega)]; omega
  have e4 : IntKind.i64.wrap ((t.length : Int) + 2 - 2) = (t.length : Int) := by rw [IntWalk.i64_in _ (by omega)]; omega
  have e3 : IntKind.i64.wrap (t.length : Int) = (t.length : Int) := IntWalk.i64_in _ (by omega)
  have e5 : IntKind.i64.wrap ((t.length : Int) + 1) = (t.length : Int) + 1 := IntWalk.i64_in _ (by omega)
  have e6 : IntKind.i64.wrap ((i : Int) - 13 + 13) = (i : Int) := by rw [IntWalk.i64_in _ (by omega)]; omega
  have e7 : IntKind.i64.wrap (i : Int) = (i : Int) := IntWalk.i64_in _ (by omega)
  have i0 : (0 : Int) ≤ (i : Int) := by omega
  have i1 : (i : Int) < (o.length : Int) := by omega
  have i2 : i < o.length := by omega
  have t0 : (0 : Int) ≤ (t.length : Int) := by omega
  have t1 : (t.length : Int) < (t.length : Int) + 2 := by omega
  have t2 : (t.length : Int) + 1 < (t.length : Int) + 2 := by omega
  have t3 : (0 : Int) ≤ (t.length : Int) + 1 := by omega
  have t4 : ((t.length : Int) + 1).toNat = t.length + 1 := by omega
  have t5 : t.length + 1 < t.length + 2 := by omega
  have t6 : (t.length : Int) ≤ (c : Int) := by omega
  have t7 : t.length ≤ c := by omega
  have lp : w.heap.size + 1 < A.heap.size := by omega
  have lr : w.heap.size + 1 + 1 < A.heap.size := by omega
  have lg : g < A.heap.size := by omega
  have lgb : gb < A.heap.size := by omega
  have gr1 : w.heap.size + 1 + 1 ≠ gb := by omega
  have gr0 : gb ≠ w.heap.size + 1 + 1 := by omega
  have gn0 : gb ≠ w.heap.size + 1 := by omega
  have gn1 : w.heap.size + 1 ≠ gb := by omega
  have pr0 : w.heap.size + 1 ≠ w.heap.size + 1 + 1 := by omega
  have pr1 : w.heap.size + 1 + 1 ≠ w.heap.size + 1 := by omega
  clear mA rA fg fu hv hu bA l2 ho
  go_enter Tryd.func22, Tryd.ntmps22
  go_wp2_with fail
  rw [← hA]
  clear hA
  have d1 : ({ A with drawn := A.drawn + 1 } : World).cell? ⟨w.heap.size + 1, 1, none⟩ = some (.slice (some ⟨g, 0, none⟩) (t.length + 2) c) := c1
  have d2 : ({ A with drawn := A.drawn + 1 } : World).cell? ⟨w.heap.size + 1, 2, none⟩ = some (.slice (some ⟨gb, 0, none⟩) o.length uc) := c2
  have dz : ({ A with drawn := A.drawn + 1 } : World).cell? ⟨g, t.length, none⟩ = some (.int .i64 z) := cz
  have dx : ({ A with drawn := A.drawn + 1 } : World).cell? ⟨g, t.length + 1, none⟩ = some (.int .i64 ((i : Int) - 13)) := cx
  go_still_tail 16, (by kernel_rfl)
  rw [show ({ A with drawn := A.drawn + 1 } : World) = A.drew from rfl]
  go_wp2
  obtain ⟨WF, hWF⟩ : ∃ WF, WF = (((((A.setCell ⟨gb, i, none⟩ (.int .i64 z)).setCell ⟨w.heap.size + 1, 1, none⟩ (.slice (some ⟨g, 0, none⟩) t.length c)).setCell ⟨w.heap.size + 1 + 1, 0, none⟩ (.int .i64 (k + 1))).setCell ⟨w.heap.size + 1 + 1, 1, none⟩ (.slice (some ⟨g, 0, none⟩) t.length c)).setCell ⟨w.heap.size + 1 + 1, 2, none⟩ (.slice (some ⟨gb, 0, none⟩) o.length uc)).drew := ⟨_, rfl⟩
  rw [← hWF]
  have HA := HM.out
  obtain ⟨o1, g1⟩ := HA.ou.stored i (.int .i64 z)
  have L1 : (List.map (Value.int .i64) o).set i (.int .i64 z) = List.map (Value.int .i64) (o.set i z) := by rw [← List.map_set]
  rw [L1] at o1
  have hB' : B ≤ gb := (HA.ou.lt gb rfl).1
  have nv : (Value.slice (some ⟨g, 0, none⟩) t.length c).ownBlock ≠ some gb := fun (e : some g = some gb) => ggb (Option.some.inj e)
  have nv2 : (Value.slice (some ⟨g, 0, none⟩) t.length c).ownBlock ≠ some (w.heap.size + 1) := fun (e : some g = some _) => gp (Option.some.inj e)
  have nu2 : (Value.slice (some ⟨gb, 0, none⟩) o.length uc).ownBlock ≠ some (w.heap.size + 1) := fun (e : some gb = some _) => gn0 (Option.some.inj e)
  have b1 : Below B w ((A.setCell ⟨gb, i, none⟩ (.int .i64 z)).setCell ⟨w.heap.size + 1, 1, none⟩ (.slice (some ⟨g, 0, none⟩) t.length c)) := ((BA.out.mono hB).setCell hB' _).setCell (show B ≤ w.heap.size + 1 by omega) _
  have h1 := HR.out.keep (g1.block _ HR.out.lt (fun e => gr1 (Option.some.inj e)))
  have h2 : Blk3 ((A.setCell ⟨gb, i, none⟩ (.int .i64 z)).setCell ⟨w.heap.size + 1, 1, none⟩ (.slice (some ⟨g, 0, none⟩) t.length c)) (w.heap.size + 1 + 1) _ _ _ _ := h1.keep (heap_setCell_other _ ⟨w.heap.size + 1, 1, none⟩ _ _ pr1)
  obtain ⟨⟨e0, e1, e2⟩, w1, w2, w3⟩ := change_end (s := t) (o := o.set i z) (k := k + 1) (r := w.heap.size + 1 + 1) (v := .slice (some ⟨g, 0, none⟩) t.length c) (u := .slice (some ⟨gb, 0, none⟩) o.length uc) (own_set (own_set TK.out gb i _ nv) (w.heap.size + 1) 1 _ nv2) (by rw [List.length_set]; exact own_set o1 (w.heap.size + 1) 1 _ nu2) (fun (e : some g = some _) => by have := Option.some.inj e; omega) (fun (e : some gb = some _) => gr0 (Option.some.inj e)) h2 b1 (by omega) hWF
  refine bodyPost_ret (v := .agg #[.int .i64 (k + 1), .slice (some ⟨g, 0, none⟩) t.length c, .slice (some ⟨gb, 0, none⟩) o.length uc]) (by simp [results, Tryd.results22, go_sem, e0, e1, e2]) rfl ?_
  exact ⟨_, _, rfl, w1, w2, HA.ap, w3, by rw [hWF]; repeat (first | with_reducible exact Fr.start BA.out | with_reducible refine Fr.drew ?_ | (with_reducible refine Fr.set ?_ ?hr; case hr => (first | (left; omega) | exact .inr (.inl rfl) | exact .inr (.inr rfl))))⟩
set_option maxHeartbeats 1000000 in
theorem sCopyM (k : Int) (a : Option Addr) (n c : Nat) (s : List Int) (b : Option Addr) (m d : Nat) (o : List Int) (w : World) (h : Ms w a n c s b m d o) (hn : n ≤ 1048576) (hm : m ≤ 1048576) : Calls Tryd.prog 21 #[machV k a n c b m d] w (RetM w k s o) := by
  have H := Lib.hid h
  obtain rfl : n = s.length := h.1.1.symm
  obtain rfl : m = o.length := h.2.1.symm
  clear h
  obtain ⟨A, hA⟩ : ∃ A, A = (w.alloc (.cells #[.int .i64 k, .slice a s.length c, .slice b o.length d] 28)).alloc (.cells #[.int .i64 0, .slice none 0 0, .slice none 0 0] 28) := ⟨_, rfl⟩
  have sA : A.heap.size = w.heap.size + 2 := by rw [hA]; simp
  have BA := Lib.hid (show Below w.heap.size w A by rw [hA]; (repeat' (first | (with_reducible exact Below.refl _ _) | (with_reducible assumption) | (with_reducible refine below_drewN ?_ _) | (with_reducible refine Below.drew ?_) | (with_reducible refine Below.alloc ?_ ?_ _) | (with_reducible refine Below.setCell ?_ ?_ _) | (with_reducible refine below_gw ?_ ?_ _) | (with_reducible refine below_via ?_ ‹Below _ _ _› ?_) | (with_reducible exact Nat.le_refl _) | (with_reducible refine le_gw ?_ _) | (with_reducible refine le_alloc ?_ _) | (with_reducible refine le_setCell ?_ _ _) | (with_reducible refine le_drew ?_) | (with_reducible refine le_drewN ?_ _) | go_size)))
  have le1 : w.heap.size + 1 ≤ A.heap.size := by omega
  have HS : Hid (∀ W, Below (w.heap.size + 1) A W → W.cell? ⟨w.heap.size, 0, none⟩ = some (.int .i64 k) ∧ W.cell? ⟨w.heap.size, 1, none⟩ = some (.slice a s.length c) ∧ W.cell? ⟨w.heap.size, 2, none⟩ = some (.slice b o.length d)) := Lib.hid fun W hW => by
    refine ⟨?_, ?_, ?_⟩
    · rw [hW.cell (p := ⟨w.heap.size, 0, none⟩) (by simp), hA]; simp
    · rw [hW.cell (p := ⟨w.heap.size, 1, none⟩) (by simp), hA]; simp
    · rw [hW.cell (p := ⟨w.heap.size, 2, none⟩) (by simp), hA]; simp
  have RB : Hid (Blk3 A (w.heap.size + 1) (.int .i64 0) (.slice none 0 0) (.slice none 0 0) 28) := Lib.hid (by
    have h := blk3_new (w.alloc (.cells #[.int .i64 k, .slice a s.length c, .slice b o.length d] 28)) (.int .i64 0) (.slice none 0 0) (.slice none 0 0) 28
    rw [World.size_alloc] at h
    rw [hA]; exact h)
  have CS := Lib.hid (fun (W : World) (hW : Below A.heap.size A W) => sCopyE a s.length c s W ((H.out.1.below BA.out).below hW) hn)
  have CO := Lib.hid (fun (W : World) (hW : Below A.heap.size A W) => sCopyE b o.length d o W ((H.out.2.below BA.out).below hW) hm)
  have lA : w.heap.size + 1 < A.heap.size := by omega
  obtain ⟨r0, r1, r2⟩ := RB.out.cells
  have rz := RB.out.frozen
  go_enter Tryd.func21, Tryd.ntmps21
  go_wp2_with fail
  rw [← hA]
  clear hA
  go_region_held3 (fun W => W.cell? ⟨w.heap.size, 0, none⟩ = some (.int .i64 k) ∧ W.cell? ⟨w.heap.size, 1, none⟩ = some (.slice a s.length c) ∧ W.cell? ⟨w.heap.size, 2, none⟩ = some (.slice b o.length d)) (with_reducible exact HS.out _ (by (repeat' (first | (with_reducible exact Below.refl _ _) | (with_reducible assumption) | (with_reducible refine below_drewN ?_ _) | (with_reducible refine Below.drew ?_) | (with_reducible refine Below.alloc ?_ ?_ _) | (with_reducible refine Below.setCell ?_ ?_ _) | (with_reducible refine below_gw ?_ ?_ _) | (with_reducible refine below_via ?_ ‹Below _ _ _› ?_) | (with_reducible exact Nat.le_refl _) | (with_reducible refine le_gw ?_ _) | (with_reducible refine le_alloc ?_ _) | (with_reducible refine le_setCell ?_ _ _) | (with_reducible refine le_drew ?_) | (with_reducible refine le_drewN ?_ _) | go_size)))) ((first | (go_at_call 36; with_reducible refine (CS.out _ (by ((repeat' (first | (with_reducible exact Below.refl _ _) | (with_reducible assumption) | (with_reducible refine below_drewN ?_ _) | (with_reducible refine Below.drew ?_) | (with_reducible refine Below.alloc ?_ ?_ _) | (with_reducible refine Below.setCell ?_ ?_ _) | (with_reducible refine below_gw ?_ ?_ _) | (with_reducible refine below_via ?_ ‹Below _ _ _› ?_) | (with_reducible exact Nat.le_refl _) | (with_reducible refine le_gw ?_ _) | (with_reducible refine le_alloc ?_ _) | (with_reducible refine le_setCell ?_ _ _) | (with_reducible refine le_drew ?_) | (with_reducible refine le_drewN ?_ _) | go_size))); done)).mono ?_; intro r w1 hh; unfold RetI at hh; obtain ⟨a1, c1, he, o1, hb, -⟩ := hh; subst he; have O1 := Lib.hid o1; obtain ⟨q1, rfl⟩ := gw_of_below hb; clear hb o1) | (go_at_call 36; with_reducible refine (CO.out _ (by ((repeat' (first | (with_reducible exact Below.refl _ _) | (with_reducible assumption) | (with_reducible refine below_drewN ?_ _) | (with_reducible refine Below.drew ?_) | (with_reducible refine Below.alloc ?_ ?_ _) | (with_reducible refine Below.setCell ?_ ?_ _) | (with_reducible refine below_gw ?_ ?_ _) | (with_reducible refine below_via ?_ ‹Below _ _ _› ?_) | (with_reducible exact Nat.le_refl _) | (with_reducible refine le_gw ?_ _) | (with_reducible refine le_alloc ?_ _) | (with_reducible refine le_setCell ?_ _ _) | (with_reducible refine le_drew ?_) | (with_reducible refine le_drewN ?_ _) | go_size))); done)).mono ?_; intro r w1 hh; unfold RetI at hh; obtain ⟨a2, c2, he, o2, hb, -⟩ := hh; subst he; have O2 := Lib.hid o2; obtain ⟨q2, rfl⟩ := gw_of_below hb; clear hb o2)))
  all_goals
    go_wp2
    have BG := (((RB.out.set0 (.int .i64 k)).set1 (.slice a1 s.length c1)).set2 (.slice a2 o.length c2)).later (below_gw (Below.refl _ _) (Nat.le_refl _) (gcat q1 q2))
    obtain ⟨e0, e1, e2⟩ := BG.cells
    refine bodyPost_ret (v := machV k a1 s.length c1 a2 o.length c2) (by simp [results, Tryd.results21, go_sem, e0, e1, e2]) rfl ?_
    have o2 := O2.out
    rw [gw_gw] at o2
    exact ⟨a1, c1, a2, c2, rfl, ownM_two (W1 := A) (W2 := A) (by simp only [World.size_setCell]) (by simp only [World.size_setCell]) (by simp only [World.size_setCell]; omega) O1.out o2 rfl rfl, BA.out.trans (Below.mono (B := w.heap.size + 1) (by (repeat' (first | (with_reducible exact Below.refl _ _) | (with_reducible assumption) | (with_reducible refine below_drewN ?_ _) | (with_reducible refine Below.drew ?_) | (with_reducible refine Below.alloc ?_ ?_ _) | (with_reducible refine Below.setCell ?_ ?_ _) | (with_reducible refine below_gw ?_ ?_ _) | (with_reducible refine below_via ?_ ‹Below _ _ _› ?_) | (with_reducible exact Nat.le_refl _) | (with_reducible refine le_gw ?_ _) | (with_reducible refine le_alloc ?_ _) | (with_reducible refine le_setCell ?_ _ _) | (with_reducible refine le_drew ?_) | (with_reducible refine le_drewN ?_ _) | go_size))) (by omega)), hn, hm⟩
theorem sShift7 (x k : Int) (w : World) (h1 : -9841 ≤ x) (h2 : x ≤ 9841) (k1 : -9 ≤ k) (k2 : k ≤ 9) : Calls Tryd.prog 39 #[.int .i64 x, .int .i64 k] w fun e w' => e = .returned (.int .i64 (Tm.shC x k)) ∧ Below w.heap.size w w' := by
  have WO := Lib.hid (sWordL x 9 w (by omega) (by omega) (by omega))
  have n9 : (9 : Int).toNat = 9 := rfl
  rw [n9] at WO
  have WL := Tm.wordL_length x 9
  obtain ⟨K1, K2, K3⟩ := Tm.shf_nine (x := x) k1 k2
  have TK := Tm.shC_take (x := x) k1 k2
  have TW : Tm.isW ((Tm.shf (Tm.wordL x 9) k).take 9) = true := by
    unfold Tm.isW
    rw [Bool.and_eq_true, List.all_eq_true, List.length_take]
    exact ⟨fun z hz => Tm.shf_trits z (List.mem_of_mem_take hz), by simp; omega⟩
  unfold Tm.value at TK
  rw [if_pos TW] at TK
  have TWH := Lib.hid TW
  clear TW
  go_enter Tryd.func39, Tryd.ntmps39
  go_wp2_with fail
  refine WO.out.mono ?_
  intro e w6 hh
  unfold RetI at hh
  obtain ⟨a3, c3, rfl, o3, hb6, -⟩ := hh
  rw [WL] at o3 ⊢
  have I6 := Lib.hid (Ints.of_own o3)
  have s6 := hb6.size
  have B6 := Lib.hid hb6
  have SW := Lib.hid (sShiftWord a3 9 c3 (Tm.wordL x 9) k w6 I6.out)
  rw [K1] at SW
  obtain ⟨Y, hY⟩ : ∃ Y, Y = Tm.shf (Tm.wordL x 9) k := ⟨_, rfl⟩
  rw [← hY] at SW K2 K3 TK TWH
  clear o3 hb6 hY K1 WO WL
  go_wp2_with fail
  refine SW.out.mono ?_
  intro e w7 hh
  unfold RetIB at hh
  obtain ⟨a4, c4, rfl, o4, hb7, -⟩ := hh
  have I7 := Lib.hid (Ints.of_own o4)
  have s7 := hb7.size
  have B7 := Lib.hid (B6.out.trans (hb7.mono (by omega)))
  have IC := I7.out.2.1
  have IC2 := I7.out.2.2.1
  unfold maxLen at IC2
  clear o4 hb7
  by_cases c9 : 9 < Y.length
  · have c9' : (9 : Int) < (Y.length : Int) := by omega
    have VO := Lib.hid (fun (W : World) (h : Below w7.heap.size w7 W) => sValue2 a4 9 c4 (Y.take 9) W ((ints_first I7.out (by omega)).below h) TWH.out)
    rw [TK] at VO
    clear TK
    go_wp2_with fail
    refine (VO.out _ (by (repeat' (first | (with_reducible exact Below.refl _ _) | (with_reducible assumption) | (with_reducible refine below_drewN ?_ _) | (with_reducible refine Below.drew ?_) | (with_reducible refine Below.alloc ?_ ?_ _) | (with_reducible refine Below.setCell ?_ ?_ _) | (with_reducible refine below_gw ?_ ?_ _) | (with_reducible refine below_via ?_ ‹Below _ _ _› ?_) | (with_reducible exact Nat.le_refl _) | (with_reducible refine le_gw ?_ _) | (with_reducible refine le_alloc ?_ _) | (with_reducible refine le_setCell ?_ _ _) | (with_reducible refine le_drew ?_) | (with_reducible refine le_drewN ?_ _) | go_size)))).mono ?_
    rintro e w8 ⟨rfl, rfl⟩
    go_wp2
    go_ret
    exact ⟨rfl, by have b7 := B7.out; (repeat' (first | (with_reducible exact Below.refl _ _) | (with_reducible assumption) | (with_reducible refine below_drewN ?_ _) | (with_reducible refine Below.drew ?_) | (with_reducible refine Below.alloc ?_ ?_ _) | (with_reducible refine Below.setCell ?_ ?_ _) | (with_reducible refine below_gw ?_ ?_ _) | (with_reducible refine below_via ?_ ‹Below _ _ _› ?_) | (with_reducible exact Nat.le_refl _) | (with_reducible refine le_gw ?_ _) | (with_reducible refine le_alloc ?_ _) | (with_reducible refine le_setCell ?_ _ _) | (with_reducible refine le_drew ?_) | (with_reducible refine le_drewN ?_ _) | go_size))⟩
  · have c9' : ¬ (9 : Int) < (Y.length : Int) := by omega
    rw [List.take_of_length_le (by omega)] at TK TWH
    have VO := Lib.hid (fun (W : World) (h : Below w7.heap.size w7 W) => sValue2 a4 Y.length c4 Y W (I7.out.below h) TWH.out)
    rw [TK] at VO
    clear TK
    go_wp2_with fail
    refine (VO.out _ (by (repeat' (first | (with_reducible exact Below.refl _ _) | (with_reducible assumption) | (with_reducible refine below_drewN ?_ _) | (with_reducible refine Below.drew ?_) | (with_reducible refine Below.alloc ?_ ?_ _) | (with_reducible refine Below.setCell ?_ ?_ _) | (with_reducible refine below_gw ?_ ?_ _) | (with_reducible refine below_via ?_ ‹Below _ _ _› ?_) | (with_reducible exact Nat.le_refl _) | (with_reducible refine le_gw ?_ _) | (with_reducible refine le_alloc ?_ _) | (with_reducible refine le_setCell ?_ _ _) | (with_reducible refine le_drew ?_) | (with_reducible refine le_drewN ?_ _) | go_size)))).mono ?_
    rintro e w8 ⟨rfl, rfl⟩
    go_wp2
    go_ret
    exact ⟨rfl, by have b7 := B7.out; (repeat' (first | (with_reducible exact Below.refl _ _) | (with_reducible assumption) | (with_reducible refine below_drewN ?_ _) | (with_reducible refine Below.drew ?_) | (with_reducible refine Below.alloc ?_ ?_ _) | (with_reducible refine Below.setCell ?_ ?_ _) | (with_reducible refine below_gw ?_ ?_ _) | (with_reducible refine below_via ?_ ‹Below _ _ _› ?_) | (with_reducible exact Nat.le_refl _) | (with_reducible refine le_gw ?_ _) | (with_reducible refine le_alloc ?_ _) | (with_reducible refine le_setCell ?_ _ _) | (with_reducible refine le_drew ?_) | (with_reducible refine le_drewN ?_ _) | go_size))⟩
theorem step_append_at {P : Program} {ops : Array Oper} {o : Oper} {a : Act} {w : World} {K : Act → World → Prop} {Q : Exit → Act → World → Prop} {E : Prop}
    (hg : o.guard = none) (s x : Operand) (t : TypeId) (hop : o.op = Op.call { callee := Callee.builtin Builtin.append, args := #[s, x], argTypes := #[t, t] })
    (base : Nat) (e : TypeId) (i : TypeInfo) (z : Value) (size bytes : Nat) (h1 : P.underlying t = some (.slice e)) (h2 : P.info? e = some i) (h3 : i.zero = some z) (h4 : i.size = size) (h5 : i.bytes = bytes) (h6 : z.cells.size = size) (h7 : 0 < size)
    (v : Value) (n : Nat) (xs : List Value) (hs : a.eval s = v) (hown : w.ownsRow base e size v n xs)
    (ad : Addr) (m c : Nat) (news : List Value) (hx : a.eval x = .slice (some ad) m c) (hn : news.length = m * size) (hc : ∀ j u, news[j]? = some u → w.cell? (ad.add j) = some u) (h1c : ∀ u ∈ news, u.oneCell' = true)
    (b1 : n + m ≤ maxLen) (b2 : (n + m) * bytes ≤ 140737488355328) (hbase : base ≤ w.heap.size)
    (hK : ∀ v' w', w'.ownsRow base e size v' (n + m) (xs ++ news) → w.grownBy w' v.ownBlock → (v'.ownBlock = v.ownBlock ∨ v'.ownBlock = some w.heap.size) → K (a.put o.dst v') w') :
    if Region.wanted o (yielded ops a.tmps) = true then Oper.wp P o a w K Q else E := by
  have hw : Region.wanted o (yielded ops a.tmps) = true := by simp [Region.wanted, hg]
  rw [if_pos hw]
  obtain ⟨v', w', hrun, r1, r2, r3, r4⟩ := run_append_own_at (P := P) w base t o.type e i z size bytes h1 h2 h3 h4 h5 h6 h7 v n xs hown ad m c news hn hc h1c b1 b2 hbase
  unfold Oper.wp
  simp [execOp, hop, resolve, invoke, builtin, hs, hx, hrun, Result.andThen]
  exact hK v' w' r1 r2 r4
theorem change_end2 {w W1 : World} {B p r : Nat} {v u a b c : Value} {s o : List Int} {k : Int} {t : TypeId} (hm : MSt W1 B p k v s u o) (hr : Blk3 W1 r a b c t) (hb : Below B w W1) (hB : B ≤ r) {WF : World} (hW : WF = ((W1.setCell ⟨r, 0, none⟩ (.int .i64 k)).setCell ⟨r, 1, none⟩ v).setCell ⟨r, 2, none⟩ u) (hv : v.ownBlock ≠ some r) (hu : u.ownBlock ≠ some r) :
    (WF.cell? ⟨r, 0, none⟩ = some (.int .i64 k) ∧ WF.cell? ⟨r, 1, none⟩ = some v ∧ WF.cell? ⟨r, 2, none⟩ = some u) ∧ WF.ownsRow B 3 1 v s.length (s.map (Value.int .i64)) ∧ WF.ownsRow B 3 1 u o.length (o.map (Value.int .i64)) ∧ Below B w WF := by
  subst hW
  have h3 : Blk3 (((W1.setCell ⟨r, 0, none⟩ (.int .i64 k)).setCell ⟨r, 1, none⟩ v).setCell ⟨r, 2, none⟩ u) r (.int .i64 k) v u t := ((hr.set0 (.int .i64 k)).set1 v).set2 u
  exact ⟨h3.cells, own_set (own_set (own_set hm.sv r 0 _ hv) r 1 _ hv) r 2 _ hv, own_set (own_set (own_set hm.ou r 0 _ hu) r 1 _ hu) r 2 _ hu, ((hb.setCell hB _).setCell hB _).setCell hB _⟩
end Go.Proofs.YtlpdeeaebgclpaaDoor

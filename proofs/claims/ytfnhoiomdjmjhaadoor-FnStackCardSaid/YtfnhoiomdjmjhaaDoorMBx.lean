/- A machine in memory: a block of three cells that is written to, the rows it names. The program's machine: an operation is executed. Written by tools/laws/mexe.py. Plain facts on the machine's steps: no program, no world. The program's machine: a step. -/
import Derived.Test.YtfnhoiomdjmjhaaDoorMI2
import Derived.Test.YtfnhoiomdjmjhaaDoorCopy
import Derived.Test.YtfnhoiomdjmjhaaDoorGBox
import Derived.Test.YtfnhoiomdjmjhaaDoorMMath
import Derived.Test.YtfnhoiomdjmjhaaDoorMI1
namespace Go.Proofs.YtfnhoiomdjmjhaaDoor
set_option maxRecDepth 20000
open Go.RowKit
/-- Block p holds three cells, none of them frozen. -/
def Blk3 (w : World) (p : Nat) (v0 v1 v2 : Value) (t : TypeId) : Prop := w.heap[p]? = some (.cells #[v0, v1, v2] t (0, 0))
theorem Blk3.lt {w : World} {p : Nat} {v0 v1 v2 : Value} {t : TypeId} (h : Blk3 w p v0 v1 v2 t) : p < w.heap.size := (Array.getElem?_eq_some_iff.1 h).1
theorem Blk3.cells {w : World} {p : Nat} {v0 v1 v2 : Value} {t : TypeId} (h : Blk3 w p v0 v1 v2 t) : w.cell? ⟨p, 0, none⟩ = some v0 ∧ w.cell? ⟨p, 1, none⟩ = some v1 ∧ w.cell? ⟨p, 2, none⟩ = some v2 := by
  unfold Blk3 at h
  refine ⟨?_, ?_, ?_⟩ <;> simp [World.cell?, h]
theorem Blk3.box {w : World} {p : Nat} {v0 v1 v2 : Value} {t : TypeId} (h : Blk3 w p v0 v1 v2 t) : Box3 w p v0 v1 v2 := ⟨h.lt, h.cells.1, h.cells.2.1, h.cells.2.2⟩
theorem Blk3.frozen {w : World} {p : Nat} {v0 v1 v2 : Value} {t : TypeId} (h : Blk3 w p v0 v1 v2 t) (o : Nat) : w.frozen? ⟨p, o, none⟩ = false := by
  unfold Blk3 at h
  simp [World.frozen?, h]
theorem Blk3.keep {w w' : World} {p : Nat} {v0 v1 v2 : Value} {t : TypeId} (h : Blk3 w p v0 v1 v2 t) (hb : w'.heap[p]? = w.heap[p]?) : Blk3 w' p v0 v1 v2 t := by
  unfold Blk3 at h ⊢
  rw [hb]; exact h
theorem Blk3.later {w w' : World} {p : Nat} {v0 v1 v2 : Value} {t : TypeId} (h : Blk3 w p v0 v1 v2 t) (hb : Below w.heap.size w w') : Blk3 w' p v0 v1 v2 t := h.keep (hb.block p h.lt)
theorem blk3_new (w : World) (v0 v1 v2 : Value) (t : TypeId) : Blk3 (w.alloc (.cells #[v0, v1, v2] t)) w.heap.size v0 v1 v2 t := heap_alloc_new w _
theorem Blk3.set0 {w : World} {p : Nat} {v0 v1 v2 : Value} {t : TypeId} (h : Blk3 w p v0 v1 v2 t) (v : Value) : Blk3 (w.setCell ⟨p, 0, none⟩ v) p v v1 v2 t := by
  have := heap_set_same h 0 v
  simpa [Blk3] using this
theorem Blk3.set1 {w : World} {p : Nat} {v0 v1 v2 : Value} {t : TypeId} (h : Blk3 w p v0 v1 v2 t) (v : Value) : Blk3 (w.setCell ⟨p, 1, none⟩ v) p v0 v v2 t := by
  have := heap_set_same h 1 v
  simpa [Blk3] using this
theorem Blk3.set2 {w : World} {p : Nat} {v0 v1 v2 : Value} {t : TypeId} (h : Blk3 w p v0 v1 v2 t) (v : Value) : Blk3 (w.setCell ⟨p, 2, none⟩ v) p v0 v1 v t := by
  have := heap_set_same h 2 v
  simpa [Blk3] using this
/-- A shorter slice of a row of one's own. -/
theorem own_take {w : World} {B e g n c m : Nat} {xs : List Int} (h : w.ownsRow B e 1 (.slice (some ⟨g, 0, none⟩) n c) n (xs.map (Value.int .i64))) (hm : m ≤ n) : w.ownsRow B e 1 (.slice (some ⟨g, 0, none⟩) m c) m ((xs.take m).map (Value.int .i64)) := by
  obtain ⟨h1, h2⟩ := h
  rw [List.length_map, Nat.mul_one] at h1
  refine ⟨by rw [List.length_map, List.length_take, h1]; omega, ?_⟩
  rcases h2 with ⟨h2, _⟩ | ⟨g', cap, cur, h2, hB, hg, hc, hcap, hsz, ht⟩
  · cases h2
  · simp only [Value.slice.injEq, Option.some.injEq, Addr.mk.injEq, and_true, true_and] at h2
    obtain ⟨rfl, rfl⟩ := h2
    refine .inr ⟨g, c, cur, rfl, hB, hg, by omega, hcap, hsz, ?_⟩
    rw [Nat.mul_one] at ht ⊢
    rw [List.map_take, ← ht, List.take_take, Nat.min_eq_left hm]
/-- A machine lies at block p; all that it names is the call's own. -/
structure MSt (w : World) (B p : Nat) (k : Int) (v : Value) (s : List Int) (u : Value) (o : List Int) : Prop where
  blk : Blk3 w p (.int .i64 k) v u 27
  low : B ≤ p
  sv : w.ownsRow B 3 1 v s.length (s.map (Value.int .i64))
  ou : w.ownsRow B 3 1 u o.length (o.map (Value.int .i64))
  ap : Apart v u
  vp : v.ownBlock ≠ some p
  up : u.ownBlock ≠ some p
theorem MSt.later {w w' : World} {B p : Nat} {k : Int} {v u : Value} {s o : List Int} (h : MSt w B p k v s u o) (hb : Below w.heap.size w w') : MSt w' B p k v s u o :=
  ⟨h.blk.keep (hb.block p h.blk.lt), h.low, own_below h.sv hb, own_below h.ou hb, h.ap, h.vp, h.up⟩
/-- The stack has turned. -/
theorem MSt.turn {w w' : World} {B p : Nat} {k k' : Int} {v u v' : Value} {s s' o : List Int} (h : MSt w B p k v s u o) (ht : TurnV p v w w') (hb : Blk3 w' p (.int .i64 k') v' u 27)
    (ho : w'.ownsRow B 3 1 v' s'.length (s'.map (Value.int .i64))) (hv : v'.ownBlock = v.ownBlock ∨ ∃ q, v'.ownBlock = some q ∧ w.heap.size ≤ q) : MSt w' B p k' v' s' u o ∧ Below B w w' := by
  have lp := h.blk.lt
  refine ⟨⟨hb, h.low, ho, own_stable h.ou fun q hq => ht.block q (h.ou.lt q hq).2 (fun e => h.up (e ▸ hq)) (fun e => h.ap q e hq), fun q h1 h2 => ?_, fun e => ?_, h.up⟩, ht.below h.low h.sv (by have := h.low; omega)⟩
  · rcases hv with e | ⟨r, e, hr⟩
    · rw [e] at h1; exact h.ap q h1 h2
    · rw [e] at h1; cases h1; have := (h.ou.lt _ h2).2; omega
  · rcases hv with e1 | ⟨r, e1, hr⟩
    · rw [e1] at e; exact h.vp e
    · rw [e1] at e; cases e; omega
theorem iPop (p g n c : Nat) (v0 v2 : Value) (t : TypeId) (x : Int) (w : World) (hb : Blk3 w p v0 (.slice (some ⟨g, 0, none⟩) (n + 1) c) v2 t) (hx : w.cell? ⟨g, n, none⟩ = some (.int .i64 x)) (hc : n + 1 ≤ c) (hn : n ≤ 1000) :
    Calls Tryd.prog 62 #[.pointer (some ⟨p, 0, none⟩)] w fun e w' => e = .returned (.int .i64 x) ∧ w' = w.setCell ⟨p, 1, none⟩ (.slice (some ⟨g, 0, none⟩) n c) := by
  obtain ⟨b0, b1, b2⟩ := hb.cells
  have fz := hb.frozen
  have lt := hb.lt
  have e1 : IntKind.i64.wrap ((n : Int) + 1 - 1) = (n : Int) := by rw [IntWalk.i64_in _ (by omega)]; omega
  have n0 : (0 : Int) ≤ (n : Int) := by omega
  have n1 : (n : Int) < (n : Int) + 1 := by omega
  have n2 : (n : Int) ≤ (c : Int) := by omega
  clear hb
  go_enter Tryd.func62, Tryd.ntmps62
  go_wp2
  go_ret
  exact ⟨rfl, rfl⟩
theorem iPush (p B : Nat) (v0 v v2 : Value) (t : TypeId) (xs : List Int) (a : Option Addr) (m c : Nat) (ys : List Int) (w : World) (hb : Blk3 w p v0 v v2 t) (hs : w.ownsRow B 3 1 v xs.length (xs.map (Value.int .i64))) (hv : v.ownBlock ≠ some p) (hy : Ints w a m c ys) (hn : xs.length ≤ 1000) (hm : m ≤ 1000) (hB : B ≤ p) :
    Calls Tryd.prog 61 #[.pointer (some ⟨p, 0, none⟩), .slice a m c] w fun e w' => e = .returned (.tuple #[]) ∧ ∃ v', Blk3 w' p v0 v' v2 t ∧ w'.ownsRow B 3 1 v' (xs ++ ys).length ((xs ++ ys).map (Value.int .i64)) ∧ TurnV p v w w' ∧ (v'.ownBlock = v.ownBlock ∨ v'.ownBlock = some w.heap.size) := by
  obtain ⟨i0, hi, hz0, hz1, hz2⟩ := info_parts infoInt
  obtain ⟨va, vc, rfl⟩ := own_form hs
  have HB := Lib.hid hb
  have HS := Lib.hid hs
  have HY := Lib.hid hy
  obtain ⟨b0, b1, b2⟩ := hb.cells
  have lt := hb.lt
  clear hb hs hy b0 b2
  go_enter Tryd.func61, Tryd.ntmps61
  go_wp2_with (at_builtin; refine wpList_append_opt _ rfl _ _ 25 rfl B 3 i0 (.int .i64 0) 1 8 Tryd.underlying25 hi hz0 hz1 hz2 rfl (by decide) _ xs.length (xs.map (Value.int .i64)) rfl HS.out a m c (ys.map (Value.int .i64)) rfl (by simp [HY.out.1]) HY.out.none0 HY.out.news (news_one _) (by unfold maxLen; omega) (by omega) (by omega) ?_)
  intro v' w1 hown hgrow hat
  obtain ⟨va', vc', rfl⟩ := own_form hown
  have B1 : Hid (Blk3 w1 p v0 (.slice va xs.length vc) v2 t) := Lib.hid (HB.out.keep (hgrow.block p lt (fun e => hv e.symm)))
  obtain ⟨c0, c1, c2⟩ := B1.out.cells
  have fz := B1.out.frozen
  have lt1 := B1.out.lt
  have hv' : (Value.slice va' (xs.length + m) vc').ownBlock ≠ some p := fun e => by
    rcases hat with h | h
    · rw [h] at e; exact hv e
    · rw [h] at e; cases e; omega
  have O1 := Lib.hid hown
  have T1 := Lib.hid ((TurnV.refl p (.slice va xs.length vc) w).grown hgrow rfl)
  have AT := Lib.hid hat
  clear hown hgrow hat b1 c0 c2
  go_wp2
  (try simp only [Exit.inBlock, Exit.then])
  refine bodyPost_end (v := .tuple #[]) (by simp [results, Tryd.results61]) rfl ?_
  refine ⟨rfl, _, B1.out.set1 _, ?_, T1.out.set 1 _, AT.out⟩
  have := own_set O1.out p 1 (.slice va' (xs.length + m) vc') hv'
  rw [List.map_append, List.length_append, HY.out.1]
  exact this
theorem cell_set_far {w : World} {p g o i : Nat} {v u : Value} (h : w.cell? ⟨g, i, none⟩ = some u) (hne : g ≠ p) : (w.setCell ⟨p, o, none⟩ v).cell? ⟨g, i, none⟩ = some u := by
  rw [← h]; exact World.cell?_of_block (a := ⟨g, i, none⟩) (heap_setCell_other w ⟨p, o, none⟩ g v hne)
theorem ints_one {W : World} {b : Nat} (x : Int) (t : TypeId) (hb : b = W.heap.size) : Ints (W.alloc (.cells #[.int .i64 x] t)) (some ⟨b, 0, none⟩) 1 1 [x] := by
  subst hb
  refine ⟨rfl, by omega, by unfold maxLen; omega, .inr ⟨_, 0, rfl, by simp, fun i hi => ?_⟩⟩
  match i, hi with
  | 0, _ => simp
theorem ints_twoM {W : World} {b : Nat} (x y : Int) (t : TypeId) (hb : b = W.heap.size) : Ints (W.alloc (.cells #[.int .i64 x, .int .i64 y] t)) (some ⟨b, 0, none⟩) 2 2 [x, y] := by
  subst hb
  refine ⟨rfl, by omega, by unfold maxLen; omega, .inr ⟨_, 0, rfl, by simp, fun i hi => ?_⟩⟩
  match i, hi with
  | 0, _ | 1, _ => simp
theorem TurnV.trans {p : Nat} {v v1 : Value} {w w1 w2 : World} (h : TurnV p v w w1) (k : TurnV p v1 w1 w2) (hv : v1.ownBlock = v.ownBlock) : TurnV p v w w2 :=
  ⟨k.os.trans h.os, k.tape.trans h.tape, k.output.trans h.output, Nat.le_trans h.size k.size, fun q h1 h2 h3 => (k.block q (Nat.lt_of_lt_of_le h1 h.size) h2 (by rw [hv]; exact h3)).trans (h.block q h1 h2 h3)⟩
theorem own_set_far {w : World} {B e n p o : Nat} {v u : Value} {xs : List Value} (h : w.ownsRow B e 1 v n xs) (hne : v.ownBlock ≠ some p) : (w.setCell ⟨p, o, none⟩ u).ownsRow B e 1 v n xs := own_set h p o u hne
/-- The stack's last numbers. -/
theorem stack_one {w : World} {B p : Nat} {k : Int} {v u : Value} {t o : List Int} {x : Int} (h : MSt w B p k v (t ++ [x]) u o) : ∃ g c, v = .slice (some ⟨g, 0, none⟩) (t.length + 1) c ∧ g ≠ p ∧ t.length + 1 ≤ c ∧ w.cell? ⟨g, t.length, none⟩ = some (.int .i64 x) := by
  have hs := h.sv
  rw [List.length_append, List.length_singleton] at hs
  obtain ⟨g, c, rfl⟩ := own_shapeN hs (by omega)
  have hi := Ints.of_own hs
  have hc := own_get hs (show t.length < t.length + 1 by omega)
  rw [List.getD_eq_getElem?_getD, List.getElem?_append_right (Nat.le_refl _), Nat.sub_self] at hc
  exact ⟨g, c, rfl, fun e => h.vp (by rw [← e]; rfl), hi.2.1, hc⟩
theorem stack_two {w : World} {B p : Nat} {k : Int} {v u : Value} {t o : List Int} {x y : Int} (h : MSt w B p k v (t ++ [x, y]) u o) : ∃ g c, v = .slice (some ⟨g, 0, none⟩) (t.length + 2) c ∧ g ≠ p ∧ t.length + 2 ≤ c ∧ w.cell? ⟨g, t.length, none⟩ = some (.int .i64 x) ∧ w.cell? ⟨g, t.length + 1, none⟩ = some (.int .i64 y) := by
  have hs := h.sv
  rw [List.length_append, show [x, y].length = 2 from rfl] at hs
  obtain ⟨g, c, rfl⟩ := own_shapeN hs (by omega)
  have hi := Ints.of_own hs
  have h0 := own_get hs (show t.length < t.length + 2 by omega)
  have h1 := own_get hs (show t.length + 1 < t.length + 2 by omega)
  rw [List.getD_eq_getElem?_getD, List.getElem?_append_right (Nat.le_refl _), Nat.sub_self] at h0
  rw [List.getD_eq_getElem?_getD, List.getElem?_append_right (Nat.le_succ _), show t.length.succ - t.length = 1 by omega] at h1
  exact ⟨g, c, rfl, fun e => h.vp (by rw [← e]; rfl), hi.2.1, h0, h1⟩
/-- What lies of the stack's row behind pops. -/
theorem stack_rest {w : World} {B p : Nat} {k : Int} {g n c : Nat} {u : Value} {t r o : List Int} (h : MSt w B p k (.slice (some ⟨g, 0, none⟩) n c) (t ++ r) u o) : w.ownsRow B 3 1 (.slice (some ⟨g, 0, none⟩) t.length c) t.length (t.map (Value.int .i64)) := by
  have hs := h.sv
  have e : n = (t ++ r).length := by
    rcases hs.2 with ⟨e, _⟩ | ⟨g', cap, cur, e, _⟩
    · cases e
    · simp only [Value.slice.injEq] at e; exact e.2.1
  subst e
  have := own_take hs (m := t.length) (by simp)
  rwa [List.take_left] at this
theorem iCalc (c x y : Int) (w : World) (hc : c = 2 ∨ c = 3 ∨ c = 4) (hx : -9841 ≤ x ∧ x ≤ 9841) (hy : -9841 ≤ y ∧ y ≤ 9841) : Calls Tryd.prog 63 #[.int .i64 c, .int .i64 x, .int .i64 y] w fun e w' => e = .returned (.int .i64 (if c = 2 then Tm.wrapC (x + y) else if c = 3 then Tm.wrapC (x - y) else Tm.wrapC (x * y))) ∧ w = w' := by
  have WR := Lib.hid (fun n w => iWrapCell n w)
  have m : (x * y).natAbs ≤ 9841 * 9841 := by rw [Int.natAbs_mul]; exact Nat.mul_le_mul (by omega) (by omega)
  have e1 : IntKind.i64.wrap (x + y) = x + y := IntWalk.i64_in _ (by omega)
  have e2 : IntKind.i64.wrap (x - y) = x - y := IntWalk.i64_in _ (by omega)
  have e3 : IntKind.i64.wrap (x * y) = x * y := IntWalk.i64_in _ (by omega)
  rcases hc with rfl | rfl | rfl
  all_goals
    go_enter Tryd.func63, Tryd.ntmps63
    go_wp2_with fail
    refine (WR.out _ _).mono ?_
    rintro e w' ⟨rfl, rfl⟩
    go_wp2
    go_ret
    exact ⟨by simp, rfl⟩
set_option maxHeartbeats 1000000 in
theorem iExe1 (x1 x2 x3 : Int) (p B : Nat) (k : Int) (v u : Value) (o : List Int) (s : List Int) (w : World) (h : MSt w B p k v (s) u o) (hn : (s).length ≤ 20) :
    Calls Tryd.prog 46 #[.pointer (some ⟨p, 0, none⟩), .agg #[.int .i64 1, .int .i64 x1, .int .i64 x2, .int .i64 x3]] w fun e w' => e = .returned (.tuple #[]) ∧ ∃ v' u', MSt w' B p (k) v' (s ++ [x1]) u' (o) ∧ Below B w w' := by
  have _hn := hn
  have H := Lib.hid h
  have lt := h.blk.lt
  have hpe : p ≠ w.heap.size := by omega
  have hep : w.heap.size ≠ p := by omega
  have bA : Below w.heap.size w (w.alloc (.cells #[.int .i64 1, .int .i64 x1, .int .i64 x2, .int .i64 x3] 35)) := by (repeat' (first | (with_reducible exact Below.refl _ _) | (with_reducible assumption) | (with_reducible refine below_drewN ?_ _) | (with_reducible refine Below.drew ?_) | (with_reducible refine Below.alloc ?_ ?_ _) | (with_reducible refine Below.setCell ?_ ?_ _) | (with_reducible refine below_gw ?_ ?_ _) | (with_reducible refine below_via ?_ ‹Below _ _ _› ?_) | (with_reducible exact Nat.le_refl _) | (with_reducible refine le_gw ?_ _) | (with_reducible refine le_alloc ?_ _) | (with_reducible refine le_setCell ?_ _ _) | (with_reducible refine le_drew ?_) | (with_reducible refine le_drewN ?_ _) | go_size))
  have HA := Lib.hid (h.later bA)
  have TA := Lib.hid ((TurnV.refl p v w).of_below bA)
  clear bA
  obtain ⟨A, hA⟩ : ∃ A, A = (w.alloc (.cells #[.int .i64 1, .int .i64 x1, .int .i64 x2, .int .i64 x3] 35)) := ⟨_, rfl⟩
  have a0 : A.cell? ⟨w.heap.size, 0, none⟩ = some (.int .i64 1) := by rw [hA]; simp
  have a1 : A.cell? ⟨w.heap.size, 1, none⟩ = some (.int .i64 x1) := by rw [hA]; simp
  have a2 : A.cell? ⟨w.heap.size, 2, none⟩ = some (.int .i64 x2) := by rw [hA]; simp
  have a3 : A.cell? ⟨w.heap.size, 3, none⟩ = some (.int .i64 x3) := by rw [hA]; simp
  have sA : A.heap.size = w.heap.size + 1 := by rw [hA]; simp
  have lA : w.heap.size < A.heap.size := by omega
  have lpA : p < A.heap.size := by omega
  rw [← hA] at HA TA
  have HS := Lib.hid (HA.out.sv)
  clear h
  go_enter Tryd.func46, Tryd.ntmps46
  go_wp2_with fail
  rw [← hA]
  clear hA
  refine (iPush p B _ v u 27 s _ 1 1 [x1] _ (HA.out.blk.keep (heap_alloc_old _ _ HA.out.blk.lt)) (own_below HS.out ((Below.refl _ _).alloc (Nat.le_refl _) _)) H.out.vp (ints_one x1 _ (by first | exact sA.symm | (simp; omega))) (by omega) (by omega) H.out.low).mono ?_
  rintro e w3 ⟨rfl, v', b3, o3, t3, a3⟩
  go_wp2
  (try simp only [Exit.inBlock, Exit.then])
  refine bodyPost_end (v := .tuple #[]) (by simp [results, Tryd.results46]) rfl ?_
  refine ⟨rfl, v', u, ?_⟩
  refine H.out.turn ((TA.out.of_below ((Below.refl _ _).alloc (Nat.le_refl _) _)).trans t3 rfl) b3 o3 ?_
  rcases a3 with e | e
  · exact .inl e
  · exact .inr ⟨_, e, by simp; omega⟩
set_option maxHeartbeats 1000000 in
theorem iExe2 (x1 x2 x3 : Int) (p B : Nat) (k : Int) (v u : Value) (o : List Int) (t : List Int) (x y : Int) (w : World) (h : MSt w B p k v (t ++ [x, y]) u o) (hn : (t ++ [x, y]).length ≤ 20) (hx : -9841 ≤ x ∧ x ≤ 9841) (hy : -9841 ≤ y ∧ y ≤ 9841) :
    Calls Tryd.prog 46 #[.pointer (some ⟨p, 0, none⟩), .agg #[.int .i64 2, .int .i64 x1, .int .i64 x2, .int .i64 x3]] w fun e w' => e = .returned (.tuple #[]) ∧ ∃ v' u', MSt w' B p (k) v' (t ++ [Tm.wrapC (x + y)]) u' (o) ∧ Below B w w' := by
  have _hn := hn
  have H := Lib.hid h
  have lt := h.blk.lt
  have hpe : p ≠ w.heap.size := by omega
  have hep : w.heap.size ≠ p := by omega
  have bA : Below w.heap.size w (w.alloc (.cells #[.int .i64 2, .int .i64 x1, .int .i64 x2, .int .i64 x3] 35)) := by (repeat' (first | (with_reducible exact Below.refl _ _) | (with_reducible assumption) | (with_reducible refine below_drewN ?_ _) | (with_reducible refine Below.drew ?_) | (with_reducible refine Below.alloc ?_ ?_ _) | (with_reducible refine Below.setCell ?_ ?_ _) | (with_reducible refine below_gw ?_ ?_ _) | (with_reducible refine below_via ?_ ‹Below _ _ _› ?_) | (with_reducible exact Nat.le_refl _) | (with_reducible refine le_gw ?_ _) | (with_reducible refine le_alloc ?_ _) | (with_reducible refine le_setCell ?_ _ _) | (with_reducible refine le_drew ?_) | (with_reducible refine le_drewN ?_ _) | go_size))
  have HA := Lib.hid (h.later bA)
  have TA := Lib.hid ((TurnV.refl p v w).of_below bA)
  clear bA
  obtain ⟨A, hA⟩ : ∃ A, A = (w.alloc (.cells #[.int .i64 2, .int .i64 x1, .int .i64 x2, .int .i64 x3] 35)) := ⟨_, rfl⟩
  have a0 : A.cell? ⟨w.heap.size, 0, none⟩ = some (.int .i64 2) := by rw [hA]; simp
  have a1 : A.cell? ⟨w.heap.size, 1, none⟩ = some (.int .i64 x1) := by rw [hA]; simp
  have a2 : A.cell? ⟨w.heap.size, 2, none⟩ = some (.int .i64 x2) := by rw [hA]; simp
  have a3 : A.cell? ⟨w.heap.size, 3, none⟩ = some (.int .i64 x3) := by rw [hA]; simp
  have sA : A.heap.size = w.heap.size + 1 := by rw [hA]; simp
  have lA : w.heap.size < A.heap.size := by omega
  have lpA : p < A.heap.size := by omega
  rw [← hA] at HA TA
  obtain ⟨g, c, rfl, gp, hc, _, _⟩ := stack_two h
  obtain ⟨g', c', e', _, _, cx, cy⟩ := stack_two HA.out
  cases e'
  have CX := Lib.hid cx
  have CY := Lib.hid cy
  have RT := Lib.hid (stack_rest HA.out)
  have gl : g < w.heap.size := (h.sv.lt g rfl).2
  rw [List.length_append, show [x, y].length = 2 from rfl] at hn
  obtain ⟨c0, _, c2⟩ := HA.out.blk.cells
  clear h cx cy
  have CL := Lib.hid (fun w => iCalc 2 x y w (by omega) hx hy)
  clear hx hy
  go_enter Tryd.func46, Tryd.ntmps46
  go_wp2_with fail
  rw [← hA]
  clear hA
  refine (iPop p g (t.length + 1) c _ _ _ y _ HA.out.blk CY.out hc (by omega)).mono ?_
  rintro e w1 ⟨rfl, rfl⟩
  go_wp2_with fail
  refine (iPop p g t.length c _ _ _ x _ (HA.out.blk.set1 _) (cell_set_far CX.out gp) (by omega) (by omega)).mono ?_
  rintro e w1 ⟨rfl, rfl⟩
  go_wp2_with fail
  refine (CL.out _).mono ?_
  rintro e w1 ⟨rfl, rfl⟩
  have B2 := Lib.hid ((HA.out.blk.set1 (.slice (some ⟨g, 0, none⟩) (t.length + 1) c)).set1 (.slice (some ⟨g, 0, none⟩) t.length c))
  have R2 : Hid (((A.setCell ⟨p, 1, none⟩ (.slice (some ⟨g, 0, none⟩) (t.length + 1) c)).setCell ⟨p, 1, none⟩ (.slice (some ⟨g, 0, none⟩) t.length c)).ownsRow B 3 1 (.slice (some ⟨g, 0, none⟩) t.length c) t.length (t.map (Value.int .i64))) := Lib.hid (own_set_far (own_set_far RT.out (fun e => gp (Option.some.inj e))) (fun e => gp (Option.some.inj e)))
  have T2 := Lib.hid ((TA.out.set 1 (.slice (some ⟨g, 0, none⟩) (t.length + 1) c)).set 1 (.slice (some ⟨g, 0, none⟩) t.length c))
  go_wp2_with fail
  refine (iPush p B _ (.slice (some ⟨g, 0, none⟩) t.length c) u 27 t _ 1 1 [Tm.wrapC (x + y)] _ (B2.out.keep (heap_alloc_old _ _ B2.out.lt)) (own_below R2.out ((Below.refl _ _).alloc (Nat.le_refl _) _)) (fun e => gp (Option.some.inj e)) (ints_one _ _ (by first | exact sA.symm | (simp; omega))) (by omega) (by omega) H.out.low).mono ?_
  rintro e w3 ⟨rfl, v', b3, o3, t3, a3⟩
  go_wp2
  (try simp only [Exit.inBlock, Exit.then])
  refine bodyPost_end (v := .tuple #[]) (by simp [results, Tryd.results46]) rfl ?_
  refine ⟨rfl, v', u, ?_⟩
  refine H.out.turn ((T2.out.of_below ((Below.refl _ _).alloc (Nat.le_refl _) _)).trans t3 rfl) b3 o3 ?_
  rcases a3 with e | e
  · exact .inl e
  · exact .inr ⟨_, e, by simp; omega⟩
set_option maxHeartbeats 1000000 in
theorem iExe3 (x1 x2 x3 : Int) (p B : Nat) (k : Int) (v u : Value) (o : List Int) (t : List Int) (x y : Int) (w : World) (h : MSt w B p k v (t ++ [x, y]) u o) (hn : (t ++ [x, y]).length ≤ 20) (hx : -9841 ≤ x ∧ x ≤ 9841) (hy : -9841 ≤ y ∧ y ≤ 9841) :
    Calls Tryd.prog 46 #[.pointer (some ⟨p, 0, none⟩), .agg #[.int .i64 3, .int .i64 x1, .int .i64 x2, .int .i64 x3]] w fun e w' => e = .returned (.tuple #[]) ∧ ∃ v' u', MSt w' B p (k) v' (t ++ [Tm.wrapC (x - y)]) u' (o) ∧ Below B w w' := by
  have _hn := hn
  have H := Lib.hid h
  have lt := h.blk.lt
  have hpe : p ≠ w.heap.size := by omega
  have hep : w.heap.size ≠ p := by omega
  have bA : Below w.heap.size w (w.alloc (.cells #[.int .i64 3, .int .i64 x1, .int .i64 x2, .int .i64 x3] 35)) := by (repeat' (first | (with_reducible exact Below.refl _ _) | (with_reducible assumption) | (with_reducible refine below_drewN ?_ _) | (with_reducible refine Below.drew ?_) | (with_reducible refine Below.alloc ?_ ?_ _) | (with_reducible refine Below.setCell ?_ ?_ _) | (with_reducible refine below_gw ?_ ?_ _) | (with_reducible refine below_via ?_ ‹Below _ _ _› ?_) | (with_reducible exact Nat.le_refl _) | (with_reducible refine le_gw ?_ _) | (with_reducible refine le_alloc ?_ _) | (with_reducible refine le_setCell ?_ _ _) | (with_reducible refine le_drew ?_) | (with_reducible refine le_drewN ?_ _) | go_size))
  have HA := Lib.hid (h.later bA)
  have TA := Lib.hid ((TurnV.refl p v w).of_below bA)
  clear bA
  obtain ⟨A, hA⟩ : ∃ A, A = (w.alloc (.cells #[.int .i64 3, .int .i64 x1, .int .i64 x2, .int .i64 x3] 35)) := ⟨_, rfl⟩
  have a0 : A.cell? ⟨w.heap.size, 0, none⟩ = some (.int .i64 3) := by rw [hA]; simp
  have a1 : A.cell? ⟨w.heap.size, 1, none⟩ = some (.int .i64 x1) := by rw [hA]; simp
  have a2 : A.cell? ⟨w.heap.size, 2, none⟩ = some (.int .i64 x2) := by rw [hA]; simp
  have a3 : A.cell? ⟨w.heap.size, 3, none⟩ = some (.int .i64 x3) := by rw [hA]; simp
  have sA : A.heap.size = w.heap.size + 1 := by rw [hA]; simp
  have lA : w.heap.size < A.heap.size := by omega
  have lpA : p < A.heap.size := by omega
  rw [← hA] at HA TA
  obtain ⟨g, c, rfl, gp, hc, _, _⟩ := stack_two h
  obtain ⟨g', c', e', _, _, cx, cy⟩ := stack_two HA.out
  cases e'
  have CX := Lib.hid cx
  have CY := Lib.hid cy
  have RT := Lib.hid (stack_rest HA.out)
  have gl : g < w.heap.size := (h.sv.lt g rfl).2
  rw [List.length_append, show [x, y].length = 2 from rfl] at hn
  obtain ⟨c0, _, c2⟩ := HA.out.blk.cells
  clear h cx cy
  have CL := Lib.hid (fun w => iCalc 3 x y w (by omega) hx hy)
  clear hx hy
  go_enter Tryd.func46, Tryd.ntmps46
  go_wp2_with fail
  rw [← hA]
  clear hA
  refine (iPop p g (t.length + 1) c _ _ _ y _ HA.out.blk CY.out hc (by omega)).mono ?_
  rintro e w1 ⟨rfl, rfl⟩
  go_wp2_with fail
  refine (iPop p g t.length c _ _ _ x _ (HA.out.blk.set1 _) (cell_set_far CX.out gp) (by omega) (by omega)).mono ?_
  rintro e w1 ⟨rfl, rfl⟩
  go_wp2_with fail
  refine (CL.out _).mono ?_
  rintro e w1 ⟨rfl, rfl⟩
  have B2 := Lib.hid ((HA.out.blk.set1 (.slice (some ⟨g, 0, none⟩) (t.length + 1) c)).set1 (.slice (some ⟨g, 0, none⟩) t.length c))
  have R2 : Hid (((A.setCell ⟨p, 1, none⟩ (.slice (some ⟨g, 0, none⟩) (t.length + 1) c)).setCell ⟨p, 1, none⟩ (.slice (some ⟨g, 0, none⟩) t.length c)).ownsRow B 3 1 (.slice (some ⟨g, 0, none⟩) t.length c) t.length (t.map (Value.int .i64))) := Lib.hid (own_set_far (own_set_far RT.out (fun e => gp (Option.some.inj e))) (fun e => gp (Option.some.inj e)))
  have T2 := Lib.hid ((TA.out.set 1 (.slice (some ⟨g, 0, none⟩) (t.length + 1) c)).set 1 (.slice (some ⟨g, 0, none⟩) t.length c))
  go_wp2_with fail
  refine (iPush p B _ (.slice (some ⟨g, 0, none⟩) t.length c) u 27 t _ 1 1 [Tm.wrapC (x - y)] _ (B2.out.keep (heap_alloc_old _ _ B2.out.lt)) (own_below R2.out ((Below.refl _ _).alloc (Nat.le_refl _) _)) (fun e => gp (Option.some.inj e)) (ints_one _ _ (by first | exact sA.symm | (simp; omega))) (by omega) (by omega) H.out.low).mono ?_
  rintro e w3 ⟨rfl, v', b3, o3, t3, a3⟩
  go_wp2
  (try simp only [Exit.inBlock, Exit.then])
  refine bodyPost_end (v := .tuple #[]) (by simp [results, Tryd.results46]) rfl ?_
  refine ⟨rfl, v', u, ?_⟩
  refine H.out.turn ((T2.out.of_below ((Below.refl _ _).alloc (Nat.le_refl _) _)).trans t3 rfl) b3 o3 ?_
  rcases a3 with e | e
  · exact .inl e
  · exact .inr ⟨_, e, by simp; omega⟩
set_option maxHeartbeats 1000000 in
theorem iExe4 (x1 x2 x3 : Int) (p B : Nat) (k : Int) (v u : Value) (o : List Int) (t : List Int) (x y : Int) (w : World) (h : MSt w B p k v (t ++ [x, y]) u o) (hn : (t ++ [x, y]).length ≤ 20) (hx : -9841 ≤ x ∧ x ≤ 9841) (hy : -9841 ≤ y ∧ y ≤ 9841) :
    Calls Tryd.prog 46 #[.pointer (some ⟨p, 0, none⟩), .agg #[.int .i64 4, .int .i64 x1, .int .i64 x2, .int .i64 x3]] w fun e w' => e = .returned (.tuple #[]) ∧ ∃ v' u', MSt w' B p (k) v' (t ++ [Tm.wrapC (x * y)]) u' (o) ∧ Below B w w' := by
  have _hn := hn
  have H := Lib.hid h
  have lt := h.blk.lt
  have hpe : p ≠ w.heap.size := by omega
  have hep : w.heap.size ≠ p := by omega
  have bA : Below w.heap.size w (w.alloc (.cells #[.int .i64 4, .int .i64 x1, .int .i64 x2, .int .i64 x3] 35)) := by (repeat' (first | (with_reducible exact Below.refl _ _) | (with_reducible assumption) | (with_reducible refine below_drewN ?_ _) | (with_reducible refine Below.drew ?_) | (with_reducible refine Below.alloc ?_ ?_ _) | (with_reducible refine Below.setCell ?_ ?_ _) | (with_reducible refine below_gw ?_ ?_ _) | (with_reducible refine below_via ?_ ‹Below _ _ _› ?_) | (with_reducible exact Nat.le_refl _) | (with_reducible refine le_gw ?_ _) | (with_reducible refine le_alloc ?_ _) | (with_reducible refine le_setCell ?_ _ _) | (with_reducible refine le_drew ?_) | (with_reducible refine le_drewN ?_ _) | go_size))
  have HA := Lib.hid (h.later bA)
  have TA := Lib.hid ((TurnV.refl p v w).of_below bA)
  clear bA
  obtain ⟨A, hA⟩ : ∃ A, A = (w.alloc (.cells #[.int .i64 4, .int .i64 x1, .int .i64 x2, .int .i64 x3] 35)) := ⟨_, rfl⟩
  have a0 : A.cell? ⟨w.heap.size, 0, none⟩ = some (.int .i64 4) := by rw [hA]; simp
  have a1 : A.cell? ⟨w.heap.size, 1, none⟩ = some (.int .i64 x1) := by rw [hA]; simp
  have a2 : A.cell? ⟨w.heap.size, 2, none⟩ = some (.int .i64 x2) := by rw [hA]; simp
  have a3 : A.cell? ⟨w.heap.size, 3, none⟩ = some (.int .i64 x3) := by rw [hA]; simp
  have sA : A.heap.size = w.heap.size + 1 := by rw [hA]; simp
  have lA : w.heap.size < A.heap.size := by omega
  have lpA : p < A.heap.size := by omega
  rw [← hA] at HA TA
  obtain ⟨g, c, rfl, gp, hc, _, _⟩ := stack_two h
  obtain ⟨g', c', e', _, _, cx, cy⟩ := stack_two HA.out
  cases e'
  have CX := Lib.hid cx
  have CY := Lib.hid cy
  have RT := Lib.hid (stack_rest HA.out)
  have gl : g < w.heap.size := (h.sv.lt g rfl).2
  rw [List.length_append, show [x, y].length = 2 from rfl] at hn
  obtain ⟨c0, _, c2⟩ := HA.out.blk.cells
  clear h cx cy
  have CL := Lib.hid (fun w => iCalc 4 x y w (by omega) hx hy)
  clear hx hy
  go_enter Tryd.func46, Tryd.ntmps46
  go_wp2_with fail
  rw [← hA]
  clear hA
  refine (iPop p g (t.length + 1) c _ _ _ y _ HA.out.blk CY.out hc (by omega)).mono ?_
  rintro e w1 ⟨rfl, rfl⟩
  go_wp2_with fail
  refine (iPop p g t.length c _ _ _ x _ (HA.out.blk.set1 _) (cell_set_far CX.out gp) (by omega) (by omega)).mono ?_
  rintro e w1 ⟨rfl, rfl⟩
  go_wp2_with fail
  refine (CL.out _).mono ?_
  rintro e w1 ⟨rfl, rfl⟩
  have B2 := Lib.hid ((HA.out.blk.set1 (.slice (some ⟨g, 0, none⟩) (t.length + 1) c)).set1 (.slice (some ⟨g, 0, none⟩) t.length c))
  have R2 : Hid (((A.setCell ⟨p, 1, none⟩ (.slice (some ⟨g, 0, none⟩) (t.length + 1) c)).setCell ⟨p, 1, none⟩ (.slice (some ⟨g, 0, none⟩) t.length c)).ownsRow B 3 1 (.slice (some ⟨g, 0, none⟩) t.length c) t.length (t.map (Value.int .i64))) := Lib.hid (own_set_far (own_set_far RT.out (fun e => gp (Option.some.inj e))) (fun e => gp (Option.some.inj e)))
  have T2 := Lib.hid ((TA.out.set 1 (.slice (some ⟨g, 0, none⟩) (t.length + 1) c)).set 1 (.slice (some ⟨g, 0, none⟩) t.length c))
  go_wp2_with fail
  refine (iPush p B _ (.slice (some ⟨g, 0, none⟩) t.length c) u 27 t _ 1 1 [Tm.wrapC (x * y)] _ (B2.out.keep (heap_alloc_old _ _ B2.out.lt)) (own_below R2.out ((Below.refl _ _).alloc (Nat.le_refl _) _)) (fun e => gp (Option.some.inj e)) (ints_one _ _ (by first | exact sA.symm | (simp; omega))) (by omega) (by omega) H.out.low).mono ?_
  rintro e w3 ⟨rfl, v', b3, o3, t3, a3⟩
  go_wp2
  (try simp only [Exit.inBlock, Exit.then])
  refine bodyPost_end (v := .tuple #[]) (by simp [results, Tryd.results46]) rfl ?_
  refine ⟨rfl, v', u, ?_⟩
  refine H.out.turn ((T2.out.of_below ((Below.refl _ _).alloc (Nat.le_refl _) _)).trans t3 rfl) b3 o3 ?_
  rcases a3 with e | e
  · exact .inl e
  · exact .inr ⟨_, e, by simp; omega⟩
set_option maxHeartbeats 1000000 in
theorem iExe5 (x1 x2 x3 : Int) (p B : Nat) (k : Int) (v u : Value) (o : List Int) (t : List Int) (x : Int) (w : World) (h : MSt w B p k v (t ++ [x]) u o) (hn : (t ++ [x]).length ≤ 20) (hx : -9841 ≤ x ∧ x ≤ 9841) :
    Calls Tryd.prog 46 #[.pointer (some ⟨p, 0, none⟩), .agg #[.int .i64 5, .int .i64 x1, .int .i64 x2, .int .i64 x3]] w fun e w' => e = .returned (.tuple #[]) ∧ ∃ v' u', MSt w' B p (k) v' (t ++ [-x]) u' (o) ∧ Below B w w' := by
  have _hn := hn
  have H := Lib.hid h
  have lt := h.blk.lt
  have hpe : p ≠ w.heap.size := by omega
  have hep : w.heap.size ≠ p := by omega
  have bA : Below w.heap.size w (w.alloc (.cells #[.int .i64 5, .int .i64 x1, .int .i64 x2, .int .i64 x3] 35)) := by (repeat' (first | (with_reducible exact Below.refl _ _) | (with_reducible assumption) | (with_reducible refine below_drewN ?_ _) | (with_reducible refine Below.drew ?_) | (with_reducible refine Below.alloc ?_ ?_ _) | (with_reducible refine Below.setCell ?_ ?_ _) | (with_reducible refine below_gw ?_ ?_ _) | (with_reducible refine below_via ?_ ‹Below _ _ _› ?_) | (with_reducible exact Nat.le_refl _) | (with_reducible refine le_gw ?_ _) | (with_reducible refine le_alloc ?_ _) | (with_reducible refine le_setCell ?_ _ _) | (with_reducible refine le_drew ?_) | (with_reducible refine le_drewN ?_ _) | go_size))
  have HA := Lib.hid (h.later bA)
  have TA := Lib.hid ((TurnV.refl p v w).of_below bA)
  clear bA
  obtain ⟨A, hA⟩ : ∃ A, A = (w.alloc (.cells #[.int .i64 5, .int .i64 x1, .int .i64 x2, .int .i64 x3] 35)) := ⟨_, rfl⟩
  have a0 : A.cell? ⟨w.heap.size, 0, none⟩ = some (.int .i64 5) := by rw [hA]; simp
  have a1 : A.cell? ⟨w.heap.size, 1, none⟩ = some (.int .i64 x1) := by rw [hA]; simp
  have a2 : A.cell? ⟨w.heap.size, 2, none⟩ = some (.int .i64 x2) := by rw [hA]; simp
  have a3 : A.cell? ⟨w.heap.size, 3, none⟩ = some (.int .i64 x3) := by rw [hA]; simp
  have sA : A.heap.size = w.heap.size + 1 := by rw [hA]; simp
  have lA : w.heap.size < A.heap.size := by omega
  have lpA : p < A.heap.size := by omega
  rw [← hA] at HA TA
  obtain ⟨g, c, rfl, gp, hc, _⟩ := stack_one h
  obtain ⟨g', c', e', _, _, cx⟩ := stack_one HA.out
  cases e'
  have CX := Lib.hid cx
  have RT := Lib.hid (stack_rest HA.out)
  have gl : g < w.heap.size := (h.sv.lt g rfl).2
  rw [List.length_append, List.length_singleton] at hn
  obtain ⟨c0, _, c2⟩ := HA.out.blk.cells
  clear h cx
  obtain ⟨hx1, hx2⟩ := hx
  go_enter Tryd.func46, Tryd.ntmps46
  go_wp2_with fail
  rw [← hA]
  clear hA
  refine (iPop p g t.length c _ _ _ x _ HA.out.blk CX.out hc (by omega)).mono ?_
  rintro e w1 ⟨rfl, rfl⟩
  have B2 := Lib.hid (HA.out.blk.set1 (.slice (some ⟨g, 0, none⟩) t.length c))
  have R2 : Hid ((A.setCell ⟨p, 1, none⟩ (.slice (some ⟨g, 0, none⟩) t.length c)).ownsRow B 3 1 (.slice (some ⟨g, 0, none⟩) t.length c) t.length (t.map (Value.int .i64))) := Lib.hid (own_set_far RT.out (fun e => gp (Option.some.inj e)))
  have T2 := Lib.hid (TA.out.set 1 (.slice (some ⟨g, 0, none⟩) t.length c))
  go_wp2_with fail
  refine (iPush p B _ (.slice (some ⟨g, 0, none⟩) t.length c) u 27 t _ 1 1 [-x] _ (B2.out.keep (heap_alloc_old _ _ B2.out.lt)) (own_below R2.out ((Below.refl _ _).alloc (Nat.le_refl _) _)) (fun e => gp (Option.some.inj e)) (ints_one _ _ (by first | exact sA.symm | (simp; omega))) (by omega) (by omega) H.out.low).mono ?_
  rintro e w3 ⟨rfl, v', b3, o3, t3, a3⟩
  go_wp2
  (try simp only [Exit.inBlock, Exit.then])
  refine bodyPost_end (v := .tuple #[]) (by simp [results, Tryd.results46]) rfl ?_
  refine ⟨rfl, v', u, ?_⟩
  refine H.out.turn ((T2.out.of_below ((Below.refl _ _).alloc (Nat.le_refl _) _)).trans t3 rfl) b3 o3 ?_
  rcases a3 with e | e
  · exact .inl e
  · exact .inr ⟨_, e, by simp; omega⟩
set_option maxHeartbeats 1000000 in
theorem iExe6 (x1 x2 x3 : Int) (p B : Nat) (k : Int) (v u : Value) (o : List Int) (t : List Int) (x : Int) (w : World) (h : MSt w B p k v (t ++ [x]) u o) (hn : (t ++ [x]).length ≤ 20) :
    Calls Tryd.prog 46 #[.pointer (some ⟨p, 0, none⟩), .agg #[.int .i64 6, .int .i64 x1, .int .i64 x2, .int .i64 x3]] w fun e w' => e = .returned (.tuple #[]) ∧ ∃ v' u', MSt w' B p (k) v' (t ++ [Tm.sgn x]) u' (o) ∧ Below B w w' := by
  have _hn := hn
  have H := Lib.hid h
  have lt := h.blk.lt
  have hpe : p ≠ w.heap.size := by omega
  have hep : w.heap.size ≠ p := by omega
  have bA : Below w.heap.size w (w.alloc (.cells #[.int .i64 6, .int .i64 x1, .int .i64 x2, .int .i64 x3] 35)) := by (repeat' (first | (with_reducible exact Below.refl _ _) | (with_reducible assumption) | (with_reducible refine below_drewN ?_ _) | (with_reducible refine Below.drew ?_) | (with_reducible refine Below.alloc ?_ ?_ _) | (with_reducible refine Below.setCell ?_ ?_ _) | (with_reducible refine below_gw ?_ ?_ _) | (with_reducible refine below_via ?_ ‹Below _ _ _› ?_) | (with_reducible exact Nat.le_refl _) | (with_reducible refine le_gw ?_ _) | (with_reducible refine le_alloc ?_ _) | (with_reducible refine le_setCell ?_ _ _) | (with_reducible refine le_drew ?_) | (with_reducible refine le_drewN ?_ _) | go_size))
  have HA := Lib.hid (h.later bA)
  have TA := Lib.hid ((TurnV.refl p v w).of_below bA)
  clear bA
  obtain ⟨A, hA⟩ : ∃ A, A = (w.alloc (.cells #[.int .i64 6, .int .i64 x1, .int .i64 x2, .int .i64 x3] 35)) := ⟨_, rfl⟩
  have a0 : A.cell? ⟨w.heap.size, 0, none⟩ = some (.int .i64 6) := by rw [hA]; simp
  have a1 : A.cell? ⟨w.heap.size, 1, none⟩ = some (.int .i64 x1) := by rw [hA]; simp
  have a2 : A.cell? ⟨w.heap.size, 2, none⟩ = some (.int .i64 x2) := by rw [hA]; simp
  have a3 : A.cell? ⟨w.heap.size, 3, none⟩ = some (.int .i64 x3) := by rw [hA]; simp
  have sA : A.heap.size = w.heap.size + 1 := by rw [hA]; simp
  have lA : w.heap.size < A.heap.size := by omega
  have lpA : p < A.heap.size := by omega
  rw [← hA] at HA TA
  obtain ⟨g, c, rfl, gp, hc, _⟩ := stack_one h
  obtain ⟨g', c', e', _, _, cx⟩ := stack_one HA.out
  cases e'
  have CX := Lib.hid cx
  have RT := Lib.hid (stack_rest HA.out)
  have gl : g < w.heap.size := (h.sv.lt g rfl).2
  rw [List.length_append, List.length_singleton] at hn
  obtain ⟨c0, _, c2⟩ := HA.out.blk.cells
  clear h cx
  have SG := Lib.hid (fun w => iSignOf x w)
  go_enter Tryd.func46, Tryd.ntmps46
  go_wp2_with fail
  rw [← hA]
  clear hA
  refine (iPop p g t.length c _ _ _ x _ HA.out.blk CX.out hc (by omega)).mono ?_
  rintro e w1 ⟨rfl, rfl⟩
  go_wp2_with fail
  refine (SG.out _).mono ?_
  rintro e w1 ⟨rfl, rfl⟩
  have B2 := Lib.hid (HA.out.blk.set1 (.slice (some ⟨g, 0, none⟩) t.length c))
  have R2 : Hid ((A.setCell ⟨p, 1, none⟩ (.slice (some ⟨g, 0, none⟩) t.length c)).ownsRow B 3 1 (.slice (some ⟨g, 0, none⟩) t.length c) t.length (t.map (Value.int .i64))) := Lib.hid (own_set_far RT.out (fun e => gp (Option.some.inj e)))
  have T2 := Lib.hid (TA.out.set 1 (.slice (some ⟨g, 0, none⟩) t.length c))
  go_wp2_with fail
  refine (iPush p B _ (.slice (some ⟨g, 0, none⟩) t.length c) u 27 t _ 1 1 [Tm.sgn x] _ (B2.out.keep (heap_alloc_old _ _ B2.out.lt)) (own_below R2.out ((Below.refl _ _).alloc (Nat.le_refl _) _)) (fun e => gp (Option.some.inj e)) (ints_one _ _ (by first | exact sA.symm | (simp; omega))) (by omega) (by omega) H.out.low).mono ?_
  rintro e w3 ⟨rfl, v', b3, o3, t3, a3⟩
  go_wp2
  (try simp only [Exit.inBlock, Exit.then])
  refine bodyPost_end (v := .tuple #[]) (by simp [results, Tryd.results46]) rfl ?_
  refine ⟨rfl, v', u, ?_⟩
  refine H.out.turn ((T2.out.of_below ((Below.refl _ _).alloc (Nat.le_refl _) _)).trans t3 rfl) b3 o3 ?_
  rcases a3 with e | e
  · exact .inl e
  · exact .inr ⟨_, e, by simp; omega⟩
set_option maxHeartbeats 1000000 in
theorem iExe7 (x1 x2 x3 : Int) (p B : Nat) (k : Int) (v u : Value) (o : List Int) (t : List Int) (x : Int) (w : World) (h : MSt w B p k v (t ++ [x]) u o) (hn : (t ++ [x]).length ≤ 20) :
    Calls Tryd.prog 46 #[.pointer (some ⟨p, 0, none⟩), .agg #[.int .i64 7, .int .i64 x1, .int .i64 x2, .int .i64 x3]] w fun e w' => e = .returned (.tuple #[]) ∧ ∃ v' u', MSt w' B p (k) v' (t ++ [x, x]) u' (o) ∧ Below B w w' := by
  have _hn := hn
  have H := Lib.hid h
  have lt := h.blk.lt
  have hpe : p ≠ w.heap.size := by omega
  have hep : w.heap.size ≠ p := by omega
  have bA : Below w.heap.size w (w.alloc (.cells #[.int .i64 7, .int .i64 x1, .int .i64 x2, .int .i64 x3] 35)) := by (repeat' (first | (with_reducible exact Below.refl _ _) | (with_reducible assumption) | (with_reducible refine below_drewN ?_ _) | (with_reducible refine Below.drew ?_) | (with_reducible refine Below.alloc ?_ ?_ _) | (with_reducible refine Below.setCell ?_ ?_ _) | (with_reducible refine below_gw ?_ ?_ _) | (with_reducible refine below_via ?_ ‹Below _ _ _› ?_) | (with_reducible exact Nat.le_refl _) | (with_reducible refine le_gw ?_ _) | (with_reducible refine le_alloc ?_ _) | (with_reducible refine le_setCell ?_ _ _) | (with_reducible refine le_drew ?_) | (with_reducible refine le_drewN ?_ _) | go_size))
  have HA := Lib.hid (h.later bA)
  have TA := Lib.hid ((TurnV.refl p v w).of_below bA)
  clear bA
  obtain ⟨A, hA⟩ : ∃ A, A = (w.alloc (.cells #[.int .i64 7, .int .i64 x1, .int .i64 x2, .int .i64 x3] 35)) := ⟨_, rfl⟩
  have a0 : A.cell? ⟨w.heap.size, 0, none⟩ = some (.int .i64 7) := by rw [hA]; simp
  have a1 : A.cell? ⟨w.heap.size, 1, none⟩ = some (.int .i64 x1) := by rw [hA]; simp
  have a2 : A.cell? ⟨w.heap.size, 2, none⟩ = some (.int .i64 x2) := by rw [hA]; simp
  have a3 : A.cell? ⟨w.heap.size, 3, none⟩ = some (.int .i64 x3) := by rw [hA]; simp
  have sA : A.heap.size = w.heap.size + 1 := by rw [hA]; simp
  have lA : w.heap.size < A.heap.size := by omega
  have lpA : p < A.heap.size := by omega
  rw [← hA] at HA TA
  obtain ⟨g, c, rfl, gp, hc, _⟩ := stack_one h
  obtain ⟨g', c', e', _, _, cx⟩ := stack_one HA.out
  cases e'
  have CX := Lib.hid cx
  have RT := Lib.hid (stack_rest HA.out)
  have gl : g < w.heap.size := (h.sv.lt g rfl).2
  rw [List.length_append, List.length_singleton] at hn
  obtain ⟨c0, _, c2⟩ := HA.out.blk.cells
  clear h cx
  go_enter Tryd.func46, Tryd.ntmps46
  go_wp2_with fail
  rw [← hA]
  clear hA
  refine (iPop p g t.length c _ _ _ x _ HA.out.blk CX.out hc (by omega)).mono ?_
  rintro e w1 ⟨rfl, rfl⟩
  have B2 := Lib.hid (HA.out.blk.set1 (.slice (some ⟨g, 0, none⟩) t.length c))
  have R2 : Hid ((A.setCell ⟨p, 1, none⟩ (.slice (some ⟨g, 0, none⟩) t.length c)).ownsRow B 3 1 (.slice (some ⟨g, 0, none⟩) t.length c) t.length (t.map (Value.int .i64))) := Lib.hid (own_set_far RT.out (fun e => gp (Option.some.inj e)))
  have T2 := Lib.hid (TA.out.set 1 (.slice (some ⟨g, 0, none⟩) t.length c))
  go_wp2_with fail
  refine (iPush p B _ (.slice (some ⟨g, 0, none⟩) t.length c) u 27 t _ 2 2 [x, x] _ (B2.out.keep (heap_alloc_old _ _ B2.out.lt)) (own_below R2.out ((Below.refl _ _).alloc (Nat.le_refl _) _)) (fun e => gp (Option.some.inj e)) (ints_twoM _ _ _ (by first | exact sA.symm | (simp; omega))) (by omega) (by omega) H.out.low).mono ?_
  rintro e w3 ⟨rfl, v', b3, o3, t3, a3⟩
  go_wp2
  (try simp only [Exit.inBlock, Exit.then])
  refine bodyPost_end (v := .tuple #[]) (by simp [results, Tryd.results46]) rfl ?_
  refine ⟨rfl, v', u, ?_⟩
  refine H.out.turn ((T2.out.of_below ((Below.refl _ _).alloc (Nat.le_refl _) _)).trans t3 rfl) b3 o3 ?_
  rcases a3 with e | e
  · exact .inl e
  · exact .inr ⟨_, e, by simp; omega⟩
set_option maxHeartbeats 1000000 in
theorem iExe8 (x1 x2 x3 : Int) (p B : Nat) (k : Int) (v u : Value) (o : List Int) (t : List Int) (x y : Int) (w : World) (h : MSt w B p k v (t ++ [x, y]) u o) (hn : (t ++ [x, y]).length ≤ 20) :
    Calls Tryd.prog 46 #[.pointer (some ⟨p, 0, none⟩), .agg #[.int .i64 8, .int .i64 x1, .int .i64 x2, .int .i64 x3]] w fun e w' => e = .returned (.tuple #[]) ∧ ∃ v' u', MSt w' B p (k) v' (t ++ [y, x]) u' (o) ∧ Below B w w' := by
  have _hn := hn
  have H := Lib.hid h
  have lt := h.blk.lt
  have hpe : p ≠ w.heap.size := by omega
  have hep : w.heap.size ≠ p := by omega
  have bA : Below w.heap.size w (w.alloc (.cells #[.int .i64 8, .int .i64 x1, .int .i64 x2, .int .i64 x3] 35)) := by (repeat' (first | (with_reducible exact Below.refl _ _) | (with_reducible assumption) | (with_reducible refine below_drewN ?_ _) | (with_reducible refine Below.drew ?_) | (with_reducible refine Below.alloc ?_ ?_ _) | (with_reducible refine Below.setCell ?_ ?_ _) | (with_reducible refine below_gw ?_ ?_ _) | (with_reducible refine below_via ?_ ‹Below _ _ _› ?_) | (with_reducible exact Nat.le_refl _) | (with_reducible refine le_gw ?_ _) | (with_reducible refine le_alloc ?_ _) | (with_reducible refine le_setCell ?_ _ _) | (with_reducible refine le_drew ?_) | (with_reducible refine le_drewN ?_ _) | go_size))
  have HA := Lib.hid (h.later bA)
  have TA := Lib.hid ((TurnV.refl p v w).of_below bA)
  clear bA
  obtain ⟨A, hA⟩ : ∃ A, A = (w.alloc (.cells #[.int .i64 8, .int .i64 x1, .int .i64 x2, .int .i64 x3] 35)) := ⟨_, rfl⟩
  have a0 : A.cell? ⟨w.heap.size, 0, none⟩ = some (.int .i64 8) := by rw [hA]; simp
  have a1 : A.cell? ⟨w.heap.size, 1, none⟩ = some (.int .i64 x1) := by rw [hA]; simp
  have a2 : A.cell? ⟨w.heap.size, 2, none⟩ = some (.int .i64 x2) := by rw [hA]; simp
  have a3 : A.cell? ⟨w.heap.size, 3, none⟩ = some (.int .i64 x3) := by rw [hA]; simp
  have sA : A.heap.size = w.heap.size + 1 := by rw [hA]; simp
  have lA : w.heap.size < A.heap.size := by omega
  have lpA : p < A.heap.size := by omega
  rw [← hA] at HA TA
  obtain ⟨g, c, rfl, gp, hc, _, _⟩ := stack_two h
  obtain ⟨g', c', e', _, _, cx, cy⟩ := stack_two HA.out
  cases e'
  have CX := Lib.hid cx
  have CY := Lib.hid cy
  have RT := Lib.hid (stack_rest HA.out)
  have gl : g < w.heap.size := (h.sv.lt g rfl).2
  rw [List.length_append, show [x, y].length = 2 from rfl] at hn
  obtain ⟨c0, _, c2⟩ := HA.out.blk.cells
  clear h cx cy
  go_enter Tryd.func46, Tryd.ntmps46
  go_wp2_with fail
  rw [← hA]
  clear hA
  refine (iPop p g (t.length + 1) c _ _ _ y _ HA.out.blk CY.out hc (by omega)).mono ?_
  rintro e w1 ⟨rfl, rfl⟩
  go_wp2_with fail
  refine (iPop p g t.length c _ _ _ x _ (HA.out.blk.set1 _) (cell_set_far CX.out gp) (by omega) (by omega)).mono ?_
  rintro e w1 ⟨rfl, rfl⟩
  have B2 := Lib.hid ((HA.out.blk.set1 (.slice (some ⟨g, 0, none⟩) (t.length + 1) c)).set1 (.slice (some ⟨g, 0, none⟩) t.length c))
  have R2 : Hid (((A.setCell ⟨p, 1, none⟩ (.slice (some ⟨g, 0, none⟩) (t.length + 1) c)).setCell ⟨p, 1, none⟩ (.slice (some ⟨g, 0, none⟩) t.length c)).ownsRow B 3 1 (.slice (some ⟨g, 0, none⟩) t.length c) t.length (t.map (Value.int .i64))) := Lib.hid (own_set_far (own_set_far RT.out (fun e => gp (Option.some.inj e))) (fun e => gp (Option.some.inj e)))
  have T2 := Lib.hid ((TA.out.set 1 (.slice (some ⟨g, 0, none⟩) (t.length + 1) c)).set 1 (.slice (some ⟨g, 0, none⟩) t.length c))
  go_wp2_with fail
  refine (iPush p B _ (.slice (some ⟨g, 0, none⟩) t.length c) u 27 t _ 2 2 [y, x] _ (B2.out.keep (heap_alloc_old _ _ B2.out.lt)) (own_below R2.out ((Below.refl _ _).alloc (Nat.le_refl _) _)) (fun e => gp (Option.some.inj e)) (ints_twoM _ _ _ (by first | exact sA.symm | (simp; omega))) (by omega) (by omega) H.out.low).mono ?_
  rintro e w3 ⟨rfl, v', b3, o3, t3, a3⟩
  go_wp2
  (try simp only [Exit.inBlock, Exit.then])
  refine bodyPost_end (v := .tuple #[]) (by simp [results, Tryd.results46]) rfl ?_
  refine ⟨rfl, v', u, ?_⟩
  refine H.out.turn ((T2.out.of_below ((Below.refl _ _).alloc (Nat.le_refl _) _)).trans t3 rfl) b3 o3 ?_
  rcases a3 with e | e
  · exact .inl e
  · exact .inr ⟨_, e, by simp; omega⟩
set_option maxHeartbeats 1000000 in
theorem iExe9 (x1 x2 x3 : Int) (p B : Nat) (k : Int) (v u : Value) (o : List Int) (t : List Int) (x : Int) (w : World) (h : MSt w B p k v (t ++ [x]) u o) (hn : (t ++ [x]).length ≤ 20) :
    Calls Tryd.prog 46 #[.pointer (some ⟨p, 0, none⟩), .agg #[.int .i64 9, .int .i64 x1, .int .i64 x2, .int .i64 x3]] w fun e w' => e = .returned (.tuple #[]) ∧ ∃ v' u', MSt w' B p (k) v' (t) u' (o) ∧ Below B w w' := by
  have _hn := hn
  have H := Lib.hid h
  have lt := h.blk.lt
  have hpe : p ≠ w.heap.size := by omega
  have hep : w.heap.size ≠ p := by omega
  have bA : Below w.heap.size w (w.alloc (.cells #[.int .i64 9, .int .i64 x1, .int .i64 x2, .int .i64 x3] 35)) := by (repeat' (first | (with_reducible exact Below.refl _ _) | (with_reducible assumption) | (with_reducible refine below_drewN ?_ _) | (with_reducible refine Below.drew ?_) | (with_reducible refine Below.alloc ?_ ?_ _) | (with_reducible refine Below.setCell ?_ ?_ _) | (with_reducible refine below_gw ?_ ?_ _) | (with_reducible refine below_via ?_ ‹Below _ _ _› ?_) | (with_reducible exact Nat.le_refl _) | (with_reducible refine le_gw ?_ _) | (with_reducible refine le_alloc ?_ _) | (with_reducible refine le_setCell ?_ _ _) | (with_reducible refine le_drew ?_) | (with_reducible refine le_drewN ?_ _) | go_size))
  have HA := Lib.hid (h.later bA)
  have TA := Lib.hid ((TurnV.refl p v w).of_below bA)
  clear bA
  obtain ⟨A, hA⟩ : ∃ A, A = (w.alloc (.cells #[.int .i64 9, .int .i64 x1, .int .i64 x2, .int .i64 x3] 35)) := ⟨_, rfl⟩
  have a0 : A.cell? ⟨w.heap.size, 0, none⟩ = some (.int .i64 9) := by rw [hA]; simp
  have a1 : A.cell? ⟨w.heap.size, 1, none⟩ = some (.int .i64 x1) := by rw [hA]; simp
  have a2 : A.cell? ⟨w.heap.size, 2, none⟩ = some (.int .i64 x2) := by rw [hA]; simp
  have a3 : A.cell? ⟨w.heap.size, 3, none⟩ = some (.int .i64 x3) := by rw [hA]; simp
  have sA : A.heap.size = w.heap.size + 1 := by rw [hA]; simp
  have lA : w.heap.size < A.heap.size := by omega
  have lpA : p < A.heap.size := by omega
  rw [← hA] at HA TA
  obtain ⟨g, c, rfl, gp, hc, _⟩ := stack_one h
  obtain ⟨g', c', e', _, _, cx⟩ := stack_one HA.out
  cases e'
  have CX := Lib.hid cx
  have RT := Lib.hid (stack_rest HA.out)
  have gl : g < w.heap.size := (h.sv.lt g rfl).2
  rw [List.length_append, List.length_singleton] at hn
  obtain ⟨c0, _, c2⟩ := HA.out.blk.cells
  clear h cx
  go_enter Tryd.func46, Tryd.ntmps46
  go_wp2_with fail
  rw [← hA]
  clear hA
  refine (iPop p g t.length c _ _ _ x _ HA.out.blk CX.out hc (by omega)).mono ?_
  rintro e w1 ⟨rfl, rfl⟩
  have B2 := Lib.hid (HA.out.blk.set1 (.slice (some ⟨g, 0, none⟩) t.length c))
  have R2 : Hid ((A.setCell ⟨p, 1, none⟩ (.slice (some ⟨g, 0, none⟩) t.length c)).ownsRow B 3 1 (.slice (some ⟨g, 0, none⟩) t.length c) t.length (t.map (Value.int .i64))) := Lib.hid (own_set_far RT.out (fun e => gp (Option.some.inj e)))
  have T2 := Lib.hid (TA.out.set 1 (.slice (some ⟨g, 0, none⟩) t.length c))
  go_wp2
  (try simp only [Exit.inBlock, Exit.then])
  refine bodyPost_end (v := .tuple #[]) (by simp [results, Tryd.results46]) rfl ?_
  exact ⟨rfl, _, u, H.out.turn T2.out B2.out R2.out (.inl rfl)⟩
set_option maxHeartbeats 1000000 in
theorem iExe13 (x1 x2 x3 : Int) (p B : Nat) (k : Int) (v u : Value) (o : List Int) (s : List Int) (w : World) (h : MSt w B p k v (s) u o) (hn : (s).length ≤ 20) :
    Calls Tryd.prog 46 #[.pointer (some ⟨p, 0, none⟩), .agg #[.int .i64 13, .int .i64 x1, .int .i64 x2, .int .i64 x3]] w fun e w' => e = .returned (.tuple #[]) ∧ ∃ v' u', MSt w' B p (x1) v' (s) u' (o) ∧ Below B w w' := by
  have _hn := hn
  have H := Lib.hid h
  have lt := h.blk.lt
  have hpe : p ≠ w.heap.size := by omega
  have hep : w.heap.size ≠ p := by omega
  obtain ⟨c0, _, _⟩ := h.blk.cells
  have fz := h.blk.frozen
  clear h hn
  go_enter Tryd.func46, Tryd.ntmps46
  go_wp2
  (try simp only [Exit.inBlock, Exit.then])
  refine bodyPost_end (v := .tuple #[]) (by simp [results, Tryd.results46]) rfl ?_
  have TB := ((TurnV.refl p v w).set 0 (.int .i64 x1)).of_below (w2 := (w.setCell ⟨p, 0, none⟩ (.int .i64 x1)).alloc (.cells #[.int .i64 13, .int .i64 x1, .int .i64 x2, .int .i64 x3] 35)) ((Below.refl _ _).alloc (Nat.le_refl _) _)
  exact ⟨rfl, v, u, H.out.turn TB ((H.out.blk.set0 _).keep (heap_alloc_old _ _ (by simpa using lt))) (own_below (own_set_far H.out.sv H.out.vp) ((Below.refl _ _).alloc (Nat.le_refl _) _)) (.inl rfl)⟩
set_option maxHeartbeats 1000000 in
theorem iExe10 (x1 x2 x3 : Int) (p B : Nat) (k : Int) (v u : Value) (o : List Int) (t : List Int) (x : Int) (w : World) (h : MSt w B p k v (t ++ [x]) u o) (hn : (t ++ [x]).length ≤ 20) (hx : -9841 ≤ x ∧ x ≤ 9841) (hk : x1 ≤ 9) :
    Calls Tryd.prog 46 #[.pointer (some ⟨p, 0, none⟩), .agg #[.int .i64 10, .int .i64 x1, .int .i64 x2, .int .i64 x3]] w fun e w' => e = .returned (.tuple #[]) ∧ ∃ v' u', MSt w' B p (k) v' (t ++ [Tm.shC x x1]) u' (o) ∧ Below B w w' := by
  have _hn := hn
  have H := Lib.hid h
  have lt := h.blk.lt
  have hpe : p ≠ w.heap.size := by omega
  have hep : w.heap.size ≠ p := by omega
  have bA : Below w.heap.size w (w.alloc (.cells #[.int .i64 10, .int .i64 x1, .int .i64 x2, .int .i64 x3] 35)) := by (repeat' (first | (with_reducible exact Below.refl _ _) | (with_reducible assumption) | (with_reducible refine below_drewN ?_ _) | (with_reducible refine Below.drew ?_) | (with_reducible refine Below.alloc ?_ ?_ _) | (with_reducible refine Below.setCell ?_ ?_ _) | (with_reducible refine below_gw ?_ ?_ _) | (with_reducible refine below_via ?_ ‹Below _ _ _› ?_) | (with_reducible exact Nat.le_refl _) | (with_reducible refine le_gw ?_ _) | (with_reducible refine le_alloc ?_ _) | (with_reducible refine le_setCell ?_ _ _) | (with_reducible refine le_drew ?_) | (with_reducible refine le_drewN ?_ _) | go_size))
  have HA := Lib.hid (h.later bA)
  have TA := Lib.hid ((TurnV.refl p v w).of_below bA)
  clear bA
  obtain ⟨A, hA⟩ : ∃ A, A = (w.alloc (.cells #[.int .i64 10, .int .i64 x1, .int .i64 x2, .int .i64 x3] 35)) := ⟨_, rfl⟩
  have a0 : A.cell? ⟨w.heap.size, 0, none⟩ = some (.int .i64 10) := by rw [hA]; simp
  have a1 : A.cell? ⟨w.heap.size, 1, none⟩ = some (.int .i64 x1) := by rw [hA]; simp
  have a2 : A.cell? ⟨w.heap.size, 2, none⟩ = some (.int .i64 x2) := by rw [hA]; simp
  have a3 : A.cell? ⟨w.heap.size, 3, none⟩ = some (.int .i64 x3) := by rw [hA]; simp
  have sA : A.heap.size = w.heap.size + 1 := by rw [hA]; simp
  have lA : w.heap.size < A.heap.size := by omega
  have lpA : p < A.heap.size := by omega
  rw [← hA] at HA TA
  obtain ⟨g, c, rfl, gp, hc, _⟩ := stack_one h
  obtain ⟨g', c', e', _, _, cx⟩ := stack_one HA.out
  cases e'
  have CX := Lib.hid cx
  have RT := Lib.hid (stack_rest HA.out)
  have gl : g < w.heap.size := (h.sv.lt g rfl).2
  rw [List.length_append, List.length_singleton] at hn
  obtain ⟨c0, _, c2⟩ := HA.out.blk.cells
  clear h cx
  have SC := Lib.hid (fun w => iShiftedCell x x1 w hx.1 hx.2 hk)
  clear hx hk
  have BD : Hid (Blk3 A.drew p (.int .i64 k) (.slice (some ⟨g, 0, none⟩) (t.length + 1) c) u 27) := Lib.hid HA.out.blk
  have CD : Hid (A.drew.cell? ⟨g, t.length, none⟩ = some (.int .i64 x)) := Lib.hid CX.out
  have B2 := Lib.hid (HA.out.blk.set1 (.slice (some ⟨g, 0, none⟩) t.length c))
  have R2 : Hid ((A.setCell ⟨p, 1, none⟩ (.slice (some ⟨g, 0, none⟩) t.length c)).ownsRow B 3 1 (.slice (some ⟨g, 0, none⟩) t.length c) t.length (t.map (Value.int .i64))) := Lib.hid (own_set_far RT.out (fun e => gp (Option.some.inj e)))
  have T2 := Lib.hid (TA.out.set 1 (.slice (some ⟨g, 0, none⟩) t.length c))
  have gw0 : g ≠ w.heap.size := by omega
  go_enter Tryd.func46, Tryd.ntmps46
  go_wp2_with fail
  rw [← hA]
  clear hA
  go_region_held3 (fun W => W.cell? ⟨w.heap.size, 1, none⟩ = some (.int .i64 x1)) ((first | (go_simp; done) | (rw [World.cell?_of_block (a := ⟨w.heap.size, 1, none⟩) (t3.block w.heap.size (by simp only [gw_size, World.size_setCell, World.size_alloc]; omega) (by omega) (fun e => gw0 (Option.some.inj e)))]; go_simp; done))) ((first | (go_at_call 62; refine (iPop p g t.length c _ _ _ x _ BD.out CD.out hc (by omega)).mono ?_; rintro e w1 ⟨rfl, rfl⟩) | (go_at_call 65; refine (SC.out _).mono ?_; rintro e w1 ⟨rfl, hb1⟩; obtain ⟨q, rfl⟩ := gw_of_below hb1; clear hb1) | (go_at_call 61; refine (iPush p B _ (.slice (some ⟨g, 0, none⟩) t.length c) u 27 t _ 1 1 [Tm.shC x x1] _ (Blk3.later B2.out (by ((repeat' (first | (with_reducible exact Below.refl _ _) | (with_reducible assumption) | (with_reducible refine below_drewN ?_ _) | (with_reducible refine Below.drew ?_) | (with_reducible refine Below.alloc ?_ ?_ _) | (with_reducible refine Below.setCell ?_ ?_ _) | (with_reducible refine below_gw ?_ ?_ _) | (with_reducible refine below_via ?_ ‹Below _ _ _› ?_) | (with_reducible exact Nat.le_refl _) | (with_reducible refine le_gw ?_ _) | (with_reducible refine le_alloc ?_ _) | (with_reducible refine le_setCell ?_ _ _) | (with_reducible refine le_drew ?_) | (with_reducible refine le_drewN ?_ _) | go_size))); done)) (own_below R2.out (by ((repeat' (first | (with_reducible exact Below.refl _ _) | (with_reducible assumption) | (with_reducible refine below_drewN ?_ _) | (with_reducible refine Below.drew ?_) | (with_reducible refine Below.alloc ?_ ?_ _) | (with_reducible refine Below.setCell ?_ ?_ _) | (with_reducible refine below_gw ?_ ?_ _) | (with_reducible refine below_via ?_ ‹Below _ _ _› ?_) | (with_reducible exact Nat.le_refl _) | (with_reducible refine le_gw ?_ _) | (with_reducible refine le_alloc ?_ _) | (with_reducible refine le_setCell ?_ _ _) | (with_reducible refine le_drew ?_) | (with_reducible refine le_drewN ?_ _) | go_size))); done)) (fun e => gp (Option.some.inj e)) (ints_one _ _ (by first | exact sA.symm | (rw [World.size_setCell, sA]; done) | (simp only [gw_size, World.size_setCell, sA]; done) | (simp; omega))) (by omega) (by omega) H.out.low).mono ?_; rintro e w3 ⟨rfl, v', b3, o3, t3, a3⟩; have TT := Lib.hid ((T2.out.of_below (by ((repeat' (first | (with_reducible exact Below.refl _ _) | (with_reducible assumption) | (with_reducible refine below_drewN ?_ _) | (with_reducible refine Below.drew ?_) | (with_reducible refine Below.alloc ?_ ?_ _) | (with_reducible refine Below.setCell ?_ ?_ _) | (with_reducible refine below_gw ?_ ?_ _) | (with_reducible refine below_via ?_ ‹Below _ _ _› ?_) | (with_reducible exact Nat.le_refl _) | (with_reducible refine le_gw ?_ _) | (with_reducible refine le_alloc ?_ _) | (with_reducible refine le_setCell ?_ _ _) | (with_reducible refine le_drew ?_) | (with_reducible refine le_drewN ?_ _) | go_size))); done)).trans t3 rfl); have BB := Lib.hid b3; have OO := Lib.hid o3; have AA := Lib.hid a3; clear b3 o3 a3)))
  all_goals
    clear t3
    go_wp2
    (try simp only [Exit.inBlock, Exit.then])
    refine bodyPost_end (v := .tuple #[]) (by simp [results, Tryd.results46]) rfl ?_
    refine ⟨rfl, v', u, ?_⟩
    refine H.out.turn TT.out BB.out OO.out ?_
    rcases AA.out with e | e
    · exact .inl e
    · exact .inr ⟨_, e, by first | (simp only [gw_size, World.size_setCell, World.size_alloc]; omega) | (show w.heap.size ≤ ((A.setCell _ _).alloc _).heap.size; rw [World.size_alloc, World.size_setCell]; omega)⟩
set_option maxHeartbeats 1000000 in
theorem iExe11 (x1 x2 x3 : Int) (p B : Nat) (k : Int) (v u : Value) (o : List Int) (t : List Int) (x : Int) (w : World) (h : MSt w B p k v (t ++ [x]) u o) (hn : (t ++ [x]).length ≤ 20) (ho : o.length = 27) (hx : -13 ≤ x ∧ x ≤ 13) :
    Calls Tryd.prog 46 #[.pointer (some ⟨p, 0, none⟩), .agg #[.int .i64 11, .int .i64 x1, .int .i64 x2, .int .i64 x3]] w fun e w' => e = .returned (.tuple #[]) ∧ ∃ v' u', MSt w' B p (k) v' (t ++ [o.getD (x + 13).toNat 0]) u' (o) ∧ Below B w w' := by
  have _hn := hn
  have H := Lib.hid h
  have lt := h.blk.lt
  have hpe : p ≠ w.heap.size := by omega
  have hep : w.heap.size ≠ p := by omega
  have bA : Below w.heap.size w (w.alloc (.cells #[.int .i64 11, .int .i64 x1, .int .i64 x2, .int .i64 x3] 35)) := by (repeat' (first | (with_reducible exact Below.refl _ _) | (with_reducible assumption) | (with_reducible refine below_drewN ?_ _) | (with_reducible refine Below.drew ?_) | (with_reducible refine Below.alloc ?_ ?_ _) | (with_reducible refine Below.setCell ?_ ?_ _) | (with_reducible refine below_gw ?_ ?_ _) | (with_reducible refine below_via ?_ ‹Below _ _ _› ?_) | (with_reducible exact Nat.le_refl _) | (with_reducible refine le_gw ?_ _) | (with_reducible refine le_alloc ?_ _) | (with_reducible refine le_setCell ?_ _ _) | (with_reducible refine le_drew ?_) | (with_reducible refine le_drewN ?_ _) | go_size))
  have HA := Lib.hid (h.later bA)
  have TA := Lib.hid ((TurnV.refl p v w).of_below bA)
  clear bA
  obtain ⟨A, hA⟩ : ∃ A, A = (w.alloc (.cells #[.int .i64 11, .int .i64 x1, .int .i64 x2, .int .i64 x3] 35)) := ⟨_, rfl⟩
  have a0 : A.cell? ⟨w.heap.size, 0, none⟩ = some (.int .i64 11) := by rw [hA]; simp
  have a1 : A.cell? ⟨w.heap.size, 1, none⟩ = some (.int .i64 x1) := by rw [hA]; simp
  have a2 : A.cell? ⟨w.heap.size, 2, none⟩ = some (.int .i64 x2) := by rw [hA]; simp
  have a3 : A.cell? ⟨w.heap.size, 3, none⟩ = some (.int .i64 x3) := by rw [hA]; simp
  have sA : A.heap.size = w.heap.size + 1 := by rw [hA]; simp
  have lA : w.heap.size < A.heap.size := by omega
  have lpA : p < A.heap.size := by omega
  rw [← hA] at HA TA
  obtain ⟨g, c, rfl, gp, hc, _⟩ := stack_one h
  obtain ⟨g', c', e', _, _, cx⟩ := stack_one HA.out
  cases e'
  have CX := Lib.hid cx
  have RT := Lib.hid (stack_rest HA.out)
  have gl : g < w.heap.size := (h.sv.lt g rfl).2
  rw [List.length_append, List.length_singleton] at hn
  obtain ⟨c0, _, c2⟩ := HA.out.blk.cells
  have ho27 := h.ou
  rw [ho] at ho27
  obtain ⟨gb, cb, rfl⟩ := own_shapeN ho27 (by omega)
  have gbp : gb ≠ p := fun e => h.up (by rw [← e]; rfl)
  have gbl : gb < w.heap.size := (h.ou.lt gb rfl).2
  have hoA := HA.out.ou
  rw [ho] at hoA
  have OA := Lib.hid hoA
  clear ho27 hoA
  clear h cx
  obtain ⟨i, hi⟩ : ∃ i : Nat, (i : Int) = x + 13 := ⟨(x + 13).toNat, by omega⟩
  have i27 : i < 27 := by omega
  have gbg : gb ≠ g := fun e => H.out.ap g rfl (by rw [← e]; rfl)
  have ci := own_get OA.out i27
  rw [show (x + 13).toNat = i by omega]
  obtain ⟨z, hz⟩ : ∃ z, z = o.getD i 0 := ⟨_, rfl⟩
  rw [← hz] at ci ⊢
  have e1 : IntKind.i64.wrap (x + 13) = (i : Int) := by rw [IntWalk.i64_in _ (by omega)]; omega
  have i0 : (0 : Int) ≤ (i : Int) := by omega
  have i1 : (i : Int) < 27 := by omega
  have hu29 := Tryd.underlying25
  clear hx hz ho hi
  have BD : Hid (Blk3 A.drew p (.int .i64 k) (.slice (some ⟨g, 0, none⟩) (t.length + 1) c) (.slice (some ⟨gb, 0, none⟩) 27 cb) 27) := Lib.hid HA.out.blk
  have CD : Hid (A.drew.cell? ⟨g, t.length, none⟩ = some (.int .i64 x)) := Lib.hid CX.out
  have B2 := Lib.hid (HA.out.blk.set1 (.slice (some ⟨g, 0, none⟩) t.length c))
  have R2 : Hid ((A.setCell ⟨p, 1, none⟩ (.slice (some ⟨g, 0, none⟩) t.length c)).ownsRow B 3 1 (.slice (some ⟨g, 0, none⟩) t.length c) t.length (t.map (Value.int .i64))) := Lib.hid (own_set_far RT.out (fun e => gp (Option.some.inj e)))
  have T2 := Lib.hid (TA.out.set 1 (.slice (some ⟨g, 0, none⟩) t.length c))
  have gw0 : g ≠ w.heap.size := by omega
  have K0 := Lib.hid (And.intro c2 ci)
  have K1 := Lib.hid (And.intro B2.out.cells.2.2 (cell_set_far (p := p) (o := 1) (v := .slice (some ⟨g, 0, none⟩) t.length c) ci gbp))
  have K2 : Hid (((A.setCell ⟨p, 1, none⟩ (.slice (some ⟨g, 0, none⟩) t.length c)).alloc (.cells #[.int .i64 z] 3)).cell? ⟨p, 2, none⟩ = some (.slice (some ⟨gb, 0, none⟩) 27 cb) ∧ ((A.setCell ⟨p, 1, none⟩ (.slice (some ⟨g, 0, none⟩) t.length c)).alloc (.cells #[.int .i64 z] 3)).cell? ⟨gb, i, none⟩ = some (.int .i64 z)) := Lib.hid ⟨by rw [World.cell?_alloc_lt _ _ _ (show p < (A.setCell ⟨p, 1, none⟩ (.slice (some ⟨g, 0, none⟩) t.length c)).heap.size by rw [World.size_setCell]; omega)]; exact K1.out.1, by rw [World.cell?_alloc_lt _ _ _ (show gb < (A.setCell ⟨p, 1, none⟩ (.slice (some ⟨g, 0, none⟩) t.length c)).heap.size by rw [World.size_setCell]; omega)]; exact K1.out.2⟩
  go_enter Tryd.func46, Tryd.ntmps46
  go_wp2_with fail
  rw [← hA]
  clear hA
  go_region_held3 (fun W => W.cell? ⟨p, 2, none⟩ = some (.slice (some ⟨gb, 0, none⟩) 27 cb) ∧ W.cell? ⟨gb, i, none⟩ = some (.int .i64 z)) ((first | exact K0.out | exact K1.out | exact K2.out | exact KS.out)) ((first | (go_at_call 62; refine (iPop p g t.length c _ _ _ x _ BD.out CD.out hc (by omega)).mono ?_; rintro e w1 ⟨rfl, rfl⟩) | (go_at_call 61; refine (iPush p B _ (.slice (some ⟨g, 0, none⟩) t.length c) _ 27 t _ 1 1 [z] _ (Blk3.later B2.out (by ((repeat' (first | (with_reducible exact Below.refl _ _) | (with_reducible assumption) | (with_reducible refine below_drewN ?_ _) | (with_reducible refine Below.drew ?_) | (with_reducible refine Below.alloc ?_ ?_ _) | (with_reducible refine Below.setCell ?_ ?_ _) | (with_reducible refine below_gw ?_ ?_ _) | (with_reducible refine below_via ?_ ‹Below _ _ _› ?_) | (with_reducible exact Nat.le_refl _) | (with_reducible refine le_gw ?_ _) | (with_reducible refine le_alloc ?_ _) | (with_reducible refine le_setCell ?_ _ _) | (with_reducible refine le_drew ?_) | (with_reducible refine le_drewN ?_ _) | go_size))); done)) (own_below R2.out (by ((repeat' (first | (with_reducible exact Below.refl _ _) | (with_reducible assumption) | (with_reducible refine below_drewN ?_ _) | (with_reducible refine Below.drew ?_) | (with_reducible refine Below.alloc ?_ ?_ _) | (with_reducible refine Below.setCell ?_ ?_ _) | (with_reducible refine below_gw ?_ ?_ _) | (with_reducible refine below_via ?_ ‹Below _ _ _› ?_) | (with_reducible exact Nat.le_refl _) | (with_reducible refine le_gw ?_ _) | (with_reducible refine le_alloc ?_ _) | (with_reducible refine le_setCell ?_ _ _) | (with_reducible refine le_drew ?_) | (with_reducible refine le_drewN ?_ _) | go_size))); done)) (fun e => gp (Option.some.inj e)) (Ints.drew (ints_one _ _ (by first | exact sA.symm | (rw [World.size_setCell, sA]; done) | (simp only [gw_size, World.size_setCell, sA]; done) | (simp; omega)))) (by omega) (by omega) H.out.low).mono ?_; rintro e w3 ⟨rfl, v', b3, o3, t3, a3⟩; have TT := Lib.hid ((T2.out.of_below (by ((repeat' (first | (with_reducible exact Below.refl _ _) | (with_reducible assumption) | (with_reducible refine below_drewN ?_ _) | (with_reducible refine Below.drew ?_) | (with_reducible refine Below.alloc ?_ ?_ _) | (with_reducible refine Below.setCell ?_ ?_ _) | (with_reducible refine below_gw ?_ ?_ _) | (with_reducible refine below_via ?_ ‹Below _ _ _› ?_) | (with_reducible exact Nat.le_refl _) | (with_reducible refine le_gw ?_ _) | (with_reducible refine le_alloc ?_ _) | (with_reducible refine le_setCell ?_ _ _) | (with_reducible refine le_drew ?_) | (with_reducible refine le_drewN ?_ _) | go_size))); done)).trans t3 rfl); have BB := Lib.hid b3; have OO := Lib.hid o3; have AA := Lib.hid a3; have gbW := t3.block gb (by show gb < ((A.setCell _ _).alloc _).heap.size; rw [World.size_alloc, World.size_setCell]; omega) gbp (fun e => gbg (Option.some.inj e).symm); have cz := World.cell?_of_block (a := ⟨gb, i, none⟩) gbW; have cy : w3.cell? ⟨gb, i, none⟩ = some (Value.int .i64 z) := cz.trans K2.out.2; have KS := Lib.hid (And.intro b3.cells.2.2 cy); clear gbW cz cy b3 o3 a3)))
  all_goals
    clear t3
    go_wp2
    (try simp only [Exit.inBlock, Exit.then])
    refine bodyPost_end (v := .tuple #[]) (by simp [results, Tryd.results46]) rfl ?_
    refine ⟨rfl, v', (.slice (some ⟨gb, 0, none⟩) 27 cb), ?_⟩
    refine H.out.turn TT.out BB.out OO.out ?_
    rcases AA.out with e | e
    · exact .inl e
    · exact .inr ⟨_, e, by first | (simp only [gw_size, World.size_setCell, World.size_alloc]; omega) | (show w.heap.size ≤ ((A.setCell _ _).alloc _).heap.size; rw [World.size_alloc, World.size_setCell]; omega)⟩
theorem MSt.store {w : World} {B p gb n cb i : Nat} {k y : Int} {v : Value} {s o : List Int} (h : MSt w B p k v s (.slice (some ⟨gb, 0, none⟩) n cb) o) (_hi : i < o.length) : MSt (w.setCell ⟨gb, i, none⟩ (.int .i64 y)) B p k v s (.slice (some ⟨gb, 0, none⟩) n cb) (o.set i y) ∧ Below B w (w.setCell ⟨gb, i, none⟩ (.int .i64 y)) := by
  have hn : n = o.length := by
    rcases h.ou.2 with ⟨e, _⟩ | ⟨g', cap, cur, e, _⟩
    · cases e
    · simp only [Value.slice.injEq] at e; exact e.2.1
  subst hn
  have gp : gb ≠ p := fun e => h.up (by rw [← e]; rfl)
  obtain ⟨s1, s2⟩ := h.ou.stored i (.int .i64 y)
  refine ⟨⟨h.blk.keep (heap_setCell_other w _ p _ (fun e => gp e.symm)), h.low, own_set_far h.sv (fun e => h.ap gb e rfl), by rw [List.length_set, List.map_set]; exact s1, h.ap, h.vp, h.up⟩, ⟨rfl, rfl, rfl, by rw [World.size_setCell]; exact Nat.le_refl _, fun q hq => heap_setCell_other w _ q _ (fun e => ?_)⟩⟩
  have := (h.ou.lt gb rfl).1
  have e' : q = gb := e
  omega
set_option maxHeartbeats 1000000 in
theorem iExe12 (x1 x2 x3 : Int) (p B : Nat) (k : Int) (v u : Value) (o : List Int) (t : List Int) (x y : Int) (w : World) (h : MSt w B p k v (t ++ [x, y]) u o) (hn : (t ++ [x, y]).length ≤ 20) (ho : o.length = 27) (hy : -13 ≤ y ∧ y ≤ 13) :
    Calls Tryd.prog 46 #[.pointer (some ⟨p, 0, none⟩), .agg #[.int .i64 12, .int .i64 x1, .int .i64 x2, .int .i64 x3]] w fun e w' => e = .returned (.tuple #[]) ∧ ∃ v' u', MSt w' B p (k) v' (t) u' (o.set (y + 13).toNat x) ∧ Below B w w' := by
  have _hn := hn
  have H := Lib.hid h
  have lt := h.blk.lt
  have hpe : p ≠ w.heap.size := by omega
  have hep : w.heap.size ≠ p := by omega
  have bA : Below w.heap.size w (w.alloc (.cells #[.int .i64 12, .int .i64 x1, .int .i64 x2, .int .i64 x3] 35)) := by (repeat' (first | (with_reducible exact Below.refl _ _) | (with_reducible assumption) | (with_reducible refine below_drewN ?_ _) | (with_reducible refine Below.drew ?_) | (with_reducible refine Below.alloc ?_ ?_ _) | (with_reducible refine Below.setCell ?_ ?_ _) | (with_reducible refine below_gw ?_ ?_ _) | (with_reducible refine below_via ?_ ‹Below _ _ _› ?_) | (with_reducible exact Nat.le_refl _) | (with_reducible refine le_gw ?_ _) | (with_reducible refine le_alloc ?_ _) | (with_reducible refine le_setCell ?_ _ _) | (with_reducible refine le_drew ?_) | (with_reducible refine le_drewN ?_ _) | go_size))
  have HA := Lib.hid (h.later bA)
  have TA := Lib.hid ((TurnV.refl p v w).of_below bA)
  clear bA
  obtain ⟨A, hA⟩ : ∃ A, A = (w.alloc (.cells #[.int .i64 12, .int .i64 x1, .int .i64 x2, .int .i64 x3] 35)) := ⟨_, rfl⟩
  have a0 : A.cell? ⟨w.heap.size, 0, none⟩ = some (.int .i64 12) := by rw [hA]; simp
  have a1 : A.cell? ⟨w.heap.size, 1, none⟩ = some (.int .i64 x1) := by rw [hA]; simp
  have a2 : A.cell? ⟨w.heap.size, 2, none⟩ = some (.int .i64 x2) := by rw [hA]; simp
  have a3 : A.cell? ⟨w.heap.size, 3, none⟩ = some (.int .i64 x3) := by rw [hA]; simp
  have sA : A.heap.size = w.heap.size + 1 := by rw [hA]; simp
  have lA : w.heap.size < A.heap.size := by omega
  have lpA : p < A.heap.size := by omega
  rw [← hA] at HA TA
  obtain ⟨g, c, rfl, gp, hc, _, _⟩ := stack_two h
  obtain ⟨g', c', e', _, _, cx, cy⟩ := stack_two HA.out
  cases e'
  have CX := Lib.hid cx
  have CY := Lib.hid cy
  have RT := Lib.hid (stack_rest HA.out)
  have gl : g < w.heap.size := (h.sv.lt g rfl).2
  rw [List.length_append, show [x, y].length = 2 from rfl] at hn
  obtain ⟨c0, _, c2⟩ := HA.out.blk.cells
  have ho27 := h.ou
  rw [ho] at ho27
  obtain ⟨gb, cb, rfl⟩ := own_shapeN ho27 (by omega)
  have gbp : gb ≠ p := fun e => h.up (by rw [← e]; rfl)
  have gbl : gb < w.heap.size := (h.ou.lt gb rfl).2
  have hoA := HA.out.ou
  rw [ho] at hoA
  have OA := Lib.hid hoA
  clear ho27 hoA
  clear h cx cy
  obtain ⟨i, hi⟩ : ∃ i : Nat, (i : Int) = y + 13 := ⟨(y + 13).toNat, by omega⟩
  have i27 : i < 27 := by omega
  have io : i < o.length := by omega
  rw [show (y + 13).toNat = i by omega]
  have e1 : IntKind.i64.wrap (y + 13) = (i : Int) := by rw [IntWalk.i64_in _ (by omega)]; omega
  have i0 : (0 : Int) ≤ (i : Int) := by omega
  have i1 : (i : Int) < 27 := by omega
  have ci := own_get OA.out i27
  have fz := OA.out.frozenAt
  have lb := (OA.out.lt gb rfl).2
  clear hy hi
  go_enter Tryd.func46, Tryd.ntmps46
  go_wp2_with fail
  rw [← hA]
  clear hA
  refine (iPop p g (t.length + 1) c _ _ _ y _ HA.out.blk CY.out hc (by omega)).mono ?_
  rintro e w1 ⟨rfl, rfl⟩
  go_wp2_with fail
  refine (iPop p g t.length c _ _ _ x _ (HA.out.blk.set1 _) (cell_set_far CX.out gp) (by omega) (by omega)).mono ?_
  rintro e w1 ⟨rfl, rfl⟩
  have B2 := Lib.hid ((HA.out.blk.set1 (.slice (some ⟨g, 0, none⟩) (t.length + 1) c)).set1 (.slice (some ⟨g, 0, none⟩) t.length c))
  have R2 : Hid (((A.setCell ⟨p, 1, none⟩ (.slice (some ⟨g, 0, none⟩) (t.length + 1) c)).setCell ⟨p, 1, none⟩ (.slice (some ⟨g, 0, none⟩) t.length c)).ownsRow B 3 1 (.slice (some ⟨g, 0, none⟩) t.length c) t.length (t.map (Value.int .i64))) := Lib.hid (own_set_far (own_set_far RT.out (fun e => gp (Option.some.inj e))) (fun e => gp (Option.some.inj e)))
  have T2 := Lib.hid ((TA.out.set 1 (.slice (some ⟨g, 0, none⟩) (t.length + 1) c)).set 1 (.slice (some ⟨g, 0, none⟩) t.length c))
  obtain ⟨m2, b2⟩ := H.out.turn T2.out B2.out R2.out (.inl rfl)
  have M2 := Lib.hid (MSt.store (y := x) m2 io)
  have b2' := Lib.hid b2
  clear m2 b2
  go_wp2
  (try simp only [Exit.inBlock, Exit.then])
  refine bodyPost_end (v := .tuple #[]) (by simp [results, Tryd.results46]) rfl ?_
  exact ⟨rfl, _, _, M2.out.1, b2'.out.trans M2.out.2⟩
set_option maxHeartbeats 1000000 in
theorem iExe14n (x1 x2 x3 : Int) (p B : Nat) (k : Int) (v u : Value) (o : List Int) (t : List Int) (x : Int) (w : World) (h : MSt w B p k v (t ++ [x]) u o) (hn : (t ++ [x]).length ≤ 20) (hx : x < 0) :
    Calls Tryd.prog 46 #[.pointer (some ⟨p, 0, none⟩), .agg #[.int .i64 14, .int .i64 x1, .int .i64 x2, .int .i64 x3]] w fun e w' => e = .returned (.tuple #[]) ∧ ∃ v' u', MSt w' B p (x1) v' t u' o ∧ Below B w w' := by
  have _hn := hn
  have H := Lib.hid h
  have lt := h.blk.lt
  have hpe : p ≠ w.heap.size := by omega
  have hep : w.heap.size ≠ p := by omega
  have bA : Below w.heap.size w (w.alloc (.cells #[.int .i64 14, .int .i64 x1, .int .i64 x2, .int .i64 x3] 35)) := by (repeat' (first | (with_reducible exact Below.refl _ _) | (with_reducible assumption) | (with_reducible refine below_drewN ?_ _) | (with_reducible refine Below.drew ?_) | (with_reducible refine Below.alloc ?_ ?_ _) | (with_reducible refine Below.setCell ?_ ?_ _) | (with_reducible refine below_gw ?_ ?_ _) | (with_reducible refine below_via ?_ ‹Below _ _ _› ?_) | (with_reducible exact Nat.le_refl _) | (with_reducible refine le_gw ?_ _) | (with_reducible refine le_alloc ?_ _) | (with_reducible refine le_setCell ?_ _ _) | (with_reducible refine le_drew ?_) | (with_reducible refine le_drewN ?_ _) | go_size))
  have HA := Lib.hid (h.later bA)
  have TA := Lib.hid ((TurnV.refl p v w).of_below bA)
  clear bA
  obtain ⟨A, hA⟩ : ∃ A, A = (w.alloc (.cells #[.int .i64 14, .int .i64 x1, .int .i64 x2, .int .i64 x3] 35)) := ⟨_, rfl⟩
  have a0 : A.cell? ⟨w.heap.size, 0, none⟩ = some (.int .i64 14) := by rw [hA]; simp
  have a1 : A.cell? ⟨w.heap.size, 1, none⟩ = some (.int .i64 x1) := by rw [hA]; simp
  have a2 : A.cell? ⟨w.heap.size, 2, none⟩ = some (.int .i64 x2) := by rw [hA]; simp
  have a3 : A.cell? ⟨w.heap.size, 3, none⟩ = some (.int .i64 x3) := by rw [hA]; simp
  have sA : A.heap.size = w.heap.size + 1 := by rw [hA]; simp
  have lA : w.heap.size < A.heap.size := by omega
  have lpA : p < A.heap.size := by omega
  rw [← hA] at HA TA
  obtain ⟨g, c, rfl, gp, hc, _⟩ := stack_one h
  obtain ⟨g', c', e', _, _, cx⟩ := stack_one HA.out
  cases e'
  have CX := Lib.hid cx
  have RT := Lib.hid (stack_rest HA.out)
  have gl : g < w.heap.size := (h.sv.lt g rfl).2
  rw [List.length_append, List.length_singleton] at hn
  obtain ⟨c0, _, c2⟩ := HA.out.blk.cells
  clear h cx
  have SG := Lib.hid (fun w => iSignOf x w)
  rw [show Tm.sgn x = -1 by unfold Tm.sgn; (repeat (split <;> (try omega)))] at SG
  have NO : Hid (∀ w : World, Calls Tryd.prog 52 #[.agg #[.int .i64 14, .int .i64 x1, .int .i64 x2, .int .i64 x3]] w fun e w' => e = .returned (.agg #[.int .i64 x1, .int .i64 x2, .int .i64 x3]) ∧ Below w.heap.size w w') := Lib.hid fun w => iNumbersOf (fun j => if j = 0 then 14 else if j = 1 then x1 else if j = 2 then x2 else x3) w
  clear hx
  have idx : ∀ w : World, (Instr.index 83 (.agg #[.int .i64 x1, .int .i64 x2, .int .i64 x3]) (.int .i64 0)).run Tryd.prog w = .ok (.int .i64 x1) w := fun w => by kernel_rfl
  go_enter Tryd.func46, Tryd.ntmps46
  go_wp2_with fail
  rw [← hA]
  clear hA
  refine (NO.out _).mono ?_
  rintro e w1 ⟨rfl, hb1⟩
  have BG := Lib.hid (Blk3.later HA.out.blk hb1)
  have RG := Lib.hid (own_below RT.out hb1)
  have TG := Lib.hid (TA.out.of_below hb1)
  have cg := hb1.cell (p := ⟨g, t.length, none⟩) (show g < A.heap.size by omega)
  rw [CX.out] at cg
  have CG := Lib.hid cg
  have sz1 := hb1.size
  clear cg hb1 a0 a1 a2 a3 c0 c2
  go_wp2_with fail
  refine (iPop p g t.length c _ _ _ x _ BG.out CG.out hc (by omega)).mono ?_
  rintro e w2 ⟨rfl, rfl⟩
  go_wp2_with fail
  refine (SG.out _).mono ?_
  rintro e w2 ⟨rfl, rfl⟩
  have B2 := Lib.hid (BG.out.set1 (.slice (some ⟨g, 0, none⟩) t.length c))
  have R2 : Hid ((w1.setCell ⟨p, 1, none⟩ (.slice (some ⟨g, 0, none⟩) t.length c)).ownsRow B 3 1 (.slice (some ⟨g, 0, none⟩) t.length c) t.length (t.map (Value.int .i64))) := Lib.hid (own_set_far RG.out (fun e => gp (Option.some.inj e)))
  have T2 := Lib.hid (TG.out.set 1 (.slice (some ⟨g, 0, none⟩) t.length c))
  obtain ⟨d0, _, _⟩ := BG.out.cells
  have fz := BG.out.frozen
  have lp1 := BG.out.lt
  go_wp2
  (try simp only [Exit.inBlock, Exit.then])
  refine bodyPost_end (v := .tuple #[]) (by simp [results, Tryd.results46]) rfl ?_
  exact ⟨rfl, _, u, H.out.turn (T2.out.set 0 (.int .i64 x1)) (B2.out.set0 (.int .i64 x1)) (own_set_far R2.out (fun e => gp (Option.some.inj e))) (.inl rfl)⟩
set_option maxHeartbeats 1000000 in
theorem iExe14z (x1 x2 x3 : Int) (p B : Nat) (k : Int) (v u : Value) (o : List Int) (t : List Int) (x : Int) (w : World) (h : MSt w B p k v (t ++ [x]) u o) (hn : (t ++ [x]).length ≤ 20) (hx : x = 0) :
    Calls Tryd.prog 46 #[.pointer (some ⟨p, 0, none⟩), .agg #[.int .i64 14, .int .i64 x1, .int .i64 x2, .int .i64 x3]] w fun e w' => e = .returned (.tuple #[]) ∧ ∃ v' u', MSt w' B p (x2) v' t u' o ∧ Below B w w' := by
  have _hn := hn
  have H := Lib.hid h
  have lt := h.blk.lt
  have hpe : p ≠ w.heap.size := by omega
  have hep : w.heap.size ≠ p := by omega
  have bA : Below w.heap.size w (w.alloc (.cells #[.int .i64 14, .int .i64 x1, .int .i64 x2, .int .i64 x3] 35)) := by (repeat' (first | (with_reducible exact Below.refl _ _) | (with_reducible assumption) | (with_reducible refine below_drewN ?_ _) | (with_reducible refine Below.drew ?_) | (with_reducible refine Below.alloc ?_ ?_ _) | (with_reducible refine Below.setCell ?_ ?_ _) | (with_reducible refine below_gw ?_ ?_ _) | (with_reducible refine below_via ?_ ‹Below _ _ _› ?_) | (with_reducible exact Nat.le_refl _) | (with_reducible refine le_gw ?_ _) | (with_reducible refine le_alloc ?_ _) | (with_reducible refine le_setCell ?_ _ _) | (with_reducible refine le_drew ?_) | (with_reducible refine le_drewN ?_ _) | go_size))
  have HA := Lib.hid (h.later bA)
  have TA := Lib.hid ((TurnV.refl p v w).of_below bA)
  clear bA
  obtain ⟨A, hA⟩ : ∃ A, A = (w.alloc (.cells #[.int .i64 14, .int .i64 x1, .int .i64 x2, .int .i64 x3] 35)) := ⟨_, rfl⟩
  have a0 : A.cell? ⟨w.heap.size, 0, none⟩ = some (.int .i64 14) := by rw [hA]; simp
  have a1 : A.cell? ⟨w.heap.size, 1, none⟩ = some (.int .i64 x1) := by rw [hA]; simp
  have a2 : A.cell? ⟨w.heap.size, 2, none⟩ = some (.int .i64 x2) := by rw [hA]; simp
  have a3 : A.cell? ⟨w.heap.size, 3, none⟩ = some (.int .i64 x3) := by rw [hA]; simp
  have sA : A.heap.size = w.heap.size + 1 := by rw [hA]; simp
  have lA : w.heap.size < A.heap.size := by omega
  have lpA : p < A.heap.size := by omega
  rw [← hA] at HA TA
  obtain ⟨g, c, rfl, gp, hc, _⟩ := stack_one h
  obtain ⟨g', c', e', _, _, cx⟩ := stack_one HA.out
  cases e'
  have CX := Lib.hid cx
  have RT := Lib.hid (stack_rest HA.out)
  have gl : g < w.heap.size := (h.sv.lt g rfl).2
  rw [List.length_append, List.length_singleton] at hn
  obtain ⟨c0, _, c2⟩ := HA.out.blk.cells
  clear h cx
  have SG := Lib.hid (fun w => iSignOf x w)
  rw [show Tm.sgn x = 0 by unfold Tm.sgn; (repeat (split <;> (try omega)))] at SG
  have NO : Hid (∀ w : World, Calls Tryd.prog 52 #[.agg #[.int .i64 14, .int .i64 x1, .int .i64 x2, .int .i64 x3]] w fun e w' => e = .returned (.agg #[.int .i64 x1, .int .i64 x2, .int .i64 x3]) ∧ Below w.heap.size w w') := Lib.hid fun w => iNumbersOf (fun j => if j = 0 then 14 else if j = 1 then x1 else if j = 2 then x2 else x3) w
  clear hx
  have idx : ∀ w : World, (Instr.index 83 (.agg #[.int .i64 x1, .int .i64 x2, .int .i64 x3]) (.int .i64 1)).run Tryd.prog w = .ok (.int .i64 x2) w := fun w => by kernel_rfl
  go_enter Tryd.func46, Tryd.ntmps46
  go_wp2_with fail
  rw [← hA]
  clear hA
  refine (NO.out _).mono ?_
  rintro e w1 ⟨rfl, hb1⟩
  have BG := Lib.hid (Blk3.later HA.out.blk hb1)
  have RG := Lib.hid (own_below RT.out hb1)
  have TG := Lib.hid (TA.out.of_below hb1)
  have cg := hb1.cell (p := ⟨g, t.length, none⟩) (show g < A.heap.size by omega)
  rw [CX.out] at cg
  have CG := Lib.hid cg
  have sz1 := hb1.size
  clear cg hb1 a0 a1 a2 a3 c0 c2
  go_wp2_with fail
  refine (iPop p g t.length c _ _ _ x _ BG.out CG.out hc (by omega)).mono ?_
  rintro e w2 ⟨rfl, rfl⟩
  go_wp2_with fail
  refine (SG.out _).mono ?_
  rintro e w2 ⟨rfl, rfl⟩
  have B2 := Lib.hid (BG.out.set1 (.slice (some ⟨g, 0, none⟩) t.length c))
  have R2 : Hid ((w1.setCell ⟨p, 1, none⟩ (.slice (some ⟨g, 0, none⟩) t.length c)).ownsRow B 3 1 (.slice (some ⟨g, 0, none⟩) t.length c) t.length (t.map (Value.int .i64))) := Lib.hid (own_set_far RG.out (fun e => gp (Option.some.inj e)))
  have T2 := Lib.hid (TG.out.set 1 (.slice (some ⟨g, 0, none⟩) t.length c))
  obtain ⟨d0, _, _⟩ := BG.out.cells
  have fz := BG.out.frozen
  have lp1 := BG.out.lt
  go_wp2
  (try simp only [Exit.inBlock, Exit.then])
  refine bodyPost_end (v := .tuple #[]) (by simp [results, Tryd.results46]) rfl ?_
  exact ⟨rfl, _, u, H.out.turn (T2.out.set 0 (.int .i64 x2)) (B2.out.set0 (.int .i64 x2)) (own_set_far R2.out (fun e => gp (Option.some.inj e))) (.inl rfl)⟩
set_option maxHeartbeats 1000000 in
theorem iExe14p (x1 x2 x3 : Int) (p B : Nat) (k : Int) (v u : Value) (o : List Int) (t : List Int) (x : Int) (w : World) (h : MSt w B p k v (t ++ [x]) u o) (hn : (t ++ [x]).length ≤ 20) (hx : 0 < x) :
    Calls Tryd.prog 46 #[.pointer (some ⟨p, 0, none⟩), .agg #[.int .i64 14, .int .i64 x1, .int .i64 x2, .int .i64 x3]] w fun e w' => e = .returned (.tuple #[]) ∧ ∃ v' u', MSt w' B p (x3) v' t u' o ∧ Below B w w' := by
  have _hn := hn
  have H := Lib.hid h
  have lt := h.blk.lt
  have hpe : p ≠ w.heap.size := by omega
  have hep : w.heap.size ≠ p := by omega
  have bA : Below w.heap.size w (w.alloc (.cells #[.int .i64 14, .int .i64 x1, .int .i64 x2, .int .i64 x3] 35)) := by (repeat' (first | (with_reducible exact Below.refl _ _) | (with_reducible assumption) | (with_reducible refine below_drewN ?_ _) | (with_reducible refine Below.drew ?_) | (with_reducible refine Below.alloc ?_ ?_ _) | (with_reducible refine Below.setCell ?_ ?_ _) | (with_reducible refine below_gw ?_ ?_ _) | (with_reducible refine below_via ?_ ‹Below _ _ _› ?_) | (with_reducible exact Nat.le_refl _) | (with_reducible refine le_gw ?_ _) | (with_reducible refine le_alloc ?_ _) | (with_reducible refine le_setCell ?_ _ _) | (with_reducible refine le_drew ?_) | (with_reducible refine le_drewN ?_ _) | go_size))
  have HA := Lib.hid (h.later bA)
  have TA := Lib.hid ((TurnV.refl p v w).of_below bA)
  clear bA
  obtain ⟨A, hA⟩ : ∃ A, A = (w.alloc (.cells #[.int .i64 14, .int .i64 x1, .int .i64 x2, .int .i64 x3] 35)) := ⟨_, rfl⟩
  have a0 : A.cell? ⟨w.heap.size, 0, none⟩ = some (.int .i64 14) := by rw [hA]; simp
  have a1 : A.cell? ⟨w.heap.size, 1, none⟩ = some (.int .i64 x1) := by rw [hA]; simp
  have a2 : A.cell? ⟨w.heap.size, 2, none⟩ = some (.int .i64 x2) := by rw [hA]; simp
  have a3 : A.cell? ⟨w.heap.size, 3, none⟩ = some (.int .i64 x3) := by rw [hA]; simp
  have sA : A.heap.size = w.heap.size + 1 := by rw [hA]; simp
  have lA : w.heap.size < A.heap.size := by omega
  have lpA : p < A.heap.size := by omega
  rw [← hA] at HA TA
  obtain ⟨g, c, rfl, gp, hc, _⟩ := stack_one h
  obtain ⟨g', c', e', _, _, cx⟩ := stack_one HA.out
  cases e'
  have CX := Lib.hid cx
  have RT := Lib.hid (stack_rest HA.out)
  have gl : g < w.heap.size := (h.sv.lt g rfl).2
  rw [List.length_append, List.length_singleton] at hn
  obtain ⟨c0, _, c2⟩ := HA.out.blk.cells
  clear h cx
  have SG := Lib.hid (fun w => iSignOf x w)
  rw [show Tm.sgn x = 1 by unfold Tm.sgn; (repeat (split <;> (try omega)))] at SG
  have NO : Hid (∀ w : World, Calls Tryd.prog 52 #[.agg #[.int .i64 14, .int .i64 x1, .int .i64 x2, .int .i64 x3]] w fun e w' => e = .returned (.agg #[.int .i64 x1, .int .i64 x2, .int .i64 x3]) ∧ Below w.heap.size w w') := Lib.hid fun w => iNumbersOf (fun j => if j = 0 then 14 else if j = 1 then x1 else if j = 2 then x2 else x3) w
  clear hx
  have idx : ∀ w : World, (Instr.index 83 (.agg #[.int .i64 x1, .int .i64 x2, .int .i64 x3]) (.int .i64 2)).run Tryd.prog w = .ok (.int .i64 x3) w := fun w => by kernel_rfl
  go_enter Tryd.func46, Tryd.ntmps46
  go_wp2_with fail
  rw [← hA]
  clear hA
  refine (NO.out _).mono ?_
  rintro e w1 ⟨rfl, hb1⟩
  have BG := Lib.hid (Blk3.later HA.out.blk hb1)
  have RG := Lib.hid (own_below RT.out hb1)
  have TG := Lib.hid (TA.out.of_below hb1)
  have cg := hb1.cell (p := ⟨g, t.length, none⟩) (show g < A.heap.size by omega)
  rw [CX.out] at cg
  have CG := Lib.hid cg
  have sz1 := hb1.size
  clear cg hb1 a0 a1 a2 a3 c0 c2
  go_wp2_with fail
  refine (iPop p g t.length c _ _ _ x _ BG.out CG.out hc (by omega)).mono ?_
  rintro e w2 ⟨rfl, rfl⟩
  go_wp2_with fail
  refine (SG.out _).mono ?_
  rintro e w2 ⟨rfl, rfl⟩
  have B2 := Lib.hid (BG.out.set1 (.slice (some ⟨g, 0, none⟩) t.length c))
  have R2 : Hid ((w1.setCell ⟨p, 1, none⟩ (.slice (some ⟨g, 0, none⟩) t.length c)).ownsRow B 3 1 (.slice (some ⟨g, 0, none⟩) t.length c) t.length (t.map (Value.int .i64))) := Lib.hid (own_set_far RG.out (fun e => gp (Option.some.inj e)))
  have T2 := Lib.hid (TG.out.set 1 (.slice (some ⟨g, 0, none⟩) t.length c))
  obtain ⟨d0, _, _⟩ := BG.out.cells
  have fz := BG.out.frozen
  have lp1 := BG.out.lt
  go_wp2
  (try simp only [Exit.inBlock, Exit.then])
  refine bodyPost_end (v := .tuple #[]) (by simp [results, Tryd.results46]) rfl ?_
  exact ⟨rfl, _, u, H.out.turn (T2.out.set 0 (.int .i64 x3)) (B2.out.set0 (.int .i64 x3)) (own_set_far R2.out (fun e => gp (Option.some.inj e))) (.inl rfl)⟩
namespace Tm
def top (s : List Int) : Int := s.getD (s.length - 1) 0
def nxt (s : List Int) : Int := s.getD (s.length - 2) 0
theorem split_one {s : List Int} (h : 1 ≤ s.length) : s = s.take (s.length - 1) ++ [top s] := by
  apply List.ext_getElem?
  intro i
  have l : (s.take (s.length - 1)).length = s.length - 1 := by rw [List.length_take]; omega
  by_cases h1 : i < s.length - 1
  · rw [List.getElem?_append_left (by omega), List.getElem?_take, if_pos h1]
  · rw [List.getElem?_append_right (by omega), l]
    by_cases h2 : i = s.length - 1
    · subst h2; rw [Nat.sub_self, List.getElem?_eq_getElem (by omega)]; simp [top, List.getD_eq_getElem?_getD, List.getElem?_eq_getElem (show s.length - 1 < s.length by omega)]
    · rw [List.getElem?_eq_none (by omega), List.getElem?_eq_none (by simp; omega)]
theorem split_two {s : List Int} (h : 2 ≤ s.length) : s = s.take (s.length - 2) ++ [nxt s, top s] := by
  have h1 := split_one (s := s) (by omega)
  have l : (s.take (s.length - 1)).length = s.length - 1 := by rw [List.length_take]; omega
  have h2 := split_one (s := s.take (s.length - 1)) (by omega)
  rw [l, List.take_take, show min (s.length - 1 - 1) (s.length - 1) = s.length - 2 by omega] at h2
  have ht : top (s.take (s.length - 1)) = nxt s := by
    unfold top nxt
    rw [l, List.getD_eq_getElem?_getD, List.getD_eq_getElem?_getD, List.getElem?_take, if_pos (by omega), show s.length - 1 - 1 = s.length - 2 by omega]
  rw [ht] at h2
  conv => lhs; rw [h1, h2]
  rw [List.append_assoc]; rfl
/-- Why an operation is not executed; 0 if it is. -/
def why (L : List (Nat → Int)) (k : Int) (s : List Int) : Int :=
  if k = (L.length : Int) then 2
  else if (L.getD k.toNat g0) 0 = 15 then 1
  else if ¬ (popsN ((L.getD k.toNat g0) 0) ≤ (s.length : Int) ∧ (s.length : Int) - popsN ((L.getD k.toNat g0) 0) + pushN ((L.getD k.toNat g0) 0) ≤ 20) then 3
  else if ((L.getD k.toNat g0) 0 = 11 ∨ (L.getD k.toNat g0) 0 = 12) ∧ ¬ (-13 ≤ top s ∧ top s ≤ 13) then 4 else 0
/-- The place behind an operation (k is the next one), the stack, the cells. -/
def opP (x : Nat → Int) (k : Int) (s : List Int) : Int := if x 0 = 13 then x 1 else if x 0 = 14 then (if top s < 0 then x 1 else if top s = 0 then x 2 else x 3) else k
def opS (x : Nat → Int) (s o : List Int) : List Int :=
  if x 0 = 1 then s ++ [x 1]
  else if x 0 = 2 then s.take (s.length - 2) ++ [wrapC (nxt s + top s)]
  else if x 0 = 3 then s.take (s.length - 2) ++ [wrapC (nxt s - top s)]
  else if x 0 = 4 then s.take (s.length - 2) ++ [wrapC (nxt s * top s)]
  else if x 0 = 5 then s.take (s.length - 1) ++ [-top s]
  else if x 0 = 6 then s.take (s.length - 1) ++ [sgn (top s)]
  else if x 0 = 7 then s.take (s.length - 1) ++ [top s, top s]
  else if x 0 = 8 then s.take (s.length - 2) ++ [top s, nxt s]
  else if x 0 = 9 then s.take (s.length - 1)
  else if x 0 = 10 then s.take (s.length - 1) ++ [shC (top s) (x 1)]
  else if x 0 = 11 then s.take (s.length - 1) ++ [o.getD (top s + 13).toNat 0]
  else if x 0 = 12 then s.take (s.length - 2)
  else if x 0 = 14 then s.take (s.length - 1)
  else s
def opO (x : Nat → Int) (s o : List Int) : List Int := if x 0 = 12 then o.set (top s + 13).toNat (nxt s) else o
/-- A step: what it leaves. -/
def nxP (L : List (Nat → Int)) (k : Int) (s : List Int) : Int := if why L k s = 0 then opP (L.getD k.toNat g0) (k + 1) s else k
def nxS (L : List (Nat → Int)) (k : Int) (s o : List Int) : List Int := if why L k s = 0 then opS (L.getD k.toNat g0) s o else s
def nxO (L : List (Nat → Int)) (k : Int) (s o : List Int) : List Int := if why L k s = 0 then opO (L.getD k.toNat g0) s o else o
theorem cells_mem {s : List Int} (h : cellsOk s = true) : ∀ x ∈ s, -9841 ≤ x ∧ x ≤ 9841 := by
  rw [cellsOk, List.all_eq_true] at h
  exact fun x hx => (isCell_iff x).1 (h x hx)
theorem cells_of {s : List Int} (h : ∀ x ∈ s, -9841 ≤ x ∧ x ≤ 9841) : cellsOk s = true := by
  rw [cellsOk, List.all_eq_true]
  exact fun x hx => (isCell_iff x).2 (h x hx)
theorem top_mem {s : List Int} (h : 1 ≤ s.length) : top s ∈ s := getD_mem (by omega)
theorem nxt_mem {s : List Int} (h : 2 ≤ s.length) : nxt s ∈ s := getD_mem (by omega)
theorem popsN_le (c : Int) : 0 ≤ popsN c ∧ popsN c ≤ 2 := by unfold popsN; split <;> (try split) <;> omega
theorem pushN_le (c : Int) : 0 ≤ pushN c ∧ pushN c ≤ 2 := by unfold pushN; split <;> (try split) <;> omega
end Tm
theorem iExecute (x : Nat → Int) (n : Int) (p B : Nat) (k : Int) (v u : Value) (s o : List Int) (w : World) (h : MSt w B p k v s u o) (hok : Tm.opOk n x = true) (h15 : x 0 ≠ 15) (hp : Tm.popsN (x 0) ≤ (s.length : Int)) (hc : x 0 = 11 ∨ x 0 = 12 → -13 ≤ Tm.top s ∧ Tm.top s ≤ 13) (hs : Tm.cellsOk s = true) (ho : o.length = 27) (hn : s.length ≤ 20) :
    Calls Tryd.prog 46 #[.pointer (some ⟨p, 0, none⟩), opV x] w fun e w' => e = .returned (.tuple #[]) ∧ ∃ v' u', MSt w' B p (Tm.opP x k s) v' (Tm.opS x s o) u' (Tm.opO x s o) ∧ Below B w w' := by
  have hk := (Tm.opOk_iff n x).1 hok
  have cm := Tm.cells_mem hs
  obtain ⟨c, hc0⟩ : ∃ c, c = x 0 := ⟨_, rfl⟩
  unfold opV Tm.opP Tm.opS Tm.opO
  rw [← hc0] at hk h15 hp hc ⊢
  have one : 1 ≤ s.length → MSt w B p k v (s.take (s.length - 1) ++ [Tm.top s]) u o := fun hl => by rw [← Tm.split_one hl]; exact h
  have two : 2 ≤ s.length → MSt w B p k v (s.take (s.length - 2) ++ [Tm.nxt s, Tm.top s]) u o := fun hl => by rw [← Tm.split_two hl]; exact h
  have hn1 : 1 ≤ s.length → (s.take (s.length - 1) ++ [Tm.top s]).length ≤ 20 := fun hl => by rw [← Tm.split_one hl]; exact hn
  have hn2 : 2 ≤ s.length → (s.take (s.length - 2) ++ [Tm.nxt s, Tm.top s]).length ≤ 20 := fun hl => by rw [← Tm.split_two hl]; exact hn
  have bt : 1 ≤ s.length → -9841 ≤ Tm.top s ∧ Tm.top s ≤ 9841 := fun hl => cm _ (Tm.top_mem hl)
  have bn : 2 ≤ s.length → -9841 ≤ Tm.nxt s ∧ Tm.nxt s ≤ 9841 := fun hl => cm _ (Tm.nxt_mem hl)
  have cc : c = 1 ∨ c = 2 ∨ c = 3 ∨ c = 4 ∨ c = 5 ∨ c = 6 ∨ c = 7 ∨ c = 8 ∨ c = 9 ∨ c = 10 ∨ c = 11 ∨ c = 12 ∨ c = 13 ∨ c = 14 := by omega
  rcases cc with rfl | rfl | rfl | rfl | rfl | rfl | rfl | rfl | rfl | rfl | rfl | rfl | rfl | rfl
  all_goals simp [Tm.popsN] at hp
  all_goals simp only [Int.reduceEq, ↓reduceIte]
  · exact iExe1 _ _ _ p B k v u o s w h hn
  · exact iExe2 _ _ _ p B k v u o _ _ _ w (two (by omega)) (hn2 (by omega)) (bn (by omega)) (bt (by omega))
  · exact iExe3 _ _ _ p B k v u o _ _ _ w (two (by omega)) (hn2 (by omega)) (bn (by omega)) (bt (by omega))
  · exact iExe4 _ _ _ p B k v u o _ _ _ w (two (by omega)) (hn2 (by omega)) (bn (by omega)) (bt (by omega))
  · exact iExe5 _ _ _ p B k v u o _ _ w (one (by omega)) (hn1 (by omega)) (bt (by omega))
  · exact iExe6 _ _ _ p B k v u o _ _ w (one (by omega)) (hn1 (by omega))
  · exact iExe7 _ _ _ p B k v u o _ _ w (one (by omega)) (hn1 (by omega))
  · exact iExe8 _ _ _ p B k v u o _ _ _ w (two (by omega)) (hn2 (by omega))
  · exact iExe9 _ _ _ p B k v u o _ _ w (one (by omega)) (hn1 (by omega))
  · exact iExe10 _ _ _ p B k v u o _ _ w (one (by omega)) (hn1 (by omega)) (bt (by omega)) (by omega)
  · exact iExe11 _ _ _ p B k v u o _ _ w (one (by omega)) (hn1 (by omega)) ho (hc (.inl rfl))
  · exact iExe12 _ _ _ p B k v u o _ _ _ w (two (by omega)) (hn2 (by omega)) ho (hc (.inr rfl))
  · exact iExe13 _ _ _ p B k v u o s w h hn
  · rcases Int.lt_or_le (Tm.top s) 0 with c1 | c1
    · rw [if_pos c1]
      exact iExe14n _ _ _ p B k v u o _ _ w (one (by omega)) (hn1 (by omega)) c1
    · rw [if_neg (by omega)]
      by_cases c2 : Tm.top s = 0
      · rw [if_pos c2]
        exact iExe14z _ _ _ p B k v u o _ _ w (one (by omega)) (hn1 (by omega)) c2
      · rw [if_neg c2]
        exact iExe14p _ _ _ p B k v u o _ _ w (one (by omega)) (hn1 (by omega)) (by omega)
theorem iHasStack (nm : ByteArray) (a b c : Int) (p : Nat) (v0 v2 : Value) (sa : Option Addr) (n cap : Nat) (t : TypeId) (w : World) (hb : Blk3 w p v0 (.slice sa n cap) v2 t) (hn : n ≤ 1000) (ha : 0 ≤ a ∧ a ≤ 2) (hb2 : 0 ≤ b ∧ b ≤ 2) :
    Calls Tryd.prog 44 #[.pointer (some ⟨p, 0, none⟩), .agg #[.string nm, .int .i64 a, .int .i64 b, .int .i64 c]] w fun e w' => e = .returned (.bool (decide (a ≤ (n : Int) ∧ (n : Int) - a + b ≤ 20))) ∧ Below w.heap.size w w' := by
  obtain ⟨c0, c1, c2⟩ := hb.cells
  have lt := hb.lt
  obtain ⟨a1, a2⟩ := ha
  obtain ⟨b1, b2⟩ := hb2
  have e1 : IntKind.i64.wrap ((n : Int) - a) = (n : Int) - a := IntWalk.i64_in _ (by omega)
  have e2 : IntKind.i64.wrap ((n : Int) - a + b) = (n : Int) - a + b := IntWalk.i64_in _ (by omega)
  clear hb c0 c2
  by_cases h : a ≤ (n : Int)
  · have h0 : 0 ≤ (n : Int) - a := by omega
    by_cases h2 : (n : Int) - a + b ≤ 20
    · rw [decide_eq_true (And.intro h h2)]
      go_enter Tryd.func44, Tryd.ntmps44
      go_wp2_with fail
      (refine wp_region_quiet_below (by kernel_rfl) (by kernel_rfl) ?_; (repeat (go_big_quiet_step (fail))); refine wpQuiet_nil ?_; intro wq hwq; obtain ⟨pq, hpq⟩ := hwq; have hpq' : wq = gw _ pq := hpq; clear hpq; subst hpq')
      go_wp2
      go_ret
      exact ⟨by first | rfl | exact ret_bool (by simp; omega), by (repeat' (first | (with_reducible exact Below.refl _ _) | (with_reducible assumption) | (with_reducible refine below_drewN ?_ _) | (with_reducible refine Below.drew ?_) | (with_reducible refine Below.alloc ?_ ?_ _) | (with_reducible refine Below.setCell ?_ ?_ _) | (with_reducible refine below_gw ?_ ?_ _) | (with_reducible refine below_via ?_ ‹Below _ _ _› ?_) | (with_reducible exact Nat.le_refl _) | (with_reducible refine le_gw ?_ _) | (with_reducible refine le_alloc ?_ _) | (with_reducible refine le_setCell ?_ _ _) | (with_reducible refine le_drew ?_) | (with_reducible refine le_drewN ?_ _) | go_size))⟩
    · rw [decide_eq_false (fun hh => h2 hh.2)]
      go_enter Tryd.func44, Tryd.ntmps44
      go_wp2_with fail
      (refine wp_region_quiet_below (by kernel_rfl) (by kernel_rfl) ?_; (repeat (go_big_quiet_step (fail))); refine wpQuiet_nil ?_; intro wq hwq; obtain ⟨pq, hpq⟩ := hwq; have hpq' : wq = gw _ pq := hpq; clear hpq; subst hpq')
      go_wp2
      go_ret
      exact ⟨by first | rfl | exact ret_bool (by simp; omega), by (repeat' (first | (with_reducible exact Below.refl _ _) | (with_reducible assumption) | (with_reducible refine below_drewN ?_ _) | (with_reducible refine Below.drew ?_) | (with_reducible refine Below.alloc ?_ ?_ _) | (with_reducible refine Below.setCell ?_ ?_ _) | (with_reducible refine below_gw ?_ ?_ _) | (with_reducible refine below_via ?_ ‹Below _ _ _› ?_) | (with_reducible exact Nat.le_refl _) | (with_reducible refine le_gw ?_ _) | (with_reducible refine le_alloc ?_ _) | (with_reducible refine le_setCell ?_ _ _) | (with_reducible refine le_drew ?_) | (with_reducible refine le_drewN ?_ _) | go_size))⟩
  · have h0 : ¬ 0 ≤ (n : Int) - a := by omega
    rw [decide_eq_false (fun hh => h hh.1)]
    go_enter Tryd.func44, Tryd.ntmps44
    go_wp2_with fail
    (refine wp_region_quiet_below (by kernel_rfl) (by kernel_rfl) ?_; (repeat (go_big_quiet_step (fail))); refine wpQuiet_nil ?_; intro wq hwq; obtain ⟨pq, hpq⟩ := hwq; have hpq' : wq = gw _ pq := hpq; clear hpq; subst hpq')
    go_wp2
    go_ret
    exact ⟨rfl, by (repeat' (first | (with_reducible exact Below.refl _ _) | (with_reducible assumption) | (with_reducible refine below_drewN ?_ _) | (with_reducible refine Below.drew ?_) | (with_reducible refine Below.alloc ?_ ?_ _) | (with_reducible refine Below.setCell ?_ ?_ _) | (with_reducible refine below_gw ?_ ?_ _) | (with_reducible refine below_via ?_ ‹Below _ _ _› ?_) | (with_reducible exact Nat.le_refl _) | (with_reducible refine le_gw ?_ _) | (with_reducible refine le_alloc ?_ _) | (with_reducible refine le_setCell ?_ _ _) | (with_reducible refine le_drew ?_) | (with_reducible refine le_drewN ?_ _) | go_size))⟩
theorem iHasCell (c : Int) (p B : Nat) (k : Int) (v u : Value) (s o : List Int) (w : World) (h : MSt w B p k v s u o) (hl : c = 11 ∨ c = 12 → 1 ≤ s.length) (hn : s.length ≤ 1000) :
    Calls Tryd.prog 45 #[.pointer (some ⟨p, 0, none⟩), .int .i64 c] w fun e w' => e = .returned (.bool (!decide ((c = 11 ∨ c = 12) ∧ ¬ (-13 ≤ Tm.top s ∧ Tm.top s ≤ 13)))) ∧ Below w.heap.size w w' := by
  by_cases hc : c = 11 ∨ c = 12
  · obtain ⟨g, cap, e, -, -, ct⟩ := stack_one (t := s.take (s.length - 1)) (x := Tm.top s) (by rw [← Tm.split_one (hl hc)]; exact h)
    have hL : (s.take (s.length - 1)).length = s.length - 1 := by rw [List.length_take]; omega
    rw [hL] at e ct
    rw [show s.length - 1 + 1 = s.length by have := hl hc; omega] at e
    subst e
    obtain ⟨_, c1, _⟩ := h.blk.cells
    have lt := h.blk.lt
    have lg := (h.sv.lt g rfl).2
    obtain ⟨x, hx⟩ : ∃ x, x = Tm.top s := ⟨_, rfl⟩
    rw [← hx] at ct ⊢
    obtain ⟨m, hm⟩ : ∃ m, m = s.length - 1 := ⟨_, rfl⟩
    have e1 : IntKind.i64.wrap ((s.length : Int) - 1) = (m : Int) := by rw [IntWalk.i64_in _ (by omega)]; have := hl hc; omega
    have m0 : (0 : Int) ≤ (m : Int) := by omega
    have m1 : (m : Int) < (s.length : Int) := by have := hl hc; omega
    rw [← hm] at ct
    have AR := Lib.hid (fun w => iAround 13 w (by omega) (by omega))
    have LK := Lib.hid (fun w => iLacks (-13) 13 x w)
    have E : (!decide ((c = 11 ∨ c = 12) ∧ ¬ (-13 ≤ x ∧ x ≤ 13))) = !(!Tm.inB x (-13) 13) := by
      rw [Bool.not_eq_eq_eq_not, Bool.not_not, Bool.eq_iff_iff, decide_eq_true_eq]
      simp only [Bool.not_eq_eq_eq_not, Bool.not_true, Bool.eq_false_iff, ne_eq, Tm.inB_iff]
      exact ⟨fun hh => hh.2, fun hh => ⟨hc, hh⟩⟩
    rw [E]
    clear h hx hm hL hl E
    rcases hc with rfl | rfl
    all_goals
      go_enter Tryd.func45, Tryd.ntmps45
      go_wp2_with fail
      (refine wp_region_quiet_below (by kernel_rfl) (by kernel_rfl) ?_; (repeat (go_big_quiet_step (first | (go_at_call 58; exact met_below (fun _ => AR.out _)) | (go_at_call 40; exact met_below (fun _ => LK.out _))))); refine wpQuiet_nil ?_; intro wq hwq; obtain ⟨pq, hpq⟩ := hwq; have hpq' : wq = gw _ pq := hpq; clear hpq; subst hpq')
      go_wp2
      go_ret
      exact ⟨by first | rfl | exact ret_bool (by simp), by (repeat' (first | (with_reducible exact Below.refl _ _) | (with_reducible assumption) | (with_reducible refine below_drewN ?_ _) | (with_reducible refine Below.drew ?_) | (with_reducible refine Below.alloc ?_ ?_ _) | (with_reducible refine Below.setCell ?_ ?_ _) | (with_reducible refine below_gw ?_ ?_ _) | (with_reducible refine below_via ?_ ‹Below _ _ _› ?_) | (with_reducible exact Nat.le_refl _) | (with_reducible refine le_gw ?_ _) | (with_reducible refine le_alloc ?_ _) | (with_reducible refine le_setCell ?_ _ _) | (with_reducible refine le_drew ?_) | (with_reducible refine le_drewN ?_ _) | go_size))⟩
  · have c11 : c ≠ 11 := fun e => hc (.inl e)
    have c12 : c ≠ 12 := fun e => hc (.inr e)
    rw [decide_eq_false (fun hh => hc hh.1)]
    have d11 : (c == 11) = false := by simpa using c11
    have d12 : (c == 12) = false := by simpa using c12
    have f11 : (c != 11) = true := by simpa using c11
    have f12 : (c != 12) = true := by simpa using c12
    clear hc h hl
    go_enter Tryd.func45, Tryd.ntmps45
    go_wp2
    go_ret
    exact ⟨rfl, by (repeat' (first | (with_reducible exact Below.refl _ _) | (with_reducible assumption) | (with_reducible refine below_drewN ?_ _) | (with_reducible refine Below.drew ?_) | (with_reducible refine Below.alloc ?_ ?_ _) | (with_reducible refine Below.setCell ?_ ?_ _) | (with_reducible refine below_gw ?_ ?_ _) | (with_reducible refine below_via ?_ ‹Below _ _ _› ?_) | (with_reducible exact Nat.le_refl _) | (with_reducible refine le_gw ?_ _) | (with_reducible refine le_alloc ?_ _) | (with_reducible refine le_setCell ?_ _ _) | (with_reducible refine le_drew ?_) | (with_reducible refine le_drewN ?_ _) | go_size))⟩
set_option maxHeartbeats 2000000 in
theorem iStep (aL : Option Addr) (nL cL : Nat) (L : List (Nat → Int)) (p B : Nat) (k : Int) (v u : Value) (s o : List Int) (w : World) (h : MSt w B p k v s u o) (hL : OpR w aL nL cL L) (hT : OpsTab w) (hM : Tm.machOk L k s o = true) :
    Calls Tryd.prog 22 #[.pointer (some ⟨p, 0, none⟩), .slice aL nL cL] w fun e w' => e = .returned (.int .i64 (Tm.why L k s)) ∧ ∃ v' u', MSt w' B p (Tm.nxP L k s) v' (Tm.nxS L k s o) u' (Tm.nxO L k s o) ∧ Below B w w' := by
  obtain ⟨hC, ⟨k0, k1⟩, hs20, ho27, hcs, hco⟩ := (Tm.machOk_iff L k s o).1 hM
  obtain ⟨⟨l1, l2⟩, hop⟩ := (Tm.codeOk_iff L).1 hC
  obtain rfl : L.length = nL := hL.1
  have H := Lib.hid h
  have lB := h.low
  have lt := h.blk.lt
  obtain ⟨c0, c1, _⟩ := h.blk.cells
  by_cases hk : k = (L.length : Int)
  · have WY : Tm.why L k s = 2 := by unfold Tm.why; rw [if_pos hk]
    have P : Tm.nxP L k s = k ∧ Tm.nxS L k s o = s ∧ Tm.nxO L k s o = o := by
      unfold Tm.nxP Tm.nxS Tm.nxO; rw [WY]; exact ⟨rfl, rfl, rfl⟩
    rw [P.1, P.2.1, P.2.2, WY]
    have ke : (k == (L.length : Int)) = true := by simpa using hk
    clear hop h P WY hk
    go_enter Tryd.func22, Tryd.ntmps22
    go_wp2
    go_ret
    exact ⟨rfl, v, u, H.out, Below.refl _ _⟩
  · obtain ⟨j, rfl⟩ : ∃ j : Nat, k = (j : Int) := ⟨k.toNat, by omega⟩
    have jl : j < L.length := by omega
    have ke : ((j : Int) == (L.length : Int)) = false := by simpa using hk
    have hx := hop j jl
    obtain ⟨bb, oo, rfl, hbl, hc⟩ : ∃ b o, aL = some ⟨b, o, none⟩ ∧ b < w.heap.size ∧ ∀ i, i < L.length → ∀ j, j < 4 → w.cell? ⟨b, o + i * 4 + j, none⟩ = some (.int .i64 (L.getD i Tm.g0 j)) := by
      rcases hL.2.2.2 with h0 | h1
      · omega
      · exact h1
    obtain ⟨x, hg, g1⟩ := OpR.op hc jl
    rw [← hg] at hx
    obtain ⟨q0, q1, q2, q3⟩ := g1
    have XI := (Tm.opOk_iff _ _).1 hx
    have HX := Lib.hid hx
    have WY : Tm.why L (j : Int) s = (if x 0 = 15 then 1 else if ¬ (Tm.popsN (x 0) ≤ (s.length : Int) ∧ (s.length : Int) - Tm.popsN (x 0) + Tm.pushN (x 0) ≤ 20) then 3 else if (x 0 = 11 ∨ x 0 = 12) ∧ ¬ (-13 ≤ Tm.top s ∧ Tm.top s ≤ 13) then 4 else 0) := by
      unfold Tm.why; rw [if_neg hk, Int.toNat_natCast, ← hg]
    have P : Tm.nxP L (j : Int) s = (if Tm.why L (j : Int) s = 0 then Tm.opP x ((j : Int) + 1) s else (j : Int)) ∧ Tm.nxS L (j : Int) s o = (if Tm.why L (j : Int) s = 0 then Tm.opS x s o else s) ∧ Tm.nxO L (j : Int) s o = (if Tm.why L (j : Int) s = 0 then Tm.opO x s o else o) := by
      unfold Tm.nxP Tm.nxS Tm.nxO; rw [Int.toNat_natCast, ← hg]; exact ⟨rfl, rfl, rfl⟩
    rw [P.1, P.2.1, P.2.2]
    have HL2 := hL.2.1
    have HL3 := hL.2.2.1
    unfold maxLen at HL3
    obtain ⟨m, hm⟩ : ∃ m : Nat, x 0 = (m : Int) + 1 := ⟨(x 0 - 1).toNat, by omega⟩
    have m15 : m < 15 := by omega
    obtain ⟨t0, t1, t2, t3⟩ := hT.2 m m15
    have gl := hT.1
    have bA : Below w.heap.size w (w.alloc (.cells #[.int .i64 (x 0), .int .i64 (x 1), .int .i64 (x 2), .int .i64 (x 3)] 35)) := by (repeat' (first | (with_reducible exact Below.refl _ _) | (with_reducible assumption) | (with_reducible refine below_drewN ?_ _) | (with_reducible refine Below.drew ?_) | (with_reducible refine Below.alloc ?_ ?_ _) | (with_reducible refine Below.setCell ?_ ?_ _) | (with_reducible refine below_gw ?_ ?_ _) | (with_reducible refine below_via ?_ ‹Below _ _ _› ?_) | (with_reducible exact Nat.le_refl _) | (with_reducible refine le_gw ?_ _) | (with_reducible refine le_alloc ?_ _) | (with_reducible refine le_setCell ?_ _ _) | (with_reducible refine le_drew ?_) | (with_reducible refine le_drewN ?_ _) | go_size))
    have HA := Lib.hid (h.later bA)
    have BA := Lib.hid bA
    clear hop h hT hc P hk hg bA
    by_cases c15 : x 0 = 15
    · rw [if_pos c15] at WY
      rw [WY, if_neg (by decide), if_neg (by decide), if_neg (by decide)]
      have e15 : (x 0 == 15) = true := by simpa using c15
      clear t0 t1 t2 t3 hm c15
      go_enter Tryd.func22, Tryd.ntmps22
      go_wp2
      go_ret
      exact ⟨rfl, v, u, HA.out, BA.out.mono (by omega)⟩
    · have e15 : (x 0 == 15) = false := by simpa using c15
      rw [if_neg c15] at WY
      have pb := Tm.popsN_le (x 0)
      have qb := Tm.pushN_le (x 0)
      rw [← hm] at t0 t1 t2 t3
      obtain ⟨nm, hnm⟩ : ∃ nm, nm = Tm.opName (x 0) := ⟨_, rfl⟩
      rw [← hnm] at t0
      obtain ⟨va, vc, hv⟩ := own_form H.out.sv
      have HSF := Lib.hid (fun W h => iHasStack nm (Tm.popsN (x 0)) (Tm.pushN (x 0)) (Tm.namN (x 0)) p (.int .i64 (j : Int)) u va s.length vc 27 W h (by omega) pb qb)
      have HCF := Lib.hid (fun W h hl => iHasCell (x 0) p B (j : Int) v u s o W h hl (by omega))
      obtain ⟨a, ha⟩ : ∃ a, a = Tm.popsN (x 0) := ⟨_, rfl⟩
      obtain ⟨b, hb⟩ : ∃ b, b = Tm.pushN (x 0) := ⟨_, rfl⟩
      have hp2 : x 0 = 11 ∨ x 0 = 12 → 1 ≤ a := by
        rw [ha]; intro hh
        rcases hh with hh | hh <;> rw [hh] <;> decide
      rw [← ha] at pb t1 HSF WY
      rw [← hb] at qb t2 HSF WY
      subst hv
      have k15 : (0 : Int) ≤ (m : Int) := by omega
      have k16 : (m : Int) < 15 := by omega
      have k17 : 1 ≤ (m : Int) + 1 := by omega
      have k18 : (m : Int) + 1 ≤ 15 := by omega
      have em : IntKind.i64.wrap (x 0 - 1) = (m : Int) := by rw [IntWalk.i64_in _ (by omega)]; omega
      have hpe : p ≠ w.heap.size := by omega
      have hep : w.heap.size ≠ p := by omega
      obtain ⟨A, hA⟩ : ∃ A, A = w.alloc (.cells #[.int .i64 (x 0), .int .i64 (x 1), .int .i64 (x 2), .int .i64 (x 3)] 35) := ⟨_, rfl⟩
      have a0 : A.cell? ⟨w.heap.size, 0, none⟩ = some (.int .i64 (x 0)) := by rw [hA]; simp
      have a1 : A.cell? ⟨w.heap.size, 1, none⟩ = some (.int .i64 (x 1)) := by rw [hA]; simp
      have a2 : A.cell? ⟨w.heap.size, 2, none⟩ = some (.int .i64 (x 2)) := by rw [hA]; simp
      have a3 : A.cell? ⟨w.heap.size, 3, none⟩ = some (.int .i64 (x 3)) := by rw [hA]; simp
      have sA : A.heap.size = w.heap.size + 1 := by rw [hA]; simp
      have AC := Lib.hid (And.intro a0 (And.intro a1 (And.intro a2 a3)))
      clear a0 a1 a2 a3
      rw [← hA] at HA BA
      by_cases cS : a ≤ (s.length : Int) ∧ (s.length : Int) - a + b ≤ 20
      · rw [if_neg (fun hh => hh cS)] at WY
        rw [decide_eq_true cS] at HSF
        by_cases cC : (x 0 = 11 ∨ x 0 = 12) ∧ ¬ (-13 ≤ Tm.top s ∧ Tm.top s ≤ 13)
        · rw [if_pos cC] at WY
          rw [WY, if_neg (by decide), if_neg (by decide), if_neg (by decide)]
          rw [decide_eq_true cC] at HCF
          have hl1 : x 0 = 11 ∨ x 0 = 12 → 1 ≤ s.length := fun hh => by have := hp2 hh; omega
          clear cS cC ha hb hnm XI hm
          go_enter Tryd.func22, Tryd.ntmps22
          go_wp2_with fail
          rw [← hA]
          clear hA
          refine (HSF.out _ HA.out.blk).mono ?_
          rintro e w1 ⟨rfl, hb1⟩
          have M1 := Lib.hid (HA.out.later hb1)
          have e0 := hb1.cell (p := ⟨w.heap.size, 0, none⟩) (show w.heap.size < A.heap.size by omega)
          rw [AC.out.1] at e0
          have B1 := Lib.hid (BA.out.trans (hb1.mono (by omega)))
          clear hb1
          go_wp2_with fail
          refine (HCF.out _ M1.out hl1).mono ?_
          rintro e w2 ⟨rfl, hb2⟩
          have M2 := Lib.hid (M1.out.later hb2)
          have s1 := B1.out.size
          have B2 := Lib.hid (B1.out.trans (hb2.mono s1))
          clear hb2
          go_wp2
          go_ret
          exact ⟨rfl, _, u, M2.out, B2.out.mono (by omega)⟩
        · rw [if_neg cC] at WY
          rw [WY, if_pos rfl, if_pos rfl, if_pos rfl]
          rw [decide_eq_false cC] at HCF
          have hl1 : x 0 = 11 ∨ x 0 = 12 → 1 ≤ s.length := fun hh => by have := hp2 hh; omega
          have hcell : x 0 = 11 ∨ x 0 = 12 → -13 ≤ Tm.top s ∧ Tm.top s ≤ 13 := fun hh => Classical.not_not.1 fun hn => cC ⟨hh, hn⟩
          have EX := Lib.hid (fun (W : World) v h => iExecute x (L.length : Int) p B ((j : Int) + 1) v u s o W h HX.out c15 (by rw [← ha]; exact cS.1) hcell hcs ho27 hs20)
          have ej : IntKind.i64.wrap ((j : Int) + 1) = (j : Int) + 1 := IntWalk.i64_in _ (by omega)
          clear cS cC ha hb hnm XI hm hcell
          go_enter Tryd.func22, Tryd.ntmps22
          go_wp2_with fail
          rw [← hA]
          clear hA
          refine (HSF.out _ HA.out.blk).mono ?_
          rintro e w1 ⟨rfl, hb1⟩
          have M1 := Lib.hid (HA.out.later hb1)
          have e0 := hb1.cell (p := ⟨w.heap.size, 0, none⟩) (show w.heap.size < A.heap.size by omega)
          have e1 := hb1.cell (p := ⟨w.heap.size, 1, none⟩) (show w.heap.size < A.heap.size by omega)
          have e2 := hb1.cell (p := ⟨w.heap.size, 2, none⟩) (show w.heap.size < A.heap.size by omega)
          have e3 := hb1.cell (p := ⟨w.heap.size, 3, none⟩) (show w.heap.size < A.heap.size by omega)
          rw [AC.out.1] at e0
          rw [AC.out.2.1] at e1
          rw [AC.out.2.2.1] at e2
          rw [AC.out.2.2.2] at e3
          have EE := Lib.hid (And.intro e0 (And.intro e1 (And.intro e2 e3)))
          have s0 := hb1.size
          have B1 := Lib.hid (BA.out.trans (hb1.mono (by omega)))
          clear hb1 e1 e2 e3
          go_wp2_with fail
          refine (HCF.out _ M1.out hl1).mono ?_
          rintro e w2 ⟨rfl, hb2⟩
          have M2 := Lib.hid (M1.out.later hb2)
          have s1 := B1.out.size
          have B2 := Lib.hid (B1.out.trans (hb2.mono s1))
          have f0 := hb2.cell (p := ⟨w.heap.size, 0, none⟩) (show w.heap.size < w1.heap.size by omega)
          have f1 := hb2.cell (p := ⟨w.heap.size, 1, none⟩) (show w.heap.size < w1.heap.size by omega)
          have f2 := hb2.cell (p := ⟨w.heap.size, 2, none⟩) (show w.heap.size < w1.heap.size by omega)
          have f3 := hb2.cell (p := ⟨w.heap.size, 3, none⟩) (show w.heap.size < w1.heap.size by omega)
          rw [EE.out.1] at f0
          rw [EE.out.2.1] at f1
          rw [EE.out.2.2.1] at f2
          rw [EE.out.2.2.2] at f3
          clear hb2 e0
          obtain ⟨g0, _, _⟩ := M2.out.blk.cells
          have fz := M2.out.blk.frozen
          have M3 : Hid (MSt (w2.setCell ⟨p, 0, none⟩ (.int .i64 ((j : Int) + 1))) B p ((j : Int) + 1) (.slice va s.length vc) s u o ∧ Below B w2 (w2.setCell ⟨p, 0, none⟩ (.int .i64 ((j : Int) + 1)))) := Lib.hid (M2.out.turn ((TurnV.refl p (.slice va s.length vc) w2).set 0 _) (M2.out.blk.set0 _) (own_set_far M2.out.sv M2.out.vp) (.inl rfl))
          go_wp2_with fail
          refine (EX.out _ _ M3.out.1).mono ?_
          rintro e w3 ⟨rfl, v', u', m3, b3⟩
          go_wp2
          go_ret
          exact ⟨rfl, v', u', m3, (B2.out.mono (by omega)).trans (M3.out.2.trans b3)⟩
      · rw [if_pos cS] at WY
        rw [WY, if_neg (by decide), if_neg (by decide), if_neg (by decide)]
        rw [decide_eq_false cS] at HSF
        clear cS ha hb hnm XI hm
        go_enter Tryd.func22, Tryd.ntmps22
        go_wp2_with fail
        rw [← hA]
        clear hA
        refine (HSF.out _ HA.out.blk).mono ?_
        rintro e w1 ⟨rfl, hb1⟩
        have M1 := Lib.hid (HA.out.later hb1)
        have B1 := Lib.hid (BA.out.trans (hb1.mono (by omega)))
        clear hb1
        go_wp2
        go_ret
        exact ⟨rfl, _, u, M1.out, B1.out.mono (by omega)⟩
end Go.Proofs.YtfnhoiomdjmjhaaDoor

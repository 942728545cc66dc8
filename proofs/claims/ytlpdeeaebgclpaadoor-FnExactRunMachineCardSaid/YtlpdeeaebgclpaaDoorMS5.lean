/- The model's machine: an operation is executed: sCh1 sCh3. Written by tools/laws/mch.py. The model's machine: an operation is executed: sCh2 sCh7. Written by tools/laws/mch.py. The model's machine: an operation is executed: sCh4 sCh10. Written by tools/laws/mch.py. -/
import Derived.Test.YtlpdeeaebgclpaaDoorMS3
namespace Go.Proofs.YtlpdeeaebgclpaaDoor
set_option maxRecDepth 20000
open Go.RowKit
set_option maxHeartbeats 1000000 in
theorem sCh1 (x1 x2 x3 : Int) (B : Nat) (k : Int) (v u : Value) (o s : List Int) (w : World) (hB : B ≤ w.heap.size) (hv : w.ownsRow B 3 1 v s.length (s.map (Value.int .i64))) (hu : w.ownsRow B 3 1 u o.length (o.map (Value.int .i64))) (ap : Apart v u) (hn : s.length ≤ 20) (hk : 0 ≤ k ∧ k ≤ 1000) :
    Calls Tryd.prog 22 #[.agg #[.int .i64 1, .int .i64 x1, .int .i64 x2, .int .i64 x3], .agg #[.int .i64 k, v, u]] w fun e w' => ∃ v' u', e = .returned (.agg #[.int .i64 (k + 1), v', u']) ∧ w'.ownsRow B 3 1 v' (s ++ [x1]).length ((s ++ [x1]).map (Value.int .i64)) ∧ w'.ownsRow B 3 1 u' o.length (o.map (Value.int .i64)) ∧ Apart v' u' ∧ Below B w w' ∧ Fr v u w w' := by
  obtain ⟨i0, hi, hz0, hz1, hz2⟩ := info_parts infoInt
  obtain ⟨A, hA⟩ : ∃ A, A = ((w.alloc (.cells #[.int .i64 1, .int .i64 x1, .int .i64 x2, .int .i64 x3] 47)).alloc (.cells #[.int .i64 (k + 1), v, u] 28)).alloc (.cells #[.int .i64 0, .slice none 0 0, .slice none 0 0] 28) := ⟨_, rfl⟩
  obtain ⟨sA, bA, mA, rA, a0, a1, a2, a3⟩ := change_start hA hB hv hu ap
  obtain ⟨sa, sc, rfl⟩ := own_form hv
  obtain ⟨ua, uc, rfl⟩ := own_form hu
  have HM := Lib.hid mA
  have HR := Lib.hid rA
  obtain ⟨c0, c1, c2⟩ := mA.blk.cells
  have BA := Lib.hid bA
  have RS := Lib.hid mA.sv
  obtain ⟨k0, k9⟩ := hk
  have e1 : IntKind.i64.wrap (k + 1) = k + 1 := IntWalk.i64_in _ (by omega)
  have lp : w.heap.size + 1 < A.heap.size := by omega
  have lr : w.heap.size + 1 + 1 < A.heap.size := by omega
  have pr1 : w.heap.size + 1 + 1 ≠ w.heap.size + 1 := by omega
  have hBA : B ≤ A.heap.size := by omega
  have HNU : Hid ((Value.slice ua o.length uc).ownBlock ≠ some (w.heap.size + 1 + 1)) := Lib.hid (fun e => by have := (hu.lt _ e).2; omega)
  have HNS : Hid ((Value.slice sa s.length sc).ownBlock ≠ some (w.heap.size + 1 + 1)) := Lib.hid (fun e => by have := (hv.lt _ e).2; omega)
  have gp : (Value.slice sa s.length sc).ownBlock ≠ some (w.heap.size + 1) := fun e => by have := (hv.lt _ e).2; omega
  have AL : Hid (Below A.heap.size A (A.alloc (.cells #[.int .i64 x1] 3))) := Lib.hid ((Below.refl _ _).alloc (Nat.le_refl _) _)
  have SA := Lib.hid sA
  clear mA rA hv hu bA sA ap
  go_enter Tryd.func22, Tryd.ntmps22
  have NW : Hid (∀ j u, [Value.int .i64 x1][j]? = some u → (A.alloc (.cells #[.int .i64 x1] 3)).cell? ((⟨w.heap.size + 1 + 1 + 1, 0, none⟩ : Addr).add j) = some u) := Lib.hid (by
    have := app_c1 A x1 3
    rwa [show A.heap.size = w.heap.size + 1 + 1 + 1 from by have := SA.out; omega] at this)
  go_wp2_with (rw [← hA]; at_builtin; refine wpList_append_own_at _ rfl _ _ 23 rfl B 3 i0 (.int .i64 0) 1 8 Tryd.underlying23 hi hz0 hz1 hz2 rfl (by decide) _ _ _ rfl (own_below RS.out AL.out) ⟨w.heap.size + 1 + 1 + 1, 0, none⟩ 1 1 [.int .i64 x1] rfl rfl NW.out (app_c2 _) (by unfold maxLen; omega) (by omega) (Nat.le_trans hBA AL.out.size) ?_)
  intro v' w2 hown hg _ hat
  have AT : Hid (v'.ownBlock = (Value.slice sa s.length sc).ownBlock ∨ ∃ q, v'.ownBlock = some q ∧ A.heap.size ≤ q) := Lib.hid (hat.imp id (fun e => ⟨_, e, by have := SA.out; omega⟩))
  rw [← hA] at hg
  clear hA hat
  obtain ⟨va, vc, rfl⟩ := own_form hown
  have P2 : Hid (Blk3 w2 (w.heap.size + 1) (.int .i64 (k + 1)) (.slice sa s.length sc) (.slice ua o.length uc) 28) := Lib.hid ((HM.out.blk.later AL.out).keep (hg.block _ (Nat.lt_of_lt_of_le lp AL.out.size) (fun e => gp e.symm)))
  have R2 : Hid (Blk3 w2 (w.heap.size + 1 + 1) (.int .i64 0) (.slice none 0 0) (.slice none 0 0) 28) := Lib.hid ((HR.out.later AL.out).keep (hg.block _ (Nat.lt_of_lt_of_le lr AL.out.size) (fun e => HNS.out e.symm)))
  obtain ⟨q0, p1, q2⟩ := P2.out.cells
  have pz := P2.out.frozen
  have pl := P2.out.lt
  have TV : Hid (TurnV (w.heap.size + 1) (.slice sa s.length sc) A w2) := Lib.hid (((TurnV.refl _ _ A).of_below AL.out).grown hg rfl)
  have OW := Lib.hid hown
  have nv : (Value.slice va (s.length + 1) vc).ownBlock ≠ some (w.heap.size + 1) := fun e => by
    rcases AT.out with h | ⟨q, h, hq⟩
    · rw [h] at e; exact gp e
    · rw [h] at e; have := Option.some.inj e; omega
  have HNV : Hid ((Value.slice va (s.length + 1) vc).ownBlock ≠ some (w.heap.size + 1 + 1)) := Lib.hid (fun e => by
    rcases AT.out with h | ⟨q, h, hq⟩
    · rw [h] at e; exact HNS.out e
    · rw [h] at e; have := Option.some.inj e; omega)
  clear hg hown
  obtain ⟨W1, hW1⟩ : ∃ W1, W1 = w2.setCell ⟨w.heap.size + 1, 1, none⟩ (.slice va (s.length + 1) vc) := ⟨_, rfl⟩
  have B1 : Blk3 W1 (w.heap.size + 1) (.int .i64 (k + 1)) (.slice va (s.length + 1) vc) (.slice ua o.length uc) 28 := by rw [hW1]; exact P2.out.set1 _
  have O1 : W1.ownsRow B 3 1 (.slice va (s.length + 1) vc) (s ++ [x1]).length ((s ++ [x1]).map (Value.int .i64)) := by
    rw [hW1, List.length_append, List.map_append]
    exact own_set_far OW.out nv
  obtain ⟨M1, BB⟩ := HM.out.turn (by rw [hW1]; exact TV.out.set 1 _) B1 O1 AT.out
  have FW : Hid (Fr (.slice sa s.length sc) (.slice ua o.length uc) w W1) := Lib.hid (Fr.turn BA.out (by rw [hW1]; exact TV.out.set 1 _) (by omega))
  have R1 : Blk3 W1 (w.heap.size + 1 + 1) (.int .i64 0) (.slice none 0 0) (.slice none 0 0) 28 := by rw [hW1]; exact R2.out.keep (heap_setCell_other _ ⟨w.heap.size + 1, 1, none⟩ _ _ pr1)
  have HM1 := Lib.hid M1
  have HR1 := Lib.hid R1
  have HBB := Lib.hid ((BA.out.mono hB).trans BB)
  obtain ⟨r0, r1, r2⟩ := R2.out.cells
  have rz := R2.out.frozen
  have rl := R2.out.lt
  have pr0 : w.heap.size + 1 ≠ w.heap.size + 1 + 1 := by omega
  have HW1 := Lib.hid hW1
  clear M1 R1 BB B1 O1 c0 c1 c2 hW1
  go_wp2
  obtain ⟨WF, hWF⟩ : ∃ WF, WF = (((w2.setCell ⟨w.heap.size + 1, 1, none⟩ (.slice va (s.length + 1) vc)).setCell ⟨w.heap.size + 1 + 1, 0, none⟩ (.int .i64 (k + 1))).setCell ⟨w.heap.size + 1 + 1, 1, none⟩ (.slice va (s.length + 1) vc)).setCell ⟨w.heap.size + 1 + 1, 2, none⟩ (.slice ua o.length uc) := ⟨_, rfl⟩
  rw [← hWF]
  rw [← HW1.out] at hWF
  obtain ⟨⟨f0, f1, f2⟩, w1, w2, w3⟩ := change_end2 HM1.out HR1.out HBB.out (by omega) hWF HNV.out HNU.out
  refine bodyPost_ret (v := .agg #[.int .i64 (k + 1), .slice va (s.length + 1) vc, .slice ua o.length uc]) (by simp [results, Tryd.results22, go_sem, f0, f1, f2]) rfl ?_
  exact ⟨_, _, rfl, w1, w2, HM1.out.ap, w3, by rw [hWF]; repeat (first | with_reducible exact FW.out | with_reducible refine Fr.drew ?_ | (with_reducible refine Fr.set ?_ ?hr; case hr => (first | (left; omega) | exact .inr (.inl rfl) | exact .inr (.inr rfl))))⟩
set_option maxHeartbeats 1000000 in
theorem sCh3 (x1 x2 x3 : Int) (B : Nat) (k : Int) (v u : Value) (o t : List Int) (x y : Int) (w : World) (hB : B ≤ w.heap.size) (hv : w.ownsRow B 3 1 v (t ++ [x, y]).length ((t ++ [x, y]).map (Value.int .i64))) (hu : w.ownsRow B 3 1 u o.length (o.map (Value.int .i64))) (ap : Apart v u) (hn : (t ++ [x, y]).length ≤ 20) (hx : -9841 ≤ x ∧ x ≤ 9841) (hy : -9841 ≤ y ∧ y ≤ 9841) (hk : 0 ≤ k ∧ k ≤ 1000) :
    Calls Tryd.prog 22 #[.agg #[.int .i64 3, .int .i64 x1, .int .i64 x2, .int .i64 x3], .agg #[.int .i64 k, v, u]] w fun e w' => ∃ v' u', e = .returned (.agg #[.int .i64 (k + 1), v', u']) ∧ w'.ownsRow B 3 1 v' (t ++ [Tm.wrapC (x - y)]).length ((t ++ [Tm.wrapC (x - y)]).map (Value.int .i64)) ∧ w'.ownsRow B 3 1 u' o.length (o.map (Value.int .i64)) ∧ Apart v' u' ∧ Below B w w' ∧ Fr v u w w' := by
  obtain ⟨i0, hi, hz0, hz1, hz2⟩ := info_parts infoInt
  obtain ⟨A, hA⟩ : ∃ A, A = ((w.alloc (.cells #[.int .i64 3, .int .i64 x1, .int .i64 x2, .int .i64 x3] 47)).alloc (.cells #[.int .i64 (k + 1), v, u] 28)).alloc (.cells #[.int .i64 0, .slice none 0 0, .slice none 0 0] 28) := ⟨_, rfl⟩
  obtain ⟨sA, bA, mA, rA, a0, a1, a2, a3⟩ := change_start hA hB hv hu ap
  obtain ⟨g, c, rfl, gp, hc, cz, cx⟩ := stack_two mA
  have gl : g < w.heap.size := by have := (hv.lt g rfl).2; omega
  obtain ⟨ua, uc, rfl⟩ := own_form hu
  have HM := Lib.hid mA
  have HR := Lib.hid rA
  obtain ⟨c0, c1, c2⟩ := mA.blk.cells
  have BA := Lib.hid bA
  have HU := Lib.hid hu
  have SA := Lib.hid sA
  have RT := Lib.hid (stack_rest mA)
  have RS := Lib.hid mA.sv
  have l2 : (t ++ [x, y]).length = t.length + 2 := by simp
  rw [l2] at hn RS
  obtain ⟨k0, k9⟩ := hk
  have e1 : IntKind.i64.wrap (k + 1) = k + 1 := IntWalk.i64_in _ (by omega)
  have e2 : IntKind.i64.wrap ((t.length : Int) + 2 - 1) = (t.length : Int) + 1 := by rw [IntWalk.i64_in _ (by omega)]; omega
  have e4 : IntKind.i64.wrap ((t.length : Int) + 2 - 2) = (t.length : Int) := by rw [IntWalk.i64_in _ (by omega)]; omega
  have e5 : IntKind.i64.wrap ((t.length : Int) + 1) = (t.length : Int) + 1 := IntWalk.i64_in _ (by omega)
  have t2 : (t.length : Int) + 1 < (t.length : Int) + 2 := by omega
  have t3 : (0 : Int) ≤ (t.length : Int) + 1 := by omega
  have t4 : ((t.length : Int) + 1).toNat = t.length + 1 := by omega
  have t5 : t.length + 1 < t.length + 2 := by omega
  have e3 : IntKind.i64.wrap (t.length : Int) = (t.length : Int) := IntWalk.i64_in _ (by omega)
  have t0 : (0 : Int) ≤ (t.length : Int) := by omega
  have t1 : (t.length : Int) < (t.length : Int) + 2 := by omega
  have t6 : (t.length : Int) ≤ (c : Int) := by omega
  have t7 : t.length ≤ c := by omega
  have lp : w.heap.size + 1 < A.heap.size := by omega
  have lr : w.heap.size + 1 + 1 < A.heap.size := by omega
  have lg : g < A.heap.size := by omega
  have gn0 : g ≠ w.heap.size + 1 := gp
  have gn1 : w.heap.size + 1 ≠ g := fun e => gp e.symm
  have gr1 : w.heap.size + 1 + 1 ≠ g := by omega
  have pr0 : w.heap.size + 1 ≠ w.heap.size + 1 + 1 := by omega
  have pr1 : w.heap.size + 1 + 1 ≠ w.heap.size + 1 := by omega
  have hBg : B ≤ g := (hv.lt g rfl).1
  have hBA : B ≤ A.heap.size := by omega
  clear mA rA hv hu bA l2 sA
  have mb : (x * y).natAbs ≤ 9841 * 9841 := by rw [Int.natAbs_mul]; exact Nat.mul_le_mul (by omega) (by omega)
  obtain ⟨x0, x9⟩ := hx
  obtain ⟨y0, y9⟩ := hy
  have ew : IntKind.i64.wrap (x - y) = x - y := IntWalk.i64_in _ (by omega)
  clear mb
  have HNU : Hid ((Value.slice ua o.length uc).ownBlock ≠ some (w.heap.size + 1 + 1)) := Lib.hid (fun e => by have := (HU.out.lt _ e).2; omega)
  go_enter Tryd.func22, Tryd.ntmps22
  go_wp2_with fail
  rw [← hA]
  clear hA
  have HS : Hid ((fun W : World => W.cell? ⟨w.heap.size + 1, 1, none⟩ = some (.slice (some ⟨g, 0, none⟩) (t.length + 2) c) ∧ W.cell? ⟨g, t.length, none⟩ = some (.int .i64 x) ∧ W.cell? ⟨g, t.length + 1, none⟩ = some (.int .i64 y)) A.drew) := Lib.hid ⟨c1, cz, cx⟩
  refine wp_region_T [20, 22] (fun W : World => W.cell? ⟨w.heap.size + 1, 1, none⟩ = some (.slice (some ⟨g, 0, none⟩) (t.length + 2) c) ∧ W.cell? ⟨g, t.length, none⟩ = some (.int .i64 x) ∧ W.cell? ⟨g, t.length + 1, none⟩ = some (.int .i64 y)) (by kernel_rfl) ?_
  refine wpAnyT_take (i := 0) (v := ?v20) rfl (by kernel_rfl) (by kernel_rfl) (by kernel_rfl) (by kernel_rfl) (by kernel_rfl) (fun _ _ _ h => h) HS.out rfl ?hy20 ?hh20
  case hy20 => (intro W hW; obtain ⟨h1, h2, h3⟩ := hW; go_simp; try with_reducible rfl)
  case hh20 =>
  (try simp only [Act.put])
  refine wpAnyT_take (i := 1) (v := ?v21) rfl (by kernel_rfl) (by kernel_rfl) (by kernel_rfl) (by kernel_rfl) (by kernel_rfl) (fun _ _ _ h => h) HS.out rfl ?hy21 ?hh21
  case hy21 => (intro W hW; obtain ⟨h1, h2, h3⟩ := hW; go_simp; try with_reducible rfl)
  case hh21 =>
  (try simp only [Act.put])
  refine wpAnyT_take (i := 2) (v := ?v22) rfl (by kernel_rfl) (by kernel_rfl) (by kernel_rfl) (by kernel_rfl) (by kernel_rfl) (fun _ _ _ h => h) HS.out rfl ?hy22 ?hh22
  case hy22 => (intro W hW; obtain ⟨h1, h2, h3⟩ := hW; go_simp; try with_reducible rfl)
  case hh22 =>
  (try simp only [Act.put])
  refine wpAnyT_take (i := 3) (v := ?v23) rfl (by kernel_rfl) (by kernel_rfl) (by kernel_rfl) (by kernel_rfl) (by kernel_rfl) (fun _ _ _ h => h) HS.out rfl ?hy23 ?hh23
  case hy23 => (intro W hW; obtain ⟨h1, h2, h3⟩ := hW; go_simp; try with_reducible rfl)
  case hh23 =>
  (try simp only [Act.put])
  refine wpAnyT_take (i := 4) (v := ?v24) rfl (by kernel_rfl) (by kernel_rfl) (by kernel_rfl) (by kernel_rfl) (by kernel_rfl) (fun _ _ _ h => h) HS.out rfl ?hy24 ?hh24
  case hy24 => (intro W hW; obtain ⟨h1, h2, h3⟩ := hW; go_simp; try with_reducible rfl)
  case hh24 =>
  (try simp only [Act.put])
  refine wpAnyT_take (i := 5) (v := ?v25) rfl (by kernel_rfl) (by kernel_rfl) (by kernel_rfl) (by kernel_rfl) (by kernel_rfl) (fun _ _ _ h => h) HS.out rfl ?hy25 ?hh25
  case hy25 => (intro W hW; obtain ⟨h1, h2, h3⟩ := hW; go_simp; try with_reducible rfl)
  case hh25 =>
  (try simp only [Act.put])
  refine wpAnyT_take (i := 6) (v := ?v26) rfl (by kernel_rfl) (by kernel_rfl) (by kernel_rfl) (by kernel_rfl) (by kernel_rfl) (fun _ _ _ h => h) HS.out rfl ?hy26 ?hh26
  case hy26 => (intro W hW; obtain ⟨h1, h2, h3⟩ := hW; go_simp; try with_reducible rfl)
  case hh26 =>
  (try simp only [Act.put])
  refine wpAnyT_take (i := 7) (v := ?v27) rfl (by kernel_rfl) (by kernel_rfl) (by kernel_rfl) (by kernel_rfl) (by kernel_rfl) (fun _ _ _ h => h) HS.out rfl ?hy27 ?hh27
  case hy27 => (intro W hW; obtain ⟨h1, h2, h3⟩ := hW; go_simp; try with_reducible rfl)
  case hh27 =>
  (try simp only [Act.put])
  refine wpAnyT_take (i := 8) (v := ?v28) rfl (by kernel_rfl) (by kernel_rfl) (by kernel_rfl) (by kernel_rfl) (by kernel_rfl) (fun _ _ _ h => h) HS.out rfl ?hy28 ?hh28
  case hy28 => (intro W hW; obtain ⟨h1, h2, h3⟩ := hW; go_simp; try with_reducible rfl)
  case hh28 =>
  (try simp only [Act.put])
  refine wpAnyT_take (i := 9) (v := ?v29) rfl (by kernel_rfl) (by kernel_rfl) (by kernel_rfl) (by kernel_rfl) (by kernel_rfl) (fun _ _ _ h => h) HS.out rfl ?hy29 ?hh29
  case hy29 => (intro W hW; obtain ⟨h1, h2, h3⟩ := hW; go_simp; try with_reducible rfl)
  case hh29 =>
  (try simp only [Act.put])
  refine wpAnyT_take (i := 10) (v := ?v30) rfl (by kernel_rfl) (by kernel_rfl) (by kernel_rfl) (by kernel_rfl) (by kernel_rfl) (fun _ _ _ h => h) HS.out rfl ?hy30 ?hh30
  case hy30 => (intro W hW; obtain ⟨h1, h2, h3⟩ := hW; go_simp; try with_reducible rfl)
  case hh30 =>
  (try simp only [Act.put])
  refine wpAnyT_take (i := 11) (v := ?v31) rfl (by kernel_rfl) (by kernel_rfl) (by kernel_rfl) (by kernel_rfl) (by kernel_rfl) (fun _ _ _ h => h) HS.out rfl ?hy31 ?hh31
  case hy31 => (intro W hW; obtain ⟨h1, h2, h3⟩ := hW; go_simp; try with_reducible rfl)
  case hh31 =>
  (try simp only [Act.put])
  refine wpAnyT_take (i := 12) (v := ?v32) rfl (by kernel_rfl) (by kernel_rfl) (by kernel_rfl) (by kernel_rfl) (by kernel_rfl) (fun _ _ _ h => h) HS.out rfl ?hy32 ?hh32
  case hy32 => (intro W hW; obtain ⟨h1, h2, h3⟩ := hW; go_simp; try with_reducible rfl)
  case hh32 =>
  (try simp only [Act.put])
  refine wpAnyT_take (i := 13) (v := ?v33) rfl (by kernel_rfl) (by kernel_rfl) (by kernel_rfl) (by kernel_rfl) (by kernel_rfl) (fun _ _ _ h => h) HS.out rfl ?hy33 ?hh33
  case hy33 => (intro W hW; obtain ⟨h1, h2, h3⟩ := hW; go_simp; try with_reducible rfl)
  case hh33 =>
  (try simp only [Act.put])
  refine wpAnyT_take (i := 14) (v := ?v34) rfl (by kernel_rfl) (by kernel_rfl) (by kernel_rfl) (by kernel_rfl) (by kernel_rfl) (fun _ _ _ h => h) HS.out rfl ?hy34 ?hh34
  case hy34 => (intro W hW; obtain ⟨h1, h2, h3⟩ := hW; go_simp; try with_reducible rfl)
  case hh34 =>
  (try simp only [Act.put])
  refine wpAnyT_take (i := 15) (v := ?v35) rfl (by kernel_rfl) (by kernel_rfl) (by kernel_rfl) (by kernel_rfl) (by kernel_rfl) (fun _ _ _ h => h) HS.out rfl ?hy35 ?hh35
  case hy35 => (intro W hW; obtain ⟨h1, h2, h3⟩ := hW; go_simp; try with_reducible rfl)
  case hh35 =>
  (try simp only [Act.put])
  refine wpAnyT_take (i := 16) (v := ?v36) rfl (by kernel_rfl) (by kernel_rfl) (by kernel_rfl) (by kernel_rfl) (by kernel_rfl) (fun _ _ _ h => h) HS.out rfl ?hy36 ?hh36
  case hy36 => (intro W hW; obtain ⟨h1, h2, h3⟩ := hW; go_simp; try with_reducible rfl)
  case hh36 =>
  (try simp only [Act.put])
  refine wpAnyT_take (i := 17) (v := ?v37) rfl (by kernel_rfl) (by kernel_rfl) (by kernel_rfl) (by kernel_rfl) (by kernel_rfl) (fun _ _ _ h => h) HS.out rfl ?hy37 ?hh37
  case hy37 => (intro W hW; obtain ⟨h1, h2, h3⟩ := hW; go_simp; try with_reducible rfl)
  case hh37 =>
  (try simp only [Act.put])
  refine wpAnyT_only (i := 18) rfl (by kernel_rfl) (fun K hK => ?_)
  go_simp
  go_at_call 37
  refine (sWrapCell _ _).mono ?_
  rintro e w1 ⟨rfl, rfl⟩
  refine hK _ _ (fun _ _ => HS.out) ?_
  clear hK K
  (try simp only [Act.put])
  have AL : Hid (Below A.heap.size A (A.drew.alloc (.cells #[.int .i64 (Tm.wrapC (x - y))] 3))) := Lib.hid ((Below.drew (Below.refl _ _)).alloc (Nat.le_refl _) _)
  have HS2 : Hid ((fun W : World => W.cell? ⟨w.heap.size + 1, 1, none⟩ = some (.slice (some ⟨g, 0, none⟩) (t.length + 2) c) ∧ W.cell? ⟨g, t.length, none⟩ = some (.int .i64 x) ∧ W.cell? ⟨g, t.length + 1, none⟩ = some (.int .i64 y)) (A.drew.alloc (.cells #[.int .i64 (Tm.wrapC (x - y))] 3))) := Lib.hid ⟨by rw [← c1]; exact AL.out.cell (p := ⟨_, _, none⟩) lp, by rw [← cz]; exact AL.out.cell (p := ⟨_, _, none⟩) lg, by rw [← cx]; exact AL.out.cell (p := ⟨_, _, none⟩) lg⟩
  refine wpAnyT_only (i := 19) rfl (by kernel_rfl) (fun K hK => ?_)
  go_simp
  refine hK _ _ (fun _ _ => HS2.out) ?_
  clear hK K HS HS2
  (try simp only [Act.put])
  refine wpAnyT_only (i := 20) rfl (by kernel_rfl) (fun K hK => ?_)
  refine step_append_at rfl (.tmp 55) (.tmp 70) 23 rfl B 3 i0 (.int .i64 0) 1 8 Tryd.underlying23 hi hz0 hz1 hz2 rfl (by decide) (.slice (some ⟨g, 0, none⟩) t.length c) (t.length) (t.map (Value.int .i64)) (by simp [Act.eval]) (own_below RT.out AL.out) ⟨A.heap.size, 0, none⟩ 1 1 [.int .i64 (Tm.wrapC (x - y))] (by simp [Act.eval]) rfl (app_c1 A.drew _ _) (app_c2 _) (by unfold maxLen; omega) (by omega) (Nat.le_trans hBA AL.out.size) ?_
  intro v' w2 hown hg hat
  obtain ⟨va, vc, rfl⟩ := own_form hown
  refine hK _ _ (fun h => (h (by decide)).elim) ?_
  clear hK K
  (try simp only [Act.put])
  refine wpAnyT_takeA (i := 21) (v := ?v38) rfl (by kernel_rfl) (by kernel_rfl) (by kernel_rfl) (fun _ _ _ h => h) rfl ?hy38 ?hh38
  case hy38 => (intro W; go_simp; try with_reducible rfl)
  case hh38 =>
  (try simp only [Act.put])
  have P2 : Hid (Blk3 w2 (w.heap.size + 1) (.int .i64 (k + 1)) (.slice (some ⟨g, 0, none⟩) (t.length + 2) c) (.slice ua o.length uc) 28) := Lib.hid ((HM.out.blk.later AL.out).keep (hg.block _ (Nat.lt_of_lt_of_le lp AL.out.size) (fun e => gn1 (Option.some.inj e))))
  have R2 : Hid (Blk3 w2 (w.heap.size + 1 + 1) (.int .i64 0) (.slice none 0 0) (.slice none 0 0) 28) := Lib.hid ((HR.out.later AL.out).keep (hg.block _ (Nat.lt_of_lt_of_le lr AL.out.size) (fun e => gr1 (Option.some.inj e))))
  have p1 := P2.out.cells.2.1
  have pz := P2.out.frozen
  have pl := P2.out.lt
  have TV : Hid (TurnV (w.heap.size + 1) (.slice (some ⟨g, 0, none⟩) (t.length + 2) c) A w2) := Lib.hid (((TurnV.refl _ _ A).of_below AL.out).grown hg rfl)
  have OW := Lib.hid hown
  have AT := Lib.hid hat
  have nv : (Value.slice va (t.length + 1) vc).ownBlock ≠ some (w.heap.size + 1) := fun e => by
    rcases hat with h | h
    · rw [h] at e; exact gp (Option.some.inj e)
    · rw [h] at e; exact absurd (Nat.lt_of_lt_of_le lp (Nat.le_trans AL.out.size (Nat.le_of_eq (Option.some.inj e)))) (Nat.lt_irrefl _)
  clear hg hat hown
  refine wpAnyT_only (i := 22) rfl (by kernel_rfl) (fun K hK => ?_)
  go_simp
  refine hK _ _ (fun h => (h (by decide)).elim) ?_
  clear hK K
  refine wpAnyT_done (by kernel_rfl) ?_ _
  obtain ⟨W1, hW1⟩ : ∃ W1, W1 = w2.setCell ⟨w.heap.size + 1, 1, none⟩ (.slice va (t.length + 1) vc) := ⟨_, rfl⟩
  rw [← hW1]
  have B1 : Blk3 W1 (w.heap.size + 1) (.int .i64 (k + 1)) (.slice va (t.length + 1) vc) (.slice ua o.length uc) 28 := by rw [hW1]; exact P2.out.set1 _
  have O1 : W1.ownsRow B 3 1 (.slice va (t.length + 1) vc) (t ++ [Tm.wrapC (x - y)]).length ((t ++ [Tm.wrapC (x - y)]).map (Value.int .i64)) := by
    rw [hW1, List.length_append, List.map_append]
    exact own_set_far OW.out nv
  obtain ⟨M1, BB⟩ := HM.out.turn (by rw [hW1]; exact TV.out.set 1 _) B1 O1 (by
    rcases AT.out with e | e
    · exact .inl e
    · exact .inr ⟨_, e, AL.out.size⟩)
  have FW : Hid (Fr (.slice (some ⟨g, 0, none⟩) (t.length + 2) c) (.slice ua o.length uc) w W1) := Lib.hid (Fr.turn BA.out (by rw [hW1]; exact TV.out.set 1 _) (by omega))
  have R1 : Blk3 W1 (w.heap.size + 1 + 1) (.int .i64 0) (.slice none 0 0) (.slice none 0 0) 28 := by rw [hW1]; exact R2.out.keep (heap_setCell_other _ ⟨w.heap.size + 1, 1, none⟩ _ _ pr1)
  clear hW1 p1 pz pl nv
  have HNV : Hid ((Value.slice va (t.length + 1) vc).ownBlock ≠ some (w.heap.size + 1 + 1)) := Lib.hid (fun e => by
    rcases AT.out with h | h
    · rw [h] at e; exact gr1 (Option.some.inj e).symm
    · rw [h] at e; exact absurd (Nat.lt_of_lt_of_le lr (Nat.le_trans AL.out.size (Nat.le_of_eq (Option.some.inj e)))) (Nat.lt_irrefl _))
  obtain ⟨m0, m1, m2⟩ := M1.blk.cells
  have mz := M1.blk.frozen
  obtain ⟨r0, r1, r2⟩ := R1.cells
  have rz := R1.frozen
  have ml := M1.blk.lt
  have rl := R1.lt
  have HM1 := Lib.hid M1
  have HR1 := Lib.hid R1
  have HBB := Lib.hid ((BA.out.mono hB).trans BB)
  clear M1 R1 BB
  go_wp2
  obtain ⟨WF, hWF⟩ : ∃ WF, WF = ((W1.setCell ⟨w.heap.size + 1 + 1, 0, none⟩ (.int .i64 (k + 1))).setCell ⟨w.heap.size + 1 + 1, 1, none⟩ (.slice va (t.length + 1) vc)).setCell ⟨w.heap.size + 1 + 1, 2, none⟩ (.slice ua o.length uc) := ⟨_, rfl⟩
  rw [← hWF]
  obtain ⟨⟨f0, f1, f2⟩, w1, w2, w3⟩ := change_end2 HM1.out HR1.out HBB.out (by omega) hWF HNV.out HNU.out
  refine bodyPost_ret (v := .agg #[.int .i64 (k + 1), .slice va (t.length + 1) vc, .slice ua o.length uc]) (by simp [results, Tryd.results22, go_sem, f0, f1, f2]) rfl ?_
  exact ⟨_, _, rfl, w1, w2, HM1.out.ap, w3, by rw [hWF]; repeat (first | with_reducible exact FW.out | with_reducible refine Fr.drew ?_ | (with_reducible refine Fr.set ?_ ?hr; case hr => (first | (left; omega) | exact .inr (.inl rfl) | exact .inr (.inr rfl))))⟩
set_option maxHeartbeats 1000000 in
theorem sCh2 (x1 x2 x3 : Int) (B : Nat) (k : Int) (v u : Value) (o t : List Int) (x y : Int) (w : World) (hB : B ≤ w.heap.size) (hv : w.ownsRow B 3 1 v (t ++ [x, y]).length ((t ++ [x, y]).map (Value.int .i64))) (hu : w.ownsRow B 3 1 u o.length (o.map (Value.int .i64))) (ap : Apart v u) (hn : (t ++ [x, y]).length ≤ 20) (hx : -9841 ≤ x ∧ x ≤ 9841) (hy : -9841 ≤ y ∧ y ≤ 9841) (hk : 0 ≤ k ∧ k ≤ 1000) :
    Calls Tryd.prog 22 #[.agg #[.int .i64 2, .int .i64 x1, .int .i64 x2, .int .i64 x3], .agg #[.int .i64 k, v, u]] w fun e w' => ∃ v' u', e = .returned (.agg #[.int .i64 (k + 1), v', u']) ∧ w'.ownsRow B 3 1 v' (t ++ [Tm.wrapC (x + y)]).length ((t ++ [Tm.wrapC (x + y)]).map (Value.int .i64)) ∧ w'.ownsRow B 3 1 u' o.length (o.map (Value.int .i64)) ∧ Apart v' u' ∧ Below B w w' ∧ Fr v u w w' := by
  obtain ⟨i0, hi, hz0, hz1, hz2⟩ := info_parts infoInt
  obtain ⟨A, hA⟩ : ∃ A, A = ((w.alloc (.cells #[.int .i64 2, .int .i64 x1, .int .i64 x2, .int .i64 x3] 47)).alloc (.cells #[.int .i64 (k + 1), v, u] 28)).alloc (.cells #[.int .i64 0, .slice none 0 0, .slice none 0 0] 28) := ⟨_, rfl⟩
  obtain ⟨sA, bA, mA, rA, a0, a1, a2, a3⟩ := change_start hA hB hv hu ap
  obtain ⟨g, c, rfl, gp, hc, cz, cx⟩ := stack_two mA
  have gl : g < w.heap.size := by have := (hv.lt g rfl).2; omega
  obtain ⟨ua, uc, rfl⟩ := own_form hu
  have HM := Lib.hid mA
  have HR := Lib.hid rA
  obtain ⟨c0, c1, c2⟩ := mA.blk.cells
  have BA := Lib.hid bA
  have HU := Lib.hid hu
  have SA := Lib.hid sA
  have RT := Lib.hid (stack_rest mA)
  have RS := Lib.hid mA.sv
  have l2 : (t ++ [x, y]).length = t.length + 2 := by simp
  rw [l2] at hn RS
  obtain ⟨k0, k9⟩ := hk
  have e1 : IntKind.i64.wrap (k + 1) = k + 1 := IntWalk.i64_in _ (by omega)
  have e2 : IntKind.i64.wrap ((t.length : Int) + 2 - 1) = (t.length : Int) + 1 := by rw [IntWalk.i64_in _ (by omega)]; omega
  have e4 : IntKind.i64.wrap ((t.length : Int) + 2 - 2) = (t.length : Int) := by rw [IntWalk.i64_in _ (by omega)]; omega
  have e5 : IntKind.i64.wrap ((t.length : Int) + 1) = (t.length : Int) + 1 := IntWalk.i64_in _ (by omega)
  have t2 : (t.length : Int) + 1 < (t.length : Int) + 2 := by omega
  have t3 : (0 : Int) ≤ (t.length : Int) + 1 := by omega
  have t4 : ((t.length : Int) + 1).toNat = t.length + 1 := by omega
  have t5 : t.length + 1 < t.length + 2 := by omega
  have e3 : IntKind.i64.wrap (t.length : Int) = (t.length : Int) := IntWalk.i64_in _ (by omega)
  have t0 : (0 : Int) ≤ (t.length : Int) := by omega
  have t1 : (t.length : Int) < (t.length : Int) + 2 := by omega
  have t6 : (t.length : Int) ≤ (c : Int) := by omega
  have t7 : t.length ≤ c := by omega
  have lp : w.heap.size + 1 < A.heap.size := by omega
  have lr : w.heap.size + 1 + 1 < A.heap.size := by omega
  have lg : g < A.heap.size := by omega
  have gn0 : g ≠ w.heap.size + 1 := gp
  have gn1 : w.heap.size + 1 ≠ g := fun e => gp e.symm
  have gr1 : w.heap.size + 1 + 1 ≠ g := by omega
  have pr0 : w.heap.size + 1 ≠ w.heap.size + 1 + 1 := by omega
  have pr1 : w.heap.size + 1 + 1 ≠ w.heap.size + 1 := by omega
  have hBg : B ≤ g := (hv.lt g rfl).1
  have hBA : B ≤ A.heap.size := by omega
  clear mA rA hv hu bA l2 sA
  have mb : (x * y).natAbs ≤ 9841 * 9841 := by rw [Int.natAbs_mul]; exact Nat.mul_le_mul (by omega) (by omega)
  obtain ⟨x0, x9⟩ := hx
  obtain ⟨y0, y9⟩ := hy
  have ew : IntKind.i64.wrap (x + y) = x + y := IntWalk.i64_in _ (by omega)
  clear mb
  have HNU : Hid ((Value.slice ua o.length uc).ownBlock ≠ some (w.heap.size + 1 + 1)) := Lib.hid (fun e => by have := (HU.out.lt _ e).2; omega)
  go_enter Tryd.func22, Tryd.ntmps22
  go_wp2_with fail
  rw [← hA]
  clear hA
  have HS : Hid ((fun W : World => W.cell? ⟨w.heap.size + 1, 1, none⟩ = some (.slice (some ⟨g, 0, none⟩) (t.length + 2) c) ∧ W.cell? ⟨g, t.length, none⟩ = some (.int .i64 x) ∧ W.cell? ⟨g, t.length + 1, none⟩ = some (.int .i64 y)) A.drew) := Lib.hid ⟨c1, cz, cx⟩
  refine wp_region_T [20, 22] (fun W : World => W.cell? ⟨w.heap.size + 1, 1, none⟩ = some (.slice (some ⟨g, 0, none⟩) (t.length + 2) c) ∧ W.cell? ⟨g, t.length, none⟩ = some (.int .i64 x) ∧ W.cell? ⟨g, t.length + 1, none⟩ = some (.int .i64 y)) (by kernel_rfl) ?_
  refine wpAnyT_take (i := 0) (v := ?v1) rfl (by kernel_rfl) (by kernel_rfl) (by kernel_rfl) (by kernel_rfl) (by kernel_rfl) (fun _ _ _ h => h) HS.out rfl ?hy1 ?hh1
  case hy1 => (intro W hW; obtain ⟨h1, h2, h3⟩ := hW; go_simp; try with_reducible rfl)
  case hh1 =>
  (try simp only [Act.put])
  refine wpAnyT_take (i := 1) (v := ?v2) rfl (by kernel_rfl) (by kernel_rfl) (by kernel_rfl) (by kernel_rfl) (by kernel_rfl) (fun _ _ _ h => h) HS.out rfl ?hy2 ?hh2
  case hy2 => (intro W hW; obtain ⟨h1, h2, h3⟩ := hW; go_simp; try with_reducible rfl)
  case hh2 =>
  (try simp only [Act.put])
  refine wpAnyT_take (i := 2) (v := ?v3) rfl (by kernel_rfl) (by kernel_rfl) (by kernel_rfl) (by kernel_rfl) (by kernel_rfl) (fun _ _ _ h => h) HS.out rfl ?hy3 ?hh3
  case hy3 => (intro W hW; obtain ⟨h1, h2, h3⟩ := hW; go_simp; try with_reducible rfl)
  case hh3 =>
  (try simp only [Act.put])
  refine wpAnyT_take (i := 3) (v := ?v4) rfl (by kernel_rfl) (by kernel_rfl) (by kernel_rfl) (by kernel_rfl) (by kernel_rfl) (fun _ _ _ h => h) HS.out rfl ?hy4 ?hh4
  case hy4 => (intro W hW; obtain ⟨h1, h2, h3⟩ := hW; go_simp; try with_reducible rfl)
  case hh4 =>
  (try simp only [Act.put])
  refine wpAnyT_take (i := 4) (v := ?v5) rfl (by kernel_rfl) (by kernel_rfl) (by kernel_rfl) (by kernel_rfl) (by kernel_rfl) (fun _ _ _ h => h) HS.out rfl ?hy5 ?hh5
  case hy5 => (intro W hW; obtain ⟨h1, h2, h3⟩ := hW; go_simp; try with_reducible rfl)
  case hh5 =>
  (try simp only [Act.put])
  refine wpAnyT_take (i := 5) (v := ?v6) rfl (by kernel_rfl) (by kernel_rfl) (by kernel_rfl) (by kernel_rfl) (by kernel_rfl) (fun _ _ _ h => h) HS.out rfl ?hy6 ?hh6
  case hy6 => (intro W hW; obtain ⟨h1, h2, h3⟩ := hW; go_simp; try with_reducible rfl)
  case hh6 =>
  (try simp only [Act.put])
  refine wpAnyT_take (i := 6) (v := ?v7) rfl (by kernel_rfl) (by kernel_rfl) (by kernel_rfl) (by kernel_rfl) (by kernel_rfl) (fun _ _ _ h => h) HS.out rfl ?hy7 ?hh7
  case hy7 => (intro W hW; obtain ⟨h1, h2, h3⟩ := hW; go_simp; try with_reducible rfl)
  case hh7 =>
  (try simp only [Act.put])
  refine wpAnyT_take (i := 7) (v := ?v8) rfl (by kernel_rfl) (by kernel_rfl) (by kernel_rfl) (by kernel_rfl) (by kernel_rfl) (fun _ _ _ h => h) HS.out rfl ?hy8 ?hh8
  case hy8 => (intro W hW; obtain ⟨h1, h2, h3⟩ := hW; go_simp; try with_reducible rfl)
  case hh8 =>
  (try simp only [Act.put])
  refine wpAnyT_take (i := 8) (v := ?v9) rfl (by kernel_rfl) (by kernel_rfl) (by kernel_rfl) (by kernel_rfl) (by kernel_rfl) (fun _ _ _ h => h) HS.out rfl ?hy9 ?hh9
  case hy9 => (intro W hW; obtain ⟨h1, h2, h3⟩ := hW; go_simp; try with_reducible rfl)
  case hh9 =>
  (try simp only [Act.put])
  refine wpAnyT_take (i := 9) (v := ?v10) rfl (by kernel_rfl) (by kernel_rfl) (by kernel_rfl) (by kernel_rfl) (by kernel_rfl) (fun _ _ _ h => h) HS.out rfl ?hy10 ?hh10
  case hy10 => (intro W hW; obtain ⟨h1, h2, h3⟩ := hW; go_simp; try with_reducible rfl)
  case hh10 =>
  (try simp only [Act.put])
  refine wpAnyT_take (i := 10) (v := ?v11) rfl (by kernel_rfl) (by kernel_rfl) (by kernel_rfl) (by kernel_rfl) (by kernel_rfl) (fun _ _ _ h => h) HS.out rfl ?hy11 ?hh11
  case hy11 => (intro W hW; obtain ⟨h1, h2, h3⟩ := hW; go_simp; try with_reducible rfl)
  case hh11 =>
  (try simp only [Act.put])
  refine wpAnyT_take (i := 11) (v := ?v12) rfl (by kernel_rfl) (by kernel_rfl) (by kernel_rfl) (by kernel_rfl) (by kernel_rfl) (fun _ _ _ h => h) HS.out rfl ?hy12 ?hh12
  case hy12 => (intro W hW; obtain ⟨h1, h2, h3⟩ := hW; go_simp; try with_reducible rfl)
  case hh12 =>
  (try simp only [Act.put])
  refine wpAnyT_take (i := 12) (v := ?v13) rfl (by kernel_rfl) (by kernel_rfl) (by kernel_rfl) (by kernel_rfl) (by kernel_rfl) (fun _ _ _ h => h) HS.out rfl ?hy13 ?hh13
  case hy13 => (intro W hW; obtain ⟨h1, h2, h3⟩ := hW; go_simp; try with_reducible rfl)
  case hh13 =>
  (try simp only [Act.put])
  refine wpAnyT_take (i := 13) (v := ?v14) rfl (by kernel_rfl) (by kernel_rfl) (by kernel_rfl) (by kernel_rfl) (by kernel_rfl) (fun _ _ _ h => h) HS.out rfl ?hy14 ?hh14
  case hy14 => (intro W hW; obtain ⟨h1, h2, h3⟩ := hW; go_simp; try with_reducible rfl)
  case hh14 =>
  (try simp only [Act.put])
  refine wpAnyT_take (i := 14) (v := ?v15) rfl (by kernel_rfl) (by kernel_rfl) (by kernel_rfl) (by kernel_rfl) (by kernel_rfl) (fun _ _ _ h => h) HS.out rfl ?hy15 ?hh15
  case hy15 => (intro W hW; obtain ⟨h1, h2, h3⟩ := hW; go_simp; try with_reducible rfl)
  case hh15 =>
  (try simp only [Act.put])
  refine wpAnyT_take (i := 15) (v := ?v16) rfl (by kernel_rfl) (by kernel_rfl) (by kernel_rfl) (by kernel_rfl) (by kernel_rfl) (fun _ _ _ h => h) HS.out rfl ?hy16 ?hh16
  case hy16 => (intro W hW; obtain ⟨h1, h2, h3⟩ := hW; go_simp; try with_reducible rfl)
  case hh16 =>
  (try simp only [Act.put])
  refine wpAnyT_take (i := 16) (v := ?v17) rfl (by kernel_rfl) (by kernel_rfl) (by kernel_rfl) (by kernel_rfl) (by kernel_rfl) (fun _ _ _ h => h) HS.out rfl ?hy17 ?hh17
  case hy17 => (intro W hW; obtain ⟨h1, h2, h3⟩ := hW; go_simp; try with_reducible rfl)
  case hh17 =>
  (try simp only [Act.put])
  refine wpAnyT_take (i := 17) (v := ?v18) rfl (by kernel_rfl) (by kernel_rfl) (by kernel_rfl) (by kernel_rfl) (by kernel_rfl) (fun _ _ _ h => h) HS.out rfl ?hy18 ?hh18
  case hy18 => (intro W hW; obtain ⟨h1, h2, h3⟩ := hW; go_simp; try with_reducible rfl)
  case hh18 =>
  (try simp only [Act.put])
  refine wpAnyT_only (i := 18) rfl (by kernel_rfl) (fun K hK => ?_)
  go_simp
  go_at_call 37
  refine (sWrapCell _ _).mono ?_
  rintro e w1 ⟨rfl, rfl⟩
  refine hK _ _ (fun _ _ => HS.out) ?_
  clear hK K
  (try simp only [Act.put])
  have AL : Hid (Below A.heap.size A (A.drew.alloc (.cells #[.int .i64 (Tm.wrapC (x + y))] 3))) := Lib.hid ((Below.drew (Below.refl _ _)).alloc (Nat.le_refl _) _)
  have HS2 : Hid ((fun W : World => W.cell? ⟨w.heap.size + 1, 1, none⟩ = some (.slice (some ⟨g, 0, none⟩) (t.length + 2) c) ∧ W.cell? ⟨g, t.length, none⟩ = some (.int .i64 x) ∧ W.cell? ⟨g, t.length + 1, none⟩ = some (.int .i64 y)) (A.drew.alloc (.cells #[.int .i64 (Tm.wrapC (x + y))] 3))) := Lib.hid ⟨by rw [← c1]; exact AL.out.cell (p := ⟨_, _, none⟩) lp, by rw [← cz]; exact AL.out.cell (p := ⟨_, _, none⟩) lg, by rw [← cx]; exact AL.out.cell (p := ⟨_, _, none⟩) lg⟩
  refine wpAnyT_only (i := 19) rfl (by kernel_rfl) (fun K hK => ?_)
  go_simp
  refine hK _ _ (fun _ _ => HS2.out) ?_
  clear hK K HS HS2
  (try simp only [Act.put])
  refine wpAnyT_only (i := 20) rfl (by kernel_rfl) (fun K hK => ?_)
  refine step_append_at rfl (.tmp 31) (.tmp 46) 23 rfl B 3 i0 (.int .i64 0) 1 8 Tryd.underlying23 hi hz0 hz1 hz2 rfl (by decide) (.slice (some ⟨g, 0, none⟩) t.length c) (t.length) (t.map (Value.int .i64)) (by simp [Act.eval]) (own_below RT.out AL.out) ⟨A.heap.size, 0, none⟩ 1 1 [.int .i64 (Tm.wrapC (x + y))] (by simp [Act.eval]) rfl (app_c1 A.drew _ _) (app_c2 _) (by unfold maxLen; omega) (by omega) (Nat.le_trans hBA AL.out.size) ?_
  intro v' w2 hown hg hat
  obtain ⟨va, vc, rfl⟩ := own_form hown
  refine hK _ _ (fun h => (h (by decide)).elim) ?_
  clear hK K
  (try simp only [Act.put])
  refine wpAnyT_takeA (i := 21) (v := ?v19) rfl (by kernel_rfl) (by kernel_rfl) (by kernel_rfl) (fun _ _ _ h => h) rfl ?hy19 ?hh19
  case hy19 => (intro W; go_simp; try with_reducible rfl)
  case hh19 =>
  (try simp only [Act.put])
  have P2 : Hid (Blk3 w2 (w.heap.size + 1) (.int .i64 (k + 1)) (.slice (some ⟨g, 0, none⟩) (t.length + 2) c) (.slice ua o.length uc) 28) := Lib.hid ((HM.out.blk.later AL.out).keep (hg.block _ (Nat.lt_of_lt_of_le lp AL.out.size) (fun e => gn1 (Option.some.inj e))))
  have R2 : Hid (Blk3 w2 (w.heap.size + 1 + 1) (.int .i64 0) (.slice none 0 0) (.slice none 0 0) 28) := Lib.hid ((HR.out.later AL.out).keep (hg.block _ (Nat.lt_of_lt_of_le lr AL.out.size) (fun e => gr1 (Option.some.inj e))))
  have p1 := P2.out.cells.2.1
  have pz := P2.out.frozen
  have pl := P2.out.lt
  have TV : Hid (TurnV (w.heap.size + 1) (.slice (some ⟨g, 0, none⟩) (t.length + 2) c) A w2) := Lib.hid (((TurnV.refl _ _ A).of_below AL.out).grown hg rfl)
  have OW := Lib.hid hown
  have AT := Lib.hid hat
  have nv : (Value.slice va (t.length + 1) vc).ownBlock ≠ some (w.heap.size + 1) := fun e => by
    rcases hat with h | h
    · rw [h] at e; exact gp (Option.some.inj e)
    · rw [h] at e; exact absurd (Nat.lt_of_lt_of_le lp (Nat.le_trans AL.out.size (Nat.le_of_eq (Option.some.inj e)))) (Nat.lt_irrefl _)
  clear hg hat hown
  refine wpAnyT_only (i := 22) rfl (by kernel_rfl) (fun K hK => ?_)
  go_simp
  refine hK _ _ (fun h => (h (by decide)).elim) ?_
  clear hK K
  refine wpAnyT_done (by kernel_rfl) ?_ _
  obtain ⟨W1, hW1⟩ : ∃ W1, W1 = w2.setCell ⟨w.heap.size + 1, 1, none⟩ (.slice va (t.length + 1) vc) := ⟨_, rfl⟩
  rw [← hW1]
  have B1 : Blk3 W1 (w.heap.size + 1) (.int .i64 (k + 1)) (.slice va (t.length + 1) vc) (.slice ua o.length uc) 28 := by rw [hW1]; exact P2.out.set1 _
  have O1 : W1.ownsRow B 3 1 (.slice va (t.length + 1) vc) (t ++ [Tm.wrapC (x + y)]).length ((t ++ [Tm.wrapC (x + y)]).map (Value.int .i64)) := by
    rw [hW1, List.length_append, List.map_append]
    exact own_set_far OW.out nv
  obtain ⟨M1, BB⟩ := HM.out.turn (by rw [hW1]; exact TV.out.set 1 _) B1 O1 (by
    rcases AT.out with e | e
    · exact .inl e
    · exact .inr ⟨_, e, AL.out.size⟩)
  have FW : Hid (Fr (.slice (some ⟨g, 0, none⟩) (t.length + 2) c) (.slice ua o.length uc) w W1) := Lib.hid (Fr.turn BA.out (by rw [hW1]; exact TV.out.set 1 _) (by omega))
  have R1 : Blk3 W1 (w.heap.size + 1 + 1) (.int .i64 0) (.slice none 0 0) (.slice none 0 0) 28 := by rw [hW1]; exact R2.out.keep (heap_setCell_other _ ⟨w.heap.size + 1, 1, none⟩ _ _ pr1)
  clear hW1 p1 pz pl nv
  have HNV : Hid ((Value.slice va (t.length + 1) vc).ownBlock ≠ some (w.heap.size + 1 + 1)) := Lib.hid (fun e => by
    rcases AT.out with h | h
    · rw [h] at e; exact gr1 (Option.some.inj e).symm
    · rw [h] at e; exact absurd (Nat.lt_of_lt_of_le lr (Nat.le_trans AL.out.size (Nat.le_of_eq (Option.some.inj e)))) (Nat.lt_irrefl _))
  obtain ⟨m0, m1, m2⟩ := M1.blk.cells
  have mz := M1.blk.frozen
  obtain ⟨r0, r1, r2⟩ := R1.cells
  have rz := R1.frozen
  have ml := M1.blk.lt
  have rl := R1.lt
  have HM1 := Lib.hid M1
  have HR1 := Lib.hid R1
  have HBB := Lib.hid ((BA.out.mono hB).trans BB)
  clear M1 R1 BB
  go_wp2
  obtain ⟨WF, hWF⟩ : ∃ WF, WF = ((W1.setCell ⟨w.heap.size + 1 + 1, 0, none⟩ (.int .i64 (k + 1))).setCell ⟨w.heap.size + 1 + 1, 1, none⟩ (.slice va (t.length + 1) vc)).setCell ⟨w.heap.size + 1 + 1, 2, none⟩ (.slice ua o.length uc) := ⟨_, rfl⟩
  rw [← hWF]
  obtain ⟨⟨f0, f1, f2⟩, w1, w2, w3⟩ := change_end2 HM1.out HR1.out HBB.out (by omega) hWF HNV.out HNU.out
  refine bodyPost_ret (v := .agg #[.int .i64 (k + 1), .slice va (t.length + 1) vc, .slice ua o.length uc]) (by simp [results, Tryd.results22, go_sem, f0, f1, f2]) rfl ?_
  exact ⟨_, _, rfl, w1, w2, HM1.out.ap, w3, by rw [hWF]; repeat (first | with_reducible exact FW.out | with_reducible refine Fr.drew ?_ | (with_reducible refine Fr.set ?_ ?hr; case hr => (first | (left; omega) | exact .inr (.inl rfl) | exact .inr (.inr rfl))))⟩
set_option maxHeartbeats 1000000 in
theorem sCh7 (x1 x2 x3 : Int) (B : Nat) (k : Int) (v u : Value) (o t : List Int) (x : Int) (w : World) (hB : B ≤ w.heap.size) (hv : w.ownsRow B 3 1 v (t ++ [x]).length ((t ++ [x]).map (Value.int .i64))) (hu : w.ownsRow B 3 1 u o.length (o.map (Value.int .i64))) (ap : Apart v u) (hn : (t ++ [x]).length ≤ 20) (hk : 0 ≤ k ∧ k ≤ 1000) :
    Calls Tryd.prog 22 #[.agg #[.int .i64 7, .int .i64 x1, .int .i64 x2, .int .i64 x3], .agg #[.int .i64 k, v, u]] w fun e w' => ∃ v' u', e = .returned (.agg #[.int .i64 (k + 1), v', u']) ∧ w'.ownsRow B 3 1 v' (t ++ [x, x]).length ((t ++ [x, x]).map (Value.int .i64)) ∧ w'.ownsRow B 3 1 u' o.length (o.map (Value.int .i64)) ∧ Apart v' u' ∧ Below B w w' ∧ Fr v u w w' := by
  obtain ⟨i0, hi, hz0, hz1, hz2⟩ := info_parts infoInt
  obtain ⟨A, hA⟩ : ∃ A, A = ((w.alloc (.cells #[.int .i64 7, .int .i64 x1, .int .i64 x2, .int .i64 x3] 47)).alloc (.cells #[.int .i64 (k + 1), v, u] 28)).alloc (.cells #[.int .i64 0, .slice none 0 0, .slice none 0 0] 28) := ⟨_, rfl⟩
  obtain ⟨sA, bA, mA, rA, a0, a1, a2, a3⟩ := change_start hA hB hv hu ap
  obtain ⟨g, c, rfl, gp, hc, cx⟩ := stack_one mA
  have gl : g < w.heap.size := by have := (hv.lt g rfl).2; omega
  obtain ⟨ua, uc, rfl⟩ := own_form hu
  have HM := Lib.hid mA
  have HR := Lib.hid rA
  obtain ⟨c0, c1, c2⟩ := mA.blk.cells
  have BA := Lib.hid bA
  have HU := Lib.hid hu
  have SA := Lib.hid sA
  have RT := Lib.hid (stack_rest mA)
  have RS := Lib.hid mA.sv
  have l2 : (t ++ [x]).length = t.length + 1 := by simp
  rw [l2] at hn RS
  obtain ⟨k0, k9⟩ := hk
  have e1 : IntKind.i64.wrap (k + 1) = k + 1 := IntWalk.i64_in _ (by omega)
  have e2 : IntKind.i64.wrap ((t.length : Int) + 1 - 1) = (t.length : Int) := by rw [IntWalk.i64_in _ (by omega)]; omega
  have t5 : t.length < t.length + 1 := by omega
  have e3 : IntKind.i64.wrap (t.length : Int) = (t.length : Int) := IntWalk.i64_in _ (by omega)
  have t0 : (0 : Int) ≤ (t.length : Int) := by omega
  have t1 : (t.length : Int) < (t.length : Int) + 1 := by omega
  have t6 : (t.length : Int) ≤ (c : Int) := by omega
  have t7 : t.length ≤ c := by omega
  have lp : w.heap.size + 1 < A.heap.size := by omega
  have lr : w.heap.size + 1 + 1 < A.heap.size := by omega
  have lg : g < A.heap.size := by omega
  have gn0 : g ≠ w.heap.size + 1 := gp
  have gn1 : w.heap.size + 1 ≠ g := fun e => gp e.symm
  have gr1 : w.heap.size + 1 + 1 ≠ g := by omega
  have pr0 : w.heap.size + 1 ≠ w.heap.size + 1 + 1 := by omega
  have pr1 : w.heap.size + 1 + 1 ≠ w.heap.size + 1 := by omega
  have hBg : B ≤ g := (hv.lt g rfl).1
  have hBA : B ≤ A.heap.size := by omega
  clear mA rA hv hu bA l2 sA
  have HNU : Hid ((Value.slice ua o.length uc).ownBlock ≠ some (w.heap.size + 1 + 1)) := Lib.hid (fun e => by have := (HU.out.lt _ e).2; omega)
  go_enter Tryd.func22, Tryd.ntmps22
  go_wp2_with fail
  rw [← hA]
  clear hA
  have HS : Hid ((fun W : World => W.cell? ⟨w.heap.size + 1, 1, none⟩ = some (.slice (some ⟨g, 0, none⟩) (t.length + 1) c) ∧ W.cell? ⟨g, t.length, none⟩ = some (.int .i64 x)) A.drew) := Lib.hid ⟨c1, cx⟩
  refine wp_region_T [9, 11] (fun W : World => W.cell? ⟨w.heap.size + 1, 1, none⟩ = some (.slice (some ⟨g, 0, none⟩) (t.length + 1) c) ∧ W.cell? ⟨g, t.length, none⟩ = some (.int .i64 x)) (by kernel_rfl) ?_
  refine wpAnyT_take (i := 0) (v := ?v58) rfl (by kernel_rfl) (by kernel_rfl) (by kernel_rfl) (by kernel_rfl) (by kernel_rfl) (fun _ _ _ h => h) HS.out rfl ?hy58 ?hh58
  case hy58 => (intro W hW; obtain ⟨h1, h2⟩ := hW; go_simp; try with_reducible rfl)
  case hh58 =>
  (try simp only [Act.put])
  refine wpAnyT_take (i := 1) (v := ?v59) rfl (by kernel_rfl) (by kernel_rfl) (by kernel_rfl) (by kernel_rfl) (by kernel_rfl) (fun _ _ _ h => h) HS.out rfl ?hy59 ?hh59
  case hy59 => (intro W hW; obtain ⟨h1, h2⟩ := hW; go_simp; try with_reducible rfl)
  case hh59 =>
  (try simp only [Act.put])
  refine wpAnyT_take (i := 2) (v := ?v60) rfl (by kernel_rfl) (by kernel_rfl) (by kernel_rfl) (by kernel_rfl) (by kernel_rfl) (fun _ _ _ h => h) HS.out rfl ?hy60 ?hh60
  case hy60 => (intro W hW; obtain ⟨h1, h2⟩ := hW; go_simp; try with_reducible rfl)
  case hh60 =>
  (try simp only [Act.put])
  refine wpAnyT_take (i := 3) (v := ?v61) rfl (by kernel_rfl) (by kernel_rfl) (by kernel_rfl) (by kernel_rfl) (by kernel_rfl) (fun _ _ _ h => h) HS.out rfl ?hy61 ?hh61
  case hy61 => (intro W hW; obtain ⟨h1, h2⟩ := hW; go_simp; try with_reducible rfl)
  case hh61 =>
  (try simp only [Act.put])
  refine wpAnyT_take (i := 4) (v := ?v62) rfl (by kernel_rfl) (by kernel_rfl) (by kernel_rfl) (by kernel_rfl) (by kernel_rfl) (fun _ _ _ h => h) HS.out rfl ?hy62 ?hh62
  case hy62 => (intro W hW; obtain ⟨h1, h2⟩ := hW; go_simp; try with_reducible rfl)
  case hh62 =>
  (try simp only [Act.put])
  refine wpAnyT_take (i := 5) (v := ?v63) rfl (by kernel_rfl) (by kernel_rfl) (by kernel_rfl) (by kernel_rfl) (by kernel_rfl) (fun _ _ _ h => h) HS.out rfl ?hy63 ?hh63
  case hy63 => (intro W hW; obtain ⟨h1, h2⟩ := hW; go_simp; try with_reducible rfl)
  case hh63 =>
  (try simp only [Act.put])
  refine wpAnyT_take (i := 6) (v := ?v64) rfl (by kernel_rfl) (by kernel_rfl) (by kernel_rfl) (by kernel_rfl) (by kernel_rfl) (fun _ _ _ h => h) HS.out rfl ?hy64 ?hh64
  case hy64 => (intro W hW; obtain ⟨h1, h2⟩ := hW; go_simp; try with_reducible rfl)
  case hh64 =>
  (try simp only [Act.put])
  refine wpAnyT_take (i := 7) (v := ?v65) rfl (by kernel_rfl) (by kernel_rfl) (by kernel_rfl) (by kernel_rfl) (by kernel_rfl) (fun _ _ _ h => h) HS.out rfl ?hy65 ?hh65
  case hy65 => (intro W hW; obtain ⟨h1, h2⟩ := hW; go_simp; try with_reducible rfl)
  case hh65 =>
  (try simp only [Act.put])
  have AL : Hid (Below A.heap.size A (A.drew.alloc (.cells #[.int .i64 x] 3))) := Lib.hid ((Below.drew (Below.refl _ _)).alloc (Nat.le_refl _) _)
  have HS2 : Hid ((fun W : World => W.cell? ⟨w.heap.size + 1, 1, none⟩ = some (.slice (some ⟨g, 0, none⟩) (t.length + 1) c) ∧ W.cell? ⟨g, t.length, none⟩ = some (.int .i64 x)) (A.drew.alloc (.cells #[.int .i64 x] 3))) := Lib.hid ⟨by rw [← c1]; exact AL.out.cell (p := ⟨_, _, none⟩) lp, by rw [← cx]; exact AL.out.cell (p := ⟨_, _, none⟩) lg⟩
  refine wpAnyT_only (i := 8) rfl (by kernel_rfl) (fun K hK => ?_)
  go_simp
  refine hK _ _ (fun _ _ => HS2.out) ?_
  clear hK K HS HS2
  (try simp only [Act.put])
  refine wpAnyT_only (i := 9) rfl (by kernel_rfl) (fun K hK => ?_)
  refine step_append_at rfl (.tmp 128) (.tmp 135) 23 rfl B 3 i0 (.int .i64 0) 1 8 Tryd.underlying23 hi hz0 hz1 hz2 rfl (by decide) (.slice (some ⟨g, 0, none⟩) (t.length + 1) c) (t.length + 1) ((t ++ [x]).map (Value.int .i64)) (by simp [Act.eval]) (own_below RS.out AL.out) ⟨A.heap.size, 0, none⟩ 1 1 [.int .i64 (x)] (by simp [Act.eval]) rfl (app_c1 A.drew _ _) (app_c2 _) (by unfold maxLen; omega) (by omega) (Nat.le_trans hBA AL.out.size) ?_
  intro v' w2 hown hg hat
  obtain ⟨va, vc, rfl⟩ := own_form hown
  refine hK _ _ (fun h => (h (by decide)).elim) ?_
  clear hK K
  (try simp only [Act.put])
  refine wpAnyT_takeA (i := 10) (v := ?v66) rfl (by kernel_rfl) (by kernel_rfl) (by kernel_rfl) (fun _ _ _ h => h) rfl ?hy66 ?hh66
  case hy66 => (intro W; go_simp; try with_reducible rfl)
  case hh66 =>
  (try simp only [Act.put])
  have P2 : Hid (Blk3 w2 (w.heap.size + 1) (.int .i64 (k + 1)) (.slice (some ⟨g, 0, none⟩) (t.length + 1) c) (.slice ua o.length uc) 28) := Lib.hid ((HM.out.blk.later AL.out).keep (hg.block _ (Nat.lt_of_lt_of_le lp AL.out.size) (fun e => gn1 (Option.some.inj e))))
  have R2 : Hid (Blk3 w2 (w.heap.size + 1 + 1) (.int .i64 0) (.slice none 0 0) (.slice none 0 0) 28) := Lib.hid ((HR.out.later AL.out).keep (hg.block _ (Nat.lt_of_lt_of_le lr AL.out.size) (fun e => gr1 (Option.some.inj e))))
  have p1 := P2.out.cells.2.1
  have pz := P2.out.frozen
  have pl := P2.out.lt
  have TV : Hid (TurnV (w.heap.size + 1) (.slice (some ⟨g, 0, none⟩) (t.length + 1) c) A w2) := Lib.hid (((TurnV.refl _ _ A).of_below AL.out).grown hg rfl)
  have OW := Lib.hid hown
  have AT := Lib.hid hat
  have nv : (Value.slice va (t.length + 1 + 1) vc).ownBlock ≠ some (w.heap.size + 1) := fun e => by
    rcases hat with h | h
    · rw [h] at e; exact gp (Option.some.inj e)
    · rw [h] at e; exact absurd (Nat.lt_of_lt_of_le lp (Nat.le_trans AL.out.size (Nat.le_of_eq (Option.some.inj e)))) (Nat.lt_irrefl _)
  clear hg hat hown
  refine wpAnyT_only (i := 11) rfl (by kernel_rfl) (fun K hK => ?_)
  go_simp
  refine hK _ _ (fun h => (h (by decide)).elim) ?_
  clear hK K
  refine wpAnyT_done (by kernel_rfl) ?_ _
  obtain ⟨W1, hW1⟩ : ∃ W1, W1 = w2.setCell ⟨w.heap.size + 1, 1, none⟩ (.slice va (t.length + 1 + 1) vc) := ⟨_, rfl⟩
  rw [← hW1]
  have B1 : Blk3 W1 (w.heap.size + 1) (.int .i64 (k + 1)) (.slice va (t.length + 1 + 1) vc) (.slice ua o.length uc) 28 := by rw [hW1]; exact P2.out.set1 _
  have O1 : W1.ownsRow B 3 1 (.slice va (t.length + 1 + 1) vc) (t ++ [x, x]).length ((t ++ [x, x]).map (Value.int .i64)) := by
    have := own_set_far (o := 1) (u := .slice va (t.length + 1 + 1) vc) OW.out nv
    rw [← hW1] at this
    rw [show t ++ [x, x] = (t ++ [x]) ++ [x] from by simp, List.map_append, List.length_append, List.length_append]
    exact this
  obtain ⟨M1, BB⟩ := HM.out.turn (by rw [hW1]; exact TV.out.set 1 _) B1 O1 (by
    rcases AT.out with e | e
    · exact .inl e
    · exact .inr ⟨_, e, AL.out.size⟩)
  have FW : Hid (Fr (.slice (some ⟨g, 0, none⟩) (t.length + 1) c) (.slice ua o.length uc) w W1) := Lib.hid (Fr.turn BA.out (by rw [hW1]; exact TV.out.set 1 _) (by omega))
  have R1 : Blk3 W1 (w.heap.size + 1 + 1) (.int .i64 0) (.slice none 0 0) (.slice none 0 0) 28 := by rw [hW1]; exact R2.out.keep (heap_setCell_other _ ⟨w.heap.size + 1, 1, none⟩ _ _ pr1)
  clear hW1 p1 pz pl nv
  have HNV : Hid ((Value.slice va (t.length + 1 + 1) vc).ownBlock ≠ some (w.heap.size + 1 + 1)) := Lib.hid (fun e => by
    rcases AT.out with h | h
    · rw [h] at e; exact gr1 (Option.some.inj e).symm
    · rw [h] at e; exact absurd (Nat.lt_of_lt_of_le lr (Nat.le_trans AL.out.size (Nat.le_of_eq (Option.some.inj e)))) (Nat.lt_irrefl _))
  obtain ⟨m0, m1, m2⟩ := M1.blk.cells
  have mz := M1.blk.frozen
  obtain ⟨r0, r1, r2⟩ := R1.cells
  have rz := R1.frozen
  have ml := M1.blk.lt
  have rl := R1.lt
  have HM1 := Lib.hid M1
  have HR1 := Lib.hid R1
  have HBB := Lib.hid ((BA.out.mono hB).trans BB)
  clear M1 R1 BB
  go_wp2
  obtain ⟨WF, hWF⟩ : ∃ WF, WF = ((W1.setCell ⟨w.heap.size + 1 + 1, 0, none⟩ (.int .i64 (k + 1))).setCell ⟨w.heap.size + 1 + 1, 1, none⟩ (.slice va (t.length + 1 + 1) vc)).setCell ⟨w.heap.size + 1 + 1, 2, none⟩ (.slice ua o.length uc) := ⟨_, rfl⟩
  rw [← hWF]
  obtain ⟨⟨f0, f1, f2⟩, w1, w2, w3⟩ := change_end2 HM1.out HR1.out HBB.out (by omega) hWF HNV.out HNU.out
  refine bodyPost_ret (v := .agg #[.int .i64 (k + 1), .slice va (t.length + 1 + 1) vc, .slice ua o.length uc]) (by simp [results, Tryd.results22, go_sem, f0, f1, f2]) rfl ?_
  exact ⟨_, _, rfl, w1, w2, HM1.out.ap, w3, by rw [hWF]; repeat (first | with_reducible exact FW.out | with_reducible refine Fr.drew ?_ | (with_reducible refine Fr.set ?_ ?hr; case hr => (first | (left; omega) | exact .inr (.inl rfl) | exact .inr (.inr rfl))))⟩
set_option maxHeartbeats 1000000 in
theorem sCh4 (x1 x2 x3 : Int) (B : Nat) (k : Int) (v u : Value) (o t : List Int) (x y : Int) (w : World) (hB : B ≤ w.heap.size) (hv : w.ownsRow B 3 1 v (t ++ [x, y]).length ((t ++ [x, y]).map (Value.int .i64))) (hu : w.ownsRow B 3 1 u o.length (o.map (Value.int .i64))) (ap : Apart v u) (hn : (t ++ [x, y]).length ≤ 20) (hx : -9841 ≤ x ∧ x ≤ 9841) (hy : -9841 ≤ y ∧ y ≤ 9841) (hk : 0 ≤ k ∧ k ≤ 1000) :
    Calls Tryd.prog 22 #[.agg #[.int .i64 4, .int .i64 x1, .int .i64 x2, .int .i64 x3], .agg #[.int .i64 k, v, u]] w fun e w' => ∃ v' u', e = .returned (.agg #[.int .i64 (k + 1), v', u']) ∧ w'.ownsRow B 3 1 v' (t ++ [Tm.wrapC (x * y)]).length ((t ++ [Tm.wrapC (x * y)]).map (Value.int .i64)) ∧ w'.ownsRow B 3 1 u' o.length (o.map (Value.int .i64)) ∧ Apart v' u' ∧ Below B w w' ∧ Fr v u w w' := by
  obtain ⟨i0, hi, hz0, hz1, hz2⟩ := info_parts infoInt
  obtain ⟨A, hA⟩ : ∃ A, A = ((w.alloc (.cells #[.int .i64 4, .int .i64 x1, .int .i64 x2, .int .i64 x3] 47)).alloc (.cells #[.int .i64 (k + 1), v, u] 28)).alloc (.cells #[.int .i64 0, .slice none 0 0, .slice none 0 0] 28) := ⟨_, rfl⟩
  obtain ⟨sA, bA, mA, rA, a0, a1, a2, a3⟩ := change_start hA hB hv hu ap
  obtain ⟨g, c, rfl, gp, hc, cz, cx⟩ := stack_two mA
  have gl : g < w.heap.size := by have := (hv.lt g rfl).2; omega
  obtain ⟨ua, uc, rfl⟩ := own_form hu
  have HM := Lib.hid mA
  have HR := Lib.hid rA
  obtain ⟨c0, c1, c2⟩ := mA.blk.cells
  have BA := Lib.hid bA
  have HU := Lib.hid hu
  have SA := Lib.hid sA
  have RT := Lib.hid (stack_rest mA)
  have RS := Lib.hid mA.sv
  have l2 : (t ++ [x, y]).length = t.length + 2 := by simp
  rw [l2] at hn RS
  obtain ⟨k0, k9⟩ := hk
  have e1 : IntKind.i64.wrap (k + 1) = k + 1 := IntWalk.i64_in _ (by omega)
  have e2 : IntKind.i64.wrap ((t.length : Int) + 2 - 1) = (t.length : Int) + 1 := by rw [IntWalk.i64_in _ (by omega)]; omega
  have e4 : IntKind.i64.wrap ((t.length : Int) + 2 - 2) = (t.length : Int) := by rw [IntWalk.i64_in _ (by omega)]; omega
  have e5 : IntKind.i64.wrap ((t.length : Int) + 1) = (t.length : Int) + 1 := IntWalk.i64_in _ (by omega)
  have t2 : (t.length : Int) + 1 < (t.length : Int) + 2 := by omega
  have t3 : (0 : Int) ≤ (t.length : Int) + 1 := by omega
  have t4 : ((t.length : Int) + 1).toNat = t.length + 1 := by omega
  have t5 : t.length + 1 < t.length + 2 := by omega
  have e3 : IntKind.i64.wrap (t.length : Int) = (t.length : Int) := IntWalk.i64_in _ (by omega)
  have t0 : (0 : Int) ≤ (t.length : Int) := by omega
  have t1 : (t.length : Int) < (t.length : Int) + 2 := by omega
  have t6 : (t.length : Int) ≤ (c : Int) := by omega
  have t7 : t.length ≤ c := by omega
  have lp : w.heap.size + 1 < A.heap.size := by omega
  have lr : w.heap.size + 1 + 1 < A.heap.size := by omega
  have lg : g < A.heap.size := by omega
  have gn0 : g ≠ w.heap.size + 1 := gp
  have gn1 : w.heap.size + 1 ≠ g := fun e => gp e.symm
  have gr1 : w.heap.size + 1 + 1 ≠ g := by omega
  have pr0 : w.heap.size + 1 ≠ w.heap.size + 1 + 1 := by omega
  have pr1 : w.heap.size + 1 + 1 ≠ w.heap.size + 1 := by omega
  have hBg : B ≤ g := (hv.lt g rfl).1
  have hBA : B ≤ A.heap.size := by omega
  clear mA rA hv hu bA l2 sA
  have mb : (x * y).natAbs ≤ 9841 * 9841 := by rw [Int.natAbs_mul]; exact Nat.mul_le_mul (by omega) (by omega)
  obtain ⟨x0, x9⟩ := hx
  obtain ⟨y0, y9⟩ := hy
  have ew : IntKind.i64.wrap (x * y) = x * y := IntWalk.i64_in _ (by omega)
  clear mb
  have HNU : Hid ((Value.slice ua o.length uc).ownBlock ≠ some (w.heap.size + 1 + 1)) := Lib.hid (fun e => by have := (HU.out.lt _ e).2; omega)
  go_enter Tryd.func22, Tryd.ntmps22
  go_wp2_with fail
  rw [← hA]
  clear hA
  have HS : Hid ((fun W : World => W.cell? ⟨w.heap.size + 1, 1, none⟩ = some (.slice (some ⟨g, 0, none⟩) (t.length + 2) c) ∧ W.cell? ⟨g, t.length, none⟩ = some (.int .i64 x) ∧ W.cell? ⟨g, t.length + 1, none⟩ = some (.int .i64 y)) A.drew) := Lib.hid ⟨c1, cz, cx⟩
  refine wp_region_T [20, 22] (fun W : World => W.cell? ⟨w.heap.size + 1, 1, none⟩ = some (.slice (some ⟨g, 0, none⟩) (t.length + 2) c) ∧ W.cell? ⟨g, t.length, none⟩ = some (.int .i64 x) ∧ W.cell? ⟨g, t.length + 1, none⟩ = some (.int .i64 y)) (by kernel_rfl) ?_
  refine wpAnyT_take (i := 0) (v := ?v39) rfl (by kernel_rfl) (by kernel_rfl) (by kernel_rfl) (by kernel_rfl) (by kernel_rfl) (fun _ _ _ h => h) HS.out rfl ?hy39 ?hh39
  case hy39 => (intro W hW; obtain ⟨h1, h2, h3⟩ := hW; go_simp; try with_reducible rfl)
  case hh39 =>
  (try simp only [Act.put])
  refine wpAnyT_take (i := 1) (v := ?v40) rfl (by kernel_rfl) (by kernel_rfl) (by kernel_rfl) (by kernel_rfl) (by kernel_rfl) (fun _ _ _ h => h) HS.out rfl ?hy40 ?hh40
  case hy40 => (intro W hW; obtain ⟨h1, h2, h3⟩ := hW; go_simp; try with_reducible rfl)
  case hh40 =>
  (try simp only [Act.put])
  refine wpAnyT_take (i := 2) (v := ?v41) rfl (by kernel_rfl) (by kernel_rfl) (by kernel_rfl) (by kernel_rfl) (by kernel_rfl) (fun _ _ _ h => h) HS.out rfl ?hy41 ?hh41
  case hy41 => (intro W hW; obtain ⟨h1, h2, h3⟩ := hW; go_simp; try with_reducible rfl)
  case hh41 =>
  (try simp only [Act.put])
  refine wpAnyT_take (i := 3) (v := ?v42) rfl (by kernel_rfl) (by kernel_rfl) (by kernel_rfl) (by kernel_rfl) (by kernel_rfl) (fun _ _ _ h => h) HS.out rfl ?hy42 ?hh42
  case hy42 => (intro W hW; obtain ⟨h1, h2, h3⟩ := hW; go_simp; try with_reducible rfl)
  case hh42 =>
  (try simp only [Act.put])
  refine wpAnyT_take (i := 4) (v := ?v43) rfl (by kernel_rfl) (by kernel_rfl) (by kernel_rfl) (by kernel_rfl) (by kernel_rfl) (fun _ _ _ h => h) HS.out rfl ?hy43 ?hh43
  case hy43 => (intro W hW; obtain ⟨h1, h2, h3⟩ := hW; go_simp; try with_reducible rfl)
  case hh43 =>
  (try simp only [Act.put])
  refine wpAnyT_take (i := 5) (v := ?v44) rfl (by kernel_rfl) (by kernel_rfl) (by kernel_rfl) (by kernel_rfl) (by kernel_rfl) (fun _ _ _ h => h) HS.out rfl ?hy44 ?hh44
  case hy44 => (intro W hW; obtain ⟨h1, h2, h3⟩ := hW; go_simp; try with_reducible rfl)
  case hh44 =>
  (try simp only [Act.put])
  refine wpAnyT_take (i := 6) (v := ?v45) rfl (by kernel_rfl) (by kernel_rfl) (by kernel_rfl) (by kernel_rfl) (by kernel_rfl) (fun _ _ _ h => h) HS.out rfl ?hy45 ?hh45
  case hy45 => (intro W hW; obtain ⟨h1, h2, h3⟩ := hW; go_simp; try with_reducible rfl)
  case hh45 =>
  (try simp only [Act.put])
  refine wpAnyT_take (i := 7) (v := ?v46) rfl (by kernel_rfl) (by kernel_rfl) (by kernel_rfl) (by kernel_rfl) (by kernel_rfl) (fun _ _ _ h => h) HS.out rfl ?hy46 ?hh46
  case hy46 => (intro W hW; obtain ⟨h1, h2, h3⟩ := hW; go_simp; try with_reducible rfl)
  case hh46 =>
  (try simp only [Act.put])
  refine wpAnyT_take (i := 8) (v := ?v47) rfl (by kernel_rfl) (by kernel_rfl) (by kernel_rfl) (by kernel_rfl) (by kernel_rfl) (fun _ _ _ h => h) HS.out rfl ?hy47 ?hh47
  case hy47 => (intro W hW; obtain ⟨h1, h2, h3⟩ := hW; go_simp; try with_reducible rfl)
  case hh47 =>
  (try simp only [Act.put])
  refine wpAnyT_take (i := 9) (v := ?v48) rfl (by kernel_rfl) (by kernel_rfl) (by kernel_rfl) (by kernel_rfl) (by kernel_rfl) (fun _ _ _ h => h) HS.out rfl ?hy48 ?hh48
  case hy48 => (intro W hW; obtain ⟨h1, h2, h3⟩ := hW; go_simp; try with_reducible rfl)
  case hh48 =>
  (try simp only [Act.put])
  refine wpAnyT_take (i := 10) (v := ?v49) rfl (by kernel_rfl) (by kernel_rfl) (by kernel_rfl) (by kernel_rfl) (by kernel_rfl) (fun _ _ _ h => h) HS.out rfl ?hy49 ?hh49
  case hy49 => (intro W hW; obtain ⟨h1, h2, h3⟩ := hW; go_simp; try with_reducible rfl)
  case hh49 =>
  (try simp only [Act.put])
  refine wpAnyT_take (i := 11) (v := ?v50) rfl (by kernel_rfl) (by kernel_rfl) (by kernel_rfl) (by kernel_rfl) (by kernel_rfl) (fun _ _ _ h => h) HS.out rfl ?hy50 ?hh50
  case hy50 => (intro W hW; obtain ⟨h1, h2, h3⟩ := hW; go_simp; try with_reducible rfl)
  case hh50 =>
  (try simp only [Act.put])
  refine wpAnyT_take (i := 12) (v := ?v51) rfl (by kernel_rfl) (by kernel_rfl) (by kernel_rfl) (by kernel_rfl) (by kernel_rfl) (fun _ _ _ h => h) HS.out rfl ?hy51 ?hh51
  case hy51 => (intro W hW; obtain ⟨h1, h2, h3⟩ := hW; go_simp; try with_reducible rfl)
  case hh51 =>
  (try simp only [Act.put])
  refine wpAnyT_take (i := 13) (v := ?v52) rfl (by kernel_rfl) (by kernel_rfl) (by kernel_rfl) (by kernel_rfl) (by kernel_rfl) (fun _ _ _ h => h) HS.out rfl ?hy52 ?hh52
  case hy52 => (intro W hW; obtain ⟨h1, h2, h3⟩ := hW; go_simp; try with_reducible rfl)
  case hh52 =>
  (try simp only [Act.put])
  refine wpAnyT_take (i := 14) (v := ?v53) rfl (by kernel_rfl) (by kernel_rfl) (by kernel_rfl) (by kernel_rfl) (by kernel_rfl) (fun _ _ _ h => h) HS.out rfl ?hy53 ?hh53
  case hy53 => (intro W hW; obtain ⟨h1, h2, h3⟩ := hW; go_simp; try with_reducible rfl)
  case hh53 =>
  (try simp only [Act.put])
  refine wpAnyT_take (i := 15) (v := ?v54) rfl (by kernel_rfl) (by kernel_rfl) (by kernel_rfl) (by kernel_rfl) (by kernel_rfl) (fun _ _ _ h => h) HS.out rfl ?hy54 ?hh54
  case hy54 => (intro W hW; obtain ⟨h1, h2, h3⟩ := hW; go_simp; try with_reducible rfl)
  case hh54 =>
  (try simp only [Act.put])
  refine wpAnyT_take (i := 16) (v := ?v55) rfl (by kernel_rfl) (by kernel_rfl) (by kernel_rfl) (by kernel_rfl) (by kernel_rfl) (fun _ _ _ h => h) HS.out rfl ?hy55 ?hh55
  case hy55 => (intro W hW; obtain ⟨h1, h2, h3⟩ := hW; go_simp; try with_reducible rfl)
  case hh55 =>
  (try simp only [Act.put])
  refine wpAnyT_take (i := 17) (v := ?v56) rfl (by kernel_rfl) (by kernel_rfl) (by kernel_rfl) (by kernel_rfl) (by kernel_rfl) (fun _ _ _ h => h) HS.out rfl ?hy56 ?hh56
  case hy56 => (intro W hW; obtain ⟨h1, h2, h3⟩ := hW; go_simp; try with_reducible rfl)
  case hh56 =>
  (try simp only [Act.put])
  refine wpAnyT_only (i := 18) rfl (by kernel_rfl) (fun K hK => ?_)
  go_simp
  go_at_call 37
  refine (sWrapCell _ _).mono ?_
  rintro e w1 ⟨rfl, rfl⟩
  refine hK _ _ (fun _ _ => HS.out) ?_
  clear hK K
  (try simp only [Act.put])
  have AL : Hid (Below A.heap.size A (A.drew.alloc (.cells #[.int .i64 (Tm.wrapC (x * y))] 3))) := Lib.hid ((Below.drew (Below.refl _ _)).alloc (Nat.le_refl _) _)
  have HS2 : Hid ((fun W : World => W.cell? ⟨w.heap.size + 1, 1, none⟩ = some (.slice (some ⟨g, 0, none⟩) (t.length + 2) c) ∧ W.cell? ⟨g, t.length, none⟩ = some (.int .i64 x) ∧ W.cell? ⟨g, t.length + 1, none⟩ = some (.int .i64 y)) (A.drew.alloc (.cells #[.int .i64 (Tm.wrapC (x * y))] 3))) := Lib.hid ⟨by rw [← c1]; exact AL.out.cell (p := ⟨_, _, none⟩) lp, by rw [← cz]; exact AL.out.cell (p := ⟨_, _, none⟩) lg, by rw [← cx]; exact AL.out.cell (p := ⟨_, _, none⟩) lg⟩
  refine wpAnyT_only (i := 19) rfl (by kernel_rfl) (fun K hK => ?_)
  go_simp
  refine hK _ _ (fun _ _ => HS2.out) ?_
  clear hK K HS HS2
  (try simp only [Act.put])
  refine wpAnyT_only (i := 20) rfl (by kernel_rfl) (fun K hK => ?_)
  refine step_append_at rfl (.tmp 79) (.tmp 94) 23 rfl B 3 i0 (.int .i64 0) 1 8 Tryd.underlying23 hi hz0 hz1 hz2 rfl (by decide) (.slice (some ⟨g, 0, none⟩) t.length c) (t.length) (t.map (Value.int .i64)) (by simp [Act.eval]) (own_below RT.out AL.out) ⟨A.heap.size, 0, none⟩ 1 1 [.int .i64 (Tm.wrapC (x * y))] (by simp [Act.eval]) rfl (app_c1 A.drew _ _) (app_c2 _) (by unfold maxLen; omega) (by omega) (Nat.le_trans hBA AL.out.size) ?_
  intro v' w2 hown hg hat
  obtain ⟨va, vc, rfl⟩ := own_form hown
  refine hK _ _ (fun h => (h (by decide)).elim) ?_
  clear hK K
  (try simp only [Act.put])
  refine wpAnyT_takeA (i := 21) (v := ?v57) rfl (by kernel_rfl) (by kernel_rfl) (by kernel_rfl) (fun _ _ _ h => h) rfl ?hy57 ?hh57
  case hy57 => (intro W; go_simp; try with_reducible rfl)
  case hh57 =>
  (try simp only [Act.put])
  have P2 : Hid (Blk3 w2 (w.heap.size + 1) (.int .i64 (k + 1)) (.slice (some ⟨g, 0, none⟩) (t.length + 2) c) (.slice ua o.length uc) 28) := Lib.hid ((HM.out.blk.later AL.out).keep (hg.block _ (Nat.lt_of_lt_of_le lp AL.out.size) (fun e => gn1 (Option.some.inj e))))
  have R2 : Hid (Blk3 w2 (w.heap.size + 1 + 1) (.int .i64 0) (.slice none 0 0) (.slice none 0 0) 28) := Lib.hid ((HR.out.later AL.out).keep (hg.block _ (Nat.lt_of_lt_of_le lr AL.out.size) (fun e => gr1 (Option.some.inj e))))
  have p1 := P2.out.cells.2.1
  have pz := P2.out.frozen
  have pl := P2.out.lt
  have TV : Hid (TurnV (w.heap.size + 1) (.slice (some ⟨g, 0, none⟩) (t.length + 2) c) A w2) := Lib.hid (((TurnV.refl _ _ A).of_below AL.out).grown hg rfl)
  have OW := Lib.hid hown
  have AT := Lib.hid hat
  have nv : (Value.slice va (t.length + 1) vc).ownBlock ≠ some (w.heap.size + 1) := fun e => by
    rcases hat with h | h
    · rw [h] at e; exact gp (Option.some.inj e)
    · rw [h] at e; exact absurd (Nat.lt_of_lt_of_le lp (Nat.le_trans AL.out.size (Nat.le_of_eq (Option.some.inj e)))) (Nat.lt_irrefl _)
  clear hg hat hown
  refine wpAnyT_only (i := 22) rfl (by kernel_rfl) (fun K hK => ?_)
  go_simp
  refine hK _ _ (fun h => (h (by decide)).elim) ?_
  clear hK K
  refine wpAnyT_done (by kernel_rfl) ?_ _
  obtain ⟨W1, hW1⟩ : ∃ W1, W1 = w2.setCell ⟨w.heap.size + 1, 1, none⟩ (.slice va (t.length + 1) vc) := ⟨_, rfl⟩
  rw [← hW1]
  have B1 : Blk3 W1 (w.heap.size + 1) (.int .i64 (k + 1)) (.slice va (t.length + 1) vc) (.slice ua o.length uc) 28 := by rw [hW1]; exact P2.out.set1 _
  have O1 : W1.ownsRow B 3 1 (.slice va (t.length + 1) vc) (t ++ [Tm.wrapC (x * y)]).length ((t ++ [Tm.wrapC (x * y)]).map (Value.int .i64)) := by
    rw [hW1, List.length_append, List.map_append]
    exact own_set_far OW.out nv
  obtain ⟨M1, BB⟩ := HM.out.turn (by rw [hW1]; exact TV.out.set 1 _) B1 O1 (by
    rcases AT.out with e | e
    · exact .inl e
    · exact .inr ⟨_, e, AL.out.size⟩)
  have FW : Hid (Fr (.slice (some ⟨g, 0, none⟩) (t.length + 2) c) (.slice ua o.length uc) w W1) := Lib.hid (Fr.turn BA.out (by rw [hW1]; exact TV.out.set 1 _) (by omega))
  have R1 : Blk3 W1 (w.heap.size + 1 + 1) (.int .i64 0) (.slice none 0 0) (.slice none 0 0) 28 := by rw [hW1]; exact R2.out.keep (heap_setCell_other _ ⟨w.heap.size + 1, 1, none⟩ _ _ pr1)
  clear hW1 p1 pz pl nv
  have HNV : Hid ((Value.slice va (t.length + 1) vc).ownBlock ≠ some (w.heap.size + 1 + 1)) := Lib.hid (fun e => by
    rcases AT.out with h | h
    · rw [h] at e; exact gr1 (Option.some.inj e).symm
    · rw [h] at e; exact absurd (Nat.lt_of_lt_of_le lr (Nat.le_trans AL.out.size (Nat.le_of_eq (Option.some.inj e)))) (Nat.lt_irrefl _))
  obtain ⟨m0, m1, m2⟩ := M1.blk.cells
  have mz := M1.blk.frozen
  obtain ⟨r0, r1, r2⟩ := R1.cells
  have rz := R1.frozen
  have ml := M1.blk.lt
  have rl := R1.lt
  have HM1 := Lib.hid M1
  have HR1 := Lib.hid R1
  have HBB := Lib.hid ((BA.out.mono hB).trans BB)
  clear M1 R1 BB
  go_wp2
  obtain ⟨WF, hWF⟩ : ∃ WF, WF = ((W1.setCell ⟨w.heap.size + 1 + 1, 0, none⟩ (.int .i64 (k + 1))).setCell ⟨w.heap.size + 1 + 1, 1, none⟩ (.slice va (t.length + 1) vc)).setCell ⟨w.heap.size + 1 + 1, 2, none⟩ (.slice ua o.length uc) := ⟨_, rfl⟩
  rw [← hWF]
  obtain ⟨⟨f0, f1, f2⟩, w1, w2, w3⟩ := change_end2 HM1.out HR1.out HBB.out (by omega) hWF HNV.out HNU.out
  refine bodyPost_ret (v := .agg #[.int .i64 (k + 1), .slice va (t.length + 1) vc, .slice ua o.length uc]) (by simp [results, Tryd.results22, go_sem, f0, f1, f2]) rfl ?_
  exact ⟨_, _, rfl, w1, w2, HM1.out.ap, w3, by rw [hWF]; repeat (first | with_reducible exact FW.out | with_reducible refine Fr.drew ?_ | (with_reducible refine Fr.set ?_ ?hr; case hr => (first | (left; omega) | exact .inr (.inl rfl) | exact .inr (.inr rfl))))⟩
set_option maxHeartbeats 1000000 in
theorem sCh10 (x1 x2 x3 : Int) (B : Nat) (k : Int) (v u : Value) (o t : List Int) (x : Int) (w : World) (hB : B ≤ w.heap.size) (hv : w.ownsRow B 3 1 v (t ++ [x]).length ((t ++ [x]).map (Value.int .i64))) (hu : w.ownsRow B 3 1 u o.length (o.map (Value.int .i64))) (ap : Apart v u) (hn : (t ++ [x]).length ≤ 20) (hx : -9841 ≤ x ∧ x ≤ 9841) (hx1 : -9 ≤ x1 ∧ x1 ≤ 9) (hk : 0 ≤ k ∧ k ≤ 1000) :
    Calls Tryd.prog 22 #[.agg #[.int .i64 10, .int .i64 x1, .int .i64 x2, .int .i64 x3], .agg #[.int .i64 k, v, u]] w fun e w' => ∃ v' u', e = .returned (.agg #[.int .i64 (k + 1), v', u']) ∧ w'.ownsRow B 3 1 v' (t ++ [Tm.shC x x1]).length ((t ++ [Tm.shC x x1]).map (Value.int .i64)) ∧ w'.ownsRow B 3 1 u' o.length (o.map (Value.int .i64)) ∧ Apart v' u' ∧ Below B w w' ∧ Fr v u w w' := by
  obtain ⟨i0, hi, hz0, hz1, hz2⟩ := info_parts infoInt
  obtain ⟨A, hA⟩ : ∃ A, A = ((w.alloc (.cells #[.int .i64 10, .int .i64 x1, .int .i64 x2, .int .i64 x3] 47)).alloc (.cells #[.int .i64 (k + 1), v, u] 28)).alloc (.cells #[.int .i64 0, .slice none 0 0, .slice none 0 0] 28) := ⟨_, rfl⟩
  obtain ⟨sA, bA, mA, rA, a0, a1, a2, a3⟩ := change_start hA hB hv hu ap
  obtain ⟨g, c, rfl, gp, hc, cx⟩ := stack_one mA
  have gl : g < w.heap.size := by have := (hv.lt g rfl).2; omega
  obtain ⟨ua, uc, rfl⟩ := own_form hu
  have HM := Lib.hid mA
  have HR := Lib.hid rA
  obtain ⟨c0, c1, c2⟩ := mA.blk.cells
  have BA := Lib.hid bA
  have HU := Lib.hid hu
  have SA := Lib.hid sA
  have RT := Lib.hid (stack_rest mA)
  have RS := Lib.hid mA.sv
  have l2 : (t ++ [x]).length = t.length + 1 := by simp
  rw [l2] at hn RS
  obtain ⟨k0, k9⟩ := hk
  have e1 : IntKind.i64.wrap (k + 1) = k + 1 := IntWalk.i64_in _ (by omega)
  have e2 : IntKind.i64.wrap ((t.length : Int) + 1 - 1) = (t.length : Int) := by rw [IntWalk.i64_in _ (by omega)]; omega
  have t5 : t.length < t.length + 1 := by omega
  have e3 : IntKind.i64.wrap (t.length : Int) = (t.length : Int) := IntWalk.i64_in _ (by omega)
  have t0 : (0 : Int) ≤ (t.length : Int) := by omega
  have t1 : (t.length : Int) < (t.length : Int) + 1 := by omega
  have t6 : (t.length : Int) ≤ (c : Int) := by omega
  have t7 : t.length ≤ c := by omega
  have lp : w.heap.size + 1 < A.heap.size := by omega
  have lr : w.heap.size + 1 + 1 < A.heap.size := by omega
  have lg : g < A.heap.size := by omega
  have gn0 : g ≠ w.heap.size + 1 := gp
  have gn1 : w.heap.size + 1 ≠ g := fun e => gp e.symm
  have gr1 : w.heap.size + 1 + 1 ≠ g := by omega
  have pr0 : w.heap.size + 1 ≠ w.heap.size + 1 + 1 := by omega
  have pr1 : w.heap.size + 1 + 1 ≠ w.heap.size + 1 := by omega
  have hBg : B ≤ g := (hv.lt g rfl).1
  have hBA : B ≤ A.heap.size := by omega
  clear mA rA hv hu bA l2 sA
  have HNU : Hid ((Value.slice ua o.length uc).ownBlock ≠ some (w.heap.size + 1 + 1)) := Lib.hid (fun e => by have := (HU.out.lt _ e).2; omega)
  have HNV : Hid ((Value.slice (some ⟨g, 0, none⟩) (t.length + 1) c).ownBlock ≠ some (w.heap.size + 1 + 1)) := Lib.hid (fun e => gr1 (Option.some.inj e).symm)
  have lq : w.heap.size < A.heap.size := by omega
  have LSH := Lib.hid (fun W => sShift7 x x1 W hx.1 hx.2 hx1.1 hx1.2)
  have gp0 : g ≠ w.heap.size := by omega
  clear hx hx1
  go_enter Tryd.func22, Tryd.ntmps22
  go_wp2_with fail
  rw [← hA]
  clear hA
  have HS : Hid ((fun W : World => W.cell? ⟨w.heap.size + 1, 1, none⟩ = some (.slice (some ⟨g, 0, none⟩) (t.length + 1) c) ∧ W.cell? ⟨g, t.length, none⟩ = some (.int .i64 x) ∧ W.cell? ⟨w.heap.size, 1, none⟩ = some (.int .i64 x1)) A.drew) := Lib.hid ⟨c1, cx, a1⟩
  refine wp_region_T [14] (fun W : World => W.cell? ⟨w.heap.size + 1, 1, none⟩ = some (.slice (some ⟨g, 0, none⟩) (t.length + 1) c) ∧ W.cell? ⟨g, t.length, none⟩ = some (.int .i64 x) ∧ W.cell? ⟨w.heap.size, 1, none⟩ = some (.int .i64 x1)) (by kernel_rfl) ?_
  refine wpAnyT_take (i := 0) (v := ?v67) rfl (by kernel_rfl) (by kernel_rfl) (by kernel_rfl) (by kernel_rfl) (by kernel_rfl) (fun _ _ _ h => h) HS.out rfl ?hy67 ?hh67
  case hy67 => (intro W hW; obtain ⟨h1, h2, h3⟩ := hW; go_simp; try with_reducible rfl)
  case hh67 =>
  (try simp only [Act.put])
  refine wpAnyT_take (i := 1) (v := ?v68) rfl (by kernel_rfl) (by kernel_rfl) (by kernel_rfl) (by kernel_rfl) (by kernel_rfl) (fun _ _ _ h => h) HS.out rfl ?hy68 ?hh68
  case hy68 => (intro W hW; obtain ⟨h1, h2, h3⟩ := hW; go_simp; try with_reducible rfl)
  case hh68 =>
  (try simp only [Act.put])
  refine wpAnyT_take (i := 2) (v := ?v69) rfl (by kernel_rfl) (by kernel_rfl) (by kernel_rfl) (by kernel_rfl) (by kernel_rfl) (fun _ _ _ h => h) HS.out rfl ?hy69 ?hh69
  case hy69 => (intro W hW; obtain ⟨h1, h2, h3⟩ := hW; go_simp; try with_reducible rfl)
  case hh69 =>
  (try simp only [Act.put])
  refine wpAnyT_take (i := 3) (v := ?v70) rfl (by kernel_rfl) (by kernel_rfl) (by kernel_rfl) (by kernel_rfl) (by kernel_rfl) (fun _ _ _ h => h) HS.out rfl ?hy70 ?hh70
  case hy70 => (intro W hW; obtain ⟨h1, h2, h3⟩ := hW; go_simp; try with_reducible rfl)
  case hh70 =>
  (try simp only [Act.put])
  refine wpAnyT_take (i := 4) (v := ?v71) rfl (by kernel_rfl) (by kernel_rfl) (by kernel_rfl) (by kernel_rfl) (by kernel_rfl) (fun _ _ _ h => h) HS.out rfl ?hy71 ?hh71
  case hy71 => (intro W hW; obtain ⟨h1, h2, h3⟩ := hW; go_simp; try with_reducible rfl)
  case hh71 =>
  (try simp only [Act.put])
  refine wpAnyT_take (i := 5) (v := ?v72) rfl (by kernel_rfl) (by kernel_rfl) (by kernel_rfl) (by kernel_rfl) (by kernel_rfl) (fun _ _ _ h => h) HS.out rfl ?hy72 ?hh72
  case hy72 => (intro W hW; obtain ⟨h1, h2, h3⟩ := hW; go_simp; try with_reducible rfl)
  case hh72 =>
  (try simp only [Act.put])
  refine wpAnyT_take (i := 6) (v := ?v73) rfl (by kernel_rfl) (by kernel_rfl) (by kernel_rfl) (by kernel_rfl) (by kernel_rfl) (fun _ _ _ h => h) HS.out rfl ?hy73 ?hh73
  case hy73 => (intro W hW; obtain ⟨h1, h2, h3⟩ := hW; go_simp; try with_reducible rfl)
  case hh73 =>
  (try simp only [Act.put])
  refine wpAnyT_take (i := 7) (v := ?v74) rfl (by kernel_rfl) (by kernel_rfl) (by kernel_rfl) (by kernel_rfl) (by kernel_rfl) (fun _ _ _ h => h) HS.out rfl ?hy74 ?hh74
  case hy74 => (intro W hW; obtain ⟨h1, h2, h3⟩ := hW; go_simp; try with_reducible rfl)
  case hh74 =>
  (try simp only [Act.put])
  refine wpAnyT_take (i := 8) (v := ?v75) rfl (by kernel_rfl) (by kernel_rfl) (by kernel_rfl) (by kernel_rfl) (by kernel_rfl) (fun _ _ _ h => h) HS.out rfl ?hy75 ?hh75
  case hy75 => (intro W hW; obtain ⟨h1, h2, h3⟩ := hW; go_simp; try with_reducible rfl)
  case hh75 =>
  (try simp only [Act.put])
  refine wpAnyT_take (i := 9) (v := ?v76) rfl (by kernel_rfl) (by kernel_rfl) (by kernel_rfl) (by kernel_rfl) (by kernel_rfl) (fun _ _ _ h => h) HS.out rfl ?hy76 ?hh76
  case hy76 => (intro W hW; obtain ⟨h1, h2, h3⟩ := hW; go_simp; try with_reducible rfl)
  case hh76 =>
  (try simp only [Act.put])
  refine wpAnyT_take (i := 10) (v := ?v77) rfl (by kernel_rfl) (by kernel_rfl) (by kernel_rfl) (by kernel_rfl) (by kernel_rfl) (fun _ _ _ h => h) HS.out rfl ?hy77 ?hh77
  case hy77 => (intro W hW; obtain ⟨h1, h2, h3⟩ := hW; go_simp; try with_reducible rfl)
  case hh77 =>
  (try simp only [Act.put])
  refine wpAnyT_take (i := 11) (v := ?v78) rfl (by kernel_rfl) (by kernel_rfl) (by kernel_rfl) (by kernel_rfl) (by kernel_rfl) (fun _ _ _ h => h) HS.out rfl ?hy78 ?hh78
  case hy78 => (intro W hW; obtain ⟨h1, h2, h3⟩ := hW; go_simp; try with_reducible rfl)
  case hh78 =>
  (try simp only [Act.put])
  refine wpAnyT_only (i := 12) rfl (by kernel_rfl) (fun K hK => ?_)
  go_simp
  go_at_call 39
  refine (LSH.out _).mono ?_
  rintro e w3 ⟨rfl, hb⟩
  have AL : Hid (Below A.heap.size A w3) := Lib.hid ((Below.drew (Below.refl _ _)).trans hb)
  have HS3 : Hid ((fun W : World => W.cell? ⟨w.heap.size + 1, 1, none⟩ = some (.slice (some ⟨g, 0, none⟩) (t.length + 1) c) ∧ W.cell? ⟨g, t.length, none⟩ = some (.int .i64 x) ∧ W.cell? ⟨w.heap.size, 1, none⟩ = some (.int .i64 x1)) w3) := Lib.hid ⟨by rw [← c1]; exact AL.out.cell (p := ⟨_, _, none⟩) lp, by rw [← cx]; exact AL.out.cell (p := ⟨_, _, none⟩) lg, by rw [← a1]; exact AL.out.cell (p := ⟨_, _, none⟩) lq⟩
  refine hK _ _ (fun _ _ => HS3.out) ?_
  clear hK K hb
  (try simp only [Act.put])
  refine wpAnyT_takeA (i := 13) (v := ?v79) rfl (by kernel_rfl) (by kernel_rfl) (by kernel_rfl) (fun _ _ _ h => h) rfl ?hy79 ?hh79
  case hy79 => (intro W; go_simp; try with_reducible rfl)
  case hh79 =>
  (try simp only [Act.put])
  have M3 := HM.out.later AL.out
  have R3 := Lib.hid (HR.out.later AL.out)
  have sv3 := M3.sv
  have cx3 := HS3.out.2.1
  have l2 : (t ++ [x]).length = t.length + 1 := by simp
  rw [l2] at sv3
  have fz3 := sv3.frozenAt t.length
  have gl3 : g < w3.heap.size := (sv3.lt g rfl).2
  obtain ⟨z, hz⟩ : ∃ z, z = Tm.shC x x1 := ⟨_, rfl⟩
  have HZ := Lib.hid hz
  obtain ⟨o1, g1⟩ := sv3.stored t.length (.int .i64 z)
  have L1 : (List.map (Value.int .i64) (t ++ [x])).set t.length (.int .i64 z) = List.map (Value.int .i64) (t ++ [z]) := by
    rw [← List.map_set]; congr 1; simp
  rw [L1] at o1
  have OZ := Lib.hid o1
  have GZ := Lib.hid g1
  have M3H := Lib.hid M3
  clear M3 sv3 o1 g1 l2 L1
  rw [← hz]
  clear hz
  refine wpAnyT_only (i := 14) rfl (by kernel_rfl) (fun K hK => ?_)
  go_simp
  refine hK _ _ (fun h => (h (by decide)).elim) ?_
  clear hK K
  refine wpAnyT_done (by kernel_rfl) ?_ _
  obtain ⟨W1, hW1⟩ : ∃ W1, W1 = w3.setCell ⟨g, t.length, none⟩ (.int .i64 z) := ⟨_, rfl⟩
  rw [← hW1]
  rw [← hW1] at OZ GZ
  have M1 : MSt W1 B (w.heap.size + 1) (k + 1) (.slice (some ⟨g, 0, none⟩) (t.length + 1) c) (t ++ [z]) (.slice ua o.length uc) o := ⟨M3H.out.blk.keep (GZ.out.block _ M3H.out.blk.lt (fun e => gn1 (Option.some.inj e))), M3H.out.low, by rw [List.length_append, List.length_singleton]; exact OZ.out, own_stable M3H.out.ou fun q hq => GZ.out.block q (M3H.out.ou.lt q hq).2 (fun e => M3H.out.ap g rfl (e ▸ hq)), M3H.out.ap, M3H.out.vp, M3H.out.up⟩
  have R1 : Blk3 W1 (w.heap.size + 1 + 1) (.int .i64 0) (.slice none 0 0) (.slice none 0 0) 28 := R3.out.keep (GZ.out.block _ R3.out.lt (fun e => gr1 (Option.some.inj e)))
  have BB : Below B A W1 := by rw [hW1]; exact (AL.out.mono hBA).setCell hBg _
  have FW : Hid (Fr (.slice (some ⟨g, 0, none⟩) (t.length + 1) c) (.slice ua o.length uc) w W1) := Lib.hid (by rw [hW1]; exact (Fr.start (BA.out.trans (AL.out.mono (by omega)))).set (.inr (.inl rfl)))
  clear hW1 cx3 fz3 gl3
  obtain ⟨m0, m1, m2⟩ := M1.blk.cells
  have mz := M1.blk.frozen
  obtain ⟨r0, r1, r2⟩ := R1.cells
  have rz := R1.frozen
  have ml := M1.blk.lt
  have rl := R1.lt
  have HM1 := Lib.hid M1
  have HR1 := Lib.hid R1
  have HBB := Lib.hid ((BA.out.mono hB).trans BB)
  clear M1 R1 BB
  go_wp2
  obtain ⟨WF, hWF⟩ : ∃ WF, WF = ((W1.setCell ⟨w.heap.size + 1 + 1, 0, none⟩ (.int .i64 (k + 1))).setCell ⟨w.heap.size + 1 + 1, 1, none⟩ (.slice (some ⟨g, 0, none⟩) (t.length + 1) c)).setCell ⟨w.heap.size + 1 + 1, 2, none⟩ (.slice ua o.length uc) := ⟨_, rfl⟩
  rw [← hWF]
  obtain ⟨⟨f0, f1, f2⟩, w1, w2, w4⟩ := change_end2 HM1.out HR1.out HBB.out (by omega) hWF HNV.out HNU.out
  refine bodyPost_ret (v := .agg #[.int .i64 (k + 1), (.slice (some ⟨g, 0, none⟩) (t.length + 1) c), .slice ua o.length uc]) (by simp [results, Tryd.results22, go_sem, f0, f1, f2]) rfl ?_
  try rw [← HZ.out]
  first
    | exact ⟨_, _, rfl, w1, w2, HM1.out.ap, w4, by rw [hWF]; repeat (first | with_reducible exact FW.out | with_reducible refine Fr.drew ?_ | (with_reducible refine Fr.set ?_ ?hr; case hr => (first | (left; omega) | exact .inr (.inl rfl) | exact .inr (.inr rfl))))⟩
    | exact ⟨_, _, rfl, by simpa using w1, w2, HM1.out.ap, w4, by rw [hWF]; repeat (first | with_reducible exact FW.out | with_reducible refine Fr.drew ?_ | (with_reducible refine Fr.set ?_ ?hr; case hr => (first | (left; omega) | exact .inr (.inl rfl) | exact .inr (.inr rfl))))⟩
end Go.Proofs.YtlpdeeaebgclpaaDoor

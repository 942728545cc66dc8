/- The model's machine: an operation is executed: sCh14n. Written by tools/laws/mch.py. The model's machine: an operation is executed: sCh14z. Written by tools/laws/mch.py. The model's machine: an operation is executed: sCh14p. Written by tools/laws/mch.py. -/
import Derived.Test.YtlpdeeaebgclpaaDoorMS3
namespace Go.Proofs.YtlpdeeaebgclpaaDoor
set_option maxRecDepth 20000
open Go.RowKit
set_option maxHeartbeats 1000000 in
theorem sCh14n (x1 x2 x3 : Int) (B : Nat) (k : Int) (v u : Value) (o t : List Int) (x : Int) (w : World) (hB : B ≤ w.heap.size) (hv : w.ownsRow B 3 1 v (t ++ [x]).length ((t ++ [x]).map (Value.int .i64))) (hu : w.ownsRow B 3 1 u o.length (o.map (Value.int .i64))) (ap : Apart v u) (hn : (t ++ [x]).length ≤ 20) (hx : x < 0) (hk : 0 ≤ k ∧ k ≤ 1000) :
    Calls Tryd.prog 22 #[.agg #[.int .i64 14, .int .i64 x1, .int .i64 x2, .int .i64 x3], .agg #[.int .i64 k, v, u]] w fun e w' => ∃ v' u', e = .returned (.agg #[.int .i64 x1, v', u']) ∧ w'.ownsRow B 3 1 v' (t).length ((t).map (Value.int .i64)) ∧ w'.ownsRow B 3 1 u' o.length (o.map (Value.int .i64)) ∧ Apart v' u' ∧ Below B w w' ∧ Fr v u w w' := by
  obtain ⟨i0, hi, hz0, hz1, hz2⟩ := info_parts infoInt
  obtain ⟨A, hA⟩ : ∃ A, A = ((w.alloc (.cells #[.int .i64 14, .int .i64 x1, .int .i64 x2, .int .i64 x3] 47)).alloc (.cells #[.int .i64 (k + 1), v, u] 28)).alloc (.cells #[.int .i64 0, .slice none 0 0, .slice none 0 0] 28) := ⟨_, rfl⟩
  obtain ⟨sA, bA, mA, rA, a0, a1, a2, a3⟩ := change_start hA hB hv hu ap
  obtain ⟨g, c, rfl, gp, hc, cx⟩ := stack_one mA
  have gl : g < w.heap.size := by have := (hv.lt g rfl).2; omega
  obtain ⟨ua, uc, rfl⟩ := own_form hu
  have HM := Lib.hid mA
  have HR := Lib.hid rA
  obtain ⟨c0, c1, c2⟩ := mA.blk.cells
  have BA := Lib.hid bA
  have HU := Lib.hid hu
  have SA := Lib.hid sA
  have RT := Lib.hid (stack_rest mA)
  have RS := Lib.hid mA.sv
  have l2 : (t ++ [x]).length = t.length + 1 := by simp
  rw [l2] at hn RS
  obtain ⟨k0, k9⟩ := hk
  have e1 : IntKind.i64.wrap (k + 1) = k + 1 := IntWalk.i64_in _ (by omega)
  have e2 : IntKind.i64.wrap ((t.length : Int) + 1 - 1) = (t.length : Int) := by rw [IntWalk.i64_in _ (by omega)]; omega
  have t5 : t.length < t.length + 1 := by omega
  have e3 : IntKind.i64.wrap (t.length : Int) = (t.length : Int) := IntWalk.i64_in _ (by omega)
  have t0 : (0 : Int) ≤ (t.length : Int) := by omega
  have t1 : (t.length : Int) < (t.length : Int) + 1 := by omega
  have t6 : (t.length : Int) ≤ (c : Int) := by omega
  have t7 : t.length ≤ c := by omega
  have lp : w.heap.size + 1 < A.heap.size := by omega
  have lr : w.heap.size + 1 + 1 < A.heap.size := by omega
  have lg : g < A.heap.size := by omega
  have gn0 : g ≠ w.heap.size + 1 := gp
  have gn1 : w.heap.size + 1 ≠ g := fun e => gp e.symm
  have gr1 : w.heap.size + 1 + 1 ≠ g := by omega
  have pr0 : w.heap.size + 1 ≠ w.heap.size + 1 + 1 := by omega
  have pr1 : w.heap.size + 1 + 1 ≠ w.heap.size + 1 := by omega
  have hBg : B ≤ g := (hv.lt g rfl).1
  have hBA : B ≤ A.heap.size := by omega
  clear mA rA hv hu bA l2 sA
  have HNU : Hid ((Value.slice ua o.length uc).ownBlock ≠ some (w.heap.size + 1 + 1)) := Lib.hid (fun e => by have := (HU.out.lt _ e).2; omega)
  have HNV : Hid ((Value.slice (some ⟨g, 0, none⟩) t.length c).ownBlock ≠ some (w.heap.size + 1 + 1)) := Lib.hid (fun e => gr1 (Option.some.inj e).symm)
  have lq : w.heap.size < A.heap.size := by omega
  have SG : Tm.sgn x = -1 := by unfold Tm.sgn; first | (rw [if_pos hx]; done) | (rw [if_neg (by omega), if_pos hx]; done) | (rw [if_neg (by omega), if_neg (by omega)]; done) | simp [hx, show ¬ x < 0 by omega]
  have wi : IntKind.i64.wrap 0 = 0 := IntWalk.i64_in _ (by omega)
  have LSG := Lib.hid (fun W => sSignOf x W)
  rw [SG] at LSG
  have AL : Hid (Below A.heap.size A (A.drew.alloc (.cells #[.int .i64 x1, .int .i64 x2, .int .i64 x3] 3))) := Lib.hid ((Below.drew (Below.refl _ _)).alloc (Nat.le_refl _) _)
  have HS2 : Hid ((fun W : World => W.cell? ⟨w.heap.size, 1, none⟩ = some (.int .i64 x1) ∧ W.cell? ⟨w.heap.size, 2, none⟩ = some (.int .i64 x2) ∧ W.cell? ⟨w.heap.size, 3, none⟩ = some (.int .i64 x3) ∧ W.cell? ⟨w.heap.size + 1, 1, none⟩ = some (.slice (some ⟨g, 0, none⟩) (t.length + 1) c) ∧ W.cell? ⟨g, t.length, none⟩ = some (.int .i64 x)) (A.drew.alloc (.cells #[.int .i64 x1, .int .i64 x2, .int .i64 x3] 3))) := Lib.hid ⟨by rw [← a1]; exact AL.out.cell (p := ⟨_, _, none⟩) lq, by rw [← a2]; exact AL.out.cell (p := ⟨_, _, none⟩) lq, by rw [← a3]; exact AL.out.cell (p := ⟨_, _, none⟩) lq, by rw [← c1]; exact AL.out.cell (p := ⟨_, _, none⟩) lp, by rw [← cx]; exact AL.out.cell (p := ⟨_, _, none⟩) lg⟩
  have M3 := Lib.hid (HM.out.later AL.out)
  have R3 := Lib.hid (HR.out.later AL.out)
  have p30 := M3.out.blk.cells.1
  have pz3 := M3.out.blk.frozen
  have pl3 := M3.out.blk.lt
  have fzA := HM.out.blk.frozen
  have KEY : ∀ W1, W1 = ((A.setCell ⟨w.heap.size + 1, 0, none⟩ (.int .i64 x1)).alloc (.cells #[.int .i64 x1, .int .i64 x2, .int .i64 x3] 3)).drew → MSt W1 B (w.heap.size + 1) x1 (.slice (some ⟨g, 0, none⟩) (t.length + 1) c) (t ++ [x]) (.slice ua o.length uc) o ∧ Blk3 W1 (w.heap.size + 1 + 1) (.int .i64 0) (.slice none 0 0) (.slice none 0 0) 28 ∧ Below B A W1 := by
    intro W1 hW1
    have h1 : MSt (A.setCell ⟨w.heap.size + 1, 0, none⟩ (.int .i64 x1)) B (w.heap.size + 1) x1 (.slice (some ⟨g, 0, none⟩) (t.length + 1) c) (t ++ [x]) (.slice ua o.length uc) o := ⟨HM.out.blk.set0 _, HM.out.low, own_set_far HM.out.sv HM.out.vp, own_set_far HM.out.ou HM.out.up, HM.out.ap, HM.out.vp, HM.out.up⟩
    have r1 : Blk3 (A.setCell ⟨w.heap.size + 1, 0, none⟩ (.int .i64 x1)) (w.heap.size + 1 + 1) (.int .i64 0) (.slice none 0 0) (.slice none 0 0) 28 := HR.out.keep (heap_setCell_other _ ⟨w.heap.size + 1, 0, none⟩ _ _ pr1)
    have b1 : Below (A.setCell ⟨w.heap.size + 1, 0, none⟩ (.int .i64 x1)).heap.size (A.setCell ⟨w.heap.size + 1, 0, none⟩ (.int .i64 x1)) W1 := by subst hW1; exact Below.drew ((Below.refl _ _).alloc (Nat.le_refl _) _)
    have b2 : Below B A (A.setCell ⟨w.heap.size + 1, 0, none⟩ (.int .i64 x1)) := (Below.refl _ _).setCell (show B ≤ w.heap.size + 1 by omega) _
    have l1 := h1.blk.lt
    exact ⟨h1.later b1, r1.later b1, b2.trans (b1.mono (by omega))⟩
  have KEY2 : ∀ W1 W2, MSt W1 B (w.heap.size + 1) x1 (.slice (some ⟨g, 0, none⟩) (t.length + 1) c) (t ++ [x]) (.slice ua o.length uc) o → W2 = W1.setCell ⟨w.heap.size + 1, 1, none⟩ (.slice (some ⟨g, 0, none⟩) t.length c) → MSt W2 B (w.heap.size + 1) x1 (.slice (some ⟨g, 0, none⟩) t.length c) t (.slice ua o.length uc) o := by
    intro W1 W2 h hW2
    subst hW2
    exact ⟨h.blk.set1 _, h.low, own_set_far (stack_rest h) h.vp, own_set_far h.ou h.up, h.ap, h.vp, h.up⟩
  have KH := Lib.hid KEY
  have KH2 := Lib.hid KEY2
  clear hx SG KEY KEY2
  go_enter Tryd.func22, Tryd.ntmps22
  go_wp2_with fail
  rw [← hA]
  clear hA
  have HS : Hid ((fun W : World => W.cell? ⟨w.heap.size, 1, none⟩ = some (.int .i64 x1) ∧ W.cell? ⟨w.heap.size, 2, none⟩ = some (.int .i64 x2) ∧ W.cell? ⟨w.heap.size, 3, none⟩ = some (.int .i64 x3) ∧ W.cell? ⟨w.heap.size + 1, 1, none⟩ = some (.slice (some ⟨g, 0, none⟩) (t.length + 1) c) ∧ W.cell? ⟨g, t.length, none⟩ = some (.int .i64 x)) A.drew) := Lib.hid ⟨a1, a2, a3, c1, cx⟩
  refine wp_region_T [18] (fun W : World => W.cell? ⟨w.heap.size, 1, none⟩ = some (.int .i64 x1) ∧ W.cell? ⟨w.heap.size, 2, none⟩ = some (.int .i64 x2) ∧ W.cell? ⟨w.heap.size, 3, none⟩ = some (.int .i64 x3) ∧ W.cell? ⟨w.heap.size + 1, 1, none⟩ = some (.slice (some ⟨g, 0, none⟩) (t.length + 1) c) ∧ W.cell? ⟨g, t.length, none⟩ = some (.int .i64 x)) (by kernel_rfl) ?_
  refine wpAnyT_take (i := 0) (v := ?v80) rfl (by kernel_rfl) (by kernel_rfl) (by kernel_rfl) (by kernel_rfl) (by kernel_rfl) (fun _ _ _ h => h) HS.out rfl ?hy80 ?hh80
  case hy80 => (intro W hW; obtain ⟨h1, h2, h3, h4, h5⟩ := hW; go_simp; try with_reducible rfl)
  case hh80 =>
  (try simp only [Act.put])
  refine wpAnyT_take (i := 1) (v := ?v81) rfl (by kernel_rfl) (by kernel_rfl) (by kernel_rfl) (by kernel_rfl) (by kernel_rfl) (fun _ _ _ h => h) HS.out rfl ?hy81 ?hh81
  case hy81 => (intro W hW; obtain ⟨h1, h2, h3, h4, h5⟩ := hW; go_simp; try with_reducible rfl)
  case hh81 =>
  (try simp only [Act.put])
  refine wpAnyT_take (i := 2) (v := ?v82) rfl (by kernel_rfl) (by kernel_rfl) (by kernel_rfl) (by kernel_rfl) (by kernel_rfl) (fun _ _ _ h => h) HS.out rfl ?hy82 ?hh82
  case hy82 => (intro W hW; obtain ⟨h1, h2, h3, h4, h5⟩ := hW; go_simp; try with_reducible rfl)
  case hh82 =>
  (try simp only [Act.put])
  refine wpAnyT_take (i := 3) (v := ?v83) rfl (by kernel_rfl) (by kernel_rfl) (by kernel_rfl) (by kernel_rfl) (by kernel_rfl) (fun _ _ _ h => h) HS.out rfl ?hy83 ?hh83
  case hy83 => (intro W hW; obtain ⟨h1, h2, h3, h4, h5⟩ := hW; go_simp; try with_reducible rfl)
  case hh83 =>
  (try simp only [Act.put])
  refine wpAnyT_take (i := 4) (v := ?v84) rfl (by kernel_rfl) (by kernel_rfl) (by kernel_rfl) (by kernel_rfl) (by kernel_rfl) (fun _ _ _ h => h) HS.out rfl ?hy84 ?hh84
  case hy84 => (intro W hW; obtain ⟨h1, h2, h3, h4, h5⟩ := hW; go_simp; try with_reducible rfl)
  case hh84 =>
  (try simp only [Act.put])
  refine wpAnyT_take (i := 5) (v := ?v85) rfl (by kernel_rfl) (by kernel_rfl) (by kernel_rfl) (by kernel_rfl) (by kernel_rfl) (fun _ _ _ h => h) HS.out rfl ?hy85 ?hh85
  case hy85 => (intro W hW; obtain ⟨h1, h2, h3, h4, h5⟩ := hW; go_simp; try with_reducible rfl)
  case hh85 =>
  (try simp only [Act.put])
  refine wpAnyT_take (i := 7) (v := ?v86) rfl (by kernel_rfl) (by kernel_rfl) (by kernel_rfl) (by kernel_rfl) (by kernel_rfl) (fun _ _ _ h => h) HS.out rfl ?hy86 ?hh86
  case hy86 => (intro W hW; obtain ⟨h1, h2, h3, h4, h5⟩ := hW; go_simp; try with_reducible rfl)
  case hh86 =>
  (try simp only [Act.put])
  refine wpAnyT_take (i := 8) (v := ?v87) rfl (by kernel_rfl) (by kernel_rfl) (by kernel_rfl) (by kernel_rfl) (by kernel_rfl) (fun _ _ _ h => h) HS.out rfl ?hy87 ?hh87
  case hy87 => (intro W hW; obtain ⟨h1, h2, h3, h4, h5⟩ := hW; go_simp; try with_reducible rfl)
  case hh87 =>
  (try simp only [Act.put])
  refine wpAnyT_take (i := 9) (v := ?v88) rfl (by kernel_rfl) (by kernel_rfl) (by kernel_rfl) (by kernel_rfl) (by kernel_rfl) (fun _ _ _ h => h) HS.out rfl ?hy88 ?hh88
  case hy88 => (intro W hW; obtain ⟨h1, h2, h3, h4, h5⟩ := hW; go_simp; try with_reducible rfl)
  case hh88 =>
  (try simp only [Act.put])
  refine wpAnyT_take (i := 10) (v := ?v89) rfl (by kernel_rfl) (by kernel_rfl) (by kernel_rfl) (by kernel_rfl) (by kernel_rfl) (fun _ _ _ h => h) HS.out rfl ?hy89 ?hh89
  case hy89 => (intro W hW; obtain ⟨h1, h2, h3, h4, h5⟩ := hW; go_simp; try with_reducible rfl)
  case hh89 =>
  (try simp only [Act.put])
  refine wpAnyT_take (i := 11) (v := ?v90) rfl (by kernel_rfl) (by kernel_rfl) (by kernel_rfl) (by kernel_rfl) (by kernel_rfl) (fun _ _ _ h => h) HS.out rfl ?hy90 ?hh90
  case hy90 => (intro W hW; obtain ⟨h1, h2, h3, h4, h5⟩ := hW; go_simp; try with_reducible rfl)
  case hh90 =>
  (try simp only [Act.put])
  refine wpAnyT_take (i := 12) (v := ?v91) rfl (by kernel_rfl) (by kernel_rfl) (by kernel_rfl) (by kernel_rfl) (by kernel_rfl) (fun _ _ _ h => h) HS.out rfl ?hy91 ?hh91
  case hy91 => (intro W hW; obtain ⟨h1, h2, h3, h4, h5⟩ := hW; go_simp; try with_reducible rfl)
  case hh91 =>
  (try simp only [Act.put])
  refine wpAnyT_two (i := 6) (k := 13) rfl rfl (by kernel_rfl) (fun K hK => ?_) (fun K hK => ?_)
  · skip
    go_simp
    refine hK _ _ (fun _ _ => HS2.out) ?_
    clear hK K
    (try simp only [Act.put])
    refine wpAnyT_only (i := 13) rfl (by kernel_rfl) (fun K hK => ?_)
    go_simp
    go_at_call 38
    refine (LSG.out _).mono ?_
    rintro e w3 ⟨rfl, rfl⟩
    refine hK _ _ (fun _ _ => HS2.out) ?_
    clear hK K
    (try simp only [Act.put])
    refine wpAnyT_takeA (i := 14) (v := ?v92) rfl (by kernel_rfl) (by kernel_rfl) (by kernel_rfl) (fun _ _ _ h => h) rfl ?hy92 ?hh92
    case hy92 => (intro W; go_simp; try with_reducible rfl)
    case hh92 =>
    (try simp only [Act.put])
    refine wpAnyT_takeA (i := 15) (v := ?v93) rfl (by kernel_rfl) (by kernel_rfl) (by kernel_rfl) (fun _ _ _ h => h) rfl ?hy93 ?hh93
    case hy93 => (intro W; go_simp; try with_reducible rfl)
    case hh93 =>
    (try simp only [Act.put])
    refine wpAnyT_only (i := 16) rfl (by kernel_rfl) (fun K hK => ?_)
    go_simp
    refine hK _ _ (fun _ _ => HS2.out) ?_
    clear hK K
    (try simp only [Act.put])
    refine wpAnyT_takeA (i := 17) (v := ?v94) rfl (by kernel_rfl) (by kernel_rfl) (by kernel_rfl) (fun _ _ _ h => h) rfl ?hy94 ?hh94
    case hy94 => (intro W; go_simp; try with_reducible rfl)
    case hh94 =>
    (try simp only [Act.put])
    refine wpAnyT_only (i := 18) rfl (by kernel_rfl) (fun K hK => ?_)
    go_simp
    refine hK _ _ (fun h => (h (by decide)).elim) ?_
    clear hK K
    refine wpAnyT_done (by kernel_rfl) ?_ _
    obtain ⟨W1, hW1⟩ : ∃ W1, W1 = ((A.setCell ⟨w.heap.size + 1, 0, none⟩ (.int .i64 x1)).alloc (.cells #[.int .i64 x1, .int .i64 x2, .int .i64 x3] 3)).drew := ⟨_, rfl⟩
    rw [← hW1]
    obtain ⟨M1, R1, BB⟩ := KH.out W1 hW1
    have FW : Hid (Fr (.slice (some ⟨g, 0, none⟩) (t.length + 1) c) (.slice ua o.length uc) w W1) := Lib.hid (by rw [hW1]; exact (((Fr.start BA.out).set (.inl (by omega))).later ((Below.refl _ _).alloc (by simp only [World.size_setCell]; omega) _)).drew)
    clear hW1
    obtain ⟨m0, m1, m2⟩ := M1.blk.cells
    have mz := M1.blk.frozen
    obtain ⟨r0, r1, r2⟩ := R1.cells
    have rz := R1.frozen
    have ml := M1.blk.lt
    have rl := R1.lt
    have HM1 := Lib.hid M1
    have HR1 := Lib.hid R1
    have HBB := Lib.hid ((BA.out.mono hB).trans BB)
    clear M1 R1 BB
    go_wp2
    obtain ⟨W2, hW2⟩ : ∃ W2, W2 = W1.setCell ⟨w.heap.size + 1, 1, none⟩ (.slice (some ⟨g, 0, none⟩) t.length c) := ⟨_, rfl⟩
    obtain ⟨WF, hWF⟩ : ∃ WF, WF = (((W1.setCell ⟨w.heap.size + 1, 1, none⟩ (.slice (some ⟨g, 0, none⟩) t.length c)).setCell ⟨w.heap.size + 1 + 1, 0, none⟩ (.int .i64 x1)).setCell ⟨w.heap.size + 1 + 1, 1, none⟩ (.slice (some ⟨g, 0, none⟩) t.length c)).setCell ⟨w.heap.size + 1 + 1, 2, none⟩ (.slice ua o.length uc) := ⟨_, rfl⟩
    rw [← hWF]
    rw [← hW2] at hWF
    have M2 := KH2.out W1 W2 HM1.out hW2
    have R2 : Blk3 W2 (w.heap.size + 1 + 1) (.int .i64 0) (.slice none 0 0) (.slice none 0 0) 28 := by rw [hW2]; exact HR1.out.keep (heap_setCell_other _ ⟨w.heap.size + 1, 1, none⟩ _ _ pr1)
    have B2 : Below B w W2 := by rw [hW2]; exact HBB.out.setCell (show B ≤ w.heap.size + 1 by omega) _
    obtain ⟨⟨f0, f1, f2⟩, w1, w2, w4⟩ := change_end2 M2 R2 B2 (by omega) hWF HNV.out HNU.out
    refine bodyPost_ret (v := .agg #[.int .i64 x1, (.slice (some ⟨g, 0, none⟩) t.length c), .slice ua o.length uc]) (by simp [results, Tryd.results22, go_sem, f0, f1, f2]) rfl ?_
    exact ⟨_, _, rfl, w1, w2, M2.ap, w4, by rw [hWF, hW2]; repeat (first | with_reducible exact FW.out | with_reducible refine Fr.drew ?_ | (with_reducible refine Fr.set ?_ ?hr; case hr => (first | (left; omega) | exact .inr (.inl rfl) | exact .inr (.inr rfl))))⟩
  · skip
    go_simp
    go_at_call 38
    refine (LSG.out _).mono ?_
    rintro e w3 ⟨rfl, rfl⟩
    refine hK _ _ (fun _ _ => HS.out) ?_
    clear hK K
    (try simp only [Act.put])
    refine wpAnyT_takeA (i := 14) (v := ?v95) rfl (by kernel_rfl) (by kernel_rfl) (by kernel_rfl) (fun _ _ _ h => h) rfl ?hy95 ?hh95
    case hy95 => (intro W; go_simp; try with_reducible rfl)
    case hh95 =>
    (try simp only [Act.put])
    refine wpAnyT_only (i := 6) rfl (by kernel_rfl) (fun K hK => ?_)
    go_simp
    refine hK _ _ (fun _ _ => HS2.out) ?_
    clear hK K
    (try simp only [Act.put])
    refine wpAnyT_takeA (i := 15) (v := ?v96) rfl (by kernel_rfl) (by kernel_rfl) (by kernel_rfl) (fun _ _ _ h => h) rfl ?hy96 ?hh96
    case hy96 => (intro W; go_simp; try with_reducible rfl)
    case hh96 =>
    (try simp only [Act.put])
    refine wpAnyT_only (i := 16) rfl (by kernel_rfl) (fun K hK => ?_)
    go_simp
    refine hK _ _ (fun _ _ => HS2.out) ?_
    clear hK K
    (try simp only [Act.put])
    refine wpAnyT_takeA (i := 17) (v := ?v97) rfl (by kernel_rfl) (by kernel_rfl) (by kernel_rfl) (fun _ _ _ h => h) rfl ?hy97 ?hh97
    case hy97 => (intro W; go_simp; try with_reducible rfl)
    case hh97 =>
    (try simp only [Act.put])
    refine wpAnyT_only (i := 18) rfl (by kernel_rfl) (fun K hK => ?_)
    go_simp
    refine hK _ _ (fun h => (h (by decide)).elim) ?_
    clear hK K
    refine wpAnyT_done (by kernel_rfl) ?_ _
    obtain ⟨W1, hW1⟩ : ∃ W1, W1 = ((A.setCell ⟨w.heap.size + 1, 0, none⟩ (.int .i64 x1)).alloc (.cells #[.int .i64 x1, .int .i64 x2, .int .i64 x3] 3)).drew := ⟨_, rfl⟩
    rw [← hW1]
    obtain ⟨M1, R1, BB⟩ := KH.out W1 hW1
    have FW : Hid (Fr (.slice (some ⟨g, 0, none⟩) (t.length + 1) c) (.slice ua o.length uc) w W1) := Lib.hid (by rw [hW1]; exact (((Fr.start BA.out).set (.inl (by omega))).later ((Below.refl _ _).alloc (by simp only [World.size_setCell]; omega) _)).drew)
    clear hW1
    obtain ⟨m0, m1, m2⟩ := M1.blk.cells
    have mz := M1.blk.frozen
    obtain ⟨r0, r1, r2⟩ := R1.cells
    have rz := R1.frozen
    have ml := M1.blk.lt
    have rl := R1.lt
    have HM1 := Lib.hid M1
    have HR1 := Lib.hid R1
    have HBB := Lib.hid ((BA.out.mono hB).trans BB)
    clear M1 R1 BB
    go_wp2
    obtain ⟨W2, hW2⟩ : ∃ W2, W2 = W1.setCell ⟨w.heap.size + 1, 1, none⟩ (.slice (some ⟨g, 0, none⟩) t.length c) := ⟨_, rfl⟩
    obtain ⟨WF, hWF⟩ : ∃ WF, WF = (((W1.setCell ⟨w.heap.size + 1, 1, none⟩ (.slice (some ⟨g, 0, none⟩) t.length c)).setCell ⟨w.heap.size + 1 + 1, 0, none⟩ (.int .i64 x1)).setCell ⟨w.heap.size + 1 + 1, 1, none⟩ (.slice (some ⟨g, 0, none⟩) t.length c)).setCell ⟨w.heap.size + 1 + 1, 2, none⟩ (.slice ua o.length uc) := ⟨_, rfl⟩
    rw [← hWF]
    rw [← hW2] at hWF
    have M2 := KH2.out W1 W2 HM1.out hW2
    have R2 : Blk3 W2 (w.heap.size + 1 + 1) (.int .i64 0) (.slice none 0 0) (.slice none 0 0) 28 := by rw [hW2]; exact HR1.out.keep (heap_setCell_other _ ⟨w.heap.size + 1, 1, none⟩ _ _ pr1)
    have B2 : Below B w W2 := by rw [hW2]; exact HBB.out.setCell (show B ≤ w.heap.size + 1 by omega) _
    obtain ⟨⟨f0, f1, f2⟩, w1, w2, w4⟩ := change_end2 M2 R2 B2 (by omega) hWF HNV.out HNU.out
    refine bodyPost_ret (v := .agg #[.int .i64 x1, (.slice (some ⟨g, 0, none⟩) t.length c), .slice ua o.length uc]) (by simp [results, Tryd.results22, go_sem, f0, f1, f2]) rfl ?_
    exact ⟨_, _, rfl, w1, w2, M2.ap, w4, by rw [hWF, hW2]; repeat (first | with_reducible exact FW.out | with_reducible refine Fr.drew ?_ | (with_reducible refine Fr.set ?_ ?hr; case hr => (first | (left; omega) | exact .inr (.inl rfl) | exact .inr (.inr rfl))))⟩
set_option maxHeartbeats 1000000 in
theorem sCh14z (x1 x2 x3 : Int) (B : Nat) (k : Int) (v u : Value) (o t : List Int) (x : Int) (w : World) (hB : B ≤ w.heap.size) (hv : w.ownsRow B 3 1 v (t ++ [x]).length ((t ++ [x]).map (Value.int .i64))) (hu : w.ownsRow B 3 1 u o.length (o.map (Value.int .i64))) (ap : Apart v u) (hn : (t ++ [x]).length ≤ 20) (hx : x = 0) (hk : 0 ≤ k ∧ k ≤ 1000) :
    Calls Tryd.prog 22 #[.agg #[.int .i64 14, .int .i64 x1, .int .i64 x2, .int .i64 x3], .agg #[.int .i64 k, v, u]] w fun e w' => ∃ v' u', e = .returned (.agg #[.int .i64 x2, v', u']) ∧ w'.ownsRow B 3 1 v' (t).length ((t).map (Value.int .i64)) ∧ w'.ownsRow B 3 1 u' o.length (o.map (Value.int .i64)) ∧ Apart v' u' ∧ Below B w w' ∧ Fr v u w w' := by
  obtain ⟨i0, hi, hz0, hz1, hz2⟩ := info_parts infoInt
  obtain ⟨A, hA⟩ : ∃ A, A = ((w.alloc (.cells #[.int .i64 14, .int .i64 x1, .int .i64 x2, .int .i64 x3] 47)).alloc (.cells #[.int .i64 (k + 1), v, u] 28)).alloc (.cells #[.int .i64 0, .slice none 0 0, .slice none 0 0] 28) := ⟨_, rfl⟩
  obtain ⟨sA, bA, mA, rA, a0, a1, a2, a3⟩ := change_start hA hB hv hu ap
  obtain ⟨g, c, rfl, gp, hc, cx⟩ := stack_one mA
  have gl : g < w.heap.size := by have := (hv.lt g rfl).2; omega
  obtain ⟨ua, uc, rfl⟩ := own_form hu
  have HM := Lib.hid mA
  have HR := Lib.hid rA
  obtain ⟨c0, c1, c2⟩ := mA.blk.cells
  have BA := Lib.hid bA
  have HU := Lib.hid hu
  have SA := Lib.hid sA
  have RT := Lib.hid (stack_rest mA)
  have RS := Lib.hid mA.sv
  have l2 : (t ++ [x]).length = t.length + 1 := by simp
  rw [l2] at hn RS
  obtain ⟨k0, k9⟩ := hk
  have e1 : IntKind.i64.wrap (k + 1) = k + 1 := IntWalk.i64_in _ (by omega)
  have e2 : IntKind.i64.wrap ((t.length : Int) + 1 - 1) = (t.length : Int) := by rw [IntWalk.i64_in _ (by omega)]; omega
  have t5 : t.length < t.length + 1 := by omega
  have e3 : IntKind.i64.wrap (t.length : Int) = (t.length : Int) := IntWalk.i64_in _ (by omega)
  have t0 : (0 : Int) ≤ (t.length : Int) := by omega
  have t1 : (t.length : Int) < (t.length : Int) + 1 := by omega
  have t6 : (t.length : Int) ≤ (c : Int) := by omega
  have t7 : t.length ≤ c := by omega
  have lp : w.heap.size + 1 < A.heap.size := by omega
  have lr : w.heap.size + 1 + 1 < A.heap.size := by omega
  have lg : g < A.heap.size := by omega
  have gn0 : g ≠ w.heap.size + 1 := gp
  have gn1 : w.heap.size + 1 ≠ g := fun e => gp e.symm
  have gr1 : w.heap.size + 1 + 1 ≠ g := by omega
  have pr0 : w.heap.size + 1 ≠ w.heap.size + 1 + 1 := by omega
  have pr1 : w.heap.size + 1 + 1 ≠ w.heap.size + 1 := by omega
  have hBg : B ≤ g := (hv.lt g rfl).1
  have hBA : B ≤ A.heap.size := by omega
  clear mA rA hv hu bA l2 sA
  have HNU : Hid ((Value.slice ua o.length uc).ownBlock ≠ some (w.heap.size + 1 + 1)) := Lib.hid (fun e => by have := (HU.out.lt _ e).2; omega)
  have HNV : Hid ((Value.slice (some ⟨g, 0, none⟩) t.length c).ownBlock ≠ some (w.heap.size + 1 + 1)) := Lib.hid (fun e => gr1 (Option.some.inj e).symm)
  have lq : w.heap.size < A.heap.size := by omega
  have SG : Tm.sgn x = 0 := by unfold Tm.sgn; first | (rw [if_pos hx]; done) | (rw [if_neg (by omega), if_pos hx]; done) | (rw [if_neg (by omega), if_neg (by omega)]; done) | simp [hx, show ¬ x < 0 by omega]
  have wi : IntKind.i64.wrap 1 = 1 := IntWalk.i64_in _ (by omega)
  have LSG := Lib.hid (fun W => sSignOf x W)
  rw [SG] at LSG
  have AL : Hid (Below A.heap.size A (A.drew.alloc (.cells #[.int .i64 x1, .int .i64 x2, .int .i64 x3] 3))) := Lib.hid ((Below.drew (Below.refl _ _)).alloc (Nat.le_refl _) _)
  have HS2 : Hid ((fun W : World => W.cell? ⟨w.heap.size, 1, none⟩ = some (.int .i64 x1) ∧ W.cell? ⟨w.heap.size, 2, none⟩ = some (.int .i64 x2) ∧ W.cell? ⟨w.heap.size, 3, none⟩ = some (.int .i64 x3) ∧ W.cell? ⟨w.heap.size + 1, 1, none⟩ = some (.slice (some ⟨g, 0, none⟩) (t.length + 1) c) ∧ W.cell? ⟨g, t.length, none⟩ = some (.int .i64 x)) (A.drew.alloc (.cells #[.int .i64 x1, .int .i64 x2, .int .i64 x3] 3))) := Lib.hid ⟨by rw [← a1]; exact AL.out.cell (p := ⟨_, _, none⟩) lq, by rw [← a2]; exact AL.out.cell (p := ⟨_, _, none⟩) lq, by rw [← a3]; exact AL.out.cell (p := ⟨_, _, none⟩) lq, by rw [← c1]; exact AL.out.cell (p := ⟨_, _, none⟩) lp, by rw [← cx]; exact AL.out.cell (p := ⟨_, _, none⟩) lg⟩
  have M3 := Lib.hid (HM.out.later AL.out)
  have R3 := Lib.hid (HR.out.later AL.out)
  have p30 := M3.out.blk.cells.1
  have pz3 := M3.out.blk.frozen
  have pl3 := M3.out.blk.lt
  have fzA := HM.out.blk.frozen
  have KEY : ∀ W1, W1 = ((A.setCell ⟨w.heap.size + 1, 0, none⟩ (.int .i64 x2)).alloc (.cells #[.int .i64 x1, .int .i64 x2, .int .i64 x3] 3)).drew → MSt W1 B (w.heap.size + 1) x2 (.slice (some ⟨g, 0, none⟩) (t.length + 1) c) (t ++ [x]) (.slice ua o.length uc) o ∧ Blk3 W1 (w.heap.size + 1 + 1) (.int .i64 0) (.slice none 0 0) (.slice none 0 0) 28 ∧ Below B A W1 := by
    intro W1 hW1
    have h1 : MSt (A.setCell ⟨w.heap.size + 1, 0, none⟩ (.int .i64 x2)) B (w.heap.size + 1) x2 (.slice (some ⟨g, 0, none⟩) (t.length + 1) c) (t ++ [x]) (.slice ua o.length uc) o := ⟨HM.out.blk.set0 _, HM.out.low, own_set_far HM.out.sv HM.out.vp, own_set_far HM.out.ou HM.out.up, HM.out.ap, HM.out.vp, HM.out.up⟩
    have r1 : Blk3 (A.setCell ⟨w.heap.size + 1, 0, none⟩ (.int .i64 x2)) (w.heap.size + 1 + 1) (.int .i64 0) (.slice none 0 0) (.slice none 0 0) 28 := HR.out.keep (heap_setCell_other _ ⟨w.heap.size + 1, 0, none⟩ _ _ pr1)
    have b1 : Below (A.setCell ⟨w.heap.size + 1, 0, none⟩ (.int .i64 x2)).heap.size (A.setCell ⟨w.heap.size + 1, 0, none⟩ (.int .i64 x2)) W1 := by subst hW1; exact Below.drew ((Below.refl _ _).alloc (Nat.le_refl _) _)
    have b2 : Below B A (A.setCell ⟨w.heap.size + 1, 0, none⟩ (.int .i64 x2)) := (Below.refl _ _).setCell (show B ≤ w.heap.size + 1 by omega) _
    have l1 := h1.blk.lt
    exact ⟨h1.later b1, r1.later b1, b2.trans (b1.mono (by omega))⟩
  have KEY2 : ∀ W1 W2, MSt W1 B (w.heap.size + 1) x2 (.slice (some ⟨g, 0, none⟩) (t.length + 1) c) (t ++ [x]) (.slice ua o.length uc) o → W2 = W1.setCell ⟨w.heap.size + 1, 1, none⟩ (.slice (some ⟨g, 0, none⟩) t.length c) → MSt W2 B (w.heap.size + 1) x2 (.slice (some ⟨g, 0, none⟩) t.length c) t (.slice ua o.length uc) o := by
    intro W1 W2 h hW2
    subst hW2
    exact ⟨h.blk.set1 _, h.low, own_set_far (stack_rest h) h.vp, own_set_far h.ou h.up, h.ap, h.vp, h.up⟩
  have KH := Lib.hid KEY
  have KH2 := Lib.hid KEY2
  clear hx SG KEY KEY2
  go_enter Tryd.func22, Tryd.ntmps22
  go_wp2_with fail
  rw [← hA]
  clear hA
  have HS : Hid ((fun W : World => W.cell? ⟨w.heap.size, 1, none⟩ = some (.int .i64 x1) ∧ W.cell? ⟨w.heap.size, 2, none⟩ = some (.int .i64 x2) ∧ W.cell? ⟨w.heap.size, 3, none⟩ = some (.int .i64 x3) ∧ W.cell? ⟨w.heap.size + 1, 1, none⟩ = some (.slice (some ⟨g, 0, none⟩) (t.length + 1) c) ∧ W.cell? ⟨g, t.length, none⟩ = some (.int .i64 x)) A.drew) := Lib.hid ⟨a1, a2, a3, c1, cx⟩
  refine wp_region_T [18] (fun W : World => W.cell? ⟨w.heap.size, 1, none⟩ = some (.int .i64 x1) ∧ W.cell? ⟨w.heap.size, 2, none⟩ = some (.int .i64 x2) ∧ W.cell? ⟨w.heap.size, 3, none⟩ = some (.int .i64 x3) ∧ W.cell? ⟨w.heap.size + 1, 1, none⟩ = some (.slice (some ⟨g, 0, none⟩) (t.length + 1) c) ∧ W.cell? ⟨g, t.length, none⟩ = some (.int .i64 x)) (by kernel_rfl) ?_
  refine wpAnyT_take (i := 0) (v := ?v98) rfl (by kernel_rfl) (by kernel_rfl) (by kernel_rfl) (by kernel_rfl) (by kernel_rfl) (fun _ _ _ h => h) HS.out rfl ?hy98 ?hh98
  case hy98 => (intro W hW; obtain ⟨h1, h2, h3, h4, h5⟩ := hW; go_simp; try with_reducible rfl)
  case hh98 =>
  (try simp only [Act.put])
  refine wpAnyT_take (i := 1) (v := ?v99) rfl (by kernel_rfl) (by kernel_rfl) (by kernel_rfl) (by kernel_rfl) (by kernel_rfl) (fun _ _ _ h => h) HS.out rfl ?hy99 ?hh99
  case hy99 => (intro W hW; obtain ⟨h1, h2, h3, h4, h5⟩ := hW; go_simp; try with_reducible rfl)
  case hh99 =>
  (try simp only [Act.put])
  refine wpAnyT_take (i := 2) (v := ?v100) rfl (by kernel_rfl) (by kernel_rfl) (by kernel_rfl) (by kernel_rfl) (by kernel_rfl) (fun _ _ _ h => h) HS.out rfl ?hy100 ?hh100
  case hy100 => (intro W hW; obtain ⟨h1, h2, h3, h4, h5⟩ := hW; go_simp; try with_reducible rfl)
  case hh100 =>
  (try simp only [Act.put])
  refine wpAnyT_take (i := 3) (v := ?v101) rfl (by kernel_rfl) (by kernel_rfl) (by kernel_rfl) (by kernel_rfl) (by kernel_rfl) (fun _ _ _ h => h) HS.out rfl ?hy101 ?hh101
  case hy101 => (intro W hW; obtain ⟨h1, h2, h3, h4, h5⟩ := hW; go_simp; try with_reducible rfl)
  case hh101 =>
  (try simp only [Act.put])
  refine wpAnyT_take (i := 4) (v := ?v102) rfl (by kernel_rfl) (by kernel_rfl) (by kernel_rfl) (by kernel_rfl) (by kernel_rfl) (fun _ _ _ h => h) HS.out rfl ?hy102 ?hh102
  case hy102 => (intro W hW; obtain ⟨h1, h2, h3, h4, h5⟩ := hW; go_simp; try with_reducible rfl)
  case hh102 =>
  (try simp only [Act.put])
  refine wpAnyT_take (i := 5) (v := ?v103) rfl (by kernel_rfl) (by kernel_rfl) (by kernel_rfl) (by kernel_rfl) (by kernel_rfl) (fun _ _ _ h => h) HS.out rfl ?hy103 ?hh103
  case hy103 => (intro W hW; obtain ⟨h1, h2, h3, h4, h5⟩ := hW; go_simp; try with_reducible rfl)
  case hh103 =>
  (try simp only [Act.put])
  refine wpAnyT_take (i := 7) (v := ?v104) rfl (by kernel_rfl) (by kernel_rfl) (by kernel_rfl) (by kernel_rfl) (by kernel_rfl) (fun _ _ _ h => h) HS.out rfl ?hy104 ?hh104
  case hy104 => (intro W hW; obtain ⟨h1, h2, h3, h4, h5⟩ := hW; go_simp; try with_reducible rfl)
  case hh104 =>
  (try simp only [Act.put])
  refine wpAnyT_take (i := 8) (v := ?v105) rfl (by kernel_rfl) (by kernel_rfl) (by kernel_rfl) (by kernel_rfl) (by kernel_rfl) (fun _ _ _ h => h) HS.out rfl ?hy105 ?hh105
  case hy105 => (intro W hW; obtain ⟨h1, h2, h3, h4, h5⟩ := hW; go_simp; try with_reducible rfl)
  case hh105 =>
  (try simp only [Act.put])
  refine wpAnyT_take (i := 9) (v := ?v106) rfl (by kernel_rfl) (by kernel_rfl) (by kernel_rfl) (by kernel_rfl) (by kernel_rfl) (fun _ _ _ h => h) HS.out rfl ?hy106 ?hh106
  case hy106 => (intro W hW; obtain ⟨h1, h2, h3, h4, h5⟩ := hW; go_simp; try with_reducible rfl)
  case hh106 =>
  (try simp only [Act.put])
  refine wpAnyT_take (i := 10) (v := ?v107) rfl (by kernel_rfl) (by kernel_rfl) (by kernel_rfl) (by kernel_rfl) (by kernel_rfl) (fun _ _ _ h => h) HS.out rfl ?hy107 ?hh107
  case hy107 => (intro W hW; obtain ⟨h1, h2, h3, h4, h5⟩ := hW; go_simp; try with_reducible rfl)
  case hh107 =>
  (try simp only [Act.put])
  refine wpAnyT_take (i := 11) (v := ?v108) rfl (by kernel_rfl) (by kernel_rfl) (by kernel_rfl) (by kernel_rfl) (by kernel_rfl) (fun _ _ _ h => h) HS.out rfl ?hy108 ?hh108
  case hy108 => (intro W hW; obtain ⟨h1, h2, h3, h4, h5⟩ := hW; go_simp; try with_reducible rfl)
  case hh108 =>
  (try simp only [Act.put])
  refine wpAnyT_take (i := 12) (v := ?v109) rfl (by kernel_rfl) (by kernel_rfl) (by kernel_rfl) (by kernel_rfl) (by kernel_rfl) (fun _ _ _ h => h) HS.out rfl ?hy109 ?hh109
  case hy109 => (intro W hW; obtain ⟨h1, h2, h3, h4, h5⟩ := hW; go_simp; try with_reducible rfl)
  case hh109 =>
  (try simp only [Act.put])
  refine wpAnyT_two (i := 6) (k := 13) rfl rfl (by kernel_rfl) (fun K hK => ?_) (fun K hK => ?_)
  · skip
    go_simp
    refine hK _ _ (fun _ _ => HS2.out) ?_
    clear hK K
    (try simp only [Act.put])
    refine wpAnyT_only (i := 13) rfl (by kernel_rfl) (fun K hK => ?_)
    go_simp
    go_at_call 38
    refine (LSG.out _).mono ?_
    rintro e w3 ⟨rfl, rfl⟩
    refine hK _ _ (fun _ _ => HS2.out) ?_
    clear hK K
    (try simp only [Act.put])
    refine wpAnyT_takeA (i := 14) (v := ?v110) rfl (by kernel_rfl) (by kernel_rfl) (by kernel_rfl) (fun _ _ _ h => h) rfl ?hy110 ?hh110
    case hy110 => (intro W; go_simp; try with_reducible rfl)
    case hh110 =>
    (try simp only [Act.put])
    refine wpAnyT_takeA (i := 15) (v := ?v111) rfl (by kernel_rfl) (by kernel_rfl) (by kernel_rfl) (fun _ _ _ h => h) rfl ?hy111 ?hh111
    case hy111 => (intro W; go_simp; try with_reducible rfl)
    case hh111 =>
    (try simp only [Act.put])
    refine wpAnyT_only (i := 16) rfl (by kernel_rfl) (fun K hK => ?_)
    go_simp
    refine hK _ _ (fun _ _ => HS2.out) ?_
    clear hK K
    (try simp only [Act.put])
    refine wpAnyT_takeA (i := 17) (v := ?v112) rfl (by kernel_rfl) (by kernel_rfl) (by kernel_rfl) (fun _ _ _ h => h) rfl ?hy112 ?hh112
    case hy112 => (intro W; go_simp; try with_reducible rfl)
    case hh112 =>
    (try simp only [Act.put])
    refine wpAnyT_only (i := 18) rfl (by kernel_rfl) (fun K hK => ?_)
    go_simp
    refine hK _ _ (fun h => (h (by decide)).elim) ?_
    clear hK K
    refine wpAnyT_done (by kernel_rfl) ?_ _
    obtain ⟨W1, hW1⟩ : ∃ W1, W1 = ((A.setCell ⟨w.heap.size + 1, 0, none⟩ (.int .i64 x2)).alloc (.cells #[.int .i64 x1, .int .i64 x2, .int .i64 x3] 3)).drew := ⟨_, rfl⟩
    rw [← hW1]
    obtain ⟨M1, R1, BB⟩ := KH.out W1 hW1
    have FW : Hid (Fr (.slice (some ⟨g, 0, none⟩) (t.length + 1) c) (.slice ua o.length uc) w W1) := Lib.hid (by rw [hW1]; exact (((Fr.start BA.out).set (.inl (by omega))).later ((Below.refl _ _).alloc (by simp only [World.size_setCell]; omega) _)).drew)
    clear hW1
    obtain ⟨m0, m1, m2⟩ := M1.blk.cells
    have mz := M1.blk.frozen
    obtain ⟨r0, r1, r2⟩ := R1.cells
    have rz := R1.frozen
    have ml := M1.blk.lt
    have rl := R1.lt
    have HM1 := Lib.hid M1
    have HR1 := Lib.hid R1
    have HBB := Lib.hid ((BA.out.mono hB).trans BB)
    clear M1 R1 BB
    go_wp2
    obtain ⟨W2, hW2⟩ : ∃ W2, W2 = W1.setCell ⟨w.heap.size + 1, 1, none⟩ (.slice (some ⟨g, 0, none⟩) t.length c) := ⟨_, rfl⟩
    obtain ⟨WF, hWF⟩ : ∃ WF, WF = (((W1.setCell ⟨w.heap.size + 1, 1, none⟩ (.slice (some ⟨g, 0, none⟩) t.length c)).setCell ⟨w.heap.size + 1 + 1, 0, none⟩ (.int .i64 x2)).setCell ⟨w.heap.size + 1 + 1, 1, none⟩ (.slice (some ⟨g, 0, none⟩) t.length c)).setCell ⟨w.heap.size + 1 + 1, 2, none⟩ (.slice ua o.length uc) := ⟨_, rfl⟩
    rw [← hWF]
    rw [← hW2] at hWF
    have M2 := KH2.out W1 W2 HM1.out hW2
    have R2 : Blk3 W2 (w.heap.size + 1 + 1) (.int .i64 0) (.slice none 0 0) (.slice none 0 0) 28 := by rw [hW2]; exact HR1.out.keep (heap_setCell_other _ ⟨w.heap.size + 1, 1, none⟩ _ _ pr1)
    have B2 : Below B w W2 := by rw [hW2]; exact HBB.out.setCell (show B ≤ w.heap.size + 1 by omega) _
    obtain ⟨⟨f0, f1, f2⟩, w1, w2, w4⟩ := change_end2 M2 R2 B2 (by omega) hWF HNV.out HNU.out
    refine bodyPost_ret (v := .agg #[.int .i64 x2, (.slice (some ⟨g, 0, none⟩) t.length c), .slice ua o.length uc]) (by simp [results, Tryd.results22, go_sem, f0, f1, f2]) rfl ?_
    exact ⟨_, _, rfl, w1, w2, M2.ap, w4, by rw [hWF, hW2]; repeat (first | with_reducible exact FW.out | with_reducible refine Fr.drew ?_ | (with_reducible refine Fr.set ?_ ?hr; case hr => (first | (left; omega) | exact .inr (.inl rfl) | exact .inr (.inr rfl))))⟩
  · skip
    go_simp
    go_at_call 38
    refine (LSG.out _).mono ?_
    rintro e w3 ⟨rfl, rfl⟩
    refine hK _ _ (fun _ _ => HS.out) ?_
    clear hK K
    (try simp only [Act.put])
    refine wpAnyT_takeA (i := 14) (v := ?v113) rfl (by kernel_rfl) (by kernel_rfl) (by kernel_rfl) (fun _ _ _ h => h) rfl ?hy113 ?hh113
    case hy113 => (intro W; go_simp; try with_reducible rfl)
    case hh113 =>
    (try simp only [Act.put])
    refine wpAnyT_only (i := 6) rfl (by kernel_rfl) (fun K hK => ?_)
    go_simp
    refine hK _ _ (fun _ _ => HS2.out) ?_
    clear hK K
    (try simp only [Act.put])
    refine wpAnyT_takeA (i := 15) (v := ?v114) rfl (by kernel_rfl) (by kernel_rfl) (by kernel_rfl) (fun _ _ _ h => h) rfl ?hy114 ?hh114
    case hy114 => (intro W; go_simp; try with_reducible rfl)
    case hh114 =>
    (try simp only [Act.put])
    refine wpAnyT_only (i := 16) rfl (by kernel_rfl) (fun K hK => ?_)
    go_simp
    refine hK _ _ (fun _ _ => HS2.out) ?_
    clear hK K
    (try simp only [Act.put])
    refine wpAnyT_takeA (i := 17) (v := ?v115) rfl (by kernel_rfl) (by kernel_rfl) (by kernel_rfl) (fun _ _ _ h => h) rfl ?hy115 ?hh115
    case hy115 => (intro W; go_simp; try with_reducible rfl)
    case hh115 =>
    (try simp only [Act.put])
    refine wpAnyT_only (i := 18) rfl (by kernel_rfl) (fun K hK => ?_)
    go_simp
    refine hK _ _ (fun h => (h (by decide)).elim) ?_
    clear hK K
    refine wpAnyT_done (by kernel_rfl) ?_ _
    obtain ⟨W1, hW1⟩ : ∃ W1, W1 = ((A.setCell ⟨w.heap.size + 1, 0, none⟩ (.int .i64 x2)).alloc (.cells #[.int .i64 x1, .int .i64 x2, .int .i64 x3] 3)).drew := ⟨_, rfl⟩
    rw [← hW1]
    obtain ⟨M1, R1, BB⟩ := KH.out W1 hW1
    have FW : Hid (Fr (.slice (some ⟨g, 0, none⟩) (t.length + 1) c) (.slice ua o.length uc) w W1) := Lib.hid (by rw [hW1]; exact (((Fr.start BA.out).set (.inl (by omega))).later ((Below.refl _ _).alloc (by simp only [World.size_setCell]; omega) _)).drew)
    clear hW1
    obtain ⟨m0, m1, m2⟩ := M1.blk.cells
    have mz := M1.blk.frozen
    obtain ⟨r0, r1, r2⟩ := R1.cells
    have rz := R1.frozen
    have ml := M1.blk.lt
    have rl := R1.lt
    have HM1 := Lib.hid M1
    have HR1 := Lib.hid R1
    have HBB := Lib.hid ((BA.out.mono hB).trans BB)
    clear M1 R1 BB
    go_wp2
    obtain ⟨W2, hW2⟩ : ∃ W2, W2 = W1.setCell ⟨w.heap.size + 1, 1, none⟩ (.slice (some ⟨g, 0, none⟩) t.length c) := ⟨_, rfl⟩
    obtain ⟨WF, hWF⟩ : ∃ WF, WF = (((W1.setCell ⟨w.heap.size + 1, 1, none⟩ (.slice (some ⟨g, 0, none⟩) t.length c)).setCell ⟨w.heap.size + 1 + 1, 0, none⟩ (.int .i64 x2)).setCell ⟨w.heap.size + 1 + 1, 1, none⟩ (.slice (some ⟨g, 0, none⟩) t.length c)).setCell ⟨w.heap.size + 1 + 1, 2, none⟩ (.slice ua o.length uc) := ⟨_, rfl⟩
    rw [← hWF]
    rw [← hW2] at hWF
    have M2 := KH2.out W1 W2 HM1.out hW2
    have R2 : Blk3 W2 (w.heap.size + 1 + 1) (.int .i64 0) (.slice none 0 0) (.slice none 0 0) 28 := by rw [hW2]; exact HR1.out.keep (heap_setCell_other _ ⟨w.heap.size + 1, 1, none⟩ _ _ pr1)
    have B2 : Below B w W2 := by rw [hW2]; exact HBB.out.setCell (show B ≤ w.heap.size + 1 by omega) _
    obtain ⟨⟨f0, f1, f2⟩, w1, w2, w4⟩ := change_end2 M2 R2 B2 (by omega) hWF HNV.out HNU.out
    refine bodyPost_ret (v := .agg #[.int .i64 x2, (.slice (some ⟨g, 0, none⟩) t.length c), .slice ua o.length uc]) (by simp [results, Tryd.results22, go_sem, f0, f1, f2]) rfl ?_
    exact ⟨_, _, rfl, w1, w2, M2.ap, w4, by rw [hWF, hW2]; repeat (first | with_reducible exact FW.out | with_reducible refine Fr.drew ?_ | (with_reducible refine Fr.set ?_ ?hr; case hr => (first | (left; omega) | exact .inr (.inl rfl) | exact .inr (.inr rfl))))⟩
set_option maxHeartbeats 1000000 in
theorem sCh14p (x1 x2 x3 : Int) (B : Nat) (k : Int) (v u : Value) (o t : List Int) (x : Int) (w : World) (hB : B ≤ w.heap.size) (hv : w.ownsRow B 3 1 v (t ++ [x]).length ((t ++ [x]).map (Value.int .i64))) (hu : w.ownsRow B 3 1 u o.length (o.map (Value.int .i64))) (ap : Apart v u) (hn : (t ++ [x]).length ≤ 20) (hx : 0 < x) (hk : 0 ≤ k ∧ k ≤ 1000) :
    Calls Tryd.prog 22 #[.agg #[.int .i64 14, .int .i64 x1, .int .i64 x2, .int .i64 x3], .agg #[.int .i64 k, v, u]] w fun e w' => ∃ v' u', e = .returned (.agg #[.int .i64 x3, v', u']) ∧ w'.ownsRow B 3 1 v' (t).length ((t).map (Value.int .i64)) ∧ w'.ownsRow B 3 1 u' o.length (o.map (Value.int .i64)) ∧ Apart v' u' ∧ Below B w w' ∧ Fr v u w w' := by
  obtain ⟨i0, hi, hz0, hz1, hz2⟩ := info_parts infoInt
  obtain ⟨A, hA⟩ : ∃ A, A = ((w.alloc (.cells #[.int .i64 14, .int .i64 x1, .int .i64 x2, .int .i64 x3] 47)).alloc (.cells #[.int .i64 (k + 1), v, u] 28)).alloc (.cells #[.int .i64 0, .slice none 0 0, .slice none 0 0] 28) := ⟨_, rfl⟩
  obtain ⟨sA, bA, mA, rA, a0, a1, a2, a3⟩ := change_start hA hB hv hu ap
  obtain ⟨g, c, rfl, gp, hc, cx⟩ := stack_one mA
  have gl : g < w.heap.size := by have := (hv.lt g rfl).2; omega
  obtain ⟨ua, uc, rfl⟩ := own_form hu
  have HM := Lib.hid mA
  have HR := Lib.hid rA
  obtain ⟨c0, c1, c2⟩ := mA.blk.cells
  have BA := Lib.hid bA
  have HU := Lib.hid hu
  have SA := Lib.hid sA
  have RT := Lib.hid (stack_rest mA)
  have RS := Lib.hid mA.sv
  have l2 : (t ++ [x]).length = t.length + 1 := by simp
  rw [l2] at hn RS
  obtain ⟨k0, k9⟩ := hk
  have e1 : IntKind.i64.wrap (k + 1) = k + 1 := IntWalk.i64_in _ (by omega)
  have e2 : IntKind.i64.wrap ((t.length : Int) + 1 - 1) = (t.length : Int) := by rw [IntWalk.i64_in _ (by omega)]; omega
  have t5 : t.length < t.length + 1 := by omega
  have e3 : IntKind.i64.wrap (t.length : Int) = (t.length : Int) := IntWalk.i64_in _ (by omega)
  have t0 : (0 : Int) ≤ (t.length : Int) := by omega
  have t1 : (t.length : Int) < (t.length : Int) + 1 := by omega
  have t6 : (t.length : Int) ≤ (c : Int) := by omega
  have t7 : t.length ≤ c := by omega
  have lp : w.heap.size + 1 < A.heap.size := by omega
  have lr : w.heap.size + 1 + 1 < A.heap.size := by omega
  have lg : g < A.heap.size := by omega
  have gn0 : g ≠ w.heap.size + 1 := gp
  have gn1 : w.heap.size + 1 ≠ g := fun e => gp e.symm
  have gr1 : w.heap.size + 1 + 1 ≠ g := by omega
  have pr0 : w.heap.size + 1 ≠ w.heap.size + 1 + 1 := by omega
  have pr1 : w.heap.size + 1 + 1 ≠ w.heap.size + 1 := by omega
  have hBg : B ≤ g := (hv.lt g rfl).1
  have hBA : B ≤ A.heap.size := by omega
  clear mA rA hv hu bA l2 sA
  have HNU : Hid ((Value.slice ua o.length uc).ownBlock ≠ some (w.heap.size + 1 + 1)) := Lib.hid (fun e => by have := (HU.out.lt _ e).2; omega)
  have HNV : Hid ((Value.slice (some ⟨g, 0, none⟩) t.length c).ownBlock ≠ some (w.heap.size + 1 + 1)) := Lib.hid (fun e => gr1 (Option.some.inj e).symm)
  have lq : w.heap.size < A.heap.size := by omega
  have SG : Tm.sgn x = 1 := by unfold Tm.sgn; first | (rw [if_pos hx]; done) | (rw [if_neg (by omega), if_pos hx]; done) | (rw [if_neg (by omega), if_neg (by omega)]; done) | simp [hx, show ¬ x < 0 by omega]
  have wi : IntKind.i64.wrap 2 = 2 := IntWalk.i64_in _ (by omega)
  have LSG := Lib.hid (fun W => sSignOf x W)
  rw [SG] at LSG
  have AL : Hid (Below A.heap.size A (A.drew.alloc (.cells #[.int .i64 x1, .int .i64 x2, .int .i64 x3] 3))) := Lib.hid ((Below.drew (Below.refl _ _)).alloc (Nat.le_refl _) _)
  have HS2 : Hid ((fun W : World => W.cell? ⟨w.heap.size, 1, none⟩ = some (.int .i64 x1) ∧ W.cell? ⟨w.heap.size, 2, none⟩ = some (.int .i64 x2) ∧ W.cell? ⟨w.heap.size, 3, none⟩ = some (.int .i64 x3) ∧ W.cell? ⟨w.heap.size + 1, 1, none⟩ = some (.slice (some ⟨g, 0, none⟩) (t.length + 1) c) ∧ W.cell? ⟨g, t.length, none⟩ = some (.int .i64 x)) (A.drew.alloc (.cells #[.int .i64 x1, .int .i64 x2, .int .i64 x3] 3))) := Lib.hid ⟨by rw [← a1]; exact AL.out.cell (p := ⟨_, _, none⟩) lq, by rw [← a2]; exact AL.out.cell (p := ⟨_, _, none⟩) lq, by rw [← a3]; exact AL.out.cell (p := ⟨_, _, none⟩) lq, by rw [← c1]; exact AL.out.cell (p := ⟨_, _, none⟩) lp, by rw [← cx]; exact AL.out.cell (p := ⟨_, _, none⟩) lg⟩
  have M3 := Lib.hid (HM.out.later AL.out)
  have R3 := Lib.hid (HR.out.later AL.out)
  have p30 := M3.out.blk.cells.1
  have pz3 := M3.out.blk.frozen
  have pl3 := M3.out.blk.lt
  have fzA := HM.out.blk.frozen
  have KEY : ∀ W1, W1 = ((A.setCell ⟨w.heap.size + 1, 0, none⟩ (.int .i64 x3)).alloc (.cells #[.int .i64 x1, .int .i64 x2, .int .i64 x3] 3)).drew → MSt W1 B (w.heap.size + 1) x3 (.slice (some ⟨g, 0, none⟩) (t.length + 1) c) (t ++ [x]) (.slice ua o.length uc) o ∧ Blk3 W1 (w.heap.size + 1 + 1) (.int .i64 0) (.slice none 0 0) (.slice none 0 0) 28 ∧ Below B A W1 := by
    intro W1 hW1
    have h1 : MSt (A.setCell ⟨w.heap.size + 1, 0, none⟩ (.int .i64 x3)) B (w.heap.size + 1) x3 (.slice (some ⟨g, 0, none⟩) (t.length + 1) c) (t ++ [x]) (.slice ua o.length uc) o := ⟨HM.out.blk.set0 _, HM.out.low, own_set_far HM.out.sv HM.out.vp, own_set_far HM.out.ou HM.out.up, HM.out.ap, HM.out.vp, HM.out.up⟩
    have r1 : Blk3 (A.setCell ⟨w.heap.size + 1, 0, none⟩ (.int .i64 x3)) (w.heap.size + 1 + 1) (.int .i64 0) (.slice none 0 0) (.slice none 0 0) 28 := HR.out.keep (heap_setCell_other _ ⟨w.heap.size + 1, 0, none⟩ _ _ pr1)
    have b1 : Below (A.setCell ⟨w.heap.size + 1, 0, none⟩ (.int .i64 x3)).heap.size (A.setCell ⟨w.heap.size + 1, 0, none⟩ (.int .i64 x3)) W1 := by subst hW1; exact Below.drew ((Below.refl _ _).alloc (Nat.le_refl _) _)
    have b2 : Below B A (A.setCell ⟨w.heap.size + 1, 0, none⟩ (.int .i64 x3)) := (Below.refl _ _).setCell (show B ≤ w.heap.size + 1 by omega) _
    have l1 := h1.blk.lt
    exact ⟨h1.later b1, r1.later b1, b2.trans (b1.mono (by omega))⟩
  have KEY2 : ∀ W1 W2, MSt W1 B (w.heap.size + 1) x3 (.slice (some ⟨g, 0, none⟩) (t.length + 1) c) (t ++ [x]) (.slice ua o.length uc) o → W2 = W1.setCell ⟨w.heap.size + 1, 1, none⟩ (.slice (some ⟨g, 0, none⟩) t.length c) → MSt W2 B (w.heap.size + 1) x3 (.slice (some ⟨g, 0, none⟩) t.length c) t (.slice ua o.length uc) o := by
    intro W1 W2 h hW2
    subst hW2
    exact ⟨h.blk.set1 _, h.low, own_set_far (stack_rest h) h.vp, own_set_far h.ou h.up, h.ap, h.vp, h.up⟩
  have KH := Lib.hid KEY
  have KH2 := Lib.hid KEY2
  clear hx SG KEY KEY2
  go_enter Tryd.func22, Tryd.ntmps22
  go_wp2_with fail
  rw [← hA]
  clear hA
  have HS : Hid ((fun W : World => W.cell? ⟨w.heap.size, 1, none⟩ = some (.int .i64 x1) ∧ W.cell? ⟨w.heap.size, 2, none⟩ = some (.int .i64 x2) ∧ W.cell? ⟨w.heap.size, 3, none⟩ = some (.int .i64 x3) ∧ W.cell? ⟨w.heap.size + 1, 1, none⟩ = some (.slice (some ⟨g, 0, none⟩) (t.length + 1) c) ∧ W.cell? ⟨g, t.length, none⟩ = some (.int .i64 x)) A.drew) := Lib.hid ⟨a1, a2, a3, c1, cx⟩
  refine wp_region_T [18] (fun W : World => W.cell? ⟨w.heap.size, 1, none⟩ = some (.int .i64 x1) ∧ W.cell? ⟨w.heap.size, 2, none⟩ = some (.int .i64 x2) ∧ W.cell? ⟨w.heap.size, 3, none⟩ = some (.int .i64 x3) ∧ W.cell? ⟨w.heap.size + 1, 1, none⟩ = some (.slice (some ⟨g, 0, none⟩) (t.length + 1) c) ∧ W.cell? ⟨g, t.length, none⟩ = some (.int .i64 x)) (by kernel_rfl) ?_
  refine wpAnyT_take (i := 0) (v := ?v116) rfl (by kernel_rfl) (by kernel_rfl) (by kernel_rfl) (by kernel_rfl) (by kernel_rfl) (fun _ _ _ h => h) HS.out rfl ?hy116 ?hh116
  case hy116 => (intro W hW; obtain ⟨h1, h2, h3, h4, h5⟩ := hW; go_simp; try with_reducible rfl)
  case hh116 =>
  (try simp only [Act.put])
  refine wpAnyT_take (i := 1) (v := ?v117) rfl (by kernel_rfl) (by kernel_rfl) (by kernel_rfl) (by kernel_rfl) (by kernel_rfl) (fun _ _ _ h => h) HS.out rfl ?hy117 ?hh117
  case hy117 => (intro W hW; obtain ⟨h1, h2, h3, h4, h5⟩ := hW; go_simp; try with_reducible rfl)
  case hh117 =>
  (try simp only [Act.put])
  refine wpAnyT_take (i := 2) (v := ?v118) rfl (by kernel_rfl) (by kernel_rfl) (by kernel_rfl) (by kernel_rfl) (by kernel_rfl) (fun _ _ _ h => h) HS.out rfl ?hy118 ?hh118
  case hy118 => (intro W hW; obtain ⟨h1, h2, h3, h4, h5⟩ := hW; go_simp; try with_reducible rfl)
  case hh118 =>
  (try simp only [Act.put])
  refine wpAnyT_take (i := 3) (v := ?v119) rfl (by kernel_rfl) (by kernel_rfl) (by kernel_rfl) (by kernel_rfl) (by kernel_rfl) (fun _ _ _ h => h) HS.out rfl ?hy119 ?hh119
  case hy119 => (intro W hW; obtain ⟨h1, h2, h3, h4, h5⟩ := hW; go_simp; try with_reducible rfl)
  case hh119 =>
  (try simp only [Act.put])
  refine wpAnyT_take (i := 4) (v := ?v120) rfl (by kernel_rfl) (by kernel_rfl) (by kernel_rfl) (by kernel_rfl) (by kernel_rfl) (fun _ _ _ h => h) HS.out rfl ?hy120 ?hh120
  case hy120 => (intro W hW; obtain ⟨h1, h2, h3, h4, h5⟩ := hW; go_simp; try with_reducible rfl)
  case hh120 =>
  (try simp only [Act.put])
  refine wpAnyT_take (i := 5) (v := ?v121) rfl (by kernel_rfl) (by kernel_rfl) (by kernel_rfl) (by kernel_rfl) (by kernel_rfl) (fun _ _ _ h => h) HS.out rfl ?hy121 ?hh121
  case hy121 => (intro W hW; obtain ⟨h1, h2, h3, h4, h5⟩ := hW; go_simp; try with_reducible rfl)
  case hh121 =>
  (try simp only [Act.put])
  refine wpAnyT_take (i := 7) (v := ?v122) rfl (by kernel_rfl) (by kernel_rfl) (by kernel_rfl) (by kernel_rfl) (by kernel_rfl) (fun _ _ _ h => h) HS.out rfl ?hy122 ?hh122
  case hy122 => (intro W hW; obtain ⟨h1, h2, h3, h4, h5⟩ := hW; go_simp; try with_reducible rfl)
  case hh122 =>
  (try simp only [Act.put])
  refine wpAnyT_take (i := 8) (v := ?v123) rfl (by kernel_rfl) (by kernel_rfl) (by kernel_rfl) (by kernel_rfl) (by kernel_rfl) (fun _ _ _ h => h) HS.out rfl ?hy123 ?hh123
  case hy123 => (intro W hW; obtain ⟨h1, h2, h3, h4, h5⟩ := hW; go_simp; try with_reducible rfl)
  case hh123 =>
  (try simp only [Act.put])
  refine wpAnyT_take (i := 9) (v := ?v124) rfl (by kernel_rfl) (by kernel_rfl) (by kernel_rfl) (by kernel_rfl) (by kernel_rfl) (fun _ _ _ h => h) HS.out rfl ?hy124 ?hh124
  case hy124 => (intro W hW; obtain ⟨h1, h2, h3, h4, h5⟩ := hW; go_simp; try with_reducible rfl)
  case hh124 =>
  (try simp only [Act.put])
  refine wpAnyT_take (i := 10) (v := ?v125) rfl (by kernel_rfl) (by kernel_rfl) (by kernel_rfl) (by kernel_rfl) (by kernel_rfl) (fun _ _ _ h => h) HS.out rfl ?hy125 ?hh125
  case hy125 => (intro W hW; obtain ⟨h1, h2, h3, h4, h5⟩ := hW; go_simp; try with_reducible rfl)
  case hh125 =>
  (try simp only [Act.put])
  refine wpAnyT_take (i := 11) (v := ?v126) rfl (by kernel_rfl) (by kernel_rfl) (by kernel_rfl) (by kernel_rfl) (by kernel_rfl) (fun _ _ _ h => h) HS.out rfl ?hy126 ?hh126
  case hy126 => (intro W hW; obtain ⟨h1, h2, h3, h4, h5⟩ := hW; go_simp; try with_reducible rfl)
  case hh126 =>
  (try simp only [Act.put])
  refine wpAnyT_take (i := 12) (v := ?v127) rfl (by kernel_rfl) (by kernel_rfl) (by kernel_rfl) (by kernel_rfl) (by kernel_rfl) (fun _ _ _ h => h) HS.out rfl ?hy127 ?hh127
  case hy127 => (intro W hW; obtain ⟨h1, h2, h3, h4, h5⟩ := hW; go_simp; try with_reducible rfl)
  case hh127 =>
  (try simp only [Act.put])
  refine wpAnyT_two (i := 6) (k := 13) rfl rfl (by kernel_rfl) (fun K hK => ?_) (fun K hK => ?_)
  · skip
    go_simp
    refine hK _ _ (fun _ _ => HS2.out) ?_
    clear hK K
    (try simp only [Act.put])
    refine wpAnyT_only (i := 13) rfl (by kernel_rfl) (fun K hK => ?_)
    go_simp
    go_at_call 38
    refine (LSG.out _).mono ?_
    rintro e w3 ⟨rfl, rfl⟩
    refine hK _ _ (fun _ _ => HS2.out) ?_
    clear hK K
    (try simp only [Act.put])
    refine wpAnyT_takeA (i := 14) (v := ?v128) rfl (by kernel_rfl) (by kernel_rfl) (by kernel_rfl) (fun _ _ _ h => h) rfl ?hy128 ?hh128
    case hy128 => (intro W; go_simp; try with_reducible rfl)
    case hh128 =>
    (try simp only [Act.put])
    refine wpAnyT_takeA (i := 15) (v := ?v129) rfl (by kernel_rfl) (by kernel_rfl) (by kernel_rfl) (fun _ _ _ h => h) rfl ?hy129 ?hh129
    case hy129 => (intro W; go_simp; try with_reducible rfl)
    case hh129 =>
    (try simp only [Act.put])
    refine wpAnyT_only (i := 16) rfl (by kernel_rfl) (fun K hK => ?_)
    go_simp
    refine hK _ _ (fun _ _ => HS2.out) ?_
    clear hK K
    (try simp only [Act.put])
    refine wpAnyT_takeA (i := 17) (v := ?v130) rfl (by kernel_rfl) (by kernel_rfl) (by kernel_rfl) (fun _ _ _ h => h) rfl ?hy130 ?hh130
    case hy130 => (intro W; go_simp; try with_reducible rfl)
    case hh130 =>
    (try simp only [Act.put])
    refine wpAnyT_only (i := 18) rfl (by kernel_rfl) (fun K hK => ?_)
    go_simp
    refine hK _ _ (fun h => (h (by decide)).elim) ?_
    clear hK K
    refine wpAnyT_done (by kernel_rfl) ?_ _
    obtain ⟨W1, hW1⟩ : ∃ W1, W1 = ((A.setCell ⟨w.heap.size + 1, 0, none⟩ (.int .i64 x3)).alloc (.cells #[.int .i64 x1, .int .i64 x2, .int .i64 x3] 3)).drew := ⟨_, rfl⟩
    rw [← hW1]
    obtain ⟨M1, R1, BB⟩ := KH.out W1 hW1
    have FW : Hid (Fr (.slice (some ⟨g, 0, none⟩) (t.length + 1) c) (.slice ua o.length uc) w W1) := Lib.hid (by rw [hW1]; exact (((Fr.start BA.out).set (.inl (by omega))).later ((Below.refl _ _).alloc (by simp only [World.size_setCell]; omega) _)).drew)
    clear hW1
    obtain ⟨m0, m1, m2⟩ := M1.blk.cells
    have mz := M1.blk.frozen
    obtain ⟨r0, r1, r2⟩ := R1.cells
    have rz := R1.frozen
    have ml := M1.blk.lt
    have rl := R1.lt
    have HM1 := Lib.hid M1
    have HR1 := Lib.hid R1
    have HBB := Lib.hid ((BA.out.mono hB).trans BB)
    clear M1 R1 BB
    go_wp2
    obtain ⟨W2, hW2⟩ : ∃ W2, W2 = W1.setCell ⟨w.heap.size + 1, 1, none⟩ (.slice (some ⟨g, 0, none⟩) t.length c) := ⟨_, rfl⟩
    obtain ⟨WF, hWF⟩ : ∃ WF, WF = (((W1.setCell ⟨w.heap.size + 1, 1, none⟩ (.slice (some ⟨g, 0, none⟩) t.length c)).setCell ⟨w.heap.size + 1 + 1, 0, none⟩ (.int .i64 x3)).setCell ⟨w.heap.size + 1 + 1, 1, none⟩ (.slice (some ⟨g, 0, none⟩) t.length c)).setCell ⟨w.heap.size + 1 + 1, 2, none⟩ (.slice ua o.length uc) := ⟨_, rfl⟩
    rw [← hWF]
    rw [← hW2] at hWF
    have M2 := KH2.out W1 W2 HM1.out hW2
    have R2 : Blk3 W2 (w.heap.size + 1 + 1) (.int .i64 0) (.slice none 0 0) (.slice none 0 0) 28 := by rw [hW2]; exact HR1.out.keep (heap_setCell_other _ ⟨w.heap.size + 1, 1, none⟩ _ _ pr1)
    have B2 : Below B w W2 := by rw [hW2]; exact HBB.out.setCell (show B ≤ w.heap.size + 1 by omega) _
    obtain ⟨⟨f0, f1, f2⟩, w1, w2, w4⟩ := change_end2 M2 R2 B2 (by omega) hWF HNV.out HNU.out
    refine bodyPost_ret (v := .agg #[.int .i64 x3, (.slice (some ⟨g, 0, none⟩) t.length c), .slice ua o.length uc]) (by simp [results, Tryd.results22, go_sem, f0, f1, f2]) rfl ?_
    exact ⟨_, _, rfl, w1, w2, M2.ap, w4, by rw [hWF, hW2]; repeat (first | with_reducible exact FW.out | with_reducible refine Fr.drew ?_ | (with_reducible refine Fr.set ?_ ?hr; case hr => (first | (left; omega) | exact .inr (.inl rfl) | exact .inr (.inr rfl))))⟩
  · skip
    go_simp
    go_at_call 38
    refine (LSG.out _).mono ?_
    rintro e w3 ⟨rfl, rfl⟩
    refine hK _ _ (fun _ _ => HS.out) ?_
    clear hK K
    (try simp only [Act.put])
    refine wpAnyT_takeA (i := 14) (v := ?v131) rfl (by kernel_rfl) (by kernel_rfl) (by kernel_rfl) (fun _ _ _ h => h) rfl ?hy131 ?hh131
    case hy131 => (intro W; go_simp; try with_reducible rfl)
    case hh131 =>
    (try simp only [Act.put])
    refine wpAnyT_only (i := 6) rfl (by kernel_rfl) (fun K hK => ?_)
    go_simp
    refine hK _ _ (fun _ _ => HS2.out) ?_
    clear hK K
    (try simp only [Act.put])
    refine wpAnyT_takeA (i := 15) (v := ?v132) rfl (by kernel_rfl) (by kernel_rfl) (by kernel_rfl) (fun _ _ _ h => h) rfl ?hy132 ?hh132
    case hy132 => (intro W; go_simp; try with_reducible rfl)
    case hh132 =>
    (try simp only [Act.put])
    refine wpAnyT_only (i := 16) rfl (by kernel_rfl) (fun K hK => ?_)
    go_simp
    refine hK _ _ (fun _ _ => HS2.out) ?_
    clear hK K
    (try simp only [Act.put])
    refine wpAnyT_takeA (i := 17) (v := ?v133) rfl (by kernel_rfl) (by kernel_rfl) (by kernel_rfl) (fun _ _ _ h => h) rfl ?hy133 ?hh133
    case hy133 => (intro W; go_simp; try with_reducible rfl)
    case hh133 =>
    (try simp only [Act.put])
    refine wpAnyT_only (i := 18) rfl (by kernel_rfl) (fun K hK => ?_)
    go_simp
    refine hK _ _ (fun h => (h (by decide)).elim) ?_
    clear hK K
    refine wpAnyT_done (by kernel_rfl) ?_ _
    obtain ⟨W1, hW1⟩ : ∃ W1, W1 = ((A.setCell ⟨w.heap.size + 1, 0, none⟩ (.int .i64 x3)).alloc (.cells #[.int .i64 x1, .int .i64 x2, .int .i64 x3] 3)).drew := ⟨_, rfl⟩
    rw [← hW1]
    obtain ⟨M1, R1, BB⟩ := KH.out W1 hW1
    have FW : Hid (Fr (.slice (some ⟨g, 0, none⟩) (t.length + 1) c) (.slice ua o.length uc) w W1) := Lib.hid (by rw [hW1]; exact (((Fr.start BA.out).set (.inl (by omega))).later ((Below.refl _ _).alloc (by simp only [World.size_setCell]; omega) _)).drew)
    clear hW1
    obtain ⟨m0, m1, m2⟩ := M1.blk.cells
    have mz := M1.blk.frozen
    obtain ⟨r0, r1, r2⟩ := R1.cells
    have rz := R1.frozen
    have ml := M1.blk.lt
    have rl := R1.lt
    have HM1 := Lib.hid M1
    have HR1 := Lib.hid R1
    have HBB := Lib.hid ((BA.out.mono hB).trans BB)
    clear M1 R1 BB
    go_wp2
    obtain ⟨W2, hW2⟩ : ∃ W2, W2 = W1.setCell ⟨w.heap.size + 1, 1, none⟩ (.slice (some ⟨g, 0, none⟩) t.length c) := ⟨_, rfl⟩
    obtain ⟨WF, hWF⟩ : ∃ WF, WF = (((W1.setCell ⟨w.heap.size + 1, 1, none⟩ (.slice (some ⟨g, 0, none⟩) t.length c)).setCell ⟨w.heap.size + 1 + 1, 0, none⟩ (.int .i64 x3)).setCell ⟨w.heap.size + 1 + 1, 1, none⟩ (.slice (some ⟨g, 0, none⟩) t.length c)).setCell ⟨w.heap.size + 1 + 1, 2, none⟩ (.slice ua o.length uc) := ⟨_, rfl⟩
    rw [← hWF]
    rw [← hW2] at hWF
    have M2 := KH2.out W1 W2 HM1.out hW2
    have R2 : Blk3 W2 (w.heap.size + 1 + 1) (.int .i64 0) (.slice none 0 0) (.slice none 0 0) 28 := by rw [hW2]; exact HR1.out.keep (heap_setCell_other _ ⟨w.heap.size + 1, 1, none⟩ _ _ pr1)
    have B2 : Below B w W2 := by rw [hW2]; exact HBB.out.setCell (show B ≤ w.heap.size + 1 by omega) _
    obtain ⟨⟨f0, f1, f2⟩, w1, w2, w4⟩ := change_end2 M2 R2 B2 (by omega) hWF HNV.out HNU.out
    refine bodyPost_ret (v := .agg #[.int .i64 x3, (.slice (some ⟨g, 0, none⟩) t.length c), .slice ua o.length uc]) (by simp [results, Tryd.results22, go_sem, f0, f1, f2]) rfl ?_
    exact ⟨_, _, rfl, w1, w2, M2.ap, w4, by rw [hWF, hW2]; repeat (first | with_reducible exact FW.out | with_reducible refine Fr.drew ?_ | (with_reducible refine Fr.set ?_ ?hr; case hr => (first | (left; omega) | exact .inr (.inl rfl) | exact .inr (.inr rfl))))⟩
end Go.Proofs.YtlpdeeaebgclpaaDoor

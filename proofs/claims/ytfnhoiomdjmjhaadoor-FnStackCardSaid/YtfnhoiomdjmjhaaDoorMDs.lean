/- What the laws draw: a machine for a program. Written by tools/laws/mds.py. -/
import Derived.Test.YtfnhoiomdjmjhaaDoorMDr
import Derived.Test.YtfnhoiomdjmjhaaDoorMDc
import Derived.Test.YtfnhoiomdjmjhaaDoorMRow
namespace Go.Proofs.YtfnhoiomdjmjhaaDoor
set_option maxRecDepth 20000
open Go.RowKit
theorem Drm.drew {w wr : World} {q p : Nat} {a : Option Addr} {n cap pb : Nat} {k : Int} {v u : Value} {s o : List Int} (h : Drm w wr q p a n cap pb k v u s o) : Drm w wr.drew q p a n cap pb k v u s o := h.moved (h.cur.of_blocks rfl (fun _ _ => rfl)) (grown_drew (grown_refl _ _))
/-- The machine is handed back. -/
theorem Drm.fin {w W WF : World} {q p : Nat} {a : Option Addr} {n cap pb : Nat} {k : Int} {a1 b1 : Option Addr} {c1 d1 : Nat} {s o : List Int} {n1 n2 : Nat} (h : Drm w W q p a n cap pb k (.slice a1 n1 c1) (.slice b1 n2 d1) s o) (e1 : s.length = n1) (e2 : o.length = n2)
    (hW : WF = ((W.setCell ⟨w.heap.size, 0, none⟩ (.int .i64 k)).setCell ⟨w.heap.size, 1, none⟩ (.slice a1 n1 c1)).setCell ⟨w.heap.size, 2, none⟩ (.slice b1 n2 d1)) :
    Blk3 WF w.heap.size (.int .i64 k) (.slice a1 n1 c1) (.slice b1 n2 d1) 27 ∧ Ms WF a1 n1 c1 s b1 n2 d1 o ∧ w.grownBy WF (some p) := by
  subst hW
  subst e1
  subst e2
  have nv : (Value.slice a1 s.length c1).ownBlock ≠ some w.heap.size := fun e => by have := (h.ms.sv.lt _ e).1; omega
  have nu : (Value.slice b1 o.length d1).ownBlock ≠ some w.heap.size := fun e => by have := (h.ms.ou.lt _ e).1; omega
  exact ⟨((h.res.set0 _).set1 _).set2 _, ⟨Ints.of_own (own_set_far (own_set_far (own_set_far h.ms.sv nv) nv) nv), Ints.of_own (own_set_far (own_set_far (own_set_far h.ms.ou nu) nu) nu)⟩, grown_set (grown_set (grown_set h.grown (Nat.le_refl _)) (Nat.le_refl _)) (Nat.le_refl _)⟩
/-- Some machine is drawn. -/
def DrawnM (p : Nat) (w : World) (e : Ending) (w' : World) : Prop :=
  ∃ (k : Int) (s o : List Int) (a1 b1 : Option Addr) (n1 c1 n2 d1 : Nat), e = .returned (machV k a1 n1 c1 b1 n2 d1) ∧ Ms w' a1 n1 c1 s b1 n2 d1 o ∧ w.grownBy w' (some p) ∧ (∀ j, (Value.slice a1 n1 c1).ownBlock = some j → w.heap.size ≤ j) ∧ ∀ j, (Value.slice b1 n2 d1).ownBlock = some j → w.heap.size ≤ j
set_option maxHeartbeats 4000000 in
theorem sSome7 (q p : Nat) (a : Option Addr) (n cap : Nat) (aL : Option Addr) (nL cL : Nat) (w : World) (hc : Cur w q p a n cap) (hn : nL ≤ 80) : Calls Tryd.prog 18 #[.pointer (some ⟨p, 0, none⟩), .slice aL nL cL] w (DrawnM p w) := by
  obtain ⟨i0, hi, hz0, hz1, hz2⟩ := info_parts infoInt
  have hpl := hc.lt
  obtain ⟨A, hA⟩ : ∃ A, A = w.alloc (.cells #[.int .i64 0, .slice none 0 0, .slice none 0 0] 27) := ⟨_, rfl⟩
  have sA : A.heap.size = w.heap.size + 1 := by rw [hA]; simp
  have RA := Lib.hid (show Blk3 A w.heap.size (.int .i64 0) (.slice none 0 0) (.slice none 0 0) 27 by rw [hA]; exact blk3_new _ _ _ _ _)
  have GA := Lib.hid (show w.grownBy A (some p) by rw [hA]; exact grown_alloc (grown_refl _ _) _)
  have CA := Lib.hid (show Cur A q p a n cap by rw [hA]; exact hc.below ((Below.refl _ _).alloc (Nat.le_refl _) _))
  have wn : IntKind.i64.wrap ((nL : Int) + 1) = (nL : Int) + 1 := IntWalk.i64_in _ (by omega)
  clear hc
  go_enter Tryd.func18, Tryd.ntmps18
  go_wp2_with fail
  rw [← hA]
  clear hA
  refine (sNewMachine _).mono ?_
  intro r w1 hh
  unfold RetM at hh
  obtain ⟨a1, c1, b1, d1, rfl, om, hb1, -, -⟩ := hh
  have g1 := om.g.1
  have i1 := om.i.1
  obtain ⟨g, d2, hg⟩ := own_shapeN i1 (by simp)
  rw [List.length_replicate] at hg i1
  simp only [Value.slice.injEq] at hg
  obtain ⟨rfl, -, rfl⟩ := hg
  have D1 : Hid (Drm w (w1.alloc (.cells #[.int .i64 0, .slice a1 0 c1, .slice (some ⟨g, 0, none⟩) 27 d1] 27)) q p a n cap w1.heap.size 0 (.slice a1 0 c1) (.slice (some ⟨g, 0, none⟩) 27 d1) [] (List.replicate 27 0)) := Lib.hid (by
    have bl : Below A.heap.size A (w1.alloc (.cells #[.int .i64 0, .slice a1 0 c1, .slice (some ⟨g, 0, none⟩) 27 d1] 27)) := hb1.alloc hb1.size _
    rw [sA] at g1 i1
    have s1 := hb1.size
    have ba := (Below.refl w1.heap.size w1).alloc (Nat.le_refl _) (.cells #[.int .i64 0, .slice a1 0 c1, .slice (some ⟨g, 0, none⟩) 27 d1] 27)
    refine ⟨CA.out.below bl, RA.out.later bl, ⟨blk3_new _ _ _ _ _, by omega, own_below g1 ba, own_below i1 ba, om.ap, fun e => ?_, fun e => ?_⟩, grown_trans GA.out (below_grown bl (Nat.le_refl _)), hpl⟩
    · have := (g1.lt _ e).2; omega
    · have := (i1.lt _ e).2; omega)
  have pb1 : w.heap.size + 1 ≤ w1.heap.size := by have := hb1.size; omega
  obtain ⟨pb, hpb⟩ : ∃ z, z = w1.heap.size := ⟨_, rfl⟩
  clear om hb1 g1 i1 CA GA RA
  go_wp2_with fail
  rw [← hpb] at D1 pb1 ⊢
  generalize w1.alloc _ = W1 at D1 ⊢
  clear hpb
  refine (sBelow q p a n cap ((nL : Int) + 1) _ D1.out.cur (by omega) (by omega)).mono ?_
  rintro e w2 ⟨y, rfl, -, -, hc2, ht2⟩
  have D2 := Lib.hid (D1.out.moved hc2 ht2.grown)
  have pz := D2.out.ms.blk.frozen
  have pl := D2.out.ms.blk.lt
  obtain ⟨m0, m1, m2⟩ := D2.out.ms.blk.cells
  clear hc2 ht2 D1
  go_wp2_with fail
  have D3 := Lib.hid (D2.out.pc y)
  generalize hw3 : w2.setCell _ _ = w3 at D3 ⊢
  have s3 : w2.heap.size = w3.heap.size := by rw [← hw3]; simp
  clear D2 pz pl m0 m1 m2 hw3
  refine (sPickNew q p a n cap [0, 1, 2, 3, 5, 19, 20] _ w3 _ s3 _ rfl rfl D3.out.cur (by simp) (by simp)).mono ?_
  rintro e w4 ⟨k0, rfl, hk0, hc4, hg4⟩
  have D4 := Lib.hid (D3.out.moved hc4 hg4)
  simp only [List.mem_cons, List.mem_nil_iff, or_false] at hk0
  obtain ⟨K, rfl⟩ : ∃ K : Nat, k0 = (K : Int) := ⟨k0.toNat, by omega⟩
  have K20 : K ≤ 20 := by omega
  clear hk0 hc4 hg4 D3
  go_wp2_with fail
  go_loopw [6] (fun i wr => ∃ (r : Nat) (v : Value) (s : List Int), i = .int .i64 r ∧ s.length + r ≤ 20 ∧ Hid (Drm w wr q p a n cap pb y v (.slice (some ⟨g, 0, none⟩) 27 d1) s (List.replicate 27 0))) (fun i _ => (intOf i).toNat)
  case atStart => exact ⟨K, .slice a1 0 c1, [], rfl, by simpa using K20, D4⟩
  case round =>
    obtain ⟨r, v, s, rfl, hs, D⟩ := hrel
    obtain ⟨va, vc, rfl⟩ := own_form D.out.ms.sv
    clear D4
    rcases Nat.eq_zero_or_pos r with hr | hr
    · have q0 : ¬ (0 : Int) < (r : Int) := by omega
      clear hr
      obtain ⟨m0, m1, m2⟩ := D.out.ms.blk.cells
      have L0 : Hid ((List.replicate 27 (0 : Int)).length = 27) := Lib.hid (by simp)
      go_wp2_with fail
      clear m0 m1 m2
      go_loopw [33] (fun i wz => ∃ (j : Nat) (ol : List Int), j ≤ 27 ∧ i = .int .i64 j ∧ Hid (ol.length = 27) ∧ Hid (Drm w wz q p a n cap pb y (.slice va s.length vc) (.slice (some ⟨g, 0, none⟩) 27 d1) s ol)) (fun i _ => 27 - (intOf i).toNat)
      case atStart => exact ⟨0, _, by omega, rfl, L0, D⟩
      case round =>
        clear D L0
        obtain ⟨j, ol, hj, rfl, HL, D⟩ := hrel
        by_cases hlt : j < 27
        · have j0 : (0 : Int) ≤ (j : Int) := by omega
          have j1 : (j : Int) < 27 := by omega
          have j2 : decide ((j : Int) < 27) = true := by simpa using j1
          go_wp2_with fail
          have HS : Hid ((fun W : World => W.cell? ⟨pb, 2, none⟩ = some (.slice (some ⟨g, 0, none⟩) 27 d1)) wr.drew) := Lib.hid D.out.ms.blk.cells.2.2
          refine wp_region_T [7] (fun W : World => W.cell? ⟨pb, 2, none⟩ = some (.slice (some ⟨g, 0, none⟩) 27 d1)) (by kernel_rfl) ?_
          refine wpAnyT_take (i := 0) (v := ?v5) rfl (by kernel_rfl) (by kernel_rfl) (by kernel_rfl) (by kernel_rfl) (by kernel_rfl) (fun _ _ _ h => h) HS.out rfl ?hy5 ?hh5
          case hy5 => (intro W h1; go_simp; try with_reducible rfl)
          case hh5 =>
          (try simp only [Act.put])
          refine wpAnyT_take (i := 1) (v := ?v6) rfl (by kernel_rfl) (by kernel_rfl) (by kernel_rfl) (by kernel_rfl) (by kernel_rfl) (fun _ _ _ h => h) HS.out rfl ?hy6 ?hh6
          case hy6 => (intro W h1; go_simp; try with_reducible rfl)
          case hh6 =>
          (try simp only [Act.put])
          refine wpAnyT_take (i := 2) (v := ?v7) rfl (by kernel_rfl) (by kernel_rfl) (by kernel_rfl) (by kernel_rfl) (by kernel_rfl) (fun _ _ _ h => h) HS.out rfl ?hy7 ?hh7
          case hy7 => (intro W h1; go_simp; try with_reducible rfl)
          case hh7 =>
          (try simp only [Act.put])
          refine wpAnyT_take (i := 3) (v := ?v8) rfl (by kernel_rfl) (by kernel_rfl) (by kernel_rfl) (by kernel_rfl) (by kernel_rfl) (fun _ _ _ h => h) HS.out rfl ?hy8 ?hh8
          case hy8 => (intro W h1; go_simp; try with_reducible rfl)
          case hh8 =>
          (try simp only [Act.put])
          have D5 := Lib.hid D.out.drew
          generalize hW5 : World.drew wr = w5 at D5 HS ⊢
          clear hW5
          refine wpAnyT_only (i := 4) rfl (by kernel_rfl) (fun K hK => ?_)
          go_simp
          go_at_call 35
          refine (sBelow q p a n cap 21 _ D5.out.cur (by omega) (by omega)).mono ?_
          rintro e w6 ⟨z, rfl, z0, z1, hc6, ht6⟩
          have D6 := Lib.hid (D5.out.moved hc6 ht6.grown)
          have zw : IntKind.i64.wrap (z - 10) = z - 10 := IntWalk.i64_in _ (by omega)
          refine hK _ _ (fun _ _ => D6.out.ms.blk.cells.2.2) ?_
          clear hK K hc6 ht6
          (try simp only [Act.put])
          refine wpAnyT_takeA (i := 5) (v := ?v9) rfl (by kernel_rfl) (by kernel_rfl) (by kernel_rfl) (fun _ _ _ h => h) rfl ?hy9 ?hh9
          case hy9 => (intro W; go_simp; try with_reducible rfl)
          case hh9 =>
          (try simp only [Act.put])
          refine wpAnyT_takeA (i := 6) (v := ?v10) rfl (by kernel_rfl) (by kernel_rfl) (by kernel_rfl) (fun _ _ _ h => h) rfl ?hy10 ?hh10
          case hy10 => (intro W; go_simp; try with_reducible rfl)
          case hh10 =>
          (try simp only [Act.put])
          have fz := D6.out.ms.ou
          rw [HL.out] at fz
          have fz1 := fz.frozenAt
          have gl := (fz.lt g rfl).2
          have cu : ∃ u, w6.cell? ⟨g, j, none⟩ = some (.int .i64 u) := by
            rcases (Ints.of_own fz).2.2.2 with h | ⟨b, q', e, hb, hh⟩
            · omega
            · simp only [Option.some.injEq, Addr.mk.injEq, and_true] at e
              obtain ⟨rfl, rfl⟩ := e
              have := hh j hlt
              rw [Nat.zero_add] at this
              exact ⟨_, this⟩
          obtain ⟨u, hu⟩ := cu
          have fj := fz1 j
          have D8 := Lib.hid (D6.out.cell HL.out.symm j (z - 10))
          have HL8 : Hid ((ol.set j (z - 10)).length = 27) := Lib.hid (by rw [List.length_set]; exact HL.out)
          clear fz fz1
          refine wpAnyT_only (i := 7) rfl (by kernel_rfl) (fun K hK => ?_)
          go_simp
          refine hK _ _ (fun h => (h (by decide)).elim) ?_
          clear hK K fj gl hu
          (try simp only [Act.put])
          refine wpAnyT_done (by kernel_rfl) ?_ _
          generalize w6.setCell _ _ = w9 at D8 ⊢
          clear D6 D5 HS D
          go_wp2
          exact ⟨⟨j + 1, _, by omega, by go_num, HL8, D8⟩, by simp [intOf]; omega⟩
        · obtain rfl : j = 27 := by omega
          go_wp2_with fail
          refine (sOnce q p a n cap 12 _ D.out.cur (by omega) (by omega)).mono ?_
          rintro e w5 ⟨bo, rfl, hc5, ht5⟩
          have D5 := Lib.hid (D.out.moved hc5 ht5.grown)
          clear hc5 ht5 D
          cases bo
          · obtain ⟨m0, m1, m2⟩ := D5.out.ms.blk.cells
            have pz := D5.out.ms.blk.frozen
            have pl := D5.out.ms.blk.lt
            obtain ⟨r0, r1, r2⟩ := D5.out.res.cells
            have rz := D5.out.res.frozen
            have rl := D5.out.res.lt
            have pn : pb ≠ w.heap.size := by have := D5.out.ms.low; omega
            have pn2 : w.heap.size ≠ pb := Ne.symm pn
            go_wp2
            obtain ⟨WF, hWF⟩ : ∃ WF, WF = (((w5).setCell ⟨w.heap.size, 0, none⟩ (.int .i64 (y))).setCell ⟨w.heap.size, 1, none⟩ (.slice va s.length vc)).setCell ⟨w.heap.size, 2, none⟩ (.slice (some ⟨g, 0, none⟩) 27 d1) := ⟨_, rfl⟩
            rw [← hWF]
            obtain ⟨bf, ms, gf⟩ := Drm.fin D5.out rfl HL.out hWF
            obtain ⟨f0, f1, f2⟩ := bf.cells
            refine bodyPost_ret (v := machV (y) va s.length vc (some ⟨g, 0, none⟩) 27 d1) (by simp [results, Tryd.results18, go_sem, f0, f1, f2]) rfl ?_
            exact ⟨_, _, _, _, _, _, _, _, _, rfl, ms, gf, fun j e => by have := (D5.out.ms.sv.lt j e).1; omega, fun j e => by have := (D5.out.ms.ou.lt j e).1; omega⟩
          · go_wp2_with fail
            refine (sBelow q p a n cap 4 _ D5.out.cur (by omega) (by omega)).mono ?_
            rintro e w6 ⟨z, rfl, z0, z1, hc6, ht6⟩
            have D6 := Lib.hid (D5.out.moved hc6 ht6.grown)
            clear hc6 ht6 D5
            have zz : z = 0 ∨ z = 1 ∨ z = 2 ∨ z = 3 := by omega
            rcases zz with rfl | rfl | rfl | rfl
            · go_wp2_with fail
              refine (sPickNew q p a n cap [-1, (nL : Int) + 1, -9223372036854775808] _ w6 _ rfl _ rfl rfl D6.out.cur (by simp) (by simp)).mono ?_
              rintro e w7 ⟨z, rfl, -, hc7, hg7⟩
              have D7 := Lib.hid (D6.out.moved hc7 hg7)
              clear hc7 hg7 D6
              obtain ⟨m0, m1, m2⟩ := D7.out.ms.blk.cells
              have pz := D7.out.ms.blk.frozen
              have pl := D7.out.ms.blk.lt
              obtain ⟨r0, r1, r2⟩ := D7.out.res.cells
              have rz := D7.out.res.frozen
              have rl := D7.out.res.lt
              have pn : pb ≠ w.heap.size := by have := D7.out.ms.low; omega
              have pn2 : w.heap.size ≠ pb := Ne.symm pn
              have D8 := Lib.hid (D7.out.pc z)
              go_wp2
              obtain ⟨WF, hWF⟩ : ∃ WF, WF = (((w7.setCell ⟨pb, 0, none⟩ (.int .i64 z)).setCell ⟨w.heap.size, 0, none⟩ (.int .i64 (z))).setCell ⟨w.heap.size, 1, none⟩ (.slice va s.length vc)).setCell ⟨w.heap.size, 2, none⟩ (.slice (some ⟨g, 0, none⟩) 27 d1) := ⟨_, rfl⟩
              rw [← hWF]
              obtain ⟨bf, ms, gf⟩ := Drm.fin D8.out rfl HL.out hWF
              obtain ⟨f0, f1, f2⟩ := bf.cells
              refine bodyPost_ret (v := machV (z) va s.length vc (some ⟨g, 0, none⟩) 27 d1) (by simp [results, Tryd.results18, go_sem, f0, f1, f2]) rfl ?_
              exact ⟨_, _, _, _, _, _, _, _, _, rfl, ms, gf, fun j e => by have := (D8.out.ms.sv.lt j e).1; omega, fun j e => by have := (D8.out.ms.ou.lt j e).1; omega⟩
            · have NW := Lib.hid (app_c1 w6 9842 3)
              have D7 := Lib.hid (D6.out.below ((Below.refl _ _).alloc (Nat.le_refl _) (.cells #[.int .i64 9842] 3)))
              have OW := Lib.hid D7.out.ms.sv
              have gz := D7.out.grown.size
              have gz0 := D6.out.ms.low
              have gz1 := D6.out.ms.blk.lt
              obtain ⟨m0, m1, m2⟩ := D6.out.ms.blk.cells
              go_wp2_with (at_builtin; refine wpList_append_own_at _ rfl _ _ 25 rfl (w.heap.size + 1) 3 i0 (.int .i64 0) 1 8 Tryd.underlying25 hi hz0 hz1 hz2 rfl (by decide) _ _ _ rfl OW.out ⟨w6.heap.size, 0, none⟩ 1 1 [.int .i64 9842] rfl rfl NW.out (app_c2 _) (by unfold maxLen; omega) (by omega) (by simp; omega) ?_)
              intro v' w8 hown hg _ hat
              have D8 := Lib.hid (D7.out.push (s' := s ++ [9842]) hg (by rw [List.length_append, List.map_append]; exact hown) (by rw [World.size_alloc]; exact hat))
              have b8 := D7.out.ms.blk.keep (hg.block pb D7.out.ms.blk.lt (fun e => D7.out.ms.vp e.symm))
              have c8 := D7.out.res.keep (hg.block w.heap.size D7.out.res.lt (fun e => by have := (D7.out.ms.sv.lt _ e.symm).1; omega))
              obtain ⟨va2, vc2, rfl⟩ := own_form hown
              clear m0 m1 m2 hown hg hat
              obtain ⟨m0, m1, m2⟩ := b8.cells
              have pz := b8.frozen
              have pl := b8.lt
              obtain ⟨r0, r1, r2⟩ := c8.cells
              have rz := c8.frozen
              have rl := c8.lt
              have pn : pb ≠ w.heap.size := by omega
              have pn2 : w.heap.size ≠ pb := Ne.symm pn
              clear b8 c8
              go_wp2
              obtain ⟨WF, hWF⟩ : ∃ WF, WF = (((w8.setCell ⟨pb, 1, none⟩ (.slice va2 (s.length + 1) vc2)).setCell ⟨w.heap.size, 0, none⟩ (.int .i64 (y))).setCell ⟨w.heap.size, 1, none⟩ (.slice va2 (s.length + 1) vc2)).setCell ⟨w.heap.size, 2, none⟩ (.slice (some ⟨g, 0, none⟩) 27 d1) := ⟨_, rfl⟩
              rw [← hWF]
              obtain ⟨bf, ms, gf⟩ := Drm.fin D8.out (by simp) HL.out hWF
              obtain ⟨f0, f1, f2⟩ := bf.cells
              refine bodyPost_ret (v := machV (y) va2 (s.length + 1) vc2 (some ⟨g, 0, none⟩) 27 d1) (by simp [results, Tryd.results18, go_sem, f0, f1, f2]) rfl ?_
              exact ⟨_, _, _, _, _, _, _, _, _, rfl, ms, gf, fun j e => by have := (D8.out.ms.sv.lt j e).1; omega, fun j e => by have := (D8.out.ms.ou.lt j e).1; omega⟩
            · have fz := D6.out.ms.ou
              rw [HL.out] at fz
              have IT := Lib.hid ((Ints.of_own fz).part 1 27 (by omega) (by omega))
              have GL := Lib.hid (fz.lt g rfl)
              have up := D6.out.ms.up
              have d27 := (Ints.of_own fz).2.1
              have d28 : (27 : Int) ≤ (d1 : Int) := by omega
              clear fz
              obtain ⟨m0, m1, m2⟩ := D6.out.ms.blk.cells
              have pz := D6.out.ms.blk.frozen
              have pl := D6.out.ms.blk.lt
              obtain ⟨r0, r1, r2⟩ := D6.out.res.cells
              have rz := D6.out.res.frozen
              have rl := D6.out.res.lt
              have pn : pb ≠ w.heap.size := by have := D6.out.ms.low; omega
              have pn2 : w.heap.size ≠ pb := Ne.symm pn
              go_wp2
              obtain ⟨WF, hWF⟩ : ∃ WF, WF = (((w6.setCell ⟨pb, 2, none⟩ (.slice (some ⟨g, 1, none⟩) 26 (d1 - 1))).setCell ⟨w.heap.size, 0, none⟩ (.int .i64 y)).setCell ⟨w.heap.size, 1, none⟩ (.slice va s.length vc)).setCell ⟨w.heap.size, 2, none⟩ (.slice (some ⟨g, 1, none⟩) 26 (d1 - 1)) := ⟨_, rfl⟩
              rw [← hWF]
              have gp : g ≠ pb := fun e => up (by rw [e]; rfl)
              have gw_ : g ≠ w.heap.size := by have := GL.out.1; omega
              have bf : Blk3 WF w.heap.size (.int .i64 y) (.slice va s.length vc) (.slice (some ⟨g, 1, none⟩) 26 (d1 - 1)) 27 := by
                rw [hWF]; exact (((D6.out.res.keep (heap_setCell_other _ ⟨pb, 2, none⟩ _ _ pn2)).set0 _).set1 _).set2 _
              have ms : Ms WF va s.length vc s (some ⟨g, 1, none⟩) 26 (d1 - 1) (Tm.part ol 1 27) := by
                have nv : (Value.slice va s.length vc).ownBlock ≠ some w.heap.size := fun e => by have := (D6.out.ms.sv.lt _ e).1; omega
                refine ⟨by rw [hWF]; exact Ints.of_own (own_set_far (own_set_far (own_set_far (own_set_far D6.out.ms.sv D6.out.ms.vp) nv) nv) nv), ?_⟩
                refine IT.out.of_blocks (by rw [hWF]; simp only [World.size_setCell]; exact Nat.le_refl _) (fun b o e hb => ?_)
                simp only [Option.some.injEq, Addr.mk.injEq, and_true] at e
                obtain ⟨rfl, rfl⟩ := e
                rw [hWF, heap_setCell_other _ ⟨w.heap.size, 2, none⟩ _ _ gw_, heap_setCell_other _ ⟨w.heap.size, 1, none⟩ _ _ gw_, heap_setCell_other _ ⟨w.heap.size, 0, none⟩ _ _ gw_, heap_setCell_other _ ⟨pb, 2, none⟩ _ _ gp]
              have gf : w.grownBy WF (some p) := by
                rw [hWF]; exact grown_set (grown_set (grown_set (grown_set D6.out.grown (by omega)) (Nat.le_refl _)) (Nat.le_refl _)) (Nat.le_refl _)
              obtain ⟨f0, f1, f2⟩ := bf.cells
              refine bodyPost_ret (v := machV y va s.length vc (some ⟨g, 1, none⟩) 26 (d1 - 1)) (by simp [results, Tryd.results18, go_sem, f0, f1, f2]) rfl ?_
              exact ⟨_, _, _, _, _, _, _, _, _, rfl, ms, gf, fun j e => by have := (D6.out.ms.sv.lt j e).1; omega, fun j e => by have e : some g = some j := e; have := GL.out.1; cases e; omega⟩
            · obtain ⟨m0, m1, m2⟩ := D6.out.ms.blk.cells
              have gz := D6.out.grown.size
              have gz0 := D6.out.ms.low
              have gz1 := D6.out.ms.blk.lt
              go_wp2_with (at_make; refine wpList_make_full _ rfl _ _ 25 rfl (w.heap.size + 1) 3 i0 (.int .i64 0) 1 Tryd.underlying25 hi hz0 hz1 _ _ _ _ (21) rfl rfl (by first | rfl | omega) (by first | rfl | omega) (by rw [hz2]; omega) (by unfold maxLen; omega) (by first | go_size | (simp only [gw_size, World.size_alloc]; omega) | exact Nat.le_refl _ | omega) ?_)
              intro w8 hown hgrow
              have hg : w6.grownBy w8 (Value.slice va s.length vc).ownBlock := ⟨hgrow.os, hgrow.tape, hgrow.output, hgrow.size, fun k hk _ => hgrow.block k hk (by simp)⟩
              have hown2 : w8.ownsRow (w.heap.size + 1) 3 1 (.slice (some ⟨w6.heap.size, 0, none⟩) 21 21) (List.replicate 21 (0 : Int)).length ((List.replicate 21 (0 : Int)).map (Value.int .i64)) := by
                rw [List.map_replicate, List.length_replicate]; rw [toList_madeCells_one] at hown; exact hown
              have D8 := Lib.hid (D6.out.push hg hown2 (.inr rfl))
              have b8 := D6.out.ms.blk.keep (hg.block pb D6.out.ms.blk.lt (fun e => D6.out.ms.vp e.symm))
              have c8 := D6.out.res.keep (hg.block w.heap.size D6.out.res.lt (fun e => by have := (D6.out.ms.sv.lt _ e.symm).1; omega))
              clear m0 m1 m2 hown hg hown2 hgrow
              obtain ⟨m0, m1, m2⟩ := b8.cells
              have pz := b8.frozen
              have pl := b8.lt
              obtain ⟨r0, r1, r2⟩ := c8.cells
              have rz := c8.frozen
              have rl := c8.lt
              have pn : pb ≠ w.heap.size := by omega
              have pn2 : w.heap.size ≠ pb := Ne.symm pn
              clear b8 c8
              go_wp2
              obtain ⟨WF, hWF⟩ : ∃ WF, WF = (((w8.setCell ⟨pb, 1, none⟩ (.slice (some ⟨w6.heap.size, 0, none⟩) 21 21)).setCell ⟨w.heap.size, 0, none⟩ (.int .i64 (y))).setCell ⟨w.heap.size, 1, none⟩ (.slice (some ⟨w6.heap.size, 0, none⟩) 21 21)).setCell ⟨w.heap.size, 2, none⟩ (.slice (some ⟨g, 0, none⟩) 27 d1) := ⟨_, rfl⟩
              rw [← hWF]
              obtain ⟨bf, ms, gf⟩ := Drm.fin D8.out (by simp) HL.out hWF
              obtain ⟨f0, f1, f2⟩ := bf.cells
              refine bodyPost_ret (v := machV (y) (some ⟨w6.heap.size, 0, none⟩) 21 21 (some ⟨g, 0, none⟩) 27 d1) (by simp [results, Tryd.results18, go_sem, f0, f1, f2]) rfl ?_
              exact ⟨_, _, _, _, _, _, _, _, _, rfl, ms, gf, fun j e => by have := (D8.out.ms.sv.lt j e).1; omega, fun j e => by have := (D8.out.ms.ou.lt j e).1; omega⟩
    · obtain ⟨r, rfl⟩ : ∃ z, r = z + 1 := ⟨r - 1, by omega⟩
      have q0 : (0 : Int) < ((r + 1 : Nat) : Int) := by omega
      have qw : IntKind.i64.wrap (((r + 1 : Nat) : Int) - 1) = (r : Int) := by rw [IntWalk.i64_in _ (by omega)]; omega
      go_wp2_with fail
      have HS : Hid ((fun W : World => W.cell? ⟨pb, 1, none⟩ = some (.slice va s.length vc)) wr.drew) := Lib.hid D.out.ms.blk.cells.2.1
      refine wp_region_T [6, 8] (fun W : World => W.cell? ⟨pb, 1, none⟩ = some (.slice va s.length vc)) (by kernel_rfl) ?_
      refine wpAnyT_take (i := 0) (v := ?v1) rfl (by kernel_rfl) (by kernel_rfl) (by kernel_rfl) (by kernel_rfl) (by kernel_rfl) (fun _ _ _ h => h) HS.out rfl ?hy1 ?hh1
      case hy1 => (intro W h1; go_simp; try with_reducible rfl)
      case hh1 =>
      (try simp only [Act.put])
      refine wpAnyT_take (i := 1) (v := ?v2) rfl (by kernel_rfl) (by kernel_rfl) (by kernel_rfl) (by kernel_rfl) (by kernel_rfl) (fun _ _ _ h => h) HS.out rfl ?hy2 ?hh2
      case hy2 => (intro W h1; go_simp; try with_reducible rfl)
      case hh2 =>
      (try simp only [Act.put])
      refine wpAnyT_take (i := 2) (v := ?v3) rfl (by kernel_rfl) (by kernel_rfl) (by kernel_rfl) (by kernel_rfl) (by kernel_rfl) (fun _ _ _ h => h) HS.out rfl ?hy3 ?hh3
      case hy3 => (intro W h1; go_simp; try with_reducible rfl)
      case hh3 =>
      (try simp only [Act.put])
      have D5 := Lib.hid D.out.drew
      generalize hW5 : World.drew wr = w5 at D5 HS ⊢
      clear hW5
      refine wpAnyT_only (i := 3) rfl (by kernel_rfl) (fun K hK => ?_)
      go_simp
      refine hK _ _ (fun _ _ => ?hs3) ?_
      case hs3 => exact (D5.out.below ((Below.refl _ _).alloc (Nat.le_refl _) _)).ms.blk.cells.2.1
      clear hK K
      (try simp only [Act.put])
      refine wpAnyT_only (i := 4) rfl (by kernel_rfl) (fun K hK => ?_)
      go_simp
      go_at_call 38
      refine (sPickNew q p a n cap [0, 1, -1, 13, -14, 9841, 40, -7] _ w5 _ rfl _ rfl rfl D5.out.cur (by simp) (by simp)).mono ?_
      rintro e w6 ⟨z, rfl, -, hc6, hg6⟩
      have D6 := Lib.hid (D5.out.moved hc6 hg6)
      refine hK _ _ (fun _ _ => D6.out.ms.blk.cells.2.1) ?_
      clear hK K hc6 hg6
      (try simp only [Act.put])
      refine wpAnyT_only (i := 5) rfl (by kernel_rfl) (fun K hK => ?_)
      go_simp
      have D7 := Lib.hid (D6.out.below ((Below.refl _ _).alloc (Nat.le_refl _) (.cells #[.int .i64 z] 3)))
      refine hK _ _ (fun _ _ => D7.out.ms.blk.cells.2.1) ?_
      clear hK K
      (try simp only [Act.put])
      have NW := Lib.hid (app_c1 w6 z 3)
      have gz := D7.out.grown.size
      have gz0 := D6.out.ms.low
      have gz1 := D6.out.ms.blk.lt
      refine wpAnyT_only (i := 6) rfl (by kernel_rfl) (fun K hK => ?_)
      refine step_append_at rfl (.tmp 23) (.tmp 27) 25 rfl (w.heap.size + 1) 3 i0 (.int .i64 0) 1 8 Tryd.underlying25 hi hz0 hz1 hz2 rfl (by decide) (.slice va s.length vc) s.length (s.map (Value.int .i64)) (by simp [Act.eval]) D7.out.ms.sv ⟨w6.heap.size, 0, none⟩ 1 1 [.int .i64 z] (by simp [Act.eval]) rfl NW.out (app_c2 _) (by unfold maxLen; omega) (by omega) (by simp; omega) ?_
      intro v' w8 hown hg hat
      have D8 := Lib.hid (D7.out.push (s' := s ++ [z]) hg (by rw [List.length_append, List.map_append]; exact hown) hat)
      have b8 := D7.out.ms.blk.keep (hg.block pb D7.out.ms.blk.lt (fun e => D7.out.ms.vp e.symm))
      obtain ⟨va2, vc2, rfl⟩ := own_form hown
      refine hK _ _ (fun h => (h (by decide)).elim) ?_
      clear hK K hown hg hat
      (try simp only [Act.put])
      refine wpAnyT_takeA (i := 7) (v := ?v4) rfl (by kernel_rfl) (by kernel_rfl) (by kernel_rfl) (fun _ _ _ h => h) rfl ?hy4 ?hh4
      case hy4 => (intro W; go_simp; try with_reducible rfl)
      case hh4 =>
      (try simp only [Act.put])
      have pz := b8.frozen
      have pl := b8.lt
      obtain ⟨m0, m1, m2⟩ := b8.cells
      refine wpAnyT_only (i := 8) rfl (by kernel_rfl) (fun K hK => ?_)
      go_simp
      refine hK _ _ (fun h => (h (by decide)).elim) ?_
      clear hK K b8 pz pl m0 m1 m2
      (try simp only [Act.put])
      refine wpAnyT_done (by kernel_rfl) ?_ _
      generalize w8.setCell _ _ = w9 at D8 ⊢
      go_wp2
      exact ⟨⟨r, _, s ++ [z], by first | rfl | go_num, by simp; omega, D8⟩, by simp [intOf]⟩
theorem makeCode_any (a : Option Addr) (n cap : Nat) (w : World) (hb : Byts w a n cap) (hn : n ≤ 1048576) : Calls Tryd.prog 5 #[.slice a n cap] w fun e w' => ∃ (L : List (Nat → Int)) (b : Option Addr) (c : Nat), e = .returned (.slice b L.length c) ∧ Tm.codeOk L = true ∧ OpR w' b L.length c L ∧ Below w.heap.size w w' := by
  go_enter Tryd.func5, Tryd.ntmps5
  go_wp2_with fail
  refine (sNew a n cap _ hb hn).mono ?_
  rintro e w1 ⟨p, rfl, hp, hc, hb1⟩
  go_wp2_with fail
  refine (sCode7 _ p a n cap _ hc).mono ?_
  rintro e w2 ⟨L, b, c, rfl, hk, hr, -, hg⟩
  go_wp2
  go_ret
  exact ⟨L, b, c, rfl, hk, hr, hb1.trans (grown_below hg hp hb1.size)⟩
theorem new_ok {L : List (Nat → Int)} (h : Tm.codeOk L = true) : Tm.machOk L 0 [] (List.replicate 27 0) = true :=
  (Tm.machOk_iff _ _ _ _).2 ⟨h, ⟨by omega, by omega⟩, by simp, by simp, rfl, Tm.zs27_ok⟩
set_option maxHeartbeats 1000000 in
theorem makeMachine_any (a : Option Addr) (n cap : Nat) (aL : Option Addr) (nL cL : Nat) (L : List (Nat → Int)) (w : World) (hb : Byts w a n cap) (hn : n ≤ 1048576) (hL : OpR w aL nL cL L) (hC : Tm.codeOk L = true) : Calls Tryd.prog 6 #[.slice a n cap, .slice aL nL cL] w fun e w' => ∃ (k : Int) (s o : List Int) (a1 b1 : Option Addr) (n1 c1 n2 d1 : Nat), e = .returned (machV k a1 n1 c1 b1 n2 d1) ∧ Ms w' a1 n1 c1 s b1 n2 d1 o ∧ Tm.machOk L k s o = true ∧ Below w.heap.size w w' := by
  have nl : nL ≤ 80 := by have := ((Tm.codeOk_iff L).1 hC).1.2; have := hL.1; omega
  have HL := Lib.hid hL
  obtain ⟨A, hA⟩ : ∃ A, A = w.alloc (.cells #[.int .i64 0, .slice none 0 0, .slice none 0 0] 27) := ⟨_, rfl⟩
  have sA : A.heap.size = w.heap.size + 1 := by rw [hA]; simp
  have BA := Lib.hid (show Below w.heap.size w A by rw [hA]; exact (Below.refl _ _).alloc (Nat.le_refl _) _)
  have RA := Lib.hid (show Blk3 A w.heap.size (.int .i64 0) (.slice none 0 0) (.slice none 0 0) 27 by rw [hA]; exact blk3_new _ _ _ _ _)
  have HY := Lib.hid (hb.below BA.out)
  have HC := Lib.hid hC
  clear hL hb hC
  go_enter Tryd.func6, Tryd.ntmps6
  go_wp2_with fail
  rw [← hA]
  clear hA
  refine (sNew a n cap _ HY.out hn).mono ?_
  rintro e w1 ⟨p, rfl, hp, hc, hb1⟩
  have R1 := Lib.hid (RA.out.later hb1)
  have B1 := Lib.hid (BA.out.trans (hb1.mono (by omega)))
  have s1 := hb1.size
  have HQ := Lib.hid hc
  clear hc hb1
  go_wp2_with fail
  refine (sSome7 _ p a n cap aL nL cL _ HQ.out nl).mono ?_
  rintro e w2 ⟨k, s, o, a1, b1, n1, c1, n2, d1, rfl, ms, hg, ha1, hb1⟩
  have b2 : Below A.heap.size w1 w2 := grown_below hg hp s1
  have R2 := Lib.hid (R1.out.keep (b2.block w.heap.size (by omega)))
  have B2 := Lib.hid (B1.out.trans (b2.mono (by omega)))
  have s2 := b2.size
  have M2 := Lib.hid ms
  have HA1 := Lib.hid ha1
  have HB1 := Lib.hid hb1
  clear ms hg ha1 hb1 b2 HQ
  go_wp2_with fail
  generalize hW : World.alloc w2 _ = w3
  have bk := blk3_new w2 (.int .i64 k) (.slice a1 n1 c1) (.slice b1 n2 d1) 27
  rw [hW] at bk
  have hb3 : Below w2.heap.size w2 w3 := by rw [← hW]; exact (Below.refl _ _).alloc (Nat.le_refl _) _
  have R3 := Lib.hid (R2.out.later hb3)
  have B3 := Lib.hid (B2.out.trans (hb3.mono (by omega)))
  have M3 := Lib.hid (M2.out.below hb3)
  have P3 := Lib.hid bk
  have s3 := hb3.size
  clear hW bk hb3 M2
  refine (sIsMachine aL nL cL L k a1 n1 c1 s b1 n2 d1 o _ (HL.out.below B3.out) M3.out).mono ?_
  rintro e w4 ⟨rfl, hb4⟩
  have R4 := Lib.hid (R3.out.later hb4)
  have B4 := Lib.hid (B3.out.trans (hb4.mono (by omega)))
  have M4 := Lib.hid (M3.out.below hb4)
  have P4 := Lib.hid (P3.out.later hb4)
  have s4 := hb4.size
  clear hb4 M3 P3
  cases hM : Tm.machOk L k s o with
  | true =>
    have HM := Lib.hid hM
    obtain ⟨m0, m1, m2⟩ := P4.out.cells
    obtain ⟨r0, r1, r2⟩ := R4.out.cells
    have rz := R4.out.frozen
    have rl := R4.out.lt
    clear hM
    go_wp2
    obtain ⟨WF, hWF⟩ : ∃ WF, WF = ((w4.setCell ⟨w.heap.size, 0, none⟩ (.int .i64 k)).setCell ⟨w.heap.size, 1, none⟩ (.slice a1 n1 c1)).setCell ⟨w.heap.size, 2, none⟩ (.slice b1 n2 d1) := ⟨_, rfl⟩
    rw [← hWF]
    have bf : Blk3 WF w.heap.size (.int .i64 k) (.slice a1 n1 c1) (.slice b1 n2 d1) 27 := by rw [hWF]; exact ((R4.out.set0 _).set1 _).set2 _
    have so : ∀ j, j ≠ w.heap.size → WF.heap[j]? = w4.heap[j]? := fun j hj => by rw [hWF, heap_setCell_other _ ⟨w.heap.size, 2, none⟩ _ _ hj, heap_setCell_other _ ⟨w.heap.size, 1, none⟩ _ _ hj, heap_setCell_other _ ⟨w.heap.size, 0, none⟩ _ _ hj]
    have sz : w4.heap.size ≤ WF.heap.size := by rw [hWF]; simp only [World.size_setCell]; exact Nat.le_refl _
    have mf : Ms WF a1 n1 c1 s b1 n2 d1 o := ⟨M4.out.1.of_blocks sz (fun b o e _ => so b (by have := HA1.out b (by rw [e]; rfl); omega)), M4.out.2.of_blocks sz (fun b o e _ => so b (by have := HB1.out b (by rw [e]; rfl); omega))⟩
    have bl : Below w.heap.size w WF := by rw [hWF]; exact ((B4.out.setCell (Nat.le_refl _) _).setCell (Nat.le_refl _) _).setCell (Nat.le_refl _) _
    obtain ⟨f0, f1, f2⟩ := bf.cells
    refine bodyPost_ret (v := machV k a1 n1 c1 b1 n2 d1) (by simp [results, Tryd.results6, go_sem, f0, f1, f2]) rfl ?_
    exact ⟨_, _, _, _, _, _, _, _, _, rfl, mf, HM.out, bl⟩
  | false =>
    clear hM
    go_wp2_with fail
    refine (sNewMachine _).mono ?_
    intro r w5 hh
    unfold RetM at hh
    obtain ⟨a2, c2, b2, d2, rfl, om, hb5, -, -⟩ := hh
    have R5 := Lib.hid (R4.out.later hb5)
    have B5 := Lib.hid (B4.out.trans (hb5.mono (by omega)))
    have OM := Lib.hid om
    have s5 := hb5.size
    obtain ⟨r0, r1, r2⟩ := R5.out.cells
    have rz := R5.out.frozen
    have rl := R5.out.lt
    clear om hb5
    go_wp2
    obtain ⟨WF, hWF⟩ : ∃ WF, WF = ((w5.setCell ⟨w.heap.size, 0, none⟩ (.int .i64 0)).setCell ⟨w.heap.size, 1, none⟩ (.slice a2 0 c2)).setCell ⟨w.heap.size, 2, none⟩ (.slice b2 27 d2) := ⟨_, rfl⟩
    rw [← hWF]
    have bf : Blk3 WF w.heap.size (.int .i64 0) (.slice a2 0 c2) (.slice b2 27 d2) 27 := by rw [hWF]; exact ((R5.out.set0 _).set1 _).set2 _
    have so : ∀ j, j ≠ w.heap.size → WF.heap[j]? = w5.heap[j]? := fun j hj => by rw [hWF, heap_setCell_other _ ⟨w.heap.size, 2, none⟩ _ _ hj, heap_setCell_other _ ⟨w.heap.size, 1, none⟩ _ _ hj, heap_setCell_other _ ⟨w.heap.size, 0, none⟩ _ _ hj]
    have sz : w5.heap.size ≤ WF.heap.size := by rw [hWF]; simp only [World.size_setCell]; exact Nat.le_refl _
    have mf : Ms WF a2 0 c2 [] b2 27 d2 (List.replicate 27 0) := ⟨OM.out.ms.1.of_blocks sz (fun b o e _ => so b (by have := (OM.out.g.1.lt b (by rw [e]; rfl)).1; omega)), OM.out.ms.2.of_blocks sz (fun b o e _ => so b (by have := (OM.out.i.1.lt b (by rw [e]; rfl)).1; omega))⟩
    have bl : Below w.heap.size w WF := by rw [hWF]; exact ((B5.out.setCell (Nat.le_refl _) _).setCell (Nat.le_refl _) _).setCell (Nat.le_refl _) _
    obtain ⟨f0, f1, f2⟩ := bf.cells
    refine bodyPost_ret (v := machV 0 a2 0 c2 b2 27 d2) (by simp [results, Tryd.results6, go_sem, f0, f1, f2]) rfl ?_
    exact ⟨_, _, _, _, _, _, _, _, _, rfl, mf, new_ok HC.out, bl⟩
end Go.Proofs.YtfnhoiomdjmjhaaDoor

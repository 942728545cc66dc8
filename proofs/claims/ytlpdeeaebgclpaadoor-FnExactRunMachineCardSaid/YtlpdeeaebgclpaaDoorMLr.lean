/- Walks of exact laws over structs. -/
import Derived.Test.YtlpdeeaebgclpaaDoorMSb
import Derived.Test.YtlpdeeaebgclpaaDoorMCp
import Derived.Test.YtlpdeeaebgclpaaDoorMOp2
import Derived.Test.YtlpdeeaebgclpaaDoorMTab
namespace Go.Proofs.YtlpdeeaebgclpaaDoor
set_option maxRecDepth 20000
open Go.RowKit

set_option maxRecDepth 20000 in
set_option maxHeartbeats 4000000 in
theorem wFnExactRunMachine (a0 : Option Addr) (len0 cap0 : Nat) (L0 : List (Nat → Int)) (k1 : Int) (a1 : Option Addr) (n1 c1 : Nat) (s1 : List Int) (b1 : Option Addr) (m1 d1 : Nat) (o1 : List Int) (a2 : Int) (w : World) (w0 : OpR w a0 len0 cap0 L0) (w1 : Ms w a1 n1 c1 s1 b1 m1 d1 o1) (_u1 : (Lit.int .i64 k1).wf = true) (_w2 : (Lit.int .i64 a2).wf = true) (hT : OpsTab w) : Calls Tryd.prog 4 #[.slice a0 len0 cap0, machV k1 a1 n1 c1 b1 m1 d1, .int .i64 a2] w fun e w' => e = .returned (.bool true) ∧ Below w.heap.size w w' := by
  have HT := Lib.hid hT
  clear hT
  have mm0 : len0 ≤ 9223372036854775807 := by have h2 := w0.2.1; have h3 := w0.2.2.1; unfold maxLen at h3; omega
  obtain rfl : L0.length = len0 := w0.1
  have Q0 := Lib.hid w0
  clear w0
  obtain rfl : s1.length = n1 := w1.1.1
  obtain rfl : o1.length = m1 := w1.2.1
  have Q1 := Lib.hid w1
  clear w1
  by_cases g0 : ((1048576 : Int) - (L0.length : Int)) < 0
  · skip
    go_enter Tryd.func4, Tryd.ntmps4
    have HB := Lib.hid (Below.refl w.heap.size w)
    go_wp2_with fail
    generalize hW : World.alloc w _ = w1
    obtain ⟨bx, hb⟩ := box3_of hW
    have hz_w1 : w1.heap.size = w.heap.size + 1 := by rw [← hW, World.size_alloc]
    have hp_w1 := bx.1
    have BX_aM := Lib.hid bx
    clear hW bx
    have HS_w1 := hb.size
    have HB := Lib.hid (HB.out.trans (hb.mono (by first | omega | exact Nat.le_refl _)))
    clear hb
    refine (szOps a0 _ cap0 _ _ mm0 (by omega) (by omega)).mono ?_
    rw [if_pos (by omega)]
    rintro r w2 ⟨rfl, rfl⟩
    have c_ := BX_aM.out
    obtain ⟨l0_, x0_, y0_, z0_⟩ := c_
    go_wp2
    go_ret
    exact ⟨rfl, HB.out⟩
  · skip
    by_cases g1 : (((1048576 : Int) - (L0.length : Int)) - (s1.length : Int) - (o1.length : Int)) < 0
    · skip
      go_enter Tryd.func4, Tryd.ntmps4
      have HB := Lib.hid (Below.refl w.heap.size w)
      go_wp2_with fail
      generalize hW : World.alloc w _ = w1
      obtain ⟨bx, hb⟩ := box3_of hW
      have hz_w1 : w1.heap.size = w.heap.size + 1 := by rw [← hW, World.size_alloc]
      have hp_w1 := bx.1
      have BX_aM := Lib.hid bx
      clear hW bx
      have HS_w1 := hb.size
      have HB := Lib.hid (HB.out.trans (hb.mono (by first | omega | exact Nat.le_refl _)))
      clear hb
      refine (szOps a0 _ cap0 _ _ mm0 (by omega) (by omega)).mono ?_
      rw [if_neg (by omega)]
      rintro r w2 ⟨rfl, rfl⟩
      have c_ := BX_aM.out
      obtain ⟨l0_, x0_, y0_, z0_⟩ := c_
      go_wp2_with fail
      clear l0_ x0_ y0_ z0_
      refine (szMach k1 a1 _ c1 s1 b1 _ d1 o1 _ _ (Q1.out.below HB.out) (by omega) (by omega)).mono ?_
      rw [if_pos (by omega)]
      rintro r w2 ⟨rfl, hb⟩
      have HS_w2 := hb.size
      have BX_aM := Lib.hid (BX_aM.out.below hb)
      have HB := Lib.hid (HB.out.trans (hb.mono (by first | omega | exact Nat.le_refl _)))
      clear hb
      have c_ := BX_aM.out
      obtain ⟨l0_, x0_, y0_, z0_⟩ := c_
      go_wp2
      go_ret
      exact ⟨rfl, HB.out⟩
    · skip
      go_enter Tryd.func4, Tryd.ntmps4
      have HB := Lib.hid (Below.refl w.heap.size w)
      go_wp2_with fail
      generalize hW : World.alloc w _ = w1
      obtain ⟨bx, hb⟩ := box3_of hW
      have hz_w1 : w1.heap.size = w.heap.size + 1 := by rw [← hW, World.size_alloc]
      have hp_w1 := bx.1
      have BX_aM := Lib.hid bx
      clear hW bx
      have HS_w1 := hb.size
      have HB := Lib.hid (HB.out.trans (hb.mono (by first | omega | exact Nat.le_refl _)))
      clear hb
      refine (szOps a0 _ cap0 _ _ mm0 (by omega) (by omega)).mono ?_
      rw [if_neg (by omega)]
      rintro r w2 ⟨rfl, rfl⟩
      have c_ := BX_aM.out
      obtain ⟨l0_, x0_, y0_, z0_⟩ := c_
      go_wp2_with fail
      clear l0_ x0_ y0_ z0_
      refine (szMach k1 a1 _ c1 s1 b1 _ d1 o1 _ _ (Q1.out.below HB.out) (by omega) (by omega)).mono ?_
      rw [if_neg (by omega)]
      rintro r w2 ⟨rfl, hb⟩
      have HS_w2 := hb.size
      have BX_aM := Lib.hid (BX_aM.out.below hb)
      have HB := Lib.hid (HB.out.trans (hb.mono (by first | omega | exact Nat.le_refl _)))
      clear hb
      have c_ := BX_aM.out
      obtain ⟨l0_, x0_, y0_, z0_⟩ := c_
      go_wp2_with fail
      clear l0_ x0_ y0_ z0_
      have SS : Hid (∀ W, Below w2.heap.size w2 W → W.cell? ⟨w.heap.size, 0, none⟩ = some (.int .i64 k1) ∧ W.cell? ⟨w.heap.size, 1, none⟩ = some (.slice a1 s1.length c1) ∧ W.cell? ⟨w.heap.size, 2, none⟩ = some (.slice b1 o1.length d1)) := Lib.hid fun W hW => by
        obtain ⟨-, x0_, y0_, z0_⟩ := BX_aM.out.below hW
        exact ⟨x0_, y0_, z0_⟩
      have TF0 := Lib.hid (fun (W : World) (hW : Below w2.heap.size w2 W) => toOps_any a0 L0.length cap0 L0 W ((Q0.out.below HB.out).below hW) (by omega))
      have TF1 := Lib.hid (fun (W : World) (hW : Below w2.heap.size w2 W) => toMach_any k1 a1 s1.length c1 s1 b1 o1.length d1 o1 W ((Q1.out.below HB.out).below hW) (by omega) (by omega))
      apply key_pf
      case main =>
        intro KEY
        refine wp_region_T [10] (fun W : World => W.cell? ⟨w.heap.size, 0, none⟩ = some (.int .i64 k1) ∧ W.cell? ⟨w.heap.size, 1, none⟩ = some (.slice a1 s1.length c1) ∧ W.cell? ⟨w.heap.size, 2, none⟩ = some (.slice b1 o1.length d1)) (by kernel_rfl) ?_
        generalize hW : World.drew w2 = v0_
        have B : Hid (Below w2.heap.size w2 v0_) := Lib.hid (by rw [← hW]; exact Below.drew (Below.refl _ _))
        clear hW
        refine wpAnyT_take (i := 0) (v := ?v1) rfl (by kernel_rfl) (by kernel_rfl) (by kernel_rfl) (by kernel_rfl) (by kernel_rfl) (fun _ _ _ h => h) (SS.out _ B.out) rfl ?hy1 ?hh1
        case hy1 => (intro W hW; obtain ⟨h1, h2, h3⟩ := hW; go_simp; try with_reducible rfl)
        case hh1 =>
        (try simp only [Act.put])
        refine wpAnyT_take (i := 2) (v := ?v2) rfl (by kernel_rfl) (by kernel_rfl) (by kernel_rfl) (by kernel_rfl) (by kernel_rfl) (fun _ _ _ h => h) (SS.out _ B.out) rfl ?hy2 ?hh2
        case hy2 => (intro W hW; obtain ⟨h1, h2, h3⟩ := hW; go_simp; try with_reducible rfl)
        case hh2 =>
        (try simp only [Act.put])
        refine wpAnyT_take (i := 4) (v := ?v3) rfl (by kernel_rfl) (by kernel_rfl) (by kernel_rfl) (by kernel_rfl) (by kernel_rfl) (fun _ _ _ h => h) (SS.out _ B.out) rfl ?hy3 ?hh3
        case hy3 => (intro W hW; obtain ⟨h1, h2, h3⟩ := hW; go_simp; try with_reducible rfl)
        case hh3 =>
        (try simp only [Act.put])
        refine wpAnyT_two (i := 1) (k := 9) rfl rfl (by kernel_rfl) (fun K hK => ?_) (fun K hK => ?_)
        · skip
          go_simp
          go_at_call 8
          refine (TF0.out _ B.out).mono ?_
          intro r v1_ hh_
          obtain ⟨qa0_, qc0_, rfl, o, hb⟩ := hh_
          have hz_v1_ := B.out.size
          have hy_v1_ := hb.size
          replace B := Lib.hid (B.out.trans (hb.mono hz_v1_))
          have T0 := Lib.hid (OpR.of_own o rfl)
          refine hK _ _ (fun _ _ => SS.out _ B.out) ?_
          clear hK K o hb
          (try simp only [Act.put])
          refine wpAnyT_two (i := 3) (k := 9) rfl rfl (by kernel_rfl) (fun K hK => ?_) (fun K hK => ?_)
          · skip
            go_simp
            go_at_call 9
            refine (TF1.out _ B.out).mono ?_
            intro r v2_ hh_
            unfold RetM at hh_
            obtain ⟨qa1_, qc1_, qb1_, qd1_, rfl, o, hb, -, -⟩ := hh_
            have hz_v2_ := B.out.size
            have hy_v2_ := hb.size
            replace B := Lib.hid (B.out.trans (hb.mono hz_v2_))
            replace T0 := Lib.hid (T0.out.below hb)
            have T1 := Lib.hid o.ms
            refine hK _ _ (fun _ _ => SS.out _ B.out) ?_
            clear hK K o hb
            (try simp only [Act.put])
            refine wpAnyT_two (i := 5) (k := 9) rfl rfl (by kernel_rfl) (fun K hK => ?_) (fun K hK => ?_)
            · skip
              go_simp
              go_at_call 16
              refine (sRunMachine qa0_ L0.length qc0_ L0 k1 qa1_ s1.length qc1_ s1 qb1_ o1.length qd1_ o1 a2 _ T0.out T1.out).mono ?_
              intro r v3_ hh_
              unfold RetMI at hh_
              obtain ⟨ra_, rc_, rb_, rd_, rfl, o, hb, ls_, lm_⟩ := hh_
              have hz_v3_ := B.out.size
              have hy_v3_ := hb.size
              replace B := Lib.hid (B.out.trans (hb.mono hz_v3_))
              replace T0 := Lib.hid (T0.out.below hb)
              replace T1 := Lib.hid (T1.out.below hb)
              have OM := Lib.hid o
              have l1_ := Lib.hid (And.intro ls_ lm_)
              refine hK _ _ (fun _ _ => SS.out _ B.out) ?_
              clear hK K o hb ls_ lm_
              (try simp only [Act.put])
              refine wpAnyT_takeA (i := 6) (v := ?v4) rfl (by kernel_rfl) (by kernel_rfl) (by kernel_rfl) (fun _ _ _ h => h) rfl ?hy4 ?hh4
              case hy4 => (intro W; go_simp; try with_reducible rfl)
              case hh4 =>
              (try simp only [Act.put])
              refine wpAnyT_takeA (i := 7) (v := ?v5) rfl (by kernel_rfl) (by kernel_rfl) (by kernel_rfl) (fun _ _ _ h => h) rfl ?hy5 ?hh5
              case hy5 => (intro W; go_simp; try with_reducible rfl)
              case hh5 =>
              (try simp only [Act.put])
              refine wpAnyT_takeA (i := 8) (v := ?v6) rfl (by kernel_rfl) (by kernel_rfl) (by kernel_rfl) (fun _ _ _ h => h) rfl ?hy6 ?hh6
              case hy6 => (intro W; go_simp; try with_reducible rfl)
              case hh6 =>
              (try simp only [Act.put])
              refine wpAnyT_only (i := 9) rfl (by kernel_rfl) (fun K hK => ?_)
              go_simp
              refine hK _ _ (fun _ _ => SS.out _ (B.out.alloc B.out.size _)) ?_
              clear hK K
              (try simp only [Act.put])
              have bk := blk3_new v3_ (.int .i64 0) (.slice none 0 0) (.slice none 0 0) 28
              generalize hW : World.alloc v3_ _ = v4_
              rw [hW] at bk
              have hb := (box3_of hW).2
              clear hW
              have hz_v4_ := B.out.size
              have hy_v4_ := hb.size
              replace B := Lib.hid (B.out.trans (hb.mono hz_v4_))
              replace T0 := Lib.hid (T0.out.below hb)
              replace T1 := Lib.hid (T1.out.below hb)
              replace OM := Lib.hid (OM.out.later hb (by omega))
              generalize hp_ : v3_.heap.size = pb_ at bk ⊢
              have BK := Lib.hid bk
              have lp_ := bk.lt
              clear bk hb
              obtain ⟨r0_, r1_, r2_⟩ := BK.out.cells
              have rz_ := BK.out.frozen
              have lr_ := BK.out.lt
              refine wpAnyT_only (i := 10) rfl (by kernel_rfl) (fun K hK => ?_)
              go_simp
              refine hK _ _ (fun h => (h (by decide)).elim) ?_
              clear hK K r0_ r1_ r2_ rz_ lr_
              (try simp only [Act.put])
              refine wpAnyT_only (i := 11) rfl (by kernel_rfl) (fun K hK => ?_)
              go_simp
              refine hK _ _ (fun _ h => h) ?_
              clear hK K
              (try simp only [Act.put])
              refine wpAnyT_done (by kernel_rfl) ?_ _
              have LD := laidM (k := Tm.rnK L0 k1 s1 o1 a2) BK.out OM.out B.out (by omega) (by omega) (by omega) (by omega) (by omega) l1_.out.1 l1_.out.2
              revert LD
              generalize (World.setCell (World.setCell (World.setCell _ ⟨_, 0, none⟩ _) ⟨_, 1, none⟩ _) ⟨_, 2, none⟩ _) = W_
              clear BK T0 T1 OM B hp_ lp_ l1_
              revert W_
              revert pb_
              revert rd_
              revert rb_
              revert rc_
              revert ra_
              revert qd1_
              revert qb1_
              revert qc1_
              revert qa1_
              revert qc0_
              revert qa0_
              exact KEY.out
            · skip
              go_simp
              refine hK _ _ (fun _ _ => SS.out _ (B.out.alloc B.out.size _)) ?_
              clear hK K
              (try simp only [Act.put])
              have bk := blk3_new v2_ (.int .i64 0) (.slice none 0 0) (.slice none 0 0) 28
              generalize hW : World.alloc v2_ _ = v3_
              rw [hW] at bk
              have hb := (box3_of hW).2
              clear hW
              have hz_v3_ := B.out.size
              have hy_v3_ := hb.size
              replace B := Lib.hid (B.out.trans (hb.mono hz_v3_))
              replace T0 := Lib.hid (T0.out.below hb)
              replace T1 := Lib.hid (T1.out.below hb)
              generalize hp_ : v2_.heap.size = pb_ at bk ⊢
              have BK := Lib.hid bk
              have lp_ := bk.lt
              clear bk hb
              refine wpAnyT_only (i := 5) rfl (by kernel_rfl) (fun K hK => ?_)
              go_simp
              go_at_call 16
              refine (sRunMachine qa0_ L0.length qc0_ L0 k1 qa1_ s1.length qc1_ s1 qb1_ o1.length qd1_ o1 a2 _ T0.out T1.out).mono ?_
              intro r v4_ hh_
              unfold RetMI at hh_
              obtain ⟨ra_, rc_, rb_, rd_, rfl, o, hb, ls_, lm_⟩ := hh_
              have hz_v4_ := B.out.size
              have hy_v4_ := hb.size
              replace B := Lib.hid (B.out.trans (hb.mono hz_v4_))
              replace T0 := Lib.hid (T0.out.below hb)
              replace T1 := Lib.hid (T1.out.below hb)
              replace BK := Lib.hid (BK.out.later hb)
              have OM := Lib.hid o
              have l1_ := Lib.hid (And.intro ls_ lm_)
              refine hK _ _ (fun _ _ => SS.out _ B.out) ?_
              clear hK K o hb ls_ lm_
              (try simp only [Act.put])
              refine wpAnyT_takeA (i := 6) (v := ?v7) rfl (by kernel_rfl) (by kernel_rfl) (by kernel_rfl) (fun _ _ _ h => h) rfl ?hy7 ?hh7
              case hy7 => (intro W; go_simp; try with_reducible rfl)
              case hh7 =>
              (try simp only [Act.put])
              refine wpAnyT_takeA (i := 7) (v := ?v8) rfl (by kernel_rfl) (by kernel_rfl) (by kernel_rfl) (fun _ _ _ h => h) rfl ?hy8 ?hh8
              case hy8 => (intro W; go_simp; try with_reducible rfl)
              case hh8 =>
              (try simp only [Act.put])
              refine wpAnyT_takeA (i := 8) (v := ?v9) rfl (by kernel_rfl) (by kernel_rfl) (by kernel_rfl) (fun _ _ _ h => h) rfl ?hy9 ?hh9
              case hy9 => (intro W; go_simp; try with_reducible rfl)
              case hh9 =>
              (try simp only [Act.put])
              obtain ⟨r0_, r1_, r2_⟩ := BK.out.cells
              have rz_ := BK.out.frozen
              have lr_ := BK.out.lt
              refine wpAnyT_only (i := 10) rfl (by kernel_rfl) (fun K hK => ?_)
              go_simp
              refine hK _ _ (fun h => (h (by decide)).elim) ?_
              clear hK K r0_ r1_ r2_ rz_ lr_
              (try simp only [Act.put])
              refine wpAnyT_only (i := 11) rfl (by kernel_rfl) (fun K hK => ?_)
              go_simp
              refine hK _ _ (fun _ h => h) ?_
              clear hK K
              (try simp only [Act.put])
              refine wpAnyT_done (by kernel_rfl) ?_ _
              have LD := laidM (k := Tm.rnK L0 k1 s1 o1 a2) BK.out OM.out B.out (by omega) (by omega) (by omega) (by omega) (by omega) l1_.out.1 l1_.out.2
              revert LD
              generalize (World.setCell (World.setCell (World.setCell _ ⟨_, 0, none⟩ _) ⟨_, 1, none⟩ _) ⟨_, 2, none⟩ _) = W_
              clear BK T0 T1 OM B hp_ lp_ l1_
              revert W_
              revert pb_
              revert rd_
              revert rb_
              revert rc_
              revert ra_
              revert qd1_
              revert qb1_
              revert qc1_
              revert qa1_
              revert qc0_
              revert qa0_
              exact KEY.out
          · skip
            go_simp
            refine hK _ _ (fun _ _ => SS.out _ (B.out.alloc B.out.size _)) ?_
            clear hK K
            (try simp only [Act.put])
            have bk := blk3_new v1_ (.int .i64 0) (.slice none 0 0) (.slice none 0 0) 28
            generalize hW : World.alloc v1_ _ = v2_
            rw [hW] at bk
            have hb := (box3_of hW).2
            clear hW
            have hz_v2_ := B.out.size
            have hy_v2_ := hb.size
            replace B := Lib.hid (B.out.trans (hb.mono hz_v2_))
            replace T0 := Lib.hid (T0.out.below hb)
            generalize hp_ : v1_.heap.size = pb_ at bk ⊢
            have BK := Lib.hid bk
            have lp_ := bk.lt
            clear bk hb
            refine wpAnyT_only (i := 3) rfl (by kernel_rfl) (fun K hK => ?_)
            go_simp
            go_at_call 9
            refine (TF1.out _ B.out).mono ?_
            intro r v3_ hh_
            unfold RetM at hh_
            obtain ⟨qa1_, qc1_, qb1_, qd1_, rfl, o, hb, -, -⟩ := hh_
            have hz_v3_ := B.out.size
            have hy_v3_ := hb.size
            replace B := Lib.hid (B.out.trans (hb.mono hz_v3_))
            replace T0 := Lib.hid (T0.out.below hb)
            replace BK := Lib.hid (BK.out.later hb)
            have T1 := Lib.hid o.ms
            refine hK _ _ (fun _ _ => SS.out _ B.out) ?_
            clear hK K o hb
            (try simp only [Act.put])
            refine wpAnyT_only (i := 5) rfl (by kernel_rfl) (fun K hK => ?_)
            go_simp
            go_at_call 16
            refine (sRunMachine qa0_ L0.length qc0_ L0 k1 qa1_ s1.length qc1_ s1 qb1_ o1.length qd1_ o1 a2 _ T0.out T1.out).mono ?_
            intro r v4_ hh_
            unfold RetMI at hh_
            obtain ⟨ra_, rc_, rb_, rd_, rfl, o, hb, ls_, lm_⟩ := hh_
            have hz_v4_ := B.out.size
            have hy_v4_ := hb.size
            replace B := Lib.hid (B.out.trans (hb.mono hz_v4_))
            replace T0 := Lib.hid (T0.out.below hb)
            replace BK := Lib.hid (BK.out.later hb)
            replace T1 := Lib.hid (T1.out.below hb)
            have OM := Lib.hid o
            have l1_ := Lib.hid (And.intro ls_ lm_)
            refine hK _ _ (fun _ _ => SS.out _ B.out) ?_
            clear hK K o hb ls_ lm_
            (try simp only [Act.put])
            refine wpAnyT_takeA (i := 6) (v := ?v10) rfl (by kernel_rfl) (by kernel_rfl) (by kernel_rfl) (fun _ _ _ h => h) rfl ?hy10 ?hh10
            case hy10 => (intro W; go_simp; try with_reducible rfl)
            case hh10 =>
            (try simp only [Act.put])
            refine wpAnyT_takeA (i := 7) (v := ?v11) rfl (by kernel_rfl) (by kernel_rfl) (by kernel_rfl) (fun _ _ _ h => h) rfl ?hy11 ?hh11
            case hy11 => (intro W; go_simp; try with_reducible rfl)
            case hh11 =>
            (try simp only [Act.put])
            refine wpAnyT_takeA (i := 8) (v := ?v12) rfl (by kernel_rfl) (by kernel_rfl) (by kernel_rfl) (fun _ _ _ h => h) rfl ?hy12 ?hh12
            case hy12 => (intro W; go_simp; try with_reducible rfl)
            case hh12 =>
            (try simp only [Act.put])
            obtain ⟨r0_, r1_, r2_⟩ := BK.out.cells
            have rz_ := BK.out.frozen
            have lr_ := BK.out.lt
            refine wpAnyT_only (i := 10) rfl (by kernel_rfl) (fun K hK => ?_)
            go_simp
            refine hK _ _ (fun h => (h (by decide)).elim) ?_
            clear hK K r0_ r1_ r2_ rz_ lr_
            (try simp only [Act.put])
            refine wpAnyT_only (i := 11) rfl (by kernel_rfl) (fun K hK => ?_)
            go_simp
            refine hK _ _ (fun _ h => h) ?_
            clear hK K
            (try simp only [Act.put])
            refine wpAnyT_done (by kernel_rfl) ?_ _
            have LD := laidM (k := Tm.rnK L0 k1 s1 o1 a2) BK.out OM.out B.out (by omega) (by omega) (by omega) (by omega) (by omega) l1_.out.1 l1_.out.2
            revert LD
            generalize (World.setCell (World.setCell (World.setCell _ ⟨_, 0, none⟩ _) ⟨_, 1, none⟩ _) ⟨_, 2, none⟩ _) = W_
            clear BK T0 T1 OM B hp_ lp_ l1_
            revert W_
            revert pb_
            revert rd_
            revert rb_
            revert rc_
            revert ra_
            revert qd1_
            revert qb1_
            revert qc1_
            revert qa1_
            revert qc0_
            revert qa0_
            exact KEY.out
        · skip
          go_simp
          refine hK _ _ (fun _ _ => SS.out _ (B.out.alloc B.out.size _)) ?_
          clear hK K
          (try simp only [Act.put])
          have bk := blk3_new v0_ (.int .i64 0) (.slice none 0 0) (.slice none 0 0) 28
          generalize hW : World.alloc v0_ _ = v1_
          rw [hW] at bk
          have hb := (box3_of hW).2
          clear hW
          have hz_v1_ := B.out.size
          have hy_v1_ := hb.size
          replace B := Lib.hid (B.out.trans (hb.mono hz_v1_))
          generalize hp_ : v0_.heap.size = pb_ at bk ⊢
          have BK := Lib.hid bk
          have lp_ := bk.lt
          clear bk hb
          refine wpAnyT_only (i := 1) rfl (by kernel_rfl) (fun K hK => ?_)
          go_simp
          go_at_call 8
          refine (TF0.out _ B.out).mono ?_
          intro r v2_ hh_
          obtain ⟨qa0_, qc0_, rfl, o, hb⟩ := hh_
          have hz_v2_ := B.out.size
          have hy_v2_ := hb.size
          replace B := Lib.hid (B.out.trans (hb.mono hz_v2_))
          replace BK := Lib.hid (BK.out.later hb)
          have T0 := Lib.hid (OpR.of_own o rfl)
          refine hK _ _ (fun _ _ => SS.out _ B.out) ?_
          clear hK K o hb
          (try simp only [Act.put])
          refine wpAnyT_only (i := 3) rfl (by kernel_rfl) (fun K hK => ?_)
          go_simp
          go_at_call 9
          refine (TF1.out _ B.out).mono ?_
          intro r v3_ hh_
          unfold RetM at hh_
          obtain ⟨qa1_, qc1_, qb1_, qd1_, rfl, o, hb, -, -⟩ := hh_
          have hz_v3_ := B.out.size
          have hy_v3_ := hb.size
          replace B := Lib.hid (B.out.trans (hb.mono hz_v3_))
          replace BK := Lib.hid (BK.out.later hb)
          replace T0 := Lib.hid (T0.out.below hb)
          have T1 := Lib.hid o.ms
          refine hK _ _ (fun _ _ => SS.out _ B.out) ?_
          clear hK K o hb
          (try simp only [Act.put])
          refine wpAnyT_only (i := 5) rfl (by kernel_rfl) (fun K hK => ?_)
          go_simp
          go_at_call 16
          refine (sRunMachine qa0_ L0.length qc0_ L0 k1 qa1_ s1.length qc1_ s1 qb1_ o1.length qd1_ o1 a2 _ T0.out T1.out).mono ?_
          intro r v4_ hh_
          unfold RetMI at hh_
          obtain ⟨ra_, rc_, rb_, rd_, rfl, o, hb, ls_, lm_⟩ := hh_
          have hz_v4_ := B.out.size
          have hy_v4_ := hb.size
          replace B := Lib.hid (B.out.trans (hb.mono hz_v4_))
          replace BK := Lib.hid (BK.out.later hb)
          replace T0 := Lib.hid (T0.out.below hb)
          replace T1 := Lib.hid (T1.out.below hb)
          have OM := Lib.hid o
          have l1_ := Lib.hid (And.intro ls_ lm_)
          refine hK _ _ (fun _ _ => SS.out _ B.out) ?_
          clear hK K o hb ls_ lm_
          (try simp only [Act.put])
          refine wpAnyT_takeA (i := 6) (v := ?v13) rfl (by kernel_rfl) (by kernel_rfl) (by kernel_rfl) (fun _ _ _ h => h) rfl ?hy13 ?hh13
          case hy13 => (intro W; go_simp; try with_reducible rfl)
          case hh13 =>
          (try simp only [Act.put])
          refine wpAnyT_takeA (i := 7) (v := ?v14) rfl (by kernel_rfl) (by kernel_rfl) (by kernel_rfl) (fun _ _ _ h => h) rfl ?hy14 ?hh14
          case hy14 => (intro W; go_simp; try with_reducible rfl)
          case hh14 =>
          (try simp only [Act.put])
          refine wpAnyT_takeA (i := 8) (v := ?v15) rfl (by kernel_rfl) (by kernel_rfl) (by kernel_rfl) (fun _ _ _ h => h) rfl ?hy15 ?hh15
          case hy15 => (intro W; go_simp; try with_reducible rfl)
          case hh15 =>
          (try simp only [Act.put])
          obtain ⟨r0_, r1_, r2_⟩ := BK.out.cells
          have rz_ := BK.out.frozen
          have lr_ := BK.out.lt
          refine wpAnyT_only (i := 10) rfl (by kernel_rfl) (fun K hK => ?_)
          go_simp
          refine hK _ _ (fun h => (h (by decide)).elim) ?_
          clear hK K r0_ r1_ r2_ rz_ lr_
          (try simp only [Act.put])
          refine wpAnyT_only (i := 11) rfl (by kernel_rfl) (fun K hK => ?_)
          go_simp
          refine hK _ _ (fun _ h => h) ?_
          clear hK K
          (try simp only [Act.put])
          refine wpAnyT_done (by kernel_rfl) ?_ _
          have LD := laidM (k := Tm.rnK L0 k1 s1 o1 a2) BK.out OM.out B.out (by omega) (by omega) (by omega) (by omega) (by omega) l1_.out.1 l1_.out.2
          revert LD
          generalize (World.setCell (World.setCell (World.setCell _ ⟨_, 0, none⟩ _) ⟨_, 1, none⟩ _) ⟨_, 2, none⟩ _) = W_
          clear BK T0 T1 OM B hp_ lp_ l1_
          revert W_
          revert pb_
          revert rd_
          revert rb_
          revert rc_
          revert ra_
          revert qd1_
          revert qb1_
          revert qc1_
          revert qa1_
          revert qc0_
          revert qa0_
          exact KEY.out
      case pf =>
        intro qa0_ qc0_ qa1_ qc1_ qb1_ qd1_ ra3 rc3 rb3 rd3 pb3 w3 LD
        obtain ⟨kb3, ke3, bx, o, hb, hq31, hq32, hq33, hq34, hq35, ln3, lm3⟩ := LD
        clear SS TF0 TF1
        have BX_w0 := Lib.hid bx
        have hp_w3 := bx.1
        have O0 := Lib.hid o
        clear bx o
        have HS_w3 := hb.size
        have BX_aM := Lib.hid (BX_aM.out.below hb)
        have HB := Lib.hid (HB.out.trans (hb.mono (by first | omega | exact Nat.le_refl _)))
        clear hb
        have c_ := BX_aM.out
        obtain ⟨l0_, x0_, y0_, z0_⟩ := c_
        have c_ := BX_w0.out
        obtain ⟨l1_, x1_, y1_, z1_⟩ := c_
        go_wp2_with fail
        clear l0_ x0_ y0_ z0_
        clear l1_ x1_ y1_ z1_
        refine (toOps_any a0 L0.length cap0 L0 _ (Q0.out.below HB.out) (by omega)).mono ?_
        rintro r w4 ⟨ra4, rc4, rfl, o, hb⟩
        have HS_w4 := hb.size
        have O0 := Lib.hid (O0.out.later hb (by omega))
        have BX_aM := Lib.hid (BX_aM.out.below hb)
        have BX_w0 := Lib.hid (BX_w0.out.below hb)
        have HB := Lib.hid (HB.out.trans (hb.mono (by first | omega | exact Nat.le_refl _)))
        clear hb
        have O1 := Lib.hid (OwnO.of o)
        clear o
        have c_ := BX_aM.out
        obtain ⟨l0_, x0_, y0_, z0_⟩ := c_
        have c_ := BX_w0.out
        obtain ⟨l1_, x1_, y1_, z1_⟩ := c_
        go_wp2_with fail
        clear l0_ x0_ y0_ z0_
        clear l1_ x1_ y1_ z1_
        refine (toMach_any k1 a1 s1.length c1 s1 b1 o1.length d1 o1 _ (Q1.out.below HB.out) (by omega) (by omega)).mono ?_
        rintro r w5 ⟨ra5, rc5, rb5, rd5, rfl, o, hb, ln5, lm5⟩
        have HS_w5 := hb.size
        have O0 := Lib.hid (O0.out.later hb (by omega))
        have O1 := Lib.hid (O1.out.later hb (by omega))
        have BX_aM := Lib.hid (BX_aM.out.below hb)
        have BX_w0 := Lib.hid (BX_w0.out.below hb)
        have HB := Lib.hid (HB.out.trans (hb.mono (by first | omega | exact Nat.le_refl _)))
        clear hb
        have O2 := Lib.hid (o)
        clear o
        have c_ := BX_aM.out
        obtain ⟨l0_, x0_, y0_, z0_⟩ := c_
        have c_ := BX_w0.out
        obtain ⟨l1_, x1_, y1_, z1_⟩ := c_
        go_wp2_with fail
        generalize hW : World.alloc w5 _ = w6
        obtain ⟨bx, hb⟩ := box3_of hW
        have hp_w6 := bx.1
        have BX_x1 := Lib.hid bx
        clear hW bx
        clear l0_ x0_ y0_ z0_
        clear l1_ x1_ y1_ z1_
        have HS_w6 := hb.size
        have O0 := Lib.hid (O0.out.later hb (by omega))
        have O1 := Lib.hid (O1.out.later hb (by omega))
        have O2 := Lib.hid (O2.out.later hb (by omega))
        have BX_aM := Lib.hid (BX_aM.out.below hb)
        have BX_w0 := Lib.hid (BX_w0.out.below hb)
        have HB := Lib.hid (HB.out.trans (hb.mono (by first | omega | exact Nat.le_refl _)))
        clear hb
        refine (iRunMachine ra4 L0.length rc4 L0 k1 ra5 s1.length rc5 s1 rb5 o1.length rd5 o1 a2 _ (O1.out.os rfl) O2.out.ms (HT.out.below HB.out)).mono ?_
        rintro r w7 ⟨ra7, rc7, rb7, rd7, rfl, o, hb, ln7, lm7⟩
        have HS_w7 := hb.size
        have O0 := Lib.hid (O0.out.later hb (by omega))
        have O1 := Lib.hid (O1.out.later hb (by omega))
        have O2 := Lib.hid (O2.out.later hb (by omega))
        have BX_aM := Lib.hid (BX_aM.out.below hb)
        have BX_w0 := Lib.hid (BX_w0.out.below hb)
        have BX_x1 := Lib.hid (BX_x1.out.below hb)
        have HB := Lib.hid (HB.out.trans (hb.mono (by first | omega | exact Nat.le_refl _)))
        clear hb
        have O3 := Lib.hid (o)
        clear o
        have c_ := BX_aM.out
        obtain ⟨l0_, x0_, y0_, z0_⟩ := c_
        have c_ := BX_w0.out
        obtain ⟨l1_, x1_, y1_, z1_⟩ := c_
        have c_ := BX_x1.out
        obtain ⟨l2_, x2_, y2_, z2_⟩ := c_
        go_wp2_with fail
        generalize hW : World.alloc w7 _ = w8
        obtain ⟨bx, hb⟩ := box3_of hW
        have hp_w8 := bx.1
        have BX_g0 := Lib.hid bx
        clear hW bx
        clear l0_ x0_ y0_ z0_
        clear l1_ x1_ y1_ z1_
        clear l2_ x2_ y2_ z2_
        have HS_w8 := hb.size
        have O0 := Lib.hid (O0.out.later hb (by omega))
        have O1 := Lib.hid (O1.out.later hb (by omega))
        have O2 := Lib.hid (O2.out.later hb (by omega))
        have O3 := Lib.hid (O3.out.later hb (by omega))
        have BX_aM := Lib.hid (BX_aM.out.below hb)
        have BX_w0 := Lib.hid (BX_w0.out.below hb)
        have BX_x1 := Lib.hid (BX_x1.out.below hb)
        have HB := Lib.hid (HB.out.trans (hb.mono (by first | omega | exact Nat.le_refl _)))
        clear hb
        refine (eqMach_same _ ra7 ra3 _ rc7 rc3 _ rb7 rb3 _ rd7 rd3 _ _ O3.out.ms O0.out.ms).mono ?_
        rintro r w9 ⟨rfl, hb⟩
        have HS_w9 := hb.size
        have O0 := Lib.hid (O0.out.later hb (by omega))
        have O1 := Lib.hid (O1.out.later hb (by omega))
        have O2 := Lib.hid (O2.out.later hb (by omega))
        have O3 := Lib.hid (O3.out.later hb (by omega))
        have BX_aM := Lib.hid (BX_aM.out.below hb)
        have BX_w0 := Lib.hid (BX_w0.out.below hb)
        have BX_x1 := Lib.hid (BX_x1.out.below hb)
        have BX_g0 := Lib.hid (BX_g0.out.below hb)
        have HB := Lib.hid (HB.out.trans (hb.mono (by first | omega | exact Nat.le_refl _)))
        clear hb
        have c_ := BX_aM.out
        obtain ⟨l0_, x0_, y0_, z0_⟩ := c_
        have c_ := BX_w0.out
        obtain ⟨l1_, x1_, y1_, z1_⟩ := c_
        have c_ := BX_x1.out
        obtain ⟨l2_, x2_, y2_, z2_⟩ := c_
        have c_ := BX_g0.out
        obtain ⟨l3_, x3_, y3_, z3_⟩ := c_
        go_wp2_with fail
        clear l0_ x0_ y0_ z0_
        clear l1_ x1_ y1_ z1_
        clear l2_ x2_ y2_ z2_
        clear l3_ x3_ y3_ z3_
        refine (toOps_any a0 L0.length cap0 L0 _ (Q0.out.below HB.out) (by omega)).mono ?_
        rintro r w10 ⟨ra10, rc10, rfl, o, hb⟩
        have HS_w10 := hb.size
        have O0 := Lib.hid (O0.out.later hb (by omega))
        have O1 := Lib.hid (O1.out.later hb (by omega))
        have O2 := Lib.hid (O2.out.later hb (by omega))
        have O3 := Lib.hid (O3.out.later hb (by omega))
        have BX_aM := Lib.hid (BX_aM.out.below hb)
        have BX_w0 := Lib.hid (BX_w0.out.below hb)
        have BX_x1 := Lib.hid (BX_x1.out.below hb)
        have BX_g0 := Lib.hid (BX_g0.out.below hb)
        have HB := Lib.hid (HB.out.trans (hb.mono (by first | omega | exact Nat.le_refl _)))
        clear hb
        have O4 := Lib.hid (OwnO.of o)
        clear o
        have c_ := BX_aM.out
        obtain ⟨l0_, x0_, y0_, z0_⟩ := c_
        have c_ := BX_w0.out
        obtain ⟨l1_, x1_, y1_, z1_⟩ := c_
        have c_ := BX_x1.out
        obtain ⟨l2_, x2_, y2_, z2_⟩ := c_
        have c_ := BX_g0.out
        obtain ⟨l3_, x3_, y3_, z3_⟩ := c_
        go_wp2_with fail
        clear l0_ x0_ y0_ z0_
        clear l1_ x1_ y1_ z1_
        clear l2_ x2_ y2_ z2_
        clear l3_ x3_ y3_ z3_
        refine (eqOps_same ra4 ra10 _ rc4 rc10 _ _ (O1.out.os rfl) (O4.out.os rfl)).mono ?_
        rintro r w11 ⟨rfl, hb⟩
        have HS_w11 := hb.size
        have O0 := Lib.hid (O0.out.later hb (by omega))
        have O1 := Lib.hid (O1.out.later hb (by omega))
        have O2 := Lib.hid (O2.out.later hb (by omega))
        have O3 := Lib.hid (O3.out.later hb (by omega))
        have O4 := Lib.hid (O4.out.later hb (by omega))
        have BX_aM := Lib.hid (BX_aM.out.below hb)
        have BX_w0 := Lib.hid (BX_w0.out.below hb)
        have BX_x1 := Lib.hid (BX_x1.out.below hb)
        have BX_g0 := Lib.hid (BX_g0.out.below hb)
        have HB := Lib.hid (HB.out.trans (hb.mono (by first | omega | exact Nat.le_refl _)))
        clear hb
        have c_ := BX_aM.out
        obtain ⟨l0_, x0_, y0_, z0_⟩ := c_
        have c_ := BX_w0.out
        obtain ⟨l1_, x1_, y1_, z1_⟩ := c_
        have c_ := BX_x1.out
        obtain ⟨l2_, x2_, y2_, z2_⟩ := c_
        have c_ := BX_g0.out
        obtain ⟨l3_, x3_, y3_, z3_⟩ := c_
        go_wp2_with fail
        clear l0_ x0_ y0_ z0_
        clear l1_ x1_ y1_ z1_
        clear l2_ x2_ y2_ z2_
        clear l3_ x3_ y3_ z3_
        have SS : Hid (∀ W, Below w11.heap.size w11 W → W.cell? ⟨w5.heap.size, 0, none⟩ = some (.int .i64 k1) ∧ W.cell? ⟨w5.heap.size, 1, none⟩ = some (.slice ra5 s1.length rc5) ∧ W.cell? ⟨w5.heap.size, 2, none⟩ = some (.slice rb5 o1.length rd5) ∧ W.cell? ⟨w.heap.size, 0, none⟩ = some (.int .i64 k1) ∧ W.cell? ⟨w.heap.size, 1, none⟩ = some (.slice a1 s1.length c1) ∧ W.cell? ⟨w.heap.size, 2, none⟩ = some (.slice b1 o1.length d1)) := Lib.hid fun W hW => by
          obtain ⟨-, x0_, y0_, z0_⟩ := BX_x1.out.below hW
          obtain ⟨-, x1_, y1_, z1_⟩ := BX_aM.out.below hW
          exact ⟨x0_, y0_, z0_, x1_, y1_, z1_⟩
        have PQ0 : Hid (∀ W, Below w11.heap.size w11 W → Ms W a1 s1.length c1 s1 b1 o1.length d1 o1) := Lib.hid fun W hW => (Q1.out.below HB.out).below hW
        have PX : Hid (∀ W, Below w11.heap.size w11 W → Ms W ra5 s1.length rc5 s1 rb5 o1.length rd5 o1) := Lib.hid fun W hW => O2.out.ms.below hW
        have c_ := BX_aM.out
        obtain ⟨l0_, x0_, y0_, z0_⟩ := c_
        have c_ := BX_w0.out
        obtain ⟨l1_, x1_, y1_, z1_⟩ := c_
        have c_ := BX_x1.out
        obtain ⟨l2_, x2_, y2_, z2_⟩ := c_
        have c_ := BX_g0.out
        obtain ⟨l3_, x3_, y3_, z3_⟩ := c_
        go_region_held3 (fun W => W.cell? ⟨w5.heap.size, 0, none⟩ = some (.int .i64 k1) ∧ W.cell? ⟨w5.heap.size, 1, none⟩ = some (.slice ra5 s1.length rc5) ∧ W.cell? ⟨w5.heap.size, 2, none⟩ = some (.slice rb5 o1.length rd5) ∧ W.cell? ⟨w.heap.size, 0, none⟩ = some (.int .i64 k1) ∧ W.cell? ⟨w.heap.size, 1, none⟩ = some (.slice a1 s1.length c1) ∧ W.cell? ⟨w.heap.size, 2, none⟩ = some (.slice b1 o1.length d1)) (exact SS.out _ (by (repeat' (first | (with_reducible exact Below.refl _ _) | (with_reducible assumption) | (with_reducible refine below_gc ?_ ?_ _) | (with_reducible refine below_gd ?_ _) | (with_reducible refine below_drewN ?_ _) | (with_reducible refine Below.drew ?_) | (with_reducible refine Below.alloc ?_ ?_ _) | (with_reducible refine Below.setCell ?_ ?_ _) | (with_reducible refine below_gw ?_ ?_ _) | (with_reducible refine below_via ?_ ‹Below _ _ _› ?_) | (with_reducible exact Nat.le_refl _) | (with_reducible refine le_gc ?_ _) | (with_reducible refine le_gd ?_ _) | (with_reducible refine le_gw ?_ _) | (with_reducible refine le_alloc ?_ _) | (with_reducible refine le_setCell ?_ _ _) | (with_reducible refine le_drew ?_) | (with_reducible refine le_drewN ?_ _) | go_size)))) ((first | (go_at_call 9; refine (toMach_any k1 a1 s1.length c1 s1 b1 o1.length d1 o1 _ (PQ0.out _ (by (repeat' (first | (with_reducible exact Below.refl _ _) | (with_reducible assumption) | (with_reducible refine below_gc ?_ ?_ _) | (with_reducible refine below_gd ?_ _) | (with_reducible refine below_drewN ?_ _) | (with_reducible refine Below.drew ?_) | (with_reducible refine Below.alloc ?_ ?_ _) | (with_reducible refine Below.setCell ?_ ?_ _) | (with_reducible refine below_gw ?_ ?_ _) | (with_reducible refine below_via ?_ ‹Below _ _ _› ?_) | (with_reducible exact Nat.le_refl _) | (with_reducible refine le_gc ?_ _) | (with_reducible refine le_gd ?_ _) | (with_reducible refine le_gw ?_ _) | (with_reducible refine le_alloc ?_ _) | (with_reducible refine le_setCell ?_ _ _) | (with_reducible refine le_drew ?_) | (with_reducible refine le_drewN ?_ _) | go_size)))) (by omega) (by omega)).mono ?_; rintro r w_ ⟨qa_, qc_, qb_, qd_, rfl, o, hb, -, -⟩; obtain ⟨p_, rfl⟩ := gw_of_below hb; have T0 := Lib.hid o.ms; clear o hb; (try simp only [gw_of_drew] at T0); (try simp only [gw_gw] at T0)) | (go_at_call 11; refine (eqMach_same k1 ra5 qa_ s1.length rc5 qc_ s1 rb5 qb_ o1.length rd5 qd_ o1 _ (PX.out _ (by (repeat' (first | (with_reducible exact Below.refl _ _) | (with_reducible assumption) | (with_reducible refine below_gc ?_ ?_ _) | (with_reducible refine below_gd ?_ _) | (with_reducible refine below_drewN ?_ _) | (with_reducible refine Below.drew ?_) | (with_reducible refine Below.alloc ?_ ?_ _) | (with_reducible refine Below.setCell ?_ ?_ _) | (with_reducible refine below_gw ?_ ?_ _) | (with_reducible refine below_via ?_ ‹Below _ _ _› ?_) | (with_reducible exact Nat.le_refl _) | (with_reducible refine le_gc ?_ _) | (with_reducible refine le_gd ?_ _) | (with_reducible refine le_gw ?_ _) | (with_reducible refine le_alloc ?_ _) | (with_reducible refine le_setCell ?_ _ _) | (with_reducible refine le_drew ?_) | (with_reducible refine le_drewN ?_ _) | go_size)))) (by first | (exact T0.out.below (by ((repeat' (first | (with_reducible exact Below.refl _ _) | (with_reducible assumption) | (with_reducible refine below_gc ?_ ?_ _) | (with_reducible refine below_gd ?_ _) | (with_reducible refine below_drewN ?_ _) | (with_reducible refine Below.drew ?_) | (with_reducible refine Below.alloc ?_ ?_ _) | (with_reducible refine Below.setCell ?_ ?_ _) | (with_reducible refine below_gw ?_ ?_ _) | (with_reducible refine below_via ?_ ‹Below _ _ _› ?_) | (with_reducible exact Nat.le_refl _) | (with_reducible refine le_gc ?_ _) | (with_reducible refine le_gd ?_ _) | (with_reducible refine le_gw ?_ _) | (with_reducible refine le_alloc ?_ _) | (with_reducible refine le_setCell ?_ _ _) | (with_reducible refine le_drew ?_) | (with_reducible refine le_drewN ?_ _) | go_size))); done)) | (have hh := T0.out; simp only [gw_gw, gw_of_drew, gw_drew] at hh ⊢; exact hh))).mono ?_; rintro r w_ ⟨rfl, hb⟩; obtain ⟨p9_, rfl⟩ := gw_of_below hb; clear hb)))
        generalize hW : gw w11 _ = w12
        have hb : Below w11.heap.size w11 w12 := by rw [← hW]; (repeat' (first | (with_reducible exact Below.refl _ _) | (with_reducible assumption) | (with_reducible refine below_gc ?_ ?_ _) | (with_reducible refine below_gd ?_ _) | (with_reducible refine below_drewN ?_ _) | (with_reducible refine Below.drew ?_) | (with_reducible refine Below.alloc ?_ ?_ _) | (with_reducible refine Below.setCell ?_ ?_ _) | (with_reducible refine below_gw ?_ ?_ _) | (with_reducible refine below_via ?_ ‹Below _ _ _› ?_) | (with_reducible exact Nat.le_refl _) | (with_reducible refine le_gc ?_ _) | (with_reducible refine le_gd ?_ _) | (with_reducible refine le_gw ?_ _) | (with_reducible refine le_alloc ?_ _) | (with_reducible refine le_setCell ?_ _ _) | (with_reducible refine le_drew ?_) | (with_reducible refine le_drewN ?_ _) | go_size))
        clear hW SS PQ0 PX T0
        clear l0_ x0_ y0_ z0_
        clear l1_ x1_ y1_ z1_
        clear l2_ x2_ y2_ z2_
        clear l3_ x3_ y3_ z3_
        have HS_w12 := hb.size
        have O0 := Lib.hid (O0.out.later hb (by omega))
        have O1 := Lib.hid (O1.out.later hb (by omega))
        have O2 := Lib.hid (O2.out.later hb (by omega))
        have O3 := Lib.hid (O3.out.later hb (by omega))
        have BX_aM := Lib.hid (BX_aM.out.below hb)
        have BX_w0 := Lib.hid (BX_w0.out.below hb)
        have BX_x1 := Lib.hid (BX_x1.out.below hb)
        have BX_g0 := Lib.hid (BX_g0.out.below hb)
        have HB := Lib.hid (HB.out.trans (hb.mono (by first | omega | exact Nat.le_refl _)))
        clear hb
        have c_ := BX_aM.out
        obtain ⟨l0_, x0_, y0_, z0_⟩ := c_
        have c_ := BX_w0.out
        obtain ⟨l1_, x1_, y1_, z1_⟩ := c_
        have c_ := BX_x1.out
        obtain ⟨l2_, x2_, y2_, z2_⟩ := c_
        have c_ := BX_g0.out
        obtain ⟨l3_, x3_, y3_, z3_⟩ := c_
        go_wp2_with fail
        clear l0_ x0_ y0_ z0_
        clear l1_ x1_ y1_ z1_
        clear l2_ x2_ y2_ z2_
        clear l3_ x3_ y3_ z3_
        refine (markOpS_any w3.heap.size w4.heap.size ra4 _ rc4 _ _ _ O1.out (Tm.flatO_length _) (by omega) (by omega) (by omega)).mono ?_
        rintro r w13 ⟨rfl, o2, ho⟩
        have HS_w13 := ho.size
        have HB := Lib.hid (TurnF.below HB.out ho (by omega) (by omega))
        have O0 := Lib.hid (O0.out.stay (SameIn.of_turnF ho (by omega) (by omega)))
        have O2 := Lib.hid (O2.out.stay (SameIn.of_turnF ho (by omega) (by omega)))
        have O3 := Lib.hid (O3.out.stay (SameIn.of_turnF ho (by omega) (by omega)))
        have BX_aM := Lib.hid (BX_aM.out.turn ho (by omega))
        have BX_w0 := Lib.hid (BX_w0.out.turn ho (by omega))
        have BX_x1 := Lib.hid (BX_x1.out.turn ho (by omega))
        have BX_g0 := Lib.hid (BX_g0.out.turn ho (by omega))
        have O1 := Lib.hid o2
        clear o2 ho
        have c_ := BX_aM.out
        obtain ⟨l0_, x0_, y0_, z0_⟩ := c_
        have c_ := BX_w0.out
        obtain ⟨l1_, x1_, y1_, z1_⟩ := c_
        have c_ := BX_x1.out
        obtain ⟨l2_, x2_, y2_, z2_⟩ := c_
        have c_ := BX_g0.out
        obtain ⟨l3_, x3_, y3_, z3_⟩ := c_
        go_wp2_with fail
        clear l0_ x0_ y0_ z0_
        clear l1_ x1_ y1_ z1_
        clear l2_ x2_ y2_ z2_
        clear l3_ x3_ y3_ z3_
        refine (markMach_any w4.heap.size w5.heap.size k1 ra5 s1.length rc5 _ rb5 o1.length rd5 _ _ _ O2.out (by omega) (by omega) (by omega) (by omega) (by omega)).mono ?_
        rintro r w14 ⟨rfl, o2, ho⟩
        have HS_w14 := ho.size
        have HB := Lib.hid (TurnF.below HB.out ho (by omega) (by omega))
        have O0 := Lib.hid (O0.out.stay (SameIn.of_turnF ho (by omega) (by omega)))
        have O1 := Lib.hid (O1.out.stay (SameIn.of_turnF ho (by omega) (by omega)))
        have O3 := Lib.hid (O3.out.stay (SameIn.of_turnF ho (by omega) (by omega)))
        have BX_aM := Lib.hid (BX_aM.out.turn ho (by omega))
        have BX_w0 := Lib.hid (BX_w0.out.turn ho (by omega))
        have BX_x1 := Lib.hid (BX_x1.out.turn ho (by omega))
        have BX_g0 := Lib.hid (BX_g0.out.turn ho (by omega))
        have O2 := Lib.hid o2
        clear o2 ho
        have c_ := BX_aM.out
        obtain ⟨l0_, x0_, y0_, z0_⟩ := c_
        have c_ := BX_w0.out
        obtain ⟨l1_, x1_, y1_, z1_⟩ := c_
        have c_ := BX_x1.out
        obtain ⟨l2_, x2_, y2_, z2_⟩ := c_
        have c_ := BX_g0.out
        obtain ⟨l3_, x3_, y3_, z3_⟩ := c_
        go_wp2_with fail
        clear l0_ x0_ y0_ z0_
        clear l1_ x1_ y1_ z1_
        clear l2_ x2_ y2_ z2_
        clear l3_ x3_ y3_ z3_
        refine (eqMach_same _ ra7 ra3 _ rc7 rc3 _ rb7 rb3 _ rd7 rd3 _ _ O3.out.ms O0.out.ms).mono ?_
        rintro r w15 ⟨rfl, hb⟩
        have HS_w15 := hb.size
        have O0 := Lib.hid (O0.out.later hb (by omega))
        have O1 := Lib.hid (O1.out.later hb (by omega))
        have O2 := Lib.hid (O2.out.later hb (by omega))
        have O3 := Lib.hid (O3.out.later hb (by omega))
        have BX_aM := Lib.hid (BX_aM.out.below hb)
        have BX_w0 := Lib.hid (BX_w0.out.below hb)
        have BX_x1 := Lib.hid (BX_x1.out.below hb)
        have BX_g0 := Lib.hid (BX_g0.out.below hb)
        have HB := Lib.hid (HB.out.trans (hb.mono (by first | omega | exact Nat.le_refl _)))
        clear hb
        have c_ := BX_aM.out
        obtain ⟨l0_, x0_, y0_, z0_⟩ := c_
        have c_ := BX_w0.out
        obtain ⟨l1_, x1_, y1_, z1_⟩ := c_
        have c_ := BX_x1.out
        obtain ⟨l2_, x2_, y2_, z2_⟩ := c_
        have c_ := BX_g0.out
        obtain ⟨l3_, x3_, y3_, z3_⟩ := c_
        go_wp2_with fail
        clear l0_ x0_ y0_ z0_
        clear l1_ x1_ y1_ z1_
        clear l2_ x2_ y2_ z2_
        clear l3_ x3_ y3_ z3_
        refine (markMach_any w6.heap.size w7.heap.size _ ra7 _ rc7 _ rb7 _ rd7 _ _ _ O3.out (by omega) (by omega) (by omega) (by omega) (by omega)).mono ?_
        rintro r w16 ⟨rfl, o2, ho⟩
        have HS_w16 := ho.size
        have HB := Lib.hid (TurnF.below HB.out ho (by omega) (by omega))
        have O0 := Lib.hid (O0.out.stay (SameIn.of_turnF ho (by omega) (by omega)))
        have O1 := Lib.hid (O1.out.stay (SameIn.of_turnF ho (by omega) (by omega)))
        have O2 := Lib.hid (O2.out.stay (SameIn.of_turnF ho (by omega) (by omega)))
        have BX_aM := Lib.hid (BX_aM.out.turn ho (by omega))
        have BX_w0 := Lib.hid (BX_w0.out.turn ho (by omega))
        have BX_x1 := Lib.hid (BX_x1.out.turn ho (by omega))
        have BX_g0 := Lib.hid (BX_g0.out.turn ho (by omega))
        have O3 := Lib.hid o2
        clear o2 ho
        have c_ := BX_aM.out
        obtain ⟨l0_, x0_, y0_, z0_⟩ := c_
        have c_ := BX_w0.out
        obtain ⟨l1_, x1_, y1_, z1_⟩ := c_
        have c_ := BX_x1.out
        obtain ⟨l2_, x2_, y2_, z2_⟩ := c_
        have c_ := BX_g0.out
        obtain ⟨l3_, x3_, y3_, z3_⟩ := c_
        go_wp2_with fail
        clear l0_ x0_ y0_ z0_
        clear l1_ x1_ y1_ z1_
        clear l2_ x2_ y2_ z2_
        clear l3_ x3_ y3_ z3_
        refine (heldMach_marks w6.heap.size w7.heap.size _ ra7 _ rc7 rb7 _ rd7 _ _ O3.out (by omega) (by omega) (by omega) (by omega)).mono ?_
        rintro r w17 ⟨rfl, hb⟩
        have HS_w17 := hb.size
        have O0 := Lib.hid (O0.out.later hb (by omega))
        have O1 := Lib.hid (O1.out.later hb (by omega))
        have O2 := Lib.hid (O2.out.later hb (by omega))
        have O3 := Lib.hid (O3.out.later hb (by omega))
        have BX_aM := Lib.hid (BX_aM.out.below hb)
        have BX_w0 := Lib.hid (BX_w0.out.below hb)
        have BX_x1 := Lib.hid (BX_x1.out.below hb)
        have BX_g0 := Lib.hid (BX_g0.out.below hb)
        have HB := Lib.hid (HB.out.trans (hb.mono (by first | omega | exact Nat.le_refl _)))
        clear hb
        have c_ := BX_aM.out
        obtain ⟨l0_, x0_, y0_, z0_⟩ := c_
        have c_ := BX_w0.out
        obtain ⟨l1_, x1_, y1_, z1_⟩ := c_
        have c_ := BX_x1.out
        obtain ⟨l2_, x2_, y2_, z2_⟩ := c_
        have c_ := BX_g0.out
        obtain ⟨l3_, x3_, y3_, z3_⟩ := c_
        go_wp2_with fail
        clear l0_ x0_ y0_ z0_
        clear l1_ x1_ y1_ z1_
        clear l2_ x2_ y2_ z2_
        clear l3_ x3_ y3_ z3_
        have SS : Hid (∀ W, Below w17.heap.size w17 W → W.cell? ⟨w.heap.size, 0, none⟩ = some (.int .i64 k1) ∧ W.cell? ⟨w.heap.size, 1, none⟩ = some (.slice a1 s1.length c1) ∧ W.cell? ⟨w.heap.size, 2, none⟩ = some (.slice b1 o1.length d1)) := Lib.hid fun W hW => by
          obtain ⟨-, x0_, y0_, z0_⟩ := BX_aM.out.below hW
          exact ⟨x0_, y0_, z0_⟩
        have TF0 := Lib.hid (fun (W : World) (hW : Below w17.heap.size w17 W) => toOps_any a0 L0.length cap0 L0 W ((Q0.out.below HB.out).below hW) (by omega))
        have TF1 := Lib.hid (fun (W : World) (hW : Below w17.heap.size w17 W) => toMach_any k1 a1 s1.length c1 s1 b1 o1.length d1 o1 W ((Q1.out.below HB.out).below hW) (by omega) (by omega))
        have HT_ := Lib.hid (HT.out.below HB.out)
        apply key_pf
        case main =>
          intro KEY
          refine wp_region_T [10] (fun W : World => W.cell? ⟨w.heap.size, 0, none⟩ = some (.int .i64 k1) ∧ W.cell? ⟨w.heap.size, 1, none⟩ = some (.slice a1 s1.length c1) ∧ W.cell? ⟨w.heap.size, 2, none⟩ = some (.slice b1 o1.length d1)) (by kernel_rfl) ?_
          generalize hW : World.drew w17 = v0_
          have B : Hid (Below w17.heap.size w17 v0_) := Lib.hid (by rw [← hW]; exact Below.drew (Below.refl _ _))
          clear hW
          refine wpAnyT_take (i := 0) (v := ?v16) rfl (by kernel_rfl) (by kernel_rfl) (by kernel_rfl) (by kernel_rfl) (by kernel_rfl) (fun _ _ _ h => h) (SS.out _ B.out) rfl ?hy16 ?hh16
          case hy16 => (intro W hW; obtain ⟨h1, h2, h3⟩ := hW; go_simp; try with_reducible rfl)
          case hh16 =>
          (try simp only [Act.put])
          refine wpAnyT_take (i := 2) (v := ?v17) rfl (by kernel_rfl) (by kernel_rfl) (by kernel_rfl) (by kernel_rfl) (by kernel_rfl) (fun _ _ _ h => h) (SS.out _ B.out) rfl ?hy17 ?hh17
          case hy17 => (intro W hW; obtain ⟨h1, h2, h3⟩ := hW; go_simp; try with_reducible rfl)
          case hh17 =>
          (try simp only [Act.put])
          refine wpAnyT_take (i := 4) (v := ?v18) rfl (by kernel_rfl) (by kernel_rfl) (by kernel_rfl) (by kernel_rfl) (by kernel_rfl) (fun _ _ _ h => h) (SS.out _ B.out) rfl ?hy18 ?hh18
          case hy18 => (intro W hW; obtain ⟨h1, h2, h3⟩ := hW; go_simp; try with_reducible rfl)
          case hh18 =>
          (try simp only [Act.put])
          refine wpAnyT_two (i := 1) (k := 9) rfl rfl (by kernel_rfl) (fun K hK => ?_) (fun K hK => ?_)
          · skip
            go_simp
            go_at_call 8
            refine (TF0.out _ B.out).mono ?_
            intro r v1_ hh_
            obtain ⟨qa0_, qc0_, rfl, o, hb⟩ := hh_
            have hz_v1_ := B.out.size
            have hy_v1_ := hb.size
            replace B := Lib.hid (B.out.trans (hb.mono hz_v1_))
            have T0 := Lib.hid (OpR.of_own o rfl)
            refine hK _ _ (fun _ _ => SS.out _ B.out) ?_
            clear hK K o hb
            (try simp only [Act.put])
            refine wpAnyT_two (i := 3) (k := 9) rfl rfl (by kernel_rfl) (fun K hK => ?_) (fun K hK => ?_)
            · skip
              go_simp
              go_at_call 9
              refine (TF1.out _ B.out).mono ?_
              intro r v2_ hh_
              unfold RetM at hh_
              obtain ⟨qa1_, qc1_, qb1_, qd1_, rfl, o, hb, -, -⟩ := hh_
              have hz_v2_ := B.out.size
              have hy_v2_ := hb.size
              replace B := Lib.hid (B.out.trans (hb.mono hz_v2_))
              replace T0 := Lib.hid (T0.out.below hb)
              have T1 := Lib.hid o.ms
              refine hK _ _ (fun _ _ => SS.out _ B.out) ?_
              clear hK K o hb
              (try simp only [Act.put])
              refine wpAnyT_two (i := 5) (k := 9) rfl rfl (by kernel_rfl) (fun K hK => ?_) (fun K hK => ?_)
              · skip
                go_simp
                go_at_call 17
                refine (iRunMachine qa0_ L0.length qc0_ L0 k1 qa1_ s1.length qc1_ s1 qb1_ o1.length qd1_ o1 a2 _ T0.out T1.out (HT_.out.below B.out)).mono ?_
                intro r v3_ hh_
                unfold RetMI at hh_
                obtain ⟨ra_, rc_, rb_, rd_, rfl, o, hb, ls_, lm_⟩ := hh_
                have hz_v3_ := B.out.size
                have hy_v3_ := hb.size
                replace B := Lib.hid (B.out.trans (hb.mono hz_v3_))
                replace T0 := Lib.hid (T0.out.below hb)
                replace T1 := Lib.hid (T1.out.below hb)
                have OM := Lib.hid o
                have l1_ := Lib.hid (And.intro ls_ lm_)
                refine hK _ _ (fun _ _ => SS.out _ B.out) ?_
                clear hK K o hb ls_ lm_
                (try simp only [Act.put])
                refine wpAnyT_takeA (i := 6) (v := ?v19) rfl (by kernel_rfl) (by kernel_rfl) (by kernel_rfl) (fun _ _ _ h => h) rfl ?hy19 ?hh19
                case hy19 => (intro W; go_simp; try with_reducible rfl)
                case hh19 =>
                (try simp only [Act.put])
                refine wpAnyT_takeA (i := 7) (v := ?v20) rfl (by kernel_rfl) (by kernel_rfl) (by kernel_rfl) (fun _ _ _ h => h) rfl ?hy20 ?hh20
                case hy20 => (intro W; go_simp; try with_reducible rfl)
                case hh20 =>
                (try simp only [Act.put])
                refine wpAnyT_takeA (i := 8) (v := ?v21) rfl (by kernel_rfl) (by kernel_rfl) (by kernel_rfl) (fun _ _ _ h => h) rfl ?hy21 ?hh21
                case hy21 => (intro W; go_simp; try with_reducible rfl)
                case hh21 =>
                (try simp only [Act.put])
                refine wpAnyT_only (i := 9) rfl (by kernel_rfl) (fun K hK => ?_)
                go_simp
                refine hK _ _ (fun _ _ => SS.out _ (B.out.alloc B.out.size _)) ?_
                clear hK K
                (try simp only [Act.put])
                have bk := blk3_new v3_ (.int .i64 0) (.slice none 0 0) (.slice none 0 0) 28
                generalize hW : World.alloc v3_ _ = v4_
                rw [hW] at bk
                have hb := (box3_of hW).2
                clear hW
                have hz_v4_ := B.out.size
                have hy_v4_ := hb.size
                replace B := Lib.hid (B.out.trans (hb.mono hz_v4_))
                replace T0 := Lib.hid (T0.out.below hb)
                replace T1 := Lib.hid (T1.out.below hb)
                replace OM := Lib.hid (OM.out.later hb (by omega))
                generalize hp_ : v3_.heap.size = pb_ at bk ⊢
                have BK := Lib.hid bk
                have lp_ := bk.lt
                clear bk hb
                obtain ⟨r0_, r1_, r2_⟩ := BK.out.cells
                have rz_ := BK.out.frozen
                have lr_ := BK.out.lt
                refine wpAnyT_only (i := 10) rfl (by kernel_rfl) (fun K hK => ?_)
                go_simp
                refine hK _ _ (fun h => (h (by decide)).elim) ?_
                clear hK K r0_ r1_ r2_ rz_ lr_
                (try simp only [Act.put])
                refine wpAnyT_only (i := 11) rfl (by kernel_rfl) (fun K hK => ?_)
                go_simp
                refine hK _ _ (fun _ h => h) ?_
                clear hK K
                (try simp only [Act.put])
                refine wpAnyT_done (by kernel_rfl) ?_ _
                have LD := laidM (k := Tm.rnK L0 k1 s1 o1 a2) BK.out OM.out B.out (by omega) (by omega) (by omega) (by omega) (by omega) l1_.out.1 l1_.out.2
                revert LD
                generalize (World.setCell (World.setCell (World.setCell _ ⟨_, 0, none⟩ _) ⟨_, 1, none⟩ _) ⟨_, 2, none⟩ _) = W_
                clear BK T0 T1 OM B hp_ lp_ l1_
                revert W_
                revert pb_
                revert rd_
                revert rb_
                revert rc_
                revert ra_
                revert qd1_
                revert qb1_
                revert qc1_
                revert qa1_
                revert qc0_
                revert qa0_
                exact KEY.out
              · skip
                go_simp
                refine hK _ _ (fun _ _ => SS.out _ (B.out.alloc B.out.size _)) ?_
                clear hK K
                (try simp only [Act.put])
                have bk := blk3_new v2_ (.int .i64 0) (.slice none 0 0) (.slice none 0 0) 28
                generalize hW : World.alloc v2_ _ = v3_
                rw [hW] at bk
                have hb := (box3_of hW).2
                clear hW
                have hz_v3_ := B.out.size
                have hy_v3_ := hb.size
                replace B := Lib.hid (B.out.trans (hb.mono hz_v3_))
                replace T0 := Lib.hid (T0.out.below hb)
                replace T1 := Lib.hid (T1.out.below hb)
                generalize hp_ : v2_.heap.size = pb_ at bk ⊢
                have BK := Lib.hid bk
                have lp_ := bk.lt
                clear bk hb
                refine wpAnyT_only (i := 5) rfl (by kernel_rfl) (fun K hK => ?_)
                go_simp
                go_at_call 17
                refine (iRunMachine qa0_ L0.length qc0_ L0 k1 qa1_ s1.length qc1_ s1 qb1_ o1.length qd1_ o1 a2 _ T0.out T1.out (HT_.out.below B.out)).mono ?_
                intro r v4_ hh_
                unfold RetMI at hh_
                obtain ⟨ra_, rc_, rb_, rd_, rfl, o, hb, ls_, lm_⟩ := hh_
                have hz_v4_ := B.out.size
                have hy_v4_ := hb.size
                replace B := Lib.hid (B.out.trans (hb.mono hz_v4_))
                replace T0 := Lib.hid (T0.out.below hb)
                replace T1 := Lib.hid (T1.out.below hb)
                replace BK := Lib.hid (BK.out.later hb)
                have OM := Lib.hid o
                have l1_ := Lib.hid (And.intro ls_ lm_)
                refine hK _ _ (fun _ _ => SS.out _ B.out) ?_
                clear hK K o hb ls_ lm_
                (try simp only [Act.put])
                refine wpAnyT_takeA (i := 6) (v := ?v22) rfl (by kernel_rfl) (by kernel_rfl) (by kernel_rfl) (fun _ _ _ h => h) rfl ?hy22 ?hh22
                case hy22 => (intro W; go_simp; try with_reducible rfl)
                case hh22 =>
                (try simp only [Act.put])
                refine wpAnyT_takeA (i := 7) (v := ?v23) rfl (by kernel_rfl) (by kernel_rfl) (by kernel_rfl) (fun _ _ _ h => h) rfl ?hy23 ?hh23
                case hy23 => (intro W; go_simp; try with_reducible rfl)
                case hh23 =>
                (try simp only [Act.put])
                refine wpAnyT_takeA (i := 8) (v := ?v24) rfl (by kernel_rfl) (by kernel_rfl) (by kernel_rfl) (fun _ _ _ h => h) rfl ?hy24 ?hh24
                case hy24 => (intro W; go_simp; try with_reducible rfl)
                case hh24 =>
                (try simp only [Act.put])
                obtain ⟨r0_, r1_, r2_⟩ := BK.out.cells
                have rz_ := BK.out.frozen
                have lr_ := BK.out.lt
                refine wpAnyT_only (i := 10) rfl (by kernel_rfl) (fun K hK => ?_)
                go_simp
                refine hK _ _ (fun h => (h (by decide)).elim) ?_
                clear hK K r0_ r1_ r2_ rz_ lr_
                (try simp only [Act.put])
                refine wpAnyT_only (i := 11) rfl (by kernel_rfl) (fun K hK => ?_)
                go_simp
                refine hK _ _ (fun _ h => h) ?_
                clear hK K
                (try simp only [Act.put])
                refine wpAnyT_done (by kernel_rfl) ?_ _
                have LD := laidM (k := Tm.rnK L0 k1 s1 o1 a2) BK.out OM.out B.out (by omega) (by omega) (by omega) (by omega) (by omega) l1_.out.1 l1_.out.2
                revert LD
                generalize (World.setCell (World.setCell (World.setCell _ ⟨_, 0, none⟩ _) ⟨_, 1, none⟩ _) ⟨_, 2, none⟩ _) = W_
                clear BK T0 T1 OM B hp_ lp_ l1_
                revert W_
                revert pb_
                revert rd_
                revert rb_
                revert rc_
                revert ra_
                revert qd1_
                revert qb1_
                revert qc1_
                revert qa1_
                revert qc0_
                revert qa0_
                exact KEY.out
            · skip
              go_simp
              refine hK _ _ (fun _ _ => SS.out _ (B.out.alloc B.out.size _)) ?_
              clear hK K
              (try simp only [Act.put])
              have bk := blk3_new v1_ (.int .i64 0) (.slice none 0 0) (.slice none 0 0) 28
              generalize hW : World.alloc v1_ _ = v2_
              rw [hW] at bk
              have hb := (box3_of hW).2
              clear hW
              have hz_v2_ := B.out.size
              have hy_v2_ := hb.size
              replace B := Lib.hid (B.out.trans (hb.mono hz_v2_))
              replace T0 := Lib.hid (T0.out.below hb)
              generalize hp_ : v1_.heap.size = pb_ at bk ⊢
              have BK := Lib.hid bk
              have lp_ := bk.lt
              clear bk hb
              refine wpAnyT_only (i := 3) rfl (by kernel_rfl) (fun K hK => ?_)
              go_simp
              go_at_call 9
              refine (TF1.out _ B.out).mono ?_
              intro r v3_ hh_
              unfold RetM at hh_
              obtain ⟨qa1_, qc1_, qb1_, qd1_, rfl, o, hb, -, -⟩ := hh_
              have hz_v3_ := B.out.size
              have hy_v3_ := hb.size
              replace B := Lib.hid (B.out.trans (hb.mono hz_v3_))
              replace T0 := Lib.hid (T0.out.below hb)
              replace BK := Lib.hid (BK.out.later hb)
              have T1 := Lib.hid o.ms
              refine hK _ _ (fun _ _ => SS.out _ B.out) ?_
              clear hK K o hb
              (try simp only [Act.put])
              refine wpAnyT_only (i := 5) rfl (by kernel_rfl) (fun K hK => ?_)
              go_simp
              go_at_call 17
              refine (iRunMachine qa0_ L0.length qc0_ L0 k1 qa1_ s1.length qc1_ s1 qb1_ o1.length qd1_ o1 a2 _ T0.out T1.out (HT_.out.below B.out)).mono ?_
              intro r v4_ hh_
              unfold RetMI at hh_
              obtain ⟨ra_, rc_, rb_, rd_, rfl, o, hb, ls_, lm_⟩ := hh_
              have hz_v4_ := B.out.size
              have hy_v4_ := hb.size
              replace B := Lib.hid (B.out.trans (hb.mono hz_v4_))
              replace T0 := Lib.hid (T0.out.below hb)
              replace BK := Lib.hid (BK.out.later hb)
              replace T1 := Lib.hid (T1.out.below hb)
              have OM := Lib.hid o
              have l1_ := Lib.hid (And.intro ls_ lm_)
              refine hK _ _ (fun _ _ => SS.out _ B.out) ?_
              clear hK K o hb ls_ lm_
              (try simp only [Act.put])
              refine wpAnyT_takeA (i := 6) (v := ?v25) rfl (by kernel_rfl) (by kernel_rfl) (by kernel_rfl) (fun _ _ _ h => h) rfl ?hy25 ?hh25
              case hy25 => (intro W; go_simp; try with_reducible rfl)
              case hh25 =>
              (try simp only [Act.put])
              refine wpAnyT_takeA (i := 7) (v := ?v26) rfl (by kernel_rfl) (by kernel_rfl) (by kernel_rfl) (fun _ _ _ h => h) rfl ?hy26 ?hh26
              case hy26 => (intro W; go_simp; try with_reducible rfl)
              case hh26 =>
              (try simp only [Act.put])
              refine wpAnyT_takeA (i := 8) (v := ?v27) rfl (by kernel_rfl) (by kernel_rfl) (by kernel_rfl) (fun _ _ _ h => h) rfl ?hy27 ?hh27
              case hy27 => (intro W; go_simp; try with_reducible rfl)
              case hh27 =>
              (try simp only [Act.put])
              obtain ⟨r0_, r1_, r2_⟩ := BK.out.cells
              have rz_ := BK.out.frozen
              have lr_ := BK.out.lt
              refine wpAnyT_only (i := 10) rfl (by kernel_rfl) (fun K hK => ?_)
              go_simp
              refine hK _ _ (fun h => (h (by decide)).elim) ?_
              clear hK K r0_ r1_ r2_ rz_ lr_
              (try simp only [Act.put])
              refine wpAnyT_only (i := 11) rfl (by kernel_rfl) (fun K hK => ?_)
              go_simp
              refine hK _ _ (fun _ h => h) ?_
              clear hK K
              (try simp only [Act.put])
              refine wpAnyT_done (by kernel_rfl) ?_ _
              have LD := laidM (k := Tm.rnK L0 k1 s1 o1 a2) BK.out OM.out B.out (by omega) (by omega) (by omega) (by omega) (by omega) l1_.out.1 l1_.out.2
              revert LD
              generalize (World.setCell (World.setCell (World.setCell _ ⟨_, 0, none⟩ _) ⟨_, 1, none⟩ _) ⟨_, 2, none⟩ _) = W_
              clear BK T0 T1 OM B hp_ lp_ l1_
              revert W_
              revert pb_
              revert rd_
              revert rb_
              revert rc_
              revert ra_
              revert qd1_
              revert qb1_
              revert qc1_
              revert qa1_
              revert qc0_
              revert qa0_
              exact KEY.out
          · skip
            go_simp
            refine hK _ _ (fun _ _ => SS.out _ (B.out.alloc B.out.size _)) ?_
            clear hK K
            (try simp only [Act.put])
            have bk := blk3_new v0_ (.int .i64 0) (.slice none 0 0) (.slice none 0 0) 28
            generalize hW : World.alloc v0_ _ = v1_
            rw [hW] at bk
            have hb := (box3_of hW).2
            clear hW
            have hz_v1_ := B.out.size
            have hy_v1_ := hb.size
            replace B := Lib.hid (B.out.trans (hb.mono hz_v1_))
            generalize hp_ : v0_.heap.size = pb_ at bk ⊢
            have BK := Lib.hid bk
            have lp_ := bk.lt
            clear bk hb
            refine wpAnyT_only (i := 1) rfl (by kernel_rfl) (fun K hK => ?_)
            go_simp
            go_at_call 8
            refine (TF0.out _ B.out).mono ?_
            intro r v2_ hh_
            obtain ⟨qa0_, qc0_, rfl, o, hb⟩ := hh_
            have hz_v2_ := B.out.size
            have hy_v2_ := hb.size
            replace B := Lib.hid (B.out.trans (hb.mono hz_v2_))
            replace BK := Lib.hid (BK.out.later hb)
            have T0 := Lib.hid (OpR.of_own o rfl)
            refine hK _ _ (fun _ _ => SS.out _ B.out) ?_
            clear hK K o hb
            (try simp only [Act.put])
            refine wpAnyT_only (i := 3) rfl (by kernel_rfl) (fun K hK => ?_)
            go_simp
            go_at_call 9
            refine (TF1.out _ B.out).mono ?_
            intro r v3_ hh_
            unfold RetM at hh_
            obtain ⟨qa1_, qc1_, qb1_, qd1_, rfl, o, hb, -, -⟩ := hh_
            have hz_v3_ := B.out.size
            have hy_v3_ := hb.size
            replace B := Lib.hid (B.out.trans (hb.mono hz_v3_))
            replace BK := Lib.hid (BK.out.later hb)
            replace T0 := Lib.hid (T0.out.below hb)
            have T1 := Lib.hid o.ms
            refine hK _ _ (fun _ _ => SS.out _ B.out) ?_
            clear hK K o hb
            (try simp only [Act.put])
            refine wpAnyT_only (i := 5) rfl (by kernel_rfl) (fun K hK => ?_)
            go_simp
            go_at_call 17
            refine (iRunMachine qa0_ L0.length qc0_ L0 k1 qa1_ s1.length qc1_ s1 qb1_ o1.length qd1_ o1 a2 _ T0.out T1.out (HT_.out.below B.out)).mono ?_
            intro r v4_ hh_
            unfold RetMI at hh_
            obtain ⟨ra_, rc_, rb_, rd_, rfl, o, hb, ls_, lm_⟩ := hh_
            have hz_v4_ := B.out.size
            have hy_v4_ := hb.size
            replace B := Lib.hid (B.out.trans (hb.mono hz_v4_))
            replace BK := Lib.hid (BK.out.later hb)
            replace T0 := Lib.hid (T0.out.below hb)
            replace T1 := Lib.hid (T1.out.below hb)
            have OM := Lib.hid o
            have l1_ := Lib.hid (And.intro ls_ lm_)
            refine hK _ _ (fun _ _ => SS.out _ B.out) ?_
            clear hK K o hb ls_ lm_
            (try simp only [Act.put])
            refine wpAnyT_takeA (i := 6) (v := ?v28) rfl (by kernel_rfl) (by kernel_rfl) (by kernel_rfl) (fun _ _ _ h => h) rfl ?hy28 ?hh28
            case hy28 => (intro W; go_simp; try with_reducible rfl)
            case hh28 =>
            (try simp only [Act.put])
            refine wpAnyT_takeA (i := 7) (v := ?v29) rfl (by kernel_rfl) (by kernel_rfl) (by kernel_rfl) (fun _ _ _ h => h) rfl ?hy29 ?hh29
            case hy29 => (intro W; go_simp; try with_reducible rfl)
            case hh29 =>
            (try simp only [Act.put])
            refine wpAnyT_takeA (i := 8) (v := ?v30) rfl (by kernel_rfl) (by kernel_rfl) (by kernel_rfl) (fun _ _ _ h => h) rfl ?hy30 ?hh30
            case hy30 => (intro W; go_simp; try with_reducible rfl)
            case hh30 =>
            (try simp only [Act.put])
            obtain ⟨r0_, r1_, r2_⟩ := BK.out.cells
            have rz_ := BK.out.frozen
            have lr_ := BK.out.lt
            refine wpAnyT_only (i := 10) rfl (by kernel_rfl) (fun K hK => ?_)
            go_simp
            refine hK _ _ (fun h => (h (by decide)).elim) ?_
            clear hK K r0_ r1_ r2_ rz_ lr_
            (try simp only [Act.put])
            refine wpAnyT_only (i := 11) rfl (by kernel_rfl) (fun K hK => ?_)
            go_simp
            refine hK _ _ (fun _ h => h) ?_
            clear hK K
            (try simp only [Act.put])
            refine wpAnyT_done (by kernel_rfl) ?_ _
            have LD := laidM (k := Tm.rnK L0 k1 s1 o1 a2) BK.out OM.out B.out (by omega) (by omega) (by omega) (by omega) (by omega) l1_.out.1 l1_.out.2
            revert LD
            generalize (World.setCell (World.setCell (World.setCell _ ⟨_, 0, none⟩ _) ⟨_, 1, none⟩ _) ⟨_, 2, none⟩ _) = W_
            clear BK T0 T1 OM B hp_ lp_ l1_
            revert W_
            revert pb_
            revert rd_
            revert rb_
            revert rc_
            revert ra_
            revert qd1_
            revert qb1_
            revert qc1_
            revert qa1_
            revert qc0_
            revert qa0_
            exact KEY.out
        case pf =>
          intro qa0_ qc0_ qa1_ qc1_ qb1_ qd1_ ra18 rc18 rb18 rd18 pb18 w18 LD
          obtain ⟨kb18, ke18, bx, o, hb, hq181, hq182, hq183, hq184, hq185, ln18, lm18⟩ := LD
          clear SS TF0 TF1
          have BX_h0 := Lib.hid bx
          have hp_w18 := bx.1
          have O5 := Lib.hid o
          clear bx o
          have HS_w18 := hb.size
          have O0 := Lib.hid (O0.out.later hb (by omega))
          have O1 := Lib.hid (O1.out.later hb (by omega))
          have O2 := Lib.hid (O2.out.later hb (by omega))
          have O3 := Lib.hid (O3.out.later hb (by omega))
          have BX_aM := Lib.hid (BX_aM.out.below hb)
          have BX_w0 := Lib.hid (BX_w0.out.below hb)
          have BX_x1 := Lib.hid (BX_x1.out.below hb)
          have BX_g0 := Lib.hid (BX_g0.out.below hb)
          have HB := Lib.hid (HB.out.trans (hb.mono (by first | omega | exact Nat.le_refl _)))
          clear hb
          have c_ := BX_aM.out
          obtain ⟨l0_, x0_, y0_, z0_⟩ := c_
          have c_ := BX_w0.out
          obtain ⟨l1_, x1_, y1_, z1_⟩ := c_
          have c_ := BX_x1.out
          obtain ⟨l2_, x2_, y2_, z2_⟩ := c_
          have c_ := BX_g0.out
          obtain ⟨l3_, x3_, y3_, z3_⟩ := c_
          have c_ := BX_h0.out
          obtain ⟨l4_, x4_, y4_, z4_⟩ := c_
          go_wp2_with fail
          clear l0_ x0_ y0_ z0_
          clear l1_ x1_ y1_ z1_
          clear l2_ x2_ y2_ z2_
          clear l3_ x3_ y3_ z3_
          clear l4_ x4_ y4_ z4_
          refine (eqMach_same _ ra18 ra3 _ rc18 rc3 _ rb18 rb3 _ rd18 rd3 _ _ O5.out.ms O0.out.ms).mono ?_
          rintro r w19 ⟨rfl, hb⟩
          have HS_w19 := hb.size
          have O0 := Lib.hid (O0.out.later hb (by omega))
          have O1 := Lib.hid (O1.out.later hb (by omega))
          have O2 := Lib.hid (O2.out.later hb (by omega))
          have O3 := Lib.hid (O3.out.later hb (by omega))
          have O5 := Lib.hid (O5.out.later hb (by omega))
          have BX_aM := Lib.hid (BX_aM.out.below hb)
          have BX_w0 := Lib.hid (BX_w0.out.below hb)
          have BX_x1 := Lib.hid (BX_x1.out.below hb)
          have BX_g0 := Lib.hid (BX_g0.out.below hb)
          have BX_h0 := Lib.hid (BX_h0.out.below hb)
          have HB := Lib.hid (HB.out.trans (hb.mono (by first | omega | exact Nat.le_refl _)))
          clear hb
          have c_ := BX_aM.out
          obtain ⟨l0_, x0_, y0_, z0_⟩ := c_
          have c_ := BX_w0.out
          obtain ⟨l1_, x1_, y1_, z1_⟩ := c_
          have c_ := BX_x1.out
          obtain ⟨l2_, x2_, y2_, z2_⟩ := c_
          have c_ := BX_g0.out
          obtain ⟨l3_, x3_, y3_, z3_⟩ := c_
          have c_ := BX_h0.out
          obtain ⟨l4_, x4_, y4_, z4_⟩ := c_
          go_wp2_with fail
          clear l0_ x0_ y0_ z0_
          clear l1_ x1_ y1_ z1_
          clear l2_ x2_ y2_ z2_
          clear l3_ x3_ y3_ z3_
          clear l4_ x4_ y4_ z4_
          refine (heldMach_marks w6.heap.size w7.heap.size _ ra7 _ rc7 rb7 _ rd7 _ _ O3.out (by omega) (by omega) (by omega) (by omega)).mono ?_
          rintro r w20 ⟨rfl, hb⟩
          have HS_w20 := hb.size
          have O0 := Lib.hid (O0.out.later hb (by omega))
          have O1 := Lib.hid (O1.out.later hb (by omega))
          have O2 := Lib.hid (O2.out.later hb (by omega))
          have O3 := Lib.hid (O3.out.later hb (by omega))
          have O5 := Lib.hid (O5.out.later hb (by omega))
          have BX_aM := Lib.hid (BX_aM.out.below hb)
          have BX_w0 := Lib.hid (BX_w0.out.below hb)
          have BX_x1 := Lib.hid (BX_x1.out.below hb)
          have BX_g0 := Lib.hid (BX_g0.out.below hb)
          have BX_h0 := Lib.hid (BX_h0.out.below hb)
          have HB := Lib.hid (HB.out.trans (hb.mono (by first | omega | exact Nat.le_refl _)))
          clear hb
          have c_ := BX_aM.out
          obtain ⟨l0_, x0_, y0_, z0_⟩ := c_
          have c_ := BX_w0.out
          obtain ⟨l1_, x1_, y1_, z1_⟩ := c_
          have c_ := BX_x1.out
          obtain ⟨l2_, x2_, y2_, z2_⟩ := c_
          have c_ := BX_g0.out
          obtain ⟨l3_, x3_, y3_, z3_⟩ := c_
          have c_ := BX_h0.out
          obtain ⟨l4_, x4_, y4_, z4_⟩ := c_
          go_wp2
          go_ret
          exact ⟨rfl, HB.out⟩
end Go.Proofs.YtlpdeeaebgclpaaDoor

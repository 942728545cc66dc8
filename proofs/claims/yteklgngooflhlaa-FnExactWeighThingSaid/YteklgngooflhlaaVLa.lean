/- Walks of exact laws over structs. -/
import Derived.Test.YteklgngooflhlaaVI1
import Derived.Test.YteklgngooflhlaaVS1
import Derived.Test.YteklgngooflhlaaTurn
import Derived.Test.YteklgngooflhlaaLaw3
namespace Go.Proofs.Yteklgngooflhlaa
set_option maxRecDepth 20000
open Go.RowKit

set_option maxRecDepth 20000 in
set_option maxHeartbeats 4000000 in
theorem wFnExactWeighThing (a0 : Int) (w : World) (_w0 : (Lit.int .i64 a0).wf = true) : Calls Try.prog 6 #[.int .i64 a0] w fun e w' => e = .returned (.bool true) ∧ Below w.heap.size w w' := by
  go_enter Try.func6, Try.ntmps6
  have HB := Lib.hid (Below.refl w.heap.size w)
  go_wp2_with fail
  refine (sWeighThing a0 _ ).mono ?_
  rintro r w1 ⟨ra1, rc1, rb1, rd1, rfl, o, hb, ln1, lm1⟩
  have HS_w1 := hb.size
  have HB := Lib.hid (HB.out.trans (hb.mono (by first | omega | exact Nat.le_refl _)))
  clear hb
  have O0 := Lib.hid (o)
  clear o
  go_wp2_with fail
  generalize hW : World.alloc w1 _ = w2
  obtain ⟨bx, hb⟩ := box2_of hW
  have hp_w2 := bx.1
  have BX_w0 := Lib.hid bx
  clear hW bx
  have HS_w2 := hb.size
  have O0 := Lib.hid (O0.out.later hb (by omega))
  have HB := Lib.hid (HB.out.trans (hb.mono (by first | omega | exact Nat.le_refl _)))
  clear hb
  refine (iWeighThing a0 _ ).mono ?_
  rintro r w3 ⟨ra3, rc3, rb3, rd3, rfl, o, hb, ln3, lm3⟩
  have HS_w3 := hb.size
  have O0 := Lib.hid (O0.out.later hb (by omega))
  have BX_w0 := Lib.hid (BX_w0.out.below hb)
  have HB := Lib.hid (HB.out.trans (hb.mono (by first | omega | exact Nat.le_refl _)))
  clear hb
  have O1 := Lib.hid (o)
  clear o
  have c_ := BX_w0.out
  obtain ⟨l0_, x0_, y0_⟩ := c_
  go_wp2_with fail
  generalize hW : World.alloc w3 _ = w4
  obtain ⟨bx, hb⟩ := box2_of hW
  have hp_w4 := bx.1
  have BX_g0 := Lib.hid bx
  clear hW bx
  clear l0_ x0_ y0_
  have HS_w4 := hb.size
  have O0 := Lib.hid (O0.out.later hb (by omega))
  have O1 := Lib.hid (O1.out.later hb (by omega))
  have BX_w0 := Lib.hid (BX_w0.out.below hb)
  have HB := Lib.hid (HB.out.trans (hb.mono (by first | omega | exact Nat.le_refl _)))
  clear hb
  refine (eqWeig_same ra3 ra1 _ rc3 rc1 _ rb3 rb1 _ rd3 rd1 _ _ O1.out.ms O0.out.ms).mono ?_
  rintro r w5 ⟨rfl, hb⟩
  have HS_w5 := hb.size
  have O0 := Lib.hid (O0.out.later hb (by omega))
  have O1 := Lib.hid (O1.out.later hb (by omega))
  have BX_w0 := Lib.hid (BX_w0.out.below hb)
  have BX_g0 := Lib.hid (BX_g0.out.below hb)
  have HB := Lib.hid (HB.out.trans (hb.mono (by first | omega | exact Nat.le_refl _)))
  clear hb
  have c_ := BX_w0.out
  obtain ⟨l0_, x0_, y0_⟩ := c_
  have c_ := BX_g0.out
  obtain ⟨l1_, x1_, y1_⟩ := c_
  go_wp2_with fail
  clear l0_ x0_ y0_
  clear l1_ x1_ y1_
  refine (markWeig_any w2.heap.size w3.heap.size ra3 _ rc3 _ rb3 _ rd3 _ _ _ O1.out (by omega) (by omega) (by omega) (by omega) (by omega)).mono ?_
  rintro r w6 ⟨rfl, o2, ho⟩
  have HS_w6 := ho.size
  have HB := Lib.hid (TurnF.below HB.out ho (by omega) (by omega))
  have O0 := Lib.hid (O0.out.stay (SameIn.of_turnF ho (by omega) (by omega)))
  have BX_w0 := Lib.hid (BX_w0.out.turn ho (by omega))
  have BX_g0 := Lib.hid (BX_g0.out.turn ho (by omega))
  have O1 := Lib.hid o2
  clear o2 ho
  have c_ := BX_w0.out
  obtain ⟨l0_, x0_, y0_⟩ := c_
  have c_ := BX_g0.out
  obtain ⟨l1_, x1_, y1_⟩ := c_
  go_wp2_with fail
  clear l0_ x0_ y0_
  clear l1_ x1_ y1_
  refine (heldWeig_marks w2.heap.size w3.heap.size ra3 _ rc3 rb3 _ rd3 _ _ O1.out (by omega) (by omega) (by omega) (by omega)).mono ?_
  rintro r w7 ⟨rfl, hb⟩
  have HS_w7 := hb.size
  have O0 := Lib.hid (O0.out.later hb (by omega))
  have O1 := Lib.hid (O1.out.later hb (by omega))
  have BX_w0 := Lib.hid (BX_w0.out.below hb)
  have BX_g0 := Lib.hid (BX_g0.out.below hb)
  have HB := Lib.hid (HB.out.trans (hb.mono (by first | omega | exact Nat.le_refl _)))
  clear hb
  have c_ := BX_w0.out
  obtain ⟨l0_, x0_, y0_⟩ := c_
  have c_ := BX_g0.out
  obtain ⟨l1_, x1_, y1_⟩ := c_
  go_wp2_with fail
  clear l0_ x0_ y0_
  clear l1_ x1_ y1_
  refine (iWeighThing a0 _ ).mono ?_
  rintro r w8 ⟨ra8, rc8, rb8, rd8, rfl, o, hb, ln8, lm8⟩
  have HS_w8 := hb.size
  have O0 := Lib.hid (O0.out.later hb (by omega))
  have O1 := Lib.hid (O1.out.later hb (by omega))
  have BX_w0 := Lib.hid (BX_w0.out.below hb)
  have BX_g0 := Lib.hid (BX_g0.out.below hb)
  have HB := Lib.hid (HB.out.trans (hb.mono (by first | omega | exact Nat.le_refl _)))
  clear hb
  have O2 := Lib.hid (o)
  clear o
  have c_ := BX_w0.out
  obtain ⟨l0_, x0_, y0_⟩ := c_
  have c_ := BX_g0.out
  obtain ⟨l1_, x1_, y1_⟩ := c_
  go_wp2_with fail
  generalize hW : World.alloc w8 _ = w9
  obtain ⟨bx, hb⟩ := box2_of hW
  have hp_w9 := bx.1
  have BX_h0 := Lib.hid bx
  clear hW bx
  clear l0_ x0_ y0_
  clear l1_ x1_ y1_
  have HS_w9 := hb.size
  have O0 := Lib.hid (O0.out.later hb (by omega))
  have O1 := Lib.hid (O1.out.later hb (by omega))
  have O2 := Lib.hid (O2.out.later hb (by omega))
  have BX_w0 := Lib.hid (BX_w0.out.below hb)
  have BX_g0 := Lib.hid (BX_g0.out.below hb)
  have HB := Lib.hid (HB.out.trans (hb.mono (by first | omega | exact Nat.le_refl _)))
  clear hb
  refine (eqWeig_same ra8 ra1 _ rc8 rc1 _ rb8 rb1 _ rd8 rd1 _ _ O2.out.ms O0.out.ms).mono ?_
  rintro r w10 ⟨rfl, hb⟩
  have HS_w10 := hb.size
  have O0 := Lib.hid (O0.out.later hb (by omega))
  have O1 := Lib.hid (O1.out.later hb (by omega))
  have O2 := Lib.hid (O2.out.later hb (by omega))
  have BX_w0 := Lib.hid (BX_w0.out.below hb)
  have BX_g0 := Lib.hid (BX_g0.out.below hb)
  have BX_h0 := Lib.hid (BX_h0.out.below hb)
  have HB := Lib.hid (HB.out.trans (hb.mono (by first | omega | exact Nat.le_refl _)))
  clear hb
  have c_ := BX_w0.out
  obtain ⟨l0_, x0_, y0_⟩ := c_
  have c_ := BX_g0.out
  obtain ⟨l1_, x1_, y1_⟩ := c_
  have c_ := BX_h0.out
  obtain ⟨l2_, x2_, y2_⟩ := c_
  go_wp2_with fail
  clear l0_ x0_ y0_
  clear l1_ x1_ y1_
  clear l2_ x2_ y2_
  refine (heldWeig_marks w2.heap.size w3.heap.size ra3 _ rc3 rb3 _ rd3 _ _ O1.out (by omega) (by omega) (by omega) (by omega)).mono ?_
  rintro r w11 ⟨rfl, hb⟩
  have HS_w11 := hb.size
  have O0 := Lib.hid (O0.out.later hb (by omega))
  have O1 := Lib.hid (O1.out.later hb (by omega))
  have O2 := Lib.hid (O2.out.later hb (by omega))
  have BX_w0 := Lib.hid (BX_w0.out.below hb)
  have BX_g0 := Lib.hid (BX_g0.out.below hb)
  have BX_h0 := Lib.hid (BX_h0.out.below hb)
  have HB := Lib.hid (HB.out.trans (hb.mono (by first | omega | exact Nat.le_refl _)))
  clear hb
  have c_ := BX_w0.out
  obtain ⟨l0_, x0_, y0_⟩ := c_
  have c_ := BX_g0.out
  obtain ⟨l1_, x1_, y1_⟩ := c_
  have c_ := BX_h0.out
  obtain ⟨l2_, x2_, y2_⟩ := c_
  go_wp2
  go_ret
  exact ⟨rfl, HB.out⟩
end Go.Proofs.Yteklgngooflhlaa

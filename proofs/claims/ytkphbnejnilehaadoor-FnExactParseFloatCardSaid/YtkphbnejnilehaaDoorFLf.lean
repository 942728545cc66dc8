/- Walks of exact laws over floats. -/
import Derived.Test.YtkphbnejnilehaaDoorDP2
import Derived.Test.YtkphbnejnilehaaDoorBox
namespace Go.Proofs.YtkphbnejnilehaaDoor
open Go.RowKit

set_option maxRecDepth 20000 in
set_option maxHeartbeats 4000000 in
theorem wFnExactParseFloat (a0 : ByteArray) (w : World) (w0 : a0.size ≤ maxLen) (htab : Door w) : Calls Tryd.prog 4 #[.string a0] w fun e w' => e = .returned (.bool true) ∧ Below w.heap.size w w' := by
  have HT := Lib.hid htab
  clear htab
  unfold maxLen at w0
  by_cases gs0 : a0.size ≤ 1048576
  · skip
    go_enter Tryd.func4, Tryd.ntmps4
    have HB := Lib.hid (Below.refl w.heap.size w)
    go_wp2_with fail
    refine (sParseFloat a0 _ gs0).mono ?_
    rintro r w1 ⟨b1, c1, rfl, o, hb, ln1⟩
    have HS_w1 := hb.size
    have HB := Lib.hid (HB.out.trans (hb.mono (by first | omega | exact Nat.le_refl _)))
    clear hb
    have O0 := Lib.hid (OwnI.of o)
    clear o
    go_wp2_with fail
    generalize hW : World.alloc w1 _ = w2
    obtain ⟨bx, hb⟩ := box_of hW
    have hp_w2 := bx.1
    have BX_w0 := Lib.hid bx
    clear hW bx
    have HS_w2 := hb.size
    have O0 := Lib.hid (O0.out.later hb (by omega))
    have HB := Lib.hid (HB.out.trans (hb.mono (by first | omega | exact Nat.le_refl _)))
    clear hb
    refine (iParseFloat a0 _ gs0 (Door.below HT.out HB.out)).mono ?_
    rintro r w3 ⟨b3, c3, rfl, o, hb, ln3⟩
    have HS_w3 := hb.size
    have O0 := Lib.hid (O0.out.later hb (by omega))
    have BX_w0 := Lib.hid (BX_w0.out.below hb)
    have HB := Lib.hid (HB.out.trans (hb.mono (by first | omega | exact Nat.le_refl _)))
    clear hb
    have O1 := Lib.hid (OwnI.of o)
    clear o
    have c_ := BX_w0.out
    obtain ⟨l0_, x0_, y0_⟩ := c_
    go_wp2_with fail
    generalize hW : World.alloc w3 _ = w4
    obtain ⟨bx, hb⟩ := box_of hW
    have hp_w4 := bx.1
    have BX_g0 := Lib.hid bx
    clear hW bx
    clear l0_ x0_ y0_
    have HS_w4 := hb.size
    have O0 := Lib.hid (O0.out.later hb (by omega))
    have O1 := Lib.hid (O1.out.later hb (by omega))
    have BX_w0 := Lib.hid (BX_w0.out.below hb)
    have HB := Lib.hid (HB.out.trans (hb.mono (by first | omega | exact Nat.le_refl _)))
    clear hb
    refine (eqFlt_same b3 b1 _ c3 c1 _ _ _ (Ints.of_own O1.out.1) (Ints.of_own O0.out.1)).mono ?_
    rintro r w5 ⟨rfl, hb⟩
    have HS_w5 := hb.size
    have O0 := Lib.hid (O0.out.later hb (by omega))
    have O1 := Lib.hid (O1.out.later hb (by omega))
    have BX_w0 := Lib.hid (BX_w0.out.below hb)
    have BX_g0 := Lib.hid (BX_g0.out.below hb)
    have HB := Lib.hid (HB.out.trans (hb.mono (by first | omega | exact Nat.le_refl _)))
    clear hb
    have c_ := BX_w0.out
    obtain ⟨l0_, x0_, y0_⟩ := c_
    have c_ := BX_g0.out
    obtain ⟨l1_, x1_, y1_⟩ := c_
    go_wp2_with fail
    clear l0_ x0_ y0_
    clear l1_ x1_ y1_
    refine (markFlt_any _ _ b3 _ c3 _ _ _ _ rfl O1.out (by omega) (by omega) (by omega)).mono ?_
    rintro r w6 ⟨rfl, o2, ho⟩
    have HS_w6 := ho.size
    have HB := Lib.hid (TurnF.below HB.out ho (by omega) (by omega))
    have O0 := Lib.hid (O0.out.stay (SameIn.of_turnF ho (by omega) (by omega)))
    have BX_w0 := Lib.hid (BX_w0.out.turn ho (by omega))
    have BX_g0 := Lib.hid (BX_g0.out.turn ho (by omega))
    have O1 := Lib.hid o2
    clear o2 ho
    have c_ := BX_w0.out
    obtain ⟨l0_, x0_, y0_⟩ := c_
    have c_ := BX_g0.out
    obtain ⟨l1_, x1_, y1_⟩ := c_
    go_wp2_with fail
    clear l0_ x0_ y0_
    clear l1_ x1_ y1_
    refine (heldFlt_marks b3 _ c3 _ _ _ (O1.out.intsAt (marks_length _ _)) (by omega) (by omega) (by omega)).mono ?_
    rintro r w7 ⟨rfl, hb⟩
    have HS_w7 := hb.size
    have O0 := Lib.hid (O0.out.later hb (by omega))
    have O1 := Lib.hid (O1.out.later hb (by omega))
    have BX_w0 := Lib.hid (BX_w0.out.below hb)
    have BX_g0 := Lib.hid (BX_g0.out.below hb)
    have HB := Lib.hid (HB.out.trans (hb.mono (by first | omega | exact Nat.le_refl _)))
    clear hb
    have c_ := BX_w0.out
    obtain ⟨l0_, x0_, y0_⟩ := c_
    have c_ := BX_g0.out
    obtain ⟨l1_, x1_, y1_⟩ := c_
    go_wp2_with fail
    clear l0_ x0_ y0_
    clear l1_ x1_ y1_
    refine (iParseFloat a0 _ gs0 (Door.below HT.out HB.out)).mono ?_
    rintro r w8 ⟨b8, c8, rfl, o, hb, ln8⟩
    have HS_w8 := hb.size
    have O0 := Lib.hid (O0.out.later hb (by omega))
    have O1 := Lib.hid (O1.out.later hb (by omega))
    have BX_w0 := Lib.hid (BX_w0.out.below hb)
    have BX_g0 := Lib.hid (BX_g0.out.below hb)
    have HB := Lib.hid (HB.out.trans (hb.mono (by first | omega | exact Nat.le_refl _)))
    clear hb
    have O2 := Lib.hid (OwnI.of o)
    clear o
    have c_ := BX_w0.out
    obtain ⟨l0_, x0_, y0_⟩ := c_
    have c_ := BX_g0.out
    obtain ⟨l1_, x1_, y1_⟩ := c_
    go_wp2_with fail
    generalize hW : World.alloc w8 _ = w9
    obtain ⟨bx, hb⟩ := box_of hW
    have hp_w9 := bx.1
    have BX_h0 := Lib.hid bx
    clear hW bx
    clear l0_ x0_ y0_
    clear l1_ x1_ y1_
    have HS_w9 := hb.size
    have O0 := Lib.hid (O0.out.later hb (by omega))
    have O1 := Lib.hid (O1.out.later hb (by omega))
    have O2 := Lib.hid (O2.out.later hb (by omega))
    have BX_w0 := Lib.hid (BX_w0.out.below hb)
    have BX_g0 := Lib.hid (BX_g0.out.below hb)
    have HB := Lib.hid (HB.out.trans (hb.mono (by first | omega | exact Nat.le_refl _)))
    clear hb
    refine (eqFlt_same b8 b1 _ c8 c1 _ _ _ (Ints.of_own O2.out.1) (Ints.of_own O0.out.1)).mono ?_
    rintro r w10 ⟨rfl, hb⟩
    have HS_w10 := hb.size
    have O0 := Lib.hid (O0.out.later hb (by omega))
    have O1 := Lib.hid (O1.out.later hb (by omega))
    have O2 := Lib.hid (O2.out.later hb (by omega))
    have BX_w0 := Lib.hid (BX_w0.out.below hb)
    have BX_g0 := Lib.hid (BX_g0.out.below hb)
    have BX_h0 := Lib.hid (BX_h0.out.below hb)
    have HB := Lib.hid (HB.out.trans (hb.mono (by first | omega | exact Nat.le_refl _)))
    clear hb
    have c_ := BX_w0.out
    obtain ⟨l0_, x0_, y0_⟩ := c_
    have c_ := BX_g0.out
    obtain ⟨l1_, x1_, y1_⟩ := c_
    have c_ := BX_h0.out
    obtain ⟨l2_, x2_, y2_⟩ := c_
    go_wp2_with fail
    clear l0_ x0_ y0_
    clear l1_ x1_ y1_
    clear l2_ x2_ y2_
    refine (heldFlt_marks b3 _ c3 _ _ _ (O1.out.intsAt (marks_length _ _)) (by omega) (by omega) (by omega)).mono ?_
    rintro r w11 ⟨rfl, hb⟩
    have HS_w11 := hb.size
    have O0 := Lib.hid (O0.out.later hb (by omega))
    have O1 := Lib.hid (O1.out.later hb (by omega))
    have O2 := Lib.hid (O2.out.later hb (by omega))
    have BX_w0 := Lib.hid (BX_w0.out.below hb)
    have BX_g0 := Lib.hid (BX_g0.out.below hb)
    have BX_h0 := Lib.hid (BX_h0.out.below hb)
    have HB := Lib.hid (HB.out.trans (hb.mono (by first | omega | exact Nat.le_refl _)))
    clear hb
    have c_ := BX_w0.out
    obtain ⟨l0_, x0_, y0_⟩ := c_
    have c_ := BX_g0.out
    obtain ⟨l1_, x1_, y1_⟩ := c_
    have c_ := BX_h0.out
    obtain ⟨l2_, x2_, y2_⟩ := c_
    go_wp2
    go_ret
    exact ⟨rfl, HB.out⟩
  · go_enter Tryd.func4, Tryd.ntmps4
    go_wp2
    go_ret
    exact ⟨rfl, Below.refl _ _⟩
end Go.Proofs.YtkphbnejnilehaaDoor

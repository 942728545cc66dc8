/- Walks of exact laws. -/
import Derived.Test.YteklgngooflhlaaBI2
import Derived.Test.YteklgngooflhlaaBS2
import Derived.Test.YteklgngooflhlaaRowL
import Derived.Test.YteklgngooflhlaaOwn2
import Derived.Test.YteklgngooflhlaaLaw3
namespace Go.Proofs.Yteklgngooflhlaa
set_option maxRecDepth 20000
open Go.RowKit

set_option maxRecDepth 20000 in
set_option maxHeartbeats 4000000 in
theorem wFnExactCoinWords (a0 : Int) (a1 : Int) (w : World) (_w0 : (Lit.int .i64 a0).wf = true) (_w1 : (Lit.int .i64 a1).wf = true) : Calls Try.prog 10 #[.int .i64 a0, .int .i64 a1] w fun e w' => e = .returned (.bool true) ∧ Below w.heap.size w w' := by
  go_enter Try.func10, Try.ntmps10
  go_wp2_with (go_at_call 47; refine (sCoinWords a0 a1 _ ).mono ?_; rintro e w1 ⟨v0, rfl, o, hb⟩; obtain ⟨b0, c0, rfl, -⟩ := o.rows; refine Hid.out ?_)
  refine Lib.hid ?_
  -- spec.CoinWords ['aCoins', 'aK'] ['w0', 'w1']
  have HS0 := hb.size
  have HB := Lib.hid (((Below.refl w.heap.size w)).trans (hb.mono (by first | omega | exact Nat.le_refl _)))
  clear hb
  have O0 := Lib.hid (o)
  clear o
  go_wp2_with (go_at_call 25; refine (iCoinWords a0 a1 _ ).mono ?_; rintro e w2 ⟨v1, rfl, o, hb⟩; obtain ⟨b1, c1, rfl, -⟩ := o.rows; refine Hid.out ?_)
  refine Lib.hid ?_
  -- impl.CoinWords ['aCoins', 'aK'] ['g0', 'g1']
  have HS1 := hb.size
  have O0 := Lib.hid (O0.out.stay (SameIn.of_below hb (by omega)))
  have HB := Lib.hid ((HB.out).trans (hb.mono (by first | omega | exact Nat.le_refl _)))
  clear hb
  have O1 := Lib.hid (o)
  clear o
  go_wp2_with (go_at_call 48; refine (eqIntSS_same b1 b0 _ c1 c0 _ _ (O1.out.rowsAt rfl) (O0.out.rowsAt rfl)).mono ?_; rintro e w3 ⟨rfl, hb⟩; refine Hid.out ?_)
  refine Lib.hid ?_
  -- eqIntSS g0 w0
  have HS2 := hb.size
  have O0 := Lib.hid (O0.out.stay (SameIn.of_below hb (by omega)))
  have O1 := Lib.hid (O1.out.stay (SameIn.of_below hb (by omega)))
  have HB := Lib.hid ((HB.out).trans (hb.mono (by first | omega | exact Nat.le_refl _)))
  clear hb
  go_wp2_with (go_at_call 49; refine (markIntSS_any _ _ b1 _ c1 _ _ _ rfl O1.out (coin_small a0 a1) (by omega) (by omega)).mono ?_; rintro e w4 ⟨rfl, o2, ho⟩; refine Hid.out ?_)
  refine Lib.hid ?_
  -- markIntSS g0
  have HS3 := ho.size
  have HB := Lib.hid (Only.below HB.out ho (by omega) (by omega))
  have O0 := Lib.hid (O0.out.stay (SameIn.of_only ho (by omega) (by omega)))
  have O1 := Lib.hid o2
  clear o2 ho
  go_wp2_with (go_at_call 50; refine (heldIntSS_marks b1 _ c1 _ _ _ (O1.out.rowsAt (by rw [mkL_length])) (coin_small a0 a1) (by omega) (by omega)).mono ?_; rintro e w5 ⟨rfl, rfl⟩; refine Hid.out ?_)
  refine Lib.hid ?_
  -- heldIntSS g0
  go_wp2_with (go_at_call 25; refine (iCoinWords a0 a1 _ ).mono ?_; rintro e w5 ⟨v4, rfl, o, hb⟩; obtain ⟨b4, c4, rfl, -⟩ := o.rows; refine Hid.out ?_)
  refine Lib.hid ?_
  -- impl.CoinWords ['aCoins', 'aK'] ['h0', 'h1']
  have HS4 := hb.size
  have O0 := Lib.hid (O0.out.stay (SameIn.of_below hb (by omega)))
  have O1 := Lib.hid (O1.out.stay (SameIn.of_below hb (by omega)))
  have HB := Lib.hid ((HB.out).trans (hb.mono (by first | omega | exact Nat.le_refl _)))
  clear hb
  have O2 := Lib.hid (o)
  clear o
  go_wp2_with (go_at_call 48; refine (eqIntSS_same b4 b0 _ c4 c0 _ _ (O2.out.rowsAt rfl) (O0.out.rowsAt rfl)).mono ?_; rintro e w6 ⟨rfl, hb⟩; refine Hid.out ?_)
  refine Lib.hid ?_
  -- eqIntSS h0 w0
  have HS5 := hb.size
  have O0 := Lib.hid (O0.out.stay (SameIn.of_below hb (by omega)))
  have O1 := Lib.hid (O1.out.stay (SameIn.of_below hb (by omega)))
  have O2 := Lib.hid (O2.out.stay (SameIn.of_below hb (by omega)))
  have HB := Lib.hid ((HB.out).trans (hb.mono (by first | omega | exact Nat.le_refl _)))
  clear hb
  go_wp2_with (go_at_call 50; refine (heldIntSS_marks b1 _ c1 _ _ _ (O1.out.rowsAt (by rw [mkL_length])) (coin_small a0 a1) (by omega) (by omega)).mono ?_; rintro e w7 ⟨rfl, rfl⟩; refine Hid.out ?_)
  refine Lib.hid ?_
  -- heldIntSS g0
  go_wp2
  go_ret
  exact ⟨rfl, HB.out⟩
end Go.Proofs.Yteklgngooflhlaa

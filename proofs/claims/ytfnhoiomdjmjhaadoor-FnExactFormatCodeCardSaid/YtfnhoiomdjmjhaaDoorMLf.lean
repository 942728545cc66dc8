/- Walks of exact laws over structs. -/
import Derived.Test.YtfnhoiomdjmjhaaDoorFcS
import Derived.Test.YtfnhoiomdjmjhaaDoorFcJ
import Derived.Test.YtfnhoiomdjmjhaaDoorMOps
import Derived.Test.YtfnhoiomdjmjhaaDoorMTab
namespace Go.Proofs.YtfnhoiomdjmjhaaDoor
set_option maxRecDepth 20000
open Go.RowKit

set_option maxRecDepth 20000 in
set_option maxHeartbeats 4000000 in
theorem wFnExactFormatCode (a0 : Option Addr) (len0 cap0 : Nat) (L0 : List (Nat → Int)) (w : World) (w0 : OpR w a0 len0 cap0 L0) (hT : OpsTab w) (htab : Lib.TabIs Tryd.prog w "internal/strconv.uint64pow10" .u64 Lib.pow10Tab) : Calls Tryd.prog 4 #[.slice a0 len0 cap0] w fun e w' => e = .returned (.bool true) ∧ Below w.heap.size w w' := by
  have HT := Lib.hid hT
  clear hT
  have HN_ := Lib.hid htab
  clear htab
  have mm0 : len0 ≤ 9223372036854775807 := by have h2 := w0.2.1; have h3 := w0.2.2.1; unfold maxLen at h3; omega
  obtain rfl : L0.length = len0 := w0.1
  have Q0 := Lib.hid w0
  clear w0
  by_cases g0 : ((1048576 : Int) - (L0.length : Int)) < 0
  · skip
    go_enter Tryd.func4, Tryd.ntmps4
    have HB := Lib.hid (Below.refl w.heap.size w)
    go_wp2_with fail
    refine (szOps a0 _ cap0 _ _ mm0 (by omega) (by omega)).mono ?_
    rw [if_pos (by omega)]
    rintro r w1 ⟨rfl, rfl⟩
    go_wp2
    go_ret
    exact ⟨rfl, HB.out⟩
  · skip
    go_enter Tryd.func4, Tryd.ntmps4
    have HB := Lib.hid (Below.refl w.heap.size w)
    go_wp2_with fail
    refine (szOps a0 _ cap0 _ _ mm0 (by omega) (by omega)).mono ?_
    rw [if_neg (by omega)]
    rintro r w1 ⟨rfl, rfl⟩
    go_wp2_with fail
    refine (toOps_any a0 L0.length cap0 L0 _ (Q0.out.below HB.out) (by omega)).mono ?_
    rintro r w1 ⟨ra1, rc1, rfl, o, hb⟩
    have HS_w1 := hb.size
    have HB := Lib.hid (HB.out.trans (hb.mono (by first | omega | exact Nat.le_refl _)))
    clear hb
    have O0 := Lib.hid (OwnO.of o)
    clear o
    go_wp2_with fail
    refine (sFormatCode ra1 L0.length rc1 L0 _ (O0.out.os rfl)).mono ?_
    rintro r w2 ⟨rfl, hb⟩
    have HS_w2 := hb.size
    have O0 := Lib.hid (O0.out.later hb (by omega))
    have HB := Lib.hid (HB.out.trans (hb.mono (by first | omega | exact Nat.le_refl _)))
    clear hb
    go_wp2_with fail
    refine (toOps_any a0 L0.length cap0 L0 _ (Q0.out.below HB.out) (by omega)).mono ?_
    rintro r w3 ⟨ra3, rc3, rfl, o, hb⟩
    have HS_w3 := hb.size
    have HB := Lib.hid (HB.out.trans (hb.mono (by first | omega | exact Nat.le_refl _)))
    clear hb
    have O1 := Lib.hid (OwnO.of o)
    clear o
    go_wp2_with fail
    refine (iFormatCode ra3 L0.length rc3 L0 _ (O1.out.os rfl) (HT.out.below HB.out) (tab_belowN HN_.out HB.out)).mono ?_
    rintro r w4 ⟨rfl, hb⟩
    have HS_w4 := hb.size
    have O1 := Lib.hid (O1.out.later hb (by omega))
    have HB := Lib.hid (HB.out.trans (hb.mono (by first | omega | exact Nat.le_refl _)))
    clear hb
    go_wp2_with fail
    refine (toOps_any a0 L0.length cap0 L0 _ (Q0.out.below HB.out) (by omega)).mono ?_
    rintro r w5 ⟨ra5, rc5, rfl, o, hb⟩
    have HS_w5 := hb.size
    have O1 := Lib.hid (O1.out.later hb (by omega))
    have HB := Lib.hid (HB.out.trans (hb.mono (by first | omega | exact Nat.le_refl _)))
    clear hb
    have O2 := Lib.hid (OwnO.of o)
    clear o
    go_wp2_with fail
    refine (eqOps_same ra3 ra5 _ rc3 rc5 _ _ (O1.out.os rfl) (O2.out.os rfl)).mono ?_
    rintro r w6 ⟨rfl, hb⟩
    have HS_w6 := hb.size
    have O1 := Lib.hid (O1.out.later hb (by omega))
    have O2 := Lib.hid (O2.out.later hb (by omega))
    have HB := Lib.hid (HB.out.trans (hb.mono (by first | omega | exact Nat.le_refl _)))
    clear hb
    go_wp2
    go_ret
    exact ⟨rfl, HB.out⟩
end Go.Proofs.YtfnhoiomdjmjhaaDoor

/- Contracts of the functions of tables, on: the texts of tables. -/
import Derived.Test.YtgaenbpbfhpioaaTab2
import Derived.Test.YtgaenbpbfhpioaaRd
import Derived.Laws.IdiomStrings
import Derived.OwnWalk
namespace Go.Proofs.Ytgaenbpbfhpioaa
open Go.RowKit
namespace Tm
def fmtL (f : Nat → Int) : List UInt8 := [sg (f 0), sg (f 1), sg (f 2), sg (f 3), sg (f 4), sg (f 5), sg (f 6), sg (f 7), sg (f 8)]
def fmt (f : Nat → Int) : List UInt8 := if isTab f then fmtL f else []
end Tm
theorem sByte (a : Int) (w : World) (ha : Tm.isT a = true) : Calls Try.prog 94 #[.int .i64 a] w fun e w' => e = .returned (.string ⟨[Tm.sg a].toArray⟩) ∧ Below w.heap.size w w' := by
  rcases Tm.isT_cases ha with rfl | rfl | rfl
  all_goals
    clear ha
    go_enter Try.func94, Try.ntmps94
    go_wp2
    go_ret
    exact ⟨rfl, by (repeat' (first | (with_reducible exact Below.refl _ _) | (with_reducible assumption) | (with_reducible refine below_drewN ?_ _) | (with_reducible refine Below.drew ?_) | (with_reducible refine Below.alloc ?_ ?_ _) | (with_reducible refine Below.setCell ?_ ?_ _) | (with_reducible refine below_gw ?_ ?_ _) | (with_reducible refine below_via ?_ ‹Below _ _ _› ?_) | (with_reducible exact Nat.le_refl _) | (with_reducible refine le_gw ?_ _) | (with_reducible refine le_alloc ?_ _) | (with_reducible refine le_setCell ?_ _ _) | (with_reducible refine le_drew ?_) | (with_reducible refine le_drewN ?_ _) | go_size))⟩
theorem idxTab (f : Nat → Int) (k : Nat) (h : k < 9) (w : World) : (Instr.index 33 (tabV f) (.int .i64 (k : Int))).run Try.prog w = .ok (.int .i64 (f k)) w := by
  match k, h with
  | 0, _ => exact idx9_0 _ _ _ _ _ _ _ _ _ _
  | 1, _ => exact idx9_1 _ _ _ _ _ _ _ _ _ _
  | 2, _ => exact idx9_2 _ _ _ _ _ _ _ _ _ _
  | 3, _ => exact idx9_3 _ _ _ _ _ _ _ _ _ _
  | 4, _ => exact idx9_4 _ _ _ _ _ _ _ _ _ _
  | 5, _ => exact idx9_5 _ _ _ _ _ _ _ _ _ _
  | 6, _ => exact idx9_6 _ _ _ _ _ _ _ _ _ _
  | 7, _ => exact idx9_7 _ _ _ _ _ _ _ _ _ _
  | 8, _ => exact idx9_8 _ _ _ _ _ _ _ _ _ _
def fmtV (f : Nat → Int) (k : Nat) : List Value := ((Tm.fmtL f).take k).map (fun b => Value.int .u8 (b.toNat : Int))
theorem fmtV_take (f : Nat → Int) (k : Nat) (h : k < 9) : fmtV f k ++ [Value.int .u8 ((Tm.sg (f k)).toNat : Int)] = fmtV f (k + 1) := by
  match k, h with
  | 0, _ | 1, _ | 2, _ | 3, _ | 4, _ | 5, _ | 6, _ | 7, _ | 8, _ => rfl
theorem fmtV_get (f : Nat → Int) (j : Nat) (hj : j < (Tm.fmtL f).length) : (fmtV f 9)[j]? = some (.int .u8 (((Tm.fmtL f)[j]).toNat : Int)) := by
  have : (Tm.fmtL f).take 9 = Tm.fmtL f := rfl
  rw [fmtV, this, List.getElem?_map, List.getElem?_eq_getElem hj]; rfl
set_option maxHeartbeats 1000000 in
theorem iFormatTable (f : Nat → Int) (w : World) : Calls Try.prog 29 #[tabV f] w fun e w' => e = .returned (.string ⟨(Tm.fmt f).toArray⟩) ∧ Below w.heap.size w w' := by
  obtain ⟨i0, hi, hz0, hz1, hz2⟩ := info_parts infoByte
  by_cases hT : Tm.isTab f = true
  · have t0 := Tm.isTab_at hT
    have T0 := Lib.hid t0
    clear t0
    go_enter Try.func29, Try.ntmps29
    go_wp2_with ((go_at_call 77; refine (iIsTable f _).mono ?_; rintro e w1 ⟨rfl, hb⟩; obtain ⟨p, rfl⟩ := gw_of_below hb; clear hb))
    go_loopw [3, 10] (fun v i wr => ∃ k : Nat, k ≤ 9 ∧ i = .int .i64 k ∧ wr.ownsRow w.heap.size 5 1 v k (fmtV f k) ∧ Below w.heap.size w wr)
      (fun _ i _ => 9 - (intOf i).toNat)
    case atStart => exact ⟨0, by omega, rfl, World.ownsRow_nil _ _ _ _, by (repeat' (first | (with_reducible exact Below.refl _ _) | (with_reducible assumption) | (with_reducible refine below_drewN ?_ _) | (with_reducible refine Below.drew ?_) | (with_reducible refine Below.alloc ?_ ?_ _) | (with_reducible refine Below.setCell ?_ ?_ _) | (with_reducible refine below_gw ?_ ?_ _) | (with_reducible refine below_via ?_ ‹Below _ _ _› ?_) | (with_reducible exact Nat.le_refl _) | (with_reducible refine le_gw ?_ _) | (with_reducible refine le_alloc ?_ _) | (with_reducible refine le_setCell ?_ _ _) | (with_reducible refine le_drew ?_) | (with_reducible refine le_drewN ?_ _) | go_size))⟩
    case round =>
      obtain ⟨k, hk, rfl, hown, hnx⟩ := hrel
      by_cases hlt : k < 9
      · have hs := hnx.size
        have q1 := idxTab f k hlt
        have q2 := idxSign (f k) (T0.out k hlt)
        have tt := (Tm.isT_iff _).1 (T0.out k hlt)
        obtain ⟨tt1, tt2⟩ := tt
        go_wp2_with (at_builtin; refine wpList_append_own _ rfl _ _ 22 rfl w.heap.size 5 i0 (.int .u8 0) 1 1 Try.underlying22 hi hz0 hz1 hz2 rfl (by decide) _ _ _ rfl (hown.alloc _) ⟨wr.heap.size, 0, none⟩ 1 1 [Value.int .u8 ((Tm.sg (f k)).toNat : Int)] rfl rfl ?c1 ?c2 ?c3 ?c4 ?c5 ?_)
        case c1 =>
          intro j u hj
          match j, hj with
          | 0, hj => simp at hj; subst hj; simp [Addr.add]
        case c2 => intro u hu; simp at hu; subst hu; rfl
        case c3 => unfold maxLen; omega
        case c4 => omega
        case c5 => have := hnx.size; simp; omega
        intro v' w1 hown' hgrow _
        have hnx1 : Below w.heap.size w w1 := (hnx.alloc hs _).grown hgrow (by simp; omega) (fun k hk => (hown.lt k hk).1)
        rw [fmtV_take f k hlt] at hown'
        go_wp2
        go_roundw
        case rel => exact ⟨k + 1, by omega, by go_num, hown', hnx1⟩
        case measure => simp [intOf]; omega
      · obtain rfl : k = 9 := by omega
        clear hlt hk
        rcases hown.2 with ⟨-, h0⟩ | ⟨g, cap, cur, rfl, -, -, -, -, -, -⟩
        · omega
        · have hcv : (convert 22 9 (.slice (some ⟨g, 0, none⟩) 9 cap)).run Try.prog wr = .ok (.string ⟨(Tm.fmtL f).toArray⟩) wr := run_convert_bytes_back (P := Try.prog) wr 22 9 5 ⟨g, 0, none⟩ cap (Tm.fmtL f) Try.underlying22 Try.underlying5 Try.underlying9 (fun j hj => hown.cells (g := g) rfl j _ (fmtV_get f j hj))
          go_wp2
          go_ret
          exact ⟨ret_str (by rw [Tm.fmt, if_pos hT]), hnx⟩
  · simp only [Bool.not_eq_true] at hT
    go_enter Try.func29, Try.ntmps29
    go_wp2_with ((go_at_call 77; refine (iIsTable f _).mono ?_; rintro e w1 ⟨rfl, hb⟩; obtain ⟨p, rfl⟩ := gw_of_below hb; clear hb))
    go_ret
    exact ⟨by rw [Tm.fmt, hT]; rfl, by (repeat' (first | (with_reducible exact Below.refl _ _) | (with_reducible assumption) | (with_reducible refine below_drewN ?_ _) | (with_reducible refine Below.drew ?_) | (with_reducible refine Below.alloc ?_ ?_ _) | (with_reducible refine Below.setCell ?_ ?_ _) | (with_reducible refine below_gw ?_ ?_ _) | (with_reducible refine below_via ?_ ‹Below _ _ _› ?_) | (with_reducible exact Nat.le_refl _) | (with_reducible refine le_gw ?_ _) | (with_reducible refine le_alloc ?_ _) | (with_reducible refine le_setCell ?_ _ _) | (with_reducible refine le_drew ?_) | (with_reducible refine le_drewN ?_ _) | go_size))⟩
end Go.Proofs.Ytgaenbpbfhpioaa

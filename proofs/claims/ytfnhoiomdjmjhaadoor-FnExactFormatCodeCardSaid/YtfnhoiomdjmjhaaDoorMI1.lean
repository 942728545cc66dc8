/- The program's machine: its table of operations, names, ranges, operations and programs that are valid. The program's machine: operations, programs and machines that are valid. -/
import Derived.Test.YtfnhoiomdjmjhaaDoorMRow
import Derived.Test.YtfnhoiomdjmjhaaDoorGI0
import Derived.Test.YtfnhoiomdjmjhaaDoorMMath
import Derived.Test.YtfnhoiomdjmjhaaDoorWI
import Derived.Test.YtfnhoiomdjmjhaaDoorGBox
namespace Go.Proofs.YtfnhoiomdjmjhaaDoor
set_option maxRecDepth 20000
open Go.RowKit
namespace Tm
def popsN (c : Int) : Int := if c = 2 ∨ c = 3 ∨ c = 4 ∨ c = 8 ∨ c = 12 then 2 else if c = 1 ∨ c = 13 ∨ c = 15 then 0 else 1
def pushN (c : Int) : Int := if c = 7 ∨ c = 8 then 2 else if c = 9 ∨ c = 12 ∨ c = 13 ∨ c = 14 ∨ c = 15 then 0 else 1
theorem namN_le (c : Int) : namN c ≤ 3 := by unfold namN; split <;> (try split) <;> omega
theorem opName_yes {c : Int} (h : 1 ≤ c ∧ c ≤ 15) : ((opName c).toList == ([] : List UInt8)) = false := by
  have : c = 1 ∨ c = 2 ∨ c = 3 ∨ c = 4 ∨ c = 5 ∨ c = 6 ∨ c = 7 ∨ c = 8 ∨ c = 9 ∨ c = 10 ∨ c = 11 ∨ c = 12 ∨ c = 13 ∨ c = 14 ∨ c = 15 := by omega
  rcases this with rfl | rfl | rfl | rfl | rfl | rfl | rfl | rfl | rfl | rfl | rfl | rfl | rfl | rfl | rfl <;> decide +kernel
end Tm
/-- The table of operations lies in memory. -/
def OpsTab (w : World) : Prop := 0 < w.heap.size ∧ ∀ k : Nat, k < 15 → w.cell? ⟨0, k * 4, none⟩ = some (.string (Tm.opName ((k : Int) + 1))) ∧ w.cell? ⟨0, k * 4 + 1, none⟩ = some (.int .i64 (Tm.popsN ((k : Int) + 1))) ∧ w.cell? ⟨0, k * 4 + 2, none⟩ = some (.int .i64 (Tm.pushN ((k : Int) + 1))) ∧ w.cell? ⟨0, k * 4 + 3, none⟩ = some (.int .i64 (Tm.namN ((k : Int) + 1)))
theorem OpsTab.below {w w' : World} (h : OpsTab w) (hb : Below w.heap.size w w') : OpsTab w' :=
  ⟨Nat.lt_of_lt_of_le h.1 hb.size, fun k hk => by
    obtain ⟨h0, h1, h2, h3⟩ := h.2 k hk
    exact ⟨by rw [hb.cell (p := ⟨0, k * 4, none⟩) h.1]; exact h0, by rw [hb.cell (p := ⟨0, k * 4 + 1, none⟩) h.1]; exact h1, by rw [hb.cell (p := ⟨0, k * 4 + 2, none⟩) h.1]; exact h2, by rw [hb.cell (p := ⟨0, k * 4 + 3, none⟩) h.1]; exact h3⟩⟩
theorem iOpName (c : Int) (w : World) (hT : OpsTab w) : Calls Tryd.prog 51 #[.int .i64 c] w fun e w' => e = .returned (.string (Tm.opName c)) ∧ w = w' := by
  by_cases h : 1 ≤ c ∧ c ≤ 15
  · obtain ⟨k, rfl⟩ : ∃ k : Nat, c = (k : Int) + 1 := ⟨(c - 1).toNat, by omega⟩
    obtain ⟨t0, t1, t2, t3⟩ := hT.2 k (by omega)
    have e1 : IntKind.i64.wrap ((k : Int) + 1 - 1) = (k : Int) := by rw [IntWalk.i64_in _ (by omega)]; omega
    obtain ⟨h1, h2⟩ := h
    have g0 := hT.1
    clear hT t1 t2 t3
    go_enter Tryd.func51, Tryd.ntmps51
    go_wp2
    go_ret
    exact ⟨rfl, rfl⟩
  · rw [Tm.opName_no h]
    clear hT
    rcases Int.lt_or_le c 1 with c1 | c1
    · go_enter Tryd.func51, Tryd.ntmps51
      go_wp2
      go_ret
      exact ⟨rfl, rfl⟩
    · have c2 : 15 < c := by omega
      clear h
      go_enter Tryd.func51, Tryd.ntmps51
      go_wp2
      go_ret
      exact ⟨rfl, rfl⟩
namespace Tm
def rngL (c : Int) : Int := if c = 1 then -9841 else if c = 10 then -9 else 0
def rngH (c n : Int) : Int := if c = 1 then 9841 else if c = 10 then 9 else n
def nums (g : Nat → Int) : List Int := [g 1, g 2, g 3]
theorem inB_zero (x : Int) : inB x 0 0 = decide (x = 0) := by
  rw [Bool.eq_iff_iff, inB_iff, decide_eq_true_eq]; omega
theorem opOk_outs (n : Int) (g : Nat → Int) (h : 1 ≤ g 0 ∧ g 0 ≤ 15) : opOk n g = (!outs (rngL (g 0)) (rngH (g 0) n) ((nums g).take (namN (g 0))) && !outs 0 0 ((nums g).drop (namN (g 0)))) := by
  obtain ⟨c, hc⟩ : ∃ c, c = g 0 := ⟨_, rfl⟩
  unfold opOk nums
  rw [← hc] at h ⊢
  by_cases c1 : c = 1
  · subst c1; simp [rngL, rngH, namN, outs, inB_zero]
  · by_cases c10 : c = 10
    · subst c10; simp [rngL, rngH, namN, outs, inB_zero]
    · by_cases c13 : c = 13
      · subst c13; simp [rngL, rngH, namN, outs, inB_zero]
      · by_cases c14 : c = 14
        · subst c14; simp [rngL, rngH, namN, outs]
        · have e : inB c 1 15 = true := (inB_iff _ _ _).2 h
          simp [c1, c10, c13, c14, namN, outs, inB_zero, e]
theorem opOk_none (n : Int) (g : Nat → Int) (h : ¬ (1 ≤ g 0 ∧ g 0 ≤ 15)) : opOk n g = false := by
  cases e : opOk n g with
  | false => rfl
  | true => have := (opOk_iff n g).1 e; omega
end Tm
/-- A span. -/
abbrev spanV (lo hi : Int) : Value := .agg #[.int .i64 lo, .int .i64 hi]
theorem iNumbersOf (g : Nat → Int) (w : World) : Calls Tryd.prog 52 #[opV g] w fun e w' => e = .returned (.agg #[.int .i64 (g 1), .int .i64 (g 2), .int .i64 (g 3)]) ∧ Below w.heap.size w w' := by
  go_enter Tryd.func52, Tryd.ntmps52
  go_wp2
  go_returns
  exact ⟨rfl, by (repeat' (first | (with_reducible exact Below.refl _ _) | (with_reducible assumption) | (with_reducible refine below_drewN ?_ _) | (with_reducible refine Below.drew ?_) | (with_reducible refine Below.alloc ?_ ?_ _) | (with_reducible refine Below.setCell ?_ ?_ _) | (with_reducible refine below_gw ?_ ?_ _) | (with_reducible refine below_via ?_ ‹Below _ _ _› ?_) | (with_reducible exact Nat.le_refl _) | (with_reducible refine le_gw ?_ _) | (with_reducible refine le_alloc ?_ _) | (with_reducible refine le_setCell ?_ _ _) | (with_reducible refine le_drew ?_) | (with_reducible refine le_drewN ?_ _) | go_size))⟩
theorem iAround (n : Int) (w : World) (h0 : 0 ≤ n) (h1 : n ≤ 1000000) : Calls Tryd.prog 58 #[.int .i64 n] w fun e w' => e = .returned (spanV (-n) n) ∧ Below w.heap.size w w' := by
  go_enter Tryd.func58, Tryd.ntmps58
  go_wp2
  go_returns
  exact ⟨rfl, by (repeat' (first | (with_reducible exact Below.refl _ _) | (with_reducible assumption) | (with_reducible refine below_drewN ?_ _) | (with_reducible refine Below.drew ?_) | (with_reducible refine Below.alloc ?_ ?_ _) | (with_reducible refine Below.setCell ?_ ?_ _) | (with_reducible refine below_gw ?_ ?_ _) | (with_reducible refine below_via ?_ ‹Below _ _ _› ?_) | (with_reducible exact Nat.le_refl _) | (with_reducible refine le_gw ?_ _) | (with_reducible refine le_alloc ?_ _) | (with_reducible refine le_setCell ?_ _ _) | (with_reducible refine le_drew ?_) | (with_reducible refine le_drewN ?_ _) | go_size))⟩
theorem iCellNumbers (w : World) : Calls Tryd.prog 41 #[] w fun e w' => e = .returned (spanV (-9841) 9841) ∧ Below w.heap.size w w' := by
  have L : Hid (∀ w : World, Calls Tryd.prog 59 #[.int .i64 9] w fun e w' => e = .returned (.int .i64 9841) ∧ w = w') := Lib.hid fun w => by
    have h := iLimitOf 9 w
    rw [show Tm.lim 9 = 9841 from by decide] at h
    exact h
  go_enter Tryd.func41, Tryd.ntmps41
  go_wp2_with fail
  refine (L.out _).mono ?_
  rintro e w' ⟨rfl, rfl⟩
  go_wp2_with (go_at_call 58; refine (iAround 9841 _ (by omega) (by omega)).mono ?_; rintro e w1 ⟨rfl, hb⟩; obtain ⟨p, rfl⟩ := gw_of_below hb; clear hb)
  go_returns
  exact ⟨rfl, by (repeat' (first | (with_reducible exact Below.refl _ _) | (with_reducible assumption) | (with_reducible refine below_drewN ?_ _) | (with_reducible refine Below.drew ?_) | (with_reducible refine Below.alloc ?_ ?_ _) | (with_reducible refine Below.setCell ?_ ?_ _) | (with_reducible refine below_gw ?_ ?_ _) | (with_reducible refine below_via ?_ ‹Below _ _ _› ?_) | (with_reducible exact Nat.le_refl _) | (with_reducible refine le_gw ?_ _) | (with_reducible refine le_alloc ?_ _) | (with_reducible refine le_setCell ?_ _ _) | (with_reducible refine le_drew ?_) | (with_reducible refine le_drewN ?_ _) | go_size))⟩
theorem iPlacesOf (a : Option Addr) (n cap : Nat) (w : World) : Calls Tryd.prog 39 #[.slice a n cap] w fun e w' => e = .returned (spanV 0 n) ∧ Below w.heap.size w w' := by
  go_enter Tryd.func39, Tryd.ntmps39
  go_wp2
  go_returns
  exact ⟨rfl, by (repeat' (first | (with_reducible exact Below.refl _ _) | (with_reducible assumption) | (with_reducible refine below_drewN ?_ _) | (with_reducible refine Below.drew ?_) | (with_reducible refine Below.alloc ?_ ?_ _) | (with_reducible refine Below.setCell ?_ ?_ _) | (with_reducible refine below_gw ?_ ?_ _) | (with_reducible refine below_via ?_ ‹Below _ _ _› ?_) | (with_reducible exact Nat.le_refl _) | (with_reducible refine le_gw ?_ _) | (with_reducible refine le_alloc ?_ _) | (with_reducible refine le_setCell ?_ _ _) | (with_reducible refine le_drew ?_) | (with_reducible refine le_drewN ?_ _) | go_size))⟩
theorem iRangeOf (c n : Int) (w : World) : Calls Tryd.prog 67 #[.int .i64 c, spanV 0 n] w fun e w' => e = .returned (spanV (Tm.rngL c) (Tm.rngH c n)) ∧ Below w.heap.size w w' := by
  by_cases c1 : c = 1
  · subst c1
    go_enter Tryd.func67, Tryd.ntmps67
    go_wp2_with (go_at_call 41; refine (iCellNumbers _).mono ?_; rintro e w1 ⟨rfl, hb⟩; obtain ⟨p, rfl⟩ := gw_of_below hb; clear hb)
    go_returns
    exact ⟨rfl, by (repeat' (first | (with_reducible exact Below.refl _ _) | (with_reducible assumption) | (with_reducible refine below_drewN ?_ _) | (with_reducible refine Below.drew ?_) | (with_reducible refine Below.alloc ?_ ?_ _) | (with_reducible refine Below.setCell ?_ ?_ _) | (with_reducible refine below_gw ?_ ?_ _) | (with_reducible refine below_via ?_ ‹Below _ _ _› ?_) | (with_reducible exact Nat.le_refl _) | (with_reducible refine le_gw ?_ _) | (with_reducible refine le_alloc ?_ _) | (with_reducible refine le_setCell ?_ _ _) | (with_reducible refine le_drew ?_) | (with_reducible refine le_drewN ?_ _) | go_size))⟩
  · by_cases c10 : c = 10
    · subst c10
      go_enter Tryd.func67, Tryd.ntmps67
      go_wp2_with (go_at_call 58; refine (iAround 9 _ (by omega) (by omega)).mono ?_; rintro e w1 ⟨rfl, hb⟩; obtain ⟨p, rfl⟩ := gw_of_below hb; clear hb)
      go_returns
      exact ⟨rfl, by (repeat' (first | (with_reducible exact Below.refl _ _) | (with_reducible assumption) | (with_reducible refine below_drewN ?_ _) | (with_reducible refine Below.drew ?_) | (with_reducible refine Below.alloc ?_ ?_ _) | (with_reducible refine Below.setCell ?_ ?_ _) | (with_reducible refine below_gw ?_ ?_ _) | (with_reducible refine below_via ?_ ‹Below _ _ _› ?_) | (with_reducible exact Nat.le_refl _) | (with_reducible refine le_gw ?_ _) | (with_reducible refine le_alloc ?_ _) | (with_reducible refine le_setCell ?_ _ _) | (with_reducible refine le_drew ?_) | (with_reducible refine le_drewN ?_ _) | go_size))⟩
    · have e1 : Tm.rngL c = 0 := by unfold Tm.rngL; rw [if_neg c1, if_neg c10]
      have e2 : Tm.rngH c n = n := by unfold Tm.rngH; rw [if_neg c1, if_neg c10]
      rw [e1, e2]
      clear e1 e2
      go_enter Tryd.func67, Tryd.ntmps67
      go_wp2
      go_returns
      exact ⟨rfl, by (repeat' (first | (with_reducible exact Below.refl _ _) | (with_reducible assumption) | (with_reducible refine below_drewN ?_ _) | (with_reducible refine Below.drew ?_) | (with_reducible refine Below.alloc ?_ ?_ _) | (with_reducible refine Below.setCell ?_ ?_ _) | (with_reducible refine below_gw ?_ ?_ _) | (with_reducible refine below_via ?_ ‹Below _ _ _› ?_) | (with_reducible exact Nat.le_refl _) | (with_reducible refine le_gw ?_ _) | (with_reducible refine le_alloc ?_ _) | (with_reducible refine le_setCell ?_ _ _) | (with_reducible refine le_drew ?_) | (with_reducible refine le_drewN ?_ _) | go_size))⟩
theorem ints_nums {W : World} {B : Nat} {g : Nat → Int} (h : Box3 W B (.int .i64 (g 1)) (.int .i64 (g 2)) (.int .i64 (g 3))) {N : Nat} (hN : N ≤ 3) : Ints W (some ⟨B, 0, none⟩) N 3 ((Tm.nums g).take N) ∧ Ints W (some (if 3 = N then ⟨B, 0, none⟩ else ⟨B, N, none⟩)) (3 - N) (3 - N) ((Tm.nums g).drop N) := by
  obtain ⟨h0, h1, h2, h3⟩ := h
  have c : ∀ i, i < 3 → W.cell? ⟨B, i, none⟩ = some (.int .i64 ((Tm.nums g).getD i 0)) := by
    intro i hi
    match i, hi with
    | 0, _ => exact h1
    | 1, _ => exact h2
    | 2, _ => exact h3
  have l3 : (Tm.nums g).length = 3 := rfl
  refine ⟨⟨by rw [List.length_take, l3]; omega, hN, by unfold maxLen; omega, .inr ⟨B, 0, rfl, h0, fun i hi => ?_⟩⟩, ⟨by rw [List.length_drop, l3], Nat.le_refl _, by unfold maxLen; omega, ?_⟩⟩
  · rw [Nat.zero_add, c i (by omega), List.getD_eq_getElem?_getD, List.getD_eq_getElem?_getD, List.getElem?_take, if_pos hi]
  · by_cases e : 3 = N
    · exact .inl (by omega)
    · rw [if_neg e]
      exact .inr ⟨B, N, rfl, h0, fun i hi => by rw [c (N + i) (by omega), List.getD_eq_getElem?_getD, List.getD_eq_getElem?_getD, List.getElem?_drop]⟩
/-- A block of three cells, made behind what a callee has made, or ahead of it. -/
theorem box3_after {A W : World} {p : Regrown} {v0 v1 v2 : Value} {t : TypeId} {B : Nat} (hW : (gw A p).alloc (.cells #[v0, v1, v2] t) = W) (hB : A.heap.size + p.os.size = B) : Box3 W B v0 v1 v2 ∧ Below A.heap.size A W := by
  have h := box3_of hW
  rw [gw_size, hB] at h
  exact ⟨h.1, (below_gw (Below.refl _ _) (Nat.le_refl _) p).trans (h.2.mono (by omega))⟩
theorem box3_ahead {A W : World} {p : Regrown} {v0 v1 v2 : Value} {t : TypeId} {B : Nat} (hW : gw (A.alloc (.cells #[v0, v1, v2] t)) p = W) (hB : A.heap.size = B) : Box3 W B v0 v1 v2 ∧ Below A.heap.size A W := by
  subst hW
  subst hB
  have hs : A.heap.size ≤ (A.alloc (.cells #[v0, v1, v2] t)).heap.size := by simp
  exact ⟨(box3_new A v0 v1 v2 t).below (below_gw (Below.refl _ _) (Nat.le_refl _) p), below_gw ((Below.refl _ _).alloc (Nat.le_refl _) _) hs p⟩
theorem met_below2 {P : Program} {f : FuncId} {args : Array Value} {w : World} {p : Regrown} {v : Value}
    (h : ∀ W, Below w.heap.size w W → Calls P f args W fun e w' => e = .returned v ∧ Below W.heap.size W w') : Calls P f args (Sort.grow (redrawn w p.d) p.os) fun e w'' => e = .returned v ∧ ∃ q : Regrown, w'' = Sort.grow (redrawn w q.d) q.os :=
  Calls.regrown_of (h _ (below_regrown w p.d p.os))
set_option maxHeartbeats 4000000 in
theorem iIsOp (g : Nat → Int) (n : Nat) (w : World) (hT : OpsTab w) : Calls Tryd.prog 50 #[opV g, spanV 0 n] w fun e w' => e = .returned (.bool (Tm.opOk n g)) ∧ Below w.heap.size w w' := by
  by_cases h : 1 ≤ g 0 ∧ g 0 ≤ 15
  · obtain ⟨k, hk⟩ : ∃ k : Nat, g 0 = (k : Int) + 1 := ⟨(g 0 - 1).toNat, by omega⟩
    have HK := Lib.hid hk
    have OK := Lib.hid (Tm.opOk_outs n g h)
    have ON := Lib.hid (fun w h => iOpName ((k : Int) + 1) w h)
    have HT := Lib.hid hT
    have t3 := (hT.2 k (by omega)).2.2.2
    have gl := hT.1
    have k15 : k < 15 := by omega
    have k0 : (0 : Int) ≤ (k : Int) := by omega
    have k1 : (k : Int) < 15 := by omega
    have k2 : 1 ≤ (k : Int) + 1 := by omega
    have k3 : (k : Int) + 1 ≤ 15 := by omega
    have e2 : IntKind.i64.wrap (k : Int) = (k : Int) := IntWalk.i64_in _ (by omega)
    obtain ⟨nm, hnm⟩ : ∃ s, s = Tm.opName ((k : Int) + 1) := ⟨_, rfl⟩
    have hne := Tm.opName_yes (c := (k : Int) + 1) (by omega)
    rw [← hnm] at ON hne
    clear hnm
    obtain ⟨N, hN⟩ : ∃ N, N = Tm.namN ((k : Int) + 1) := ⟨_, rfl⟩
    have N3 : N ≤ 3 := by rw [hN]; exact Tm.namN_le _
    rw [← hN] at t3
    rw [hk, ← hN] at OK
    clear hN hT h
    have e1 : IntKind.i64.wrap ((k : Int) + 1 - 1) = (k : Int) := by rw [IntWalk.i64_in _ (by omega)]; omega
    have NO : Hid (∀ w : World, Calls Tryd.prog 52 #[.agg #[.int .i64 ((k : Int) + 1), .int .i64 (g 1), .int .i64 (g 2), .int .i64 (g 3)]] w fun e w' => e = .returned (.agg #[.int .i64 (g 1), .int .i64 (g 2), .int .i64 (g 3)]) ∧ Below w.heap.size w w') := Lib.hid fun w => by
      have h := iNumbersOf g w
      unfold opV at h
      rw [HK.out] at h
      exact h
    go_enter Tryd.func50, Tryd.ntmps50
    go_wp2_with fail
    refine (ON.out _ (HT.out.below (by (repeat' (first | (with_reducible exact Below.refl _ _) | (with_reducible assumption) | (with_reducible refine below_drewN ?_ _) | (with_reducible refine Below.drew ?_) | (with_reducible refine Below.alloc ?_ ?_ _) | (with_reducible refine Below.setCell ?_ ?_ _) | (with_reducible refine below_gw ?_ ?_ _) | (with_reducible refine below_via ?_ ‹Below _ _ _› ?_) | (with_reducible exact Nat.le_refl _) | (with_reducible refine le_gw ?_ _) | (with_reducible refine le_alloc ?_ _) | (with_reducible refine le_setCell ?_ _ _) | (with_reducible refine le_drew ?_) | (with_reducible refine le_drewN ?_ _) | go_size))))).mono ?_
    rintro e w' ⟨rfl, rfl⟩
    have HS : Hid (∀ W, Below (w.heap.size + 2) ((w.alloc (.cells #[.int .i64 ((k : Int) + 1), .int .i64 (g 1), .int .i64 (g 2), .int .i64 (g 3)] 35)).alloc (.cells #[.int .i64 0, .int .i64 n] 69)) W → W.cell? ⟨w.heap.size, 0, none⟩ = some (.int .i64 ((k : Int) + 1)) ∧ W.cell? ⟨w.heap.size, 1, none⟩ = some (.int .i64 (g 1)) ∧ W.cell? ⟨w.heap.size, 2, none⟩ = some (.int .i64 (g 2)) ∧ W.cell? ⟨w.heap.size, 3, none⟩ = some (.int .i64 (g 3)) ∧ W.cell? ⟨0, k * 4 + 3, none⟩ = some (.int .i64 (N : Int))) := Lib.hid fun W hW => by
      refine ⟨?_, ?_, ?_, ?_, ?_⟩
      · rw [hW.cell (p := ⟨w.heap.size, 0, none⟩) (by simp)]; simp
      · rw [hW.cell (p := ⟨w.heap.size, 1, none⟩) (by simp)]; simp
      · rw [hW.cell (p := ⟨w.heap.size, 2, none⟩) (by simp)]; simp
      · rw [hW.cell (p := ⟨w.heap.size, 3, none⟩) (by simp)]; simp
      · rw [hW.cell (p := ⟨0, k * 4 + 3, none⟩) (show 0 < w.heap.size + 2 by omega), World.cell?_alloc_lt _ _ _ (show 0 < (w.alloc _).heap.size by rw [World.size_alloc]; omega), World.cell?_alloc_lt _ _ _ (show 0 < w.heap.size from gl)]; exact t3
    have hsz : w.heap.size + 2 ≤ ((w.alloc (.cells #[.int .i64 ((k : Int) + 1), .int .i64 (g 1), .int .i64 (g 2), .int .i64 (g 3)] 35)).alloc (.cells #[.int .i64 0, .int .i64 n] 69)).heap.size := by simp
    have hu84 := Tryd.underlying78
    have hu83 := Tryd.underlying77
    have hi84 : (Tryd.prog.info? 78).map (·.size) = some 60 := by kernel_rfl
    have hi83 : (Tryd.prog.info? 77).map (·.size) = some 4 := by kernel_rfl
    clear t3
    go_wp2_with fail
    go_region_held3 (fun W => W.cell? ⟨w.heap.size, 0, none⟩ = some (.int .i64 ((k : Int) + 1)) ∧ W.cell? ⟨w.heap.size, 1, none⟩ = some (.int .i64 (g 1)) ∧ W.cell? ⟨w.heap.size, 2, none⟩ = some (.int .i64 (g 2)) ∧ W.cell? ⟨w.heap.size, 3, none⟩ = some (.int .i64 (g 3)) ∧ W.cell? ⟨0, k * 4 + 3, none⟩ = some (.int .i64 (N : Int))) (with_reducible exact HS.out _ (by (repeat' (first | (with_reducible exact Below.refl _ _) | (with_reducible assumption) | (with_reducible refine below_drewN ?_ _) | (with_reducible refine Below.drew ?_) | (with_reducible refine Below.alloc ?_ ?_ _) | (with_reducible refine Below.setCell ?_ ?_ _) | (with_reducible refine below_gw ?_ ?_ _) | (with_reducible refine below_via ?_ ‹Below _ _ _› ?_) | (with_reducible exact Nat.le_refl _) | (with_reducible refine le_gw ?_ _) | (with_reducible refine le_alloc ?_ _) | (with_reducible refine le_setCell ?_ _ _) | (with_reducible refine le_drew ?_) | (with_reducible refine le_drewN ?_ _) | go_size)))) ((go_at_call 52; refine (NO.out _).mono ?_; rintro e w1 ⟨rfl, hb1⟩; obtain ⟨p, rfl⟩ := gw_of_below hb1; clear hb1))
    all_goals
      have BB : Hid (∃ A : World, A = (w.alloc (.cells #[.int .i64 ((k : Int) + 1), .int .i64 (g 1), .int .i64 (g 2), .int .i64 (g 3)] 35)).alloc (.cells #[.int .i64 0, .int .i64 n] 69) ∧ A.heap.size = w.heap.size + 1 + 1) := Lib.hid ⟨_, rfl, by simp⟩
      obtain ⟨A, hA, sA⟩ := BB.out
      clear BB
      rw [← hA] at HS hsz ⊢
      first
        | (generalize hW : World.alloc (gw A p) _ = W
           generalize hB : w.heap.size + 1 + 1 + p.os.size = B
           rw [← sA] at hB
           have KB := Lib.hid (box3_after hW hB))
        | (generalize hW : gw (World.alloc A _) p = W
           generalize hB : w.heap.size + 1 + 1 = B
           rw [← sA] at hB
           have KB := Lib.hid (box3_ahead hW hB))
      clear hW hB
      have bA : Hid (Below w.heap.size w A) := Lib.hid (by rw [hA]; (repeat' (first | (with_reducible exact Below.refl _ _) | (with_reducible assumption) | (with_reducible refine below_drewN ?_ _) | (with_reducible refine Below.drew ?_) | (with_reducible refine Below.alloc ?_ ?_ _) | (with_reducible refine Below.setCell ?_ ?_ _) | (with_reducible refine below_gw ?_ ?_ _) | (with_reducible refine below_via ?_ ‹Below _ _ _› ?_) | (with_reducible exact Nat.le_refl _) | (with_reducible refine le_gw ?_ _) | (with_reducible refine le_alloc ?_ _) | (with_reducible refine le_setCell ?_ _ _) | (with_reducible refine le_drew ?_) | (with_reducible refine le_drewN ?_ _) | go_size)))
      have c1 : A.cell? ⟨w.heap.size + 1, 0, none⟩ = some (.int .i64 0) := by rw [hA]; simp
      have c2 : A.cell? ⟨w.heap.size + 1, 1, none⟩ = some (.int .i64 n) := by rw [hA]; simp
      have CC := Lib.hid (And.intro c1 c2)
      clear hA c1 c2
      have KW : Hid (Below (w.heap.size + 2) A W) := Lib.hid (by have h := KB.out.2; rw [sA] at h; exact h)
      have szW := KW.out.size
      have HS2 : Hid (∀ W2, Below W.heap.size W W2 → W2.cell? ⟨w.heap.size, 0, none⟩ = some (.int .i64 ((k : Int) + 1)) ∧ W2.cell? ⟨w.heap.size + 1, 0, none⟩ = some (.int .i64 0) ∧ W2.cell? ⟨w.heap.size + 1, 1, none⟩ = some (.int .i64 n)) := Lib.hid fun W2 hW2 => by
        have h := KW.out.trans (hW2.mono (by omega))
        refine ⟨(HS.out _ h).1, ?_, ?_⟩
        · rw [h.cell (p := ⟨w.heap.size + 1, 0, none⟩) (by simp)]; exact CC.out.1
        · rw [h.cell (p := ⟨w.heap.size + 1, 1, none⟩) (by simp)]; exact CC.out.2
      have RO := Lib.hid (fun w => iRangeOf ((k : Int) + 1) n w)
      have NN := Lib.hid (ints_nums KB.out.1 N3)
      have C1 := Lib.hid (fun (W2 : World) (h : Below W.heap.size W W2) => iHasLacks (Tm.rngL ((k : Int) + 1)) (Tm.rngH ((k : Int) + 1) n) _ _ _ _ W2 (NN.out.1.below h))
      have C2 := Lib.hid (fun (W2 : World) (h : Below W.heap.size W W2) => iHasLacks 0 0 _ _ _ _ W2 (NN.out.2.below h))
      have n0 : (0 : Int) ≤ (N : Int) := by omega
      have n3 : (N : Int) ≤ 3 := by omega
      clear HS
      have bW : Below w.heap.size w W := bA.out.trans (KW.out.mono (by omega))
      obtain ⟨q1, q2, q3⟩ := HS2.out W (Below.refl _ _)
      have l0 : w.heap.size < W.heap.size := by omega
      have l1 : w.heap.size + 1 < W.heap.size := by omega
      clear HS2 KB NN
      cases o1 : Tm.outs (Tm.rngL ((k : Int) + 1)) (Tm.rngH ((k : Int) + 1) n) ((Tm.nums g).take N) with
      | true =>
        rw [o1] at C1 OK
        clear o1
        go_wp2_with fail
        (refine wp_region_quiet_below (by kernel_rfl) (by kernel_rfl) ?_; (repeat (go_big_quiet_step (first | (go_at_call 67; exact met_below (fun _ => RO.out _)) | (go_at_call 42; with_reducible exact met_below2 (fun W h => C1.out W h))))); refine wpQuiet_nil ?_; intro wq hwq; obtain ⟨pq, hpq⟩ := hwq; have hpq' : wq = gw _ pq := hpq; clear hpq; subst hpq')
        go_wp2
        go_ret
        exact ⟨ret_bool (by rw [OK.out]; rfl), by (repeat' (first | (with_reducible exact Below.refl _ _) | (with_reducible assumption) | (with_reducible refine below_drewN ?_ _) | (with_reducible refine Below.drew ?_) | (with_reducible refine Below.alloc ?_ ?_ _) | (with_reducible refine Below.setCell ?_ ?_ _) | (with_reducible refine below_gw ?_ ?_ _) | (with_reducible refine below_via ?_ ‹Below _ _ _› ?_) | (with_reducible exact Nat.le_refl _) | (with_reducible refine le_gw ?_ _) | (with_reducible refine le_alloc ?_ _) | (with_reducible refine le_setCell ?_ _ _) | (with_reducible refine le_drew ?_) | (with_reducible refine le_drewN ?_ _) | go_size))⟩
      | false =>
        rw [o1] at C1 OK
        clear o1
        go_wp2_with fail
        (refine wp_region_quiet_below (by kernel_rfl) (by kernel_rfl) ?_; (repeat (go_big_quiet_step (first | (go_at_call 67; exact met_below (fun _ => RO.out _)) | (go_at_call 42; with_reducible exact met_below2 (fun W h => C1.out W h)) | (go_at_call 42; with_reducible exact met_below2 (fun W h => C2.out W h))))); refine wpQuiet_nil ?_; intro wq hwq; obtain ⟨pq, hpq⟩ := hwq; have hpq' : wq = gw _ pq := hpq; clear hpq; subst hpq')
        all_goals go_wp2
        all_goals
          go_ret
          exact ⟨ret_bool (by rw [OK.out]; rfl), by (repeat' (first | (with_reducible exact Below.refl _ _) | (with_reducible assumption) | (with_reducible refine below_drewN ?_ _) | (with_reducible refine Below.drew ?_) | (with_reducible refine Below.alloc ?_ ?_ _) | (with_reducible refine Below.setCell ?_ ?_ _) | (with_reducible refine below_gw ?_ ?_ _) | (with_reducible refine below_via ?_ ‹Below _ _ _› ?_) | (with_reducible exact Nat.le_refl _) | (with_reducible refine le_gw ?_ _) | (with_reducible refine le_alloc ?_ _) | (with_reducible refine le_setCell ?_ _ _) | (with_reducible refine le_drew ?_) | (with_reducible refine le_drewN ?_ _) | go_size))⟩
  · rw [Tm.opOk_none n g h]
    have ON := Lib.hid (fun w h => iOpName (g 0) w h)
    rw [Tm.opName_no h] at ON
    have HT := Lib.hid hT
    clear h hT
    go_enter Tryd.func50, Tryd.ntmps50
    go_wp2_with fail
    refine (ON.out _ (HT.out.below (by (repeat' (first | (with_reducible exact Below.refl _ _) | (with_reducible assumption) | (with_reducible refine below_drewN ?_ _) | (with_reducible refine Below.drew ?_) | (with_reducible refine Below.alloc ?_ ?_ _) | (with_reducible refine Below.setCell ?_ ?_ _) | (with_reducible refine below_gw ?_ ?_ _) | (with_reducible refine below_via ?_ ‹Below _ _ _› ?_) | (with_reducible exact Nat.le_refl _) | (with_reducible refine le_gw ?_ _) | (with_reducible refine le_alloc ?_ _) | (with_reducible refine le_setCell ?_ _ _) | (with_reducible refine le_drew ?_) | (with_reducible refine le_drewN ?_ _) | go_size))))).mono ?_
    rintro e w' ⟨rfl, rfl⟩
    go_wp2
    go_ret
    exact ⟨rfl, by (repeat' (first | (with_reducible exact Below.refl _ _) | (with_reducible assumption) | (with_reducible refine below_drewN ?_ _) | (with_reducible refine Below.drew ?_) | (with_reducible refine Below.alloc ?_ ?_ _) | (with_reducible refine Below.setCell ?_ ?_ _) | (with_reducible refine below_gw ?_ ?_ _) | (with_reducible refine below_via ?_ ‹Below _ _ _› ?_) | (with_reducible exact Nat.le_refl _) | (with_reducible refine le_gw ?_ _) | (with_reducible refine le_alloc ?_ _) | (with_reducible refine le_setCell ?_ _ _) | (with_reducible refine le_drew ?_) | (with_reducible refine le_drewN ?_ _) | go_size))⟩
set_option maxHeartbeats 2000000 in
theorem iIsCode (a : Option Addr) (n cap : Nat) (L : List (Nat → Int)) (w : World) (h : OpR w a n cap L) (hT : OpsTab w) : Calls Tryd.prog 31 #[.slice a n cap] w fun e w' => e = .returned (.bool (Tm.codeOk L)) ∧ Below w.heap.size w w' := by
  have H := Lib.hid h
  have HT := Lib.hid hT
  obtain rfl : L.length = n := h.1
  have hc1 := h.2.1
  have hc2 := h.2.2.1
  unfold maxLen at hc2
  clear h hT
  by_cases hl : 1 ≤ L.length ∧ L.length ≤ 80
  · obtain ⟨l1, l2⟩ := hl
    go_enter Tryd.func31, Tryd.ntmps31
    go_wp2
    go_loopw [15] (fun i wr => ∃ j : Nat, j ≤ L.length ∧ i = .int .i64 j ∧ Hid (∀ q, q < j → Tm.opOk L.length (L.getD q Tm.g0) = true) ∧ Below w.heap.size w wr) (fun i _ => L.length - (intOf i).toNat)
    case atStart => exact ⟨0, by omega, rfl, Lib.hid (fun q hq => by omega), Below.refl _ _⟩
    case round =>
      obtain ⟨j, hj, rfl, GK, hb⟩ := hrel
      by_cases hlt : j < L.length
      · obtain ⟨-, -, -, y⟩ := H.out.below hb
        rcases y with h0 | ⟨bb, oo, rfl, hbl, hc⟩
        · omega
        obtain ⟨g, hg, g1⟩ := OpR.op hc hlt
        have GG := Lib.hid hg
        obtain ⟨p0, p1, p2, p3⟩ := g1
        clear hg hc
        have hs := hb.size
        have HT2 := Lib.hid ((HT.out.below hb).below ((Below.refl wr.heap.size wr).alloc (Nat.le_refl _) (.cells #[.int .i64 (g 0), .int .i64 (g 1), .int .i64 (g 2), .int .i64 (g 3)] 35)))
        have OP := Lib.hid (fun (w : World) h => iIsOp g L.length w h)
        have PL := Lib.hid (fun (w : World) => iPlacesOf (some ⟨bb, oo, none⟩) L.length cap w)
        cases hO : Tm.opOk L.length g with
        | false =>
          rw [hO] at OP
          have NO := Lib.hid (Tm.codeOk_no hlt (by rw [← GG.out]; exact hO))
          clear hO
          go_wp2_with fail
          (refine wp_region_quiet_below (by kernel_rfl) (by kernel_rfl) ?_; (repeat (go_big_quiet_step (first | (go_at_call 39; exact met_below (fun _ => PL.out _)) | (go_at_call 50; with_reducible exact met_below2 (fun W h => OP.out W (HT2.out.below h)))))); refine wpQuiet_nil ?_; intro wq hwq; obtain ⟨pq, hpq⟩ := hwq; have hpq' : wq = gw _ pq := hpq; clear hpq; subst hpq')
          go_wp2
          go_ret
          exact ⟨ret_bool NO.out.symm, by (repeat' (first | (with_reducible exact Below.refl _ _) | (with_reducible assumption) | (with_reducible refine below_drewN ?_ _) | (with_reducible refine Below.drew ?_) | (with_reducible refine Below.alloc ?_ ?_ _) | (with_reducible refine Below.setCell ?_ ?_ _) | (with_reducible refine below_gw ?_ ?_ _) | (with_reducible refine below_via ?_ ‹Below _ _ _› ?_) | (with_reducible exact Nat.le_refl _) | (with_reducible refine le_gw ?_ _) | (with_reducible refine le_alloc ?_ _) | (with_reducible refine le_setCell ?_ _ _) | (with_reducible refine le_drew ?_) | (with_reducible refine le_drewN ?_ _) | go_size))⟩
        | true =>
          rw [hO] at OP
          have GK2 : Hid (∀ q, q < j + 1 → Tm.opOk L.length (L.getD q Tm.g0) = true) := Lib.hid fun q hq => by
            by_cases e : q = j
            · subst e; rw [← GG.out]; exact hO
            · exact GK.out q (by omega)
          clear hO GK
          go_wp2_with fail
          (refine wp_region_quiet_below (by kernel_rfl) (by kernel_rfl) ?_; (repeat (go_big_quiet_step (first | (go_at_call 39; exact met_below (fun _ => PL.out _)) | (go_at_call 50; with_reducible exact met_below2 (fun W h => OP.out W (HT2.out.below h)))))); refine wpQuiet_nil ?_; intro wq hwq; obtain ⟨pq, hpq⟩ := hwq; have hpq' : wq = gw _ pq := hpq; clear hpq; subst hpq')
          go_wp2
          exact ⟨⟨j + 1, by omega, by go_num, GK2, by (repeat' (first | (with_reducible exact Below.refl _ _) | (with_reducible assumption) | (with_reducible refine below_drewN ?_ _) | (with_reducible refine Below.drew ?_) | (with_reducible refine Below.alloc ?_ ?_ _) | (with_reducible refine Below.setCell ?_ ?_ _) | (with_reducible refine below_gw ?_ ?_ _) | (with_reducible refine below_via ?_ ‹Below _ _ _› ?_) | (with_reducible exact Nat.le_refl _) | (with_reducible refine le_gw ?_ _) | (with_reducible refine le_alloc ?_ _) | (with_reducible refine le_setCell ?_ _ _) | (with_reducible refine le_drew ?_) | (with_reducible refine le_drewN ?_ _) | go_size))⟩, by simp [intOf]; omega⟩
      · obtain rfl : j = L.length := by omega
        have CO := Lib.hid (Tm.codeOk_of ⟨by omega, by omega⟩ GK.out)
        go_wp2
        go_ret
        exact ⟨ret_bool CO.out.symm, hb⟩
  · rw [Tm.codeOk_len hl]
    rcases Nat.lt_or_ge L.length 1 with c | c
    · go_enter Tryd.func31, Tryd.ntmps31
      go_wp2
      go_ret
      exact ⟨rfl, by (repeat' (first | (with_reducible exact Below.refl _ _) | (with_reducible assumption) | (with_reducible refine below_drewN ?_ _) | (with_reducible refine Below.drew ?_) | (with_reducible refine Below.alloc ?_ ?_ _) | (with_reducible refine Below.setCell ?_ ?_ _) | (with_reducible refine below_gw ?_ ?_ _) | (with_reducible refine below_via ?_ ‹Below _ _ _› ?_) | (with_reducible exact Nat.le_refl _) | (with_reducible refine le_gw ?_ _) | (with_reducible refine le_alloc ?_ _) | (with_reducible refine le_setCell ?_ _ _) | (with_reducible refine le_drew ?_) | (with_reducible refine le_drewN ?_ _) | go_size))⟩
    · have c2 : 80 < L.length := by omega
      clear hl
      go_enter Tryd.func31, Tryd.ntmps31
      go_wp2
      go_ret
      exact ⟨rfl, by (repeat' (first | (with_reducible exact Below.refl _ _) | (with_reducible assumption) | (with_reducible refine below_drewN ?_ _) | (with_reducible refine Below.drew ?_) | (with_reducible refine Below.alloc ?_ ?_ _) | (with_reducible refine Below.setCell ?_ ?_ _) | (with_reducible refine below_gw ?_ ?_ _) | (with_reducible refine below_via ?_ ‹Below _ _ _› ?_) | (with_reducible exact Nat.le_refl _) | (with_reducible refine le_gw ?_ _) | (with_reducible refine le_alloc ?_ _) | (with_reducible refine le_setCell ?_ _ _) | (with_reducible refine le_drew ?_) | (with_reducible refine le_drewN ?_ _) | go_size))⟩
namespace Tm
theorem cellsOk_outs (s : List Int) : cellsOk s = !outs (-9841) 9841 s := by
  rw [cellsOk, outs, List.any_eq_not_all_not, Bool.not_not]
  congr 1; funext x; simp [isCell]
end Tm
set_option maxHeartbeats 4000000 in
theorem iIsMachine (aL : Option Addr) (nL cL : Nat) (L : List (Nat → Int)) (k : Int) (a : Option Addr) (n c : Nat) (s : List Int) (b : Option Addr) (m d : Nat) (o : List Int) (w : World) (hL : OpR w aL nL cL L) (h : Ms w a n c s b m d o) (hT : OpsTab w) :
    Calls Tryd.prog 20 #[.slice aL nL cL, machV k a n c b m d] w fun e w' => e = .returned (.bool (Tm.machOk L k s o)) ∧ Below w.heap.size w w' := by
  have HT := Lib.hid hT
  have HL := Lib.hid hL
  have H := Lib.hid h
  obtain rfl : L.length = nL := hL.1
  obtain rfl : s.length = n := h.1.1
  obtain rfl : o.length = m := h.2.1
  have y1 := hL.2.1
  have y2 := hL.2.2.1
  have u1 := h.1.2.1
  have u2 := h.1.2.2.1
  have v1 := h.2.2.1
  have v2 := h.2.2.2.1
  unfold maxLen at y2 u2 v2
  clear h hL hT
  have IC := Lib.hid (fun (W : World) (h : Below w.heap.size w W) => iIsCode aL L.length cL L W (HL.out.below h) (HT.out.below h))
  have PL := Lib.hid (fun (w : World) => iPlacesOf aL L.length cL w)
  have LK := Lib.hid (fun (w : World) => iLacks 0 (L.length : Int) k w)
  have C1 := Lib.hid (fun (W : World) (h : Below w.heap.size w W) => iHasLacks (-9841) 9841 _ _ _ _ W (H.out.1.below h))
  have C2 := Lib.hid (fun (W : World) (h : Below w.heap.size w W) => iHasLacks (-9841) 9841 _ _ _ _ W (H.out.2.below h))
  have CN := Lib.hid (fun (w : World) => iCellNumbers w)
  have MK : Hid (Tm.machOk L k s o = (Tm.codeOk L && (Tm.inB k 0 L.length && (decide (s.length ≤ 20) && (decide (o.length = 27) && ((!Tm.outs (-9841) 9841 s) && !Tm.outs (-9841) 9841 o)))))) := Lib.hid (by rw [Tm.machOk, Tm.cellsOk_outs, Tm.cellsOk_outs])
  have b1 : Hid (Below w.heap.size w (w.alloc (.cells #[.int .i64 k, .slice a s.length c, .slice b o.length d] 27))) := Lib.hid (by (repeat' (first | (with_reducible exact Below.refl _ _) | (with_reducible assumption) | (with_reducible refine below_drewN ?_ _) | (with_reducible refine Below.drew ?_) | (with_reducible refine Below.alloc ?_ ?_ _) | (with_reducible refine Below.setCell ?_ ?_ _) | (with_reducible refine below_gw ?_ ?_ _) | (with_reducible refine below_via ?_ ‹Below _ _ _› ?_) | (with_reducible exact Nat.le_refl _) | (with_reducible refine le_gw ?_ _) | (with_reducible refine le_alloc ?_ _) | (with_reducible refine le_setCell ?_ _ _) | (with_reducible refine le_drew ?_) | (with_reducible refine le_drewN ?_ _) | go_size)))
  go_enter Tryd.func20, Tryd.ntmps20
  cases hC : Tm.codeOk L with
  | false =>
    rw [hC] at IC MK
    clear hC
    go_wp2_with fail
    (refine wp_region_quiet_below (by kernel_rfl) (by kernel_rfl) ?_; (repeat (go_big_quiet_step (first | (go_at_call 31; with_reducible exact met_below2 (fun W h => IC.out W (b1.out.trans (h.mono (by simp))))) | (go_at_call 39; exact met_below (fun _ => PL.out _)) | (go_at_call 40; exact met_below (fun _ => LK.out _))))); refine wpQuiet_nil ?_; intro wq hwq; obtain ⟨pq, hpq⟩ := hwq; have hpq' : wq = gw _ pq := hpq; clear hpq; subst hpq')
    go_wp2
    go_ret
    exact ⟨ret_bool (by rw [MK.out]; simp), by (repeat' (first | (with_reducible exact Below.refl _ _) | (with_reducible assumption) | (with_reducible refine below_drewN ?_ _) | (with_reducible refine Below.drew ?_) | (with_reducible refine Below.alloc ?_ ?_ _) | (with_reducible refine Below.setCell ?_ ?_ _) | (with_reducible refine below_gw ?_ ?_ _) | (with_reducible refine below_via ?_ ‹Below _ _ _› ?_) | (with_reducible exact Nat.le_refl _) | (with_reducible refine le_gw ?_ _) | (with_reducible refine le_alloc ?_ _) | (with_reducible refine le_setCell ?_ _ _) | (with_reducible refine le_drew ?_) | (with_reducible refine le_drewN ?_ _) | go_size))⟩
  | true =>
    rw [hC] at IC MK
    clear hC
    cases hI : Tm.inB k 0 L.length with
    | false =>
      rw [hI] at LK MK
      clear hI
      go_wp2_with fail
      (refine wp_region_quiet_below (by kernel_rfl) (by kernel_rfl) ?_; (repeat (go_big_quiet_step (first | (go_at_call 31; with_reducible exact met_below2 (fun W h => IC.out W (b1.out.trans (h.mono (by simp))))) | (go_at_call 39; exact met_below (fun _ => PL.out _)) | (go_at_call 40; exact met_below (fun _ => LK.out _))))); refine wpQuiet_nil ?_; intro wq hwq; obtain ⟨pq, hpq⟩ := hwq; have hpq' : wq = gw _ pq := hpq; clear hpq; subst hpq')
      go_wp2
      go_ret
      exact ⟨ret_bool (by rw [MK.out]; simp), by (repeat' (first | (with_reducible exact Below.refl _ _) | (with_reducible assumption) | (with_reducible refine below_drewN ?_ _) | (with_reducible refine Below.drew ?_) | (with_reducible refine Below.alloc ?_ ?_ _) | (with_reducible refine Below.setCell ?_ ?_ _) | (with_reducible refine below_gw ?_ ?_ _) | (with_reducible refine below_via ?_ ‹Below _ _ _› ?_) | (with_reducible exact Nat.le_refl _) | (with_reducible refine le_gw ?_ _) | (with_reducible refine le_alloc ?_ _) | (with_reducible refine le_setCell ?_ _ _) | (with_reducible refine le_drew ?_) | (with_reducible refine le_drewN ?_ _) | go_size))⟩
    | true =>
      rw [hI] at LK MK
      clear hI
      by_cases hs : s.length ≤ 20
      · have hs2 : (s.length : Int) ≤ 20 := by omega
        have hs3 : ¬ 20 < (s.length : Int) := by omega
        have hs4 : decide (20 < (s.length : Int)) = false := decide_eq_false hs3
        by_cases ho : o.length = 27
        · have HO := Lib.hid ho
          have ho1 : ((o.length : Int) == 27) = true := by simp; omega
          have ho2 : ((o.length : Int) != 27) = false := by simp; omega
          clear ho
          go_wp2_with fail
          (refine wp_region_quiet_below (by kernel_rfl) (by kernel_rfl) ?_; (repeat (go_big_quiet_step (first | (go_at_call 31; with_reducible exact met_below2 (fun W h => IC.out W (b1.out.trans (h.mono (by simp))))) | (go_at_call 39; exact met_below (fun _ => PL.out _)) | (go_at_call 40; exact met_below (fun _ => LK.out _))))); refine wpQuiet_nil ?_; intro wq hwq; obtain ⟨pq, hpq⟩ := hwq; have hpq' : wq = gw _ pq := hpq; clear hpq; subst hpq')
          cases o1 : Tm.outs (-9841) 9841 s with
          | true =>
            rw [o1] at C1 MK
            clear o1
            go_wp2_with (go_at_call 41; refine (CN.out _).mono ?_; rintro e w1 ⟨rfl, hb⟩; obtain ⟨p, rfl⟩ := gw_of_below hb; clear hb)
            refine (C1.out _ (by (repeat' (first | (with_reducible exact Below.refl _ _) | (with_reducible assumption) | (with_reducible refine below_drewN ?_ _) | (with_reducible refine Below.drew ?_) | (with_reducible refine Below.alloc ?_ ?_ _) | (with_reducible refine Below.setCell ?_ ?_ _) | (with_reducible refine below_gw ?_ ?_ _) | (with_reducible refine below_via ?_ ‹Below _ _ _› ?_) | (with_reducible exact Nat.le_refl _) | (with_reducible refine le_gw ?_ _) | (with_reducible refine le_alloc ?_ _) | (with_reducible refine le_setCell ?_ _ _) | (with_reducible refine le_drew ?_) | (with_reducible refine le_drewN ?_ _) | go_size)))).mono ?_
            rintro e w1 ⟨rfl, hb1⟩
            obtain ⟨p2, rfl⟩ := gw_of_below hb1
            clear hb1
            go_wp2
            go_ret
            exact ⟨ret_bool (by rw [MK.out]; simp), by (repeat' (first | (with_reducible exact Below.refl _ _) | (with_reducible assumption) | (with_reducible refine below_drewN ?_ _) | (with_reducible refine Below.drew ?_) | (with_reducible refine Below.alloc ?_ ?_ _) | (with_reducible refine Below.setCell ?_ ?_ _) | (with_reducible refine below_gw ?_ ?_ _) | (with_reducible refine below_via ?_ ‹Below _ _ _› ?_) | (with_reducible exact Nat.le_refl _) | (with_reducible refine le_gw ?_ _) | (with_reducible refine le_alloc ?_ _) | (with_reducible refine le_setCell ?_ _ _) | (with_reducible refine le_drew ?_) | (with_reducible refine le_drewN ?_ _) | go_size))⟩
          | false =>
            rw [o1] at C1 MK
            clear o1
            go_wp2_with (go_at_call 41; refine (CN.out _).mono ?_; rintro e w1 ⟨rfl, hb⟩; obtain ⟨p, rfl⟩ := gw_of_below hb; clear hb)
            refine (C1.out _ (by (repeat' (first | (with_reducible exact Below.refl _ _) | (with_reducible assumption) | (with_reducible refine below_drewN ?_ _) | (with_reducible refine Below.drew ?_) | (with_reducible refine Below.alloc ?_ ?_ _) | (with_reducible refine Below.setCell ?_ ?_ _) | (with_reducible refine below_gw ?_ ?_ _) | (with_reducible refine below_via ?_ ‹Below _ _ _› ?_) | (with_reducible exact Nat.le_refl _) | (with_reducible refine le_gw ?_ _) | (with_reducible refine le_alloc ?_ _) | (with_reducible refine le_setCell ?_ _ _) | (with_reducible refine le_drew ?_) | (with_reducible refine le_drewN ?_ _) | go_size)))).mono ?_
            rintro e w1 ⟨rfl, hb1⟩
            obtain ⟨p2, rfl⟩ := gw_of_below hb1
            clear hb1
            go_wp2_with fail
            refine (C2.out _ (by (repeat' (first | (with_reducible exact Below.refl _ _) | (with_reducible assumption) | (with_reducible refine below_drewN ?_ _) | (with_reducible refine Below.drew ?_) | (with_reducible refine Below.alloc ?_ ?_ _) | (with_reducible refine Below.setCell ?_ ?_ _) | (with_reducible refine below_gw ?_ ?_ _) | (with_reducible refine below_via ?_ ‹Below _ _ _› ?_) | (with_reducible exact Nat.le_refl _) | (with_reducible refine le_gw ?_ _) | (with_reducible refine le_alloc ?_ _) | (with_reducible refine le_setCell ?_ _ _) | (with_reducible refine le_drew ?_) | (with_reducible refine le_drewN ?_ _) | go_size)))).mono ?_
            rintro e w1 ⟨rfl, hb1⟩
            obtain ⟨p3, rfl⟩ := gw_of_below hb1
            clear hb1
            go_wp2
            go_ret
            exact ⟨ret_bool (by rw [MK.out, decide_eq_true hs, decide_eq_true HO.out]; simp), by (repeat' (first | (with_reducible exact Below.refl _ _) | (with_reducible assumption) | (with_reducible refine below_drewN ?_ _) | (with_reducible refine Below.drew ?_) | (with_reducible refine Below.alloc ?_ ?_ _) | (with_reducible refine Below.setCell ?_ ?_ _) | (with_reducible refine below_gw ?_ ?_ _) | (with_reducible refine below_via ?_ ‹Below _ _ _› ?_) | (with_reducible exact Nat.le_refl _) | (with_reducible refine le_gw ?_ _) | (with_reducible refine le_alloc ?_ _) | (with_reducible refine le_setCell ?_ _ _) | (with_reducible refine le_drew ?_) | (with_reducible refine le_drewN ?_ _) | go_size))⟩
        · have ho' : ((o.length : Int) == 27) = false := by simp; omega
          have ho2 : ((o.length : Int) != 27) = true := by simp; omega
          go_wp2_with fail
          (refine wp_region_quiet_below (by kernel_rfl) (by kernel_rfl) ?_; (repeat (go_big_quiet_step (first | (go_at_call 31; with_reducible exact met_below2 (fun W h => IC.out W (b1.out.trans (h.mono (by simp))))) | (go_at_call 39; exact met_below (fun _ => PL.out _)) | (go_at_call 40; exact met_below (fun _ => LK.out _))))); refine wpQuiet_nil ?_; intro wq hwq; obtain ⟨pq, hpq⟩ := hwq; have hpq' : wq = gw _ pq := hpq; clear hpq; subst hpq')
          go_wp2
          go_ret
          exact ⟨ret_bool (by rw [MK.out, decide_eq_true hs, decide_eq_false ho]; simp), by (repeat' (first | (with_reducible exact Below.refl _ _) | (with_reducible assumption) | (with_reducible refine below_drewN ?_ _) | (with_reducible refine Below.drew ?_) | (with_reducible refine Below.alloc ?_ ?_ _) | (with_reducible refine Below.setCell ?_ ?_ _) | (with_reducible refine below_gw ?_ ?_ _) | (with_reducible refine below_via ?_ ‹Below _ _ _› ?_) | (with_reducible exact Nat.le_refl _) | (with_reducible refine le_gw ?_ _) | (with_reducible refine le_alloc ?_ _) | (with_reducible refine le_setCell ?_ _ _) | (with_reducible refine le_drew ?_) | (with_reducible refine le_drewN ?_ _) | go_size))⟩
      · have hs' : ¬ (s.length : Int) ≤ 20 := by omega
        go_wp2_with fail
        (refine wp_region_quiet_below (by kernel_rfl) (by kernel_rfl) ?_; (repeat (go_big_quiet_step (first | (go_at_call 31; with_reducible exact met_below2 (fun W h => IC.out W (b1.out.trans (h.mono (by simp))))) | (go_at_call 39; exact met_below (fun _ => PL.out _)) | (go_at_call 40; exact met_below (fun _ => LK.out _))))); refine wpQuiet_nil ?_; intro wq hwq; obtain ⟨pq, hpq⟩ := hwq; have hpq' : wq = gw _ pq := hpq; clear hpq; subst hpq')
        go_wp2
        go_ret
        exact ⟨ret_bool (by rw [MK.out, decide_eq_false hs]; simp), by (repeat' (first | (with_reducible exact Below.refl _ _) | (with_reducible assumption) | (with_reducible refine below_drewN ?_ _) | (with_reducible refine Below.drew ?_) | (with_reducible refine Below.alloc ?_ ?_ _) | (with_reducible refine Below.setCell ?_ ?_ _) | (with_reducible refine below_gw ?_ ?_ _) | (with_reducible refine below_via ?_ ‹Below _ _ _› ?_) | (with_reducible exact Nat.le_refl _) | (with_reducible refine le_gw ?_ _) | (with_reducible refine le_alloc ?_ _) | (with_reducible refine le_setCell ?_ _ _) | (with_reducible refine le_drew ?_) | (with_reducible refine le_drewN ?_ _) | go_size))⟩
end Go.Proofs.YtfnhoiomdjmjhaaDoor

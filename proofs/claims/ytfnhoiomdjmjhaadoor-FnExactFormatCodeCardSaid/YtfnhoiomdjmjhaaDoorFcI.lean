/- The program writes an operation. -/
import Derived.Test.YtfnhoiomdjmjhaaDoorFcM
import Derived.Test.YtfnhoiomdjmjhaaDoorMI2
import Derived.Test.YtfnhoiomdjmjhaaDoorWI2
import Derived.Test.YtfnhoiomdjmjhaaDoorMI1
import Derived.Test.YtfnhoiomdjmjhaaDoorMTab
namespace Go.Proofs.YtfnhoiomdjmjhaaDoor
set_option maxRecDepth 20000
open Go.RowKit
theorem iFormatNumber (c n : Int) (w : World) (h1 : c = 1 → -9841 ≤ n ∧ n ≤ 9841) (h2 : c ≠ 1 → -99 ≤ n ∧ n ≤ 99) (htab : Lib.TabIs Tryd.prog w "internal/strconv.uint64pow10" .u64 Lib.pow10Tab) : Calls Tryd.prog 53 #[.int .i64 c, .int .i64 n] w fun e w' => e = .returned (.string ⟨(Tm.numT c n).toArray⟩) ∧ Below w.heap.size w w' := by
  by_cases h : c = 1
  · subst h
    obtain ⟨n1, n2⟩ := h1 rfl
    have CW := Lib.hid (fun w => iCellWordOf n w n1 n2)
    have w9 := Tm.wordL_nine n
    have FW := Lib.hid (fun a w h => iFormatWord a 9 9 (Tm.wordL n 9) w h)
    obtain ⟨f, hf⟩ : ∃ f : Nat → Int, f = fun i => (Tm.wordL n 9).getD i 0 := ⟨_, rfl⟩
    rw [← hf] at CW w9
    rw [show Tm.numT 1 n = Tm.fmtW (Tm.wordL n 9) from if_pos rfl]
    obtain ⟨B, hB⟩ : ∃ b : ByteArray, b = ⟨(Tm.fmtW (Tm.wordL n 9)).toArray⟩ := ⟨_, rfl⟩
    rw [← hB]
    rw [← hB, ← w9] at FW
    clear hf w9 hB h1 h2 htab
    go_enter Tryd.func53, Tryd.ntmps53
    go_wp2_with (go_at_call 69; refine (CW.out _).mono ?_; rintro e w1 ⟨rfl, hb⟩; obtain ⟨p, rfl⟩ := gw_of_below hb; clear hb)
    refine (FW.out _ _ (ints_tab f _ (by simp only [gw_size]))).mono ?_
    rintro r w1 ⟨rfl, hb⟩
    obtain ⟨q, rfl⟩ := gw_of_below hb
    clear hb
    go_wp2
    go_ret
    exact ⟨rfl, by (repeat' (first | (with_reducible exact Below.refl _ _) | (with_reducible assumption) | (with_reducible refine below_drewN ?_ _) | (with_reducible refine Below.drew ?_) | (with_reducible refine Below.alloc ?_ ?_ _) | (with_reducible refine Below.setCell ?_ ?_ _) | (with_reducible refine below_gw ?_ ?_ _) | (with_reducible refine below_via ?_ ‹Below _ _ _› ?_) | (with_reducible exact Nat.le_refl _) | (with_reducible refine le_gw ?_ _) | (with_reducible refine le_alloc ?_ _) | (with_reducible refine le_setCell ?_ _ _) | (with_reducible refine le_drew ?_) | (with_reducible refine le_drewN ?_ _) | go_size))⟩
  · rw [show Tm.numT c n = Lib.itoa n from if_neg h]
    have NM := Lib.hid (iNum n w (h2 h) htab)
    have c1 : (c != 1) = true := by simpa using h
    have c2 : (c == 1) = false := by simpa using h
    clear h1 h2 htab
    go_enter Tryd.func53, Tryd.ntmps53
    go_wp2_with fail
    refine NM.out.mono ?_
    rintro r w1 ⟨rfl, hb⟩
    go_wp2
    go_ret
    exact ⟨rfl, hb⟩
theorem argT_add (c : Int) (x : Nat → Int) (i : Nat) (hl : (Tm.opL c ++ Tm.argT c x i).length ≤ 8000) (hn : (Tm.numT c (x (i + 1))).length ≤ 8000) (T : Nat → ByteArray) (hT : ∀ i, T i = ⟨(Tm.opL c ++ Tm.argT c x i).toArray⟩) {b d : ByteArray} (hb : b = ⟨(Tm.numT c (x (i + 1))).toArray⟩) (hd : d = ⟨(32 :: Tm.numT c (x (i + 1))).toArray⟩) (w : World) :
    (Op.stringOp .add ⟨#[32]⟩ b).run Tryd.prog w = .ok (.string d) w ∧ (Op.stringOp .add (T i) d).run Tryd.prog w = .ok (.string (T (i + 1))) w := by
  rw [hT, hT]
  subst hb
  subst hd
  refine ⟨run_string_add_lists w [32] _ (by simp) (by omega), ?_⟩
  rw [show Tm.opL c ++ Tm.argT c x (i + 1) = (Tm.opL c ++ Tm.argT c x i) ++ (32 :: Tm.numT c (x (i + 1))) from by simp [Tm.argT]]
  exact run_string_add_lists w _ _ (by omega) (by simp; omega)
theorem argT_long {c : Int} {x : Nat → Int} (h : ∀ i, i < 3 → (Tm.numT c (x (i + 1))).length ≤ 9) : ∀ i, i ≤ 3 → (Tm.opL c ++ Tm.argT c x i).length ≤ 6 + 10 * i := by
  intro i
  induction i with
  | zero => intro _; have := Tm.opL_len c; simp [Tm.argT]; omega
  | succ i ih =>
    intro hi
    have a := ih (by omega)
    have b := h i (by omega)
    simp only [Tm.argT, List.length_append, List.length_cons] at a ⊢
    omega
set_option maxHeartbeats 2000000 in
theorem iFormatOp (x : Nat → Int) (n : Int) (w : World) (hn : n ≤ 80) (hx : Tm.opOk n x = true) (hT : OpsTab w) (htab : Lib.TabIs Tryd.prog w "internal/strconv.uint64pow10" .u64 Lib.pow10Tab) : Calls Tryd.prog 32 #[opV x] w fun e w' => e = .returned (.string ⟨(Tm.opT x).toArray⟩) ∧ Below w.heap.size w w' := by
  have ok := (Tm.opOk_iff n x).1 hx
  obtain ⟨k, hk⟩ : ∃ k : Nat, x 0 = (k : Int) + 1 := ⟨(x 0 - 1).toNat, by omega⟩
  have k15 : k < 15 := by omega
  have e1 : x (0 + 1) = x 1 := rfl
  have e2 : x (1 + 1) = x 2 := rfl
  have e3 : x (2 + 1) = x 3 := rfl
  have nl : ∀ i, i < 3 → (Tm.numT ((k : Int) + 1) (x (i + 1))).length ≤ 9 := fun i hi => Tm.numT_len (by match i with
    | 0 | 1 | 2 => omega)
  have FN : Hid (∀ (i : Nat) (W : World), i < Tm.namN ((k : Int) + 1) → Below w.heap.size w W → Calls Tryd.prog 53 #[.int .i64 ((k : Int) + 1), .int .i64 (x (i + 1))] W fun e w' => e = .returned (.string ⟨(Tm.numT ((k : Int) + 1) (x (i + 1))).toArray⟩) ∧ Below W.heap.size W w') := Lib.hid fun i W hi hW => by
    have n3 := Tm.namN_le ((k : Int) + 1)
    refine iFormatNumber _ _ W (fun e => ?_) (fun e => ?_) (tab_belowN htab hW)
    · have : i = 0 := by unfold Tm.namN at hi; rw [if_neg (by omega), if_pos (by omega)] at hi; omega
      subst this; omega
    · match i with
      | 0 | 1 | 2 => omega
      | i + 3 => omega
  have AL := Lib.hid (argT_long nl)
  have NL := Lib.hid nl
  have ON := Lib.hid (fun w h => iOpName ((k : Int) + 1) w h)
  have HT := Lib.hid hT
  obtain ⟨N, hN⟩ : ∃ N, N = Tm.namN ((k : Int) + 1) := ⟨_, rfl⟩
  have N3 : N ≤ 3 := by rw [hN]; exact Tm.namN_le _
  obtain ⟨T, hT2⟩ : ∃ T : Nat → ByteArray, ∀ i, T i = ⟨(Tm.opL ((k : Int) + 1) ++ Tm.argT ((k : Int) + 1) x i).toArray⟩ := ⟨_, fun _ => rfl⟩
  have T0 : Tm.opName ((k : Int) + 1) = T 0 := by rw [hT2, ← Tm.opL_name]; simp [Tm.argT]
  have TE : (⟨(Tm.opT x).toArray⟩ : ByteArray) = T N := by rw [hT2, Tm.opT, hk, hN]
  rw [TE]
  rw [T0] at ON
  rw [← hN] at FN
  have ADD := Lib.hid (fun i (hi : i < 3) b d hb hd w => argT_add ((k : Int) + 1) x i (by have := AL.out i (by omega); omega) (by have := NL.out i hi; omega) T hT2 (b := b) (d := d) hb hd w)
  have NO : Hid (∀ w : World, Calls Tryd.prog 52 #[.agg #[.int .i64 ((k : Int) + 1), .int .i64 (x 1), .int .i64 (x 2), .int .i64 (x 3)]] w fun e w' => e = .returned (.agg #[.int .i64 (x 1), .int .i64 (x 2), .int .i64 (x 3)]) ∧ Below w.heap.size w w') := Lib.hid fun w => by
    have h := iNumbersOf x w
    unfold opV at h
    rw [hk] at h
    exact h
  have k0 : (0 : Int) ≤ (k : Int) := by omega
  have k1 : (k : Int) < 15 := by omega
  have w1e : IntKind.i64.wrap ((k : Int) + 1 - 1) = (k : Int) := by rw [IntWalk.i64_in _ (by omega)]; omega
  have w2e : IntKind.i64.wrap (k : Int) = (k : Int) := IntWalk.i64_in _ (by omega)
  have hu84 := Tryd.underlying78
  have hu83 := Tryd.underlying77
  have hi84 : (Tryd.prog.info? 78).map (·.size) = some 60 := by kernel_rfl
  have hi83 : (Tryd.prog.info? 77).map (·.size) = some 4 := by kernel_rfl
  have HN := Lib.hid hN
  have HT2 := Lib.hid hT2
  unfold opV
  rw [hk]
  clear hk ok hx hT htab nl e1 e2 e3 hN hT2 T0 TE AL NL hn
  go_enter Tryd.func32, Tryd.ntmps32
  go_wp2_with fail
  generalize hA : World.alloc w _ = A
  have bA : Below w.heap.size w A := by rw [← hA]; exact (Below.refl _ _).alloc (Nat.le_refl _) _
  have sA : A.heap.size = w.heap.size + 1 := by rw [← hA]; simp
  have a0 : A.cell? ⟨w.heap.size, 0, none⟩ = some (.int .i64 ((k : Int) + 1)) := by rw [← hA]; simp
  have a1 : A.cell? ⟨w.heap.size, 1, none⟩ = some (.int .i64 (x 1)) := by rw [← hA]; simp
  have a2 : A.cell? ⟨w.heap.size, 2, none⟩ = some (.int .i64 (x 2)) := by rw [← hA]; simp
  have a3 : A.cell? ⟨w.heap.size, 3, none⟩ = some (.int .i64 (x 3)) := by rw [← hA]; simp
  have BA := Lib.hid bA
  clear hA bA
  refine (ON.out _ (HT.out.below BA.out)).mono ?_
  rintro e w' ⟨rfl, rfl⟩
  go_wp2_with fail
  refine (NO.out _).mono ?_
  rintro e w1 ⟨rfl, hb1⟩
  have s1 := hb1.size
  have B1 := Lib.hid (BA.out.trans (hb1.mono (by omega)))
  have lo : w.heap.size < w1.heap.size := by omega
  have b0 : w1.cell? ⟨w.heap.size, 0, none⟩ = some (.int .i64 ((k : Int) + 1)) := by rw [hb1.cell (p := ⟨w.heap.size, 0, none⟩) (show w.heap.size < A.heap.size by omega)]; exact a0
  have t3 := ((HT.out.below B1.out).2 k k15).2.2.2
  rw [← HN.out] at t3
  have gl := (HT.out.below B1.out).1
  have n0 : (0 : Int) ≤ (N : Int) := by omega
  have n3 : (N : Int) ≤ 3 := by omega
  clear a0 a1 a2 a3 hb1
  go_wp2_with fail
  generalize hW : World.alloc w1 _ = W2
  have bW : Below w1.heap.size w1 W2 := by rw [← hW]; exact (Below.refl _ _).alloc (Nat.le_refl _) _
  have sW : W2.heap.size = w1.heap.size + 1 := by rw [← hW]; simp
  have CN : Hid (∀ j, j < 3 → W2.cell? ⟨w1.heap.size, j, none⟩ = some (.int .i64 (x (j + 1)))) := Lib.hid fun j hj => by
    rw [← hW]
    match j, hj with
    | 0, _ | 1, _ | 2, _ => simp
  have C0 : Hid (W2.cell? ⟨w.heap.size, 0, none⟩ = some (.int .i64 ((k : Int) + 1))) := Lib.hid (by rw [bW.cell (p := ⟨w.heap.size, 0, none⟩) lo]; exact b0)
  have B2 := Lib.hid (B1.out.trans (bW.mono (by omega)))
  have W3 := Lib.hid (Below.refl W2.heap.size W2)
  clear hW bW b0 t3 gl
  go_loopw [3, 20] (fun v i wr => ∃ j : Nat, j ≤ N ∧ i = .int .i64 j ∧ v = .string (T j) ∧ Hid (Below W2.heap.size W2 wr)) (fun _ i _ => N - (intOf i).toNat)
  case atStart => exact ⟨0, by omega, rfl, rfl, W3⟩
  case round =>
    clear W3
    obtain ⟨j, hj, rfl, rfl, HB⟩ := hrel
    by_cases hlt : j < N
    · have j0 : (0 : Int) ≤ (j : Int) := by omega
      have j1 : (j : Int) < (N : Int) := by omega
      have cj : wr.cell? ⟨w1.heap.size, j, none⟩ = some (.int .i64 (x (j + 1))) := by rw [HB.out.cell (p := ⟨w1.heap.size, j, none⟩) (show w1.heap.size < W2.heap.size by omega)]; exact CN.out j (by omega)
      have c0 : wr.cell? ⟨w.heap.size, 0, none⟩ = some (.int .i64 ((k : Int) + 1)) := by rw [HB.out.cell (p := ⟨w.heap.size, 0, none⟩) (show w.heap.size < W2.heap.size by omega)]; exact C0.out
      obtain ⟨bn, hbn⟩ : ∃ b : ByteArray, b = ⟨(Tm.numT ((k : Int) + 1) (x (j + 1))).toArray⟩ := ⟨_, rfl⟩
      obtain ⟨bd, hbd⟩ : ∃ b : ByteArray, b = ⟨(32 :: Tm.numT ((k : Int) + 1) (x (j + 1))).toArray⟩ := ⟨_, rfl⟩
      have FJ := Lib.hid (FN.out j wr hlt (B2.out.trans (HB.out.mono (by omega))))
      rw [← hbn] at FJ
      have A1 := fun w => (ADD.out j (by omega) bn bd hbn hbd w).1
      have A2 := fun w => (ADD.out j (by omega) bn bd hbn hbd w).2
      clear hbn hbd
      go_wp2_with fail
      refine FJ.out.mono ?_
      rintro e w5 ⟨rfl, hb5⟩
      have H5 := Lib.hid (HB.out.trans (hb5.mono HB.out.size))
      clear hb5 cj c0
      go_wp2
      exact ⟨⟨j + 1, by omega, by go_num, rfl, H5⟩, by simp [intOf]; omega⟩
    · obtain rfl : j = N := by omega
      go_wp2
      go_ret
      exact ⟨rfl, B2.out.trans (HB.out.mono (by omega))⟩
end Go.Proofs.YtfnhoiomdjmjhaaDoor

/- The model writes a program. -/
import Derived.Test.YtfnhoiomdjmjhaaDoorFcM
import Derived.Test.YtfnhoiomdjmjhaaDoorMS1
import Derived.Test.YtfnhoiomdjmjhaaDoorTail
import Derived.Test.YtfnhoiomdjmjhaaDoorWS
namespace Go.Proofs.YtfnhoiomdjmjhaaDoor
set_option maxRecDepth 20000
open Go.RowKit
theorem add_lists (x y z : List UInt8) (hz : z = x ++ y) (hx : x.length ≤ 8000) (hy : y.length ≤ 8000) {a b c : ByteArray} (ha : a = ⟨x.toArray⟩) (hb : b = ⟨y.toArray⟩) (hc : c = ⟨z.toArray⟩) (w : World) : (Op.stringOp .add a b).run Tryd.prog w = .ok (.string c) w := by
  subst ha; subst hb; subst hc; subst hz
  exact run_string_add_lists w x y (by omega) (by omega)
set_option maxHeartbeats 4000000 in
theorem sFormatCode (a : Option Addr) (n cL : Nat) (L : List (Nat → Int)) (w : World) (h : OpR w a n cL L) : Calls Tryd.prog 12 #[.slice a n cL] w fun e w' => e = .returned (.string ⟨(Tm.fmtC L).toArray⟩) ∧ Below w.heap.size w w' := by
  have H := Lib.hid h
  obtain rfl : L.length = n := h.1
  have IC := Lib.hid (sIsCode a L.length cL L w h)
  clear h
  unfold Tm.fmtC
  cases hC : Tm.codeOk L with
  | false =>
    rw [hC] at IC
    clear hC
    go_enter Tryd.func12, Tryd.ntmps12
    go_wp2_with fail
    refine IC.out.mono ?_
    rintro e w1 ⟨rfl, hb⟩
    go_wp2
    go_ret
    exact ⟨rfl, hb⟩
  | true =>
    have HO := (Tm.codeOk_iff L).1 hC
    have n80 := HO.1.2
    have OK := Lib.hid HO.2
    have JL := Lib.hid (Tm.joinK_len hC)
    rw [hC] at IC
    rw [if_pos rfl, ← Tm.joinK_all]
    clear hC HO
    obtain ⟨J, hJ⟩ : ∃ J : Nat → ByteArray, ∀ k, J k = ⟨(Tm.joinK L k).toArray⟩ := ⟨_, fun _ => rfl⟩
    rw [← hJ]
    have J0 : J 0 = ⟨#[]⟩ := by rw [hJ, Tm.joinK_zero]
    have HJ := Lib.hid hJ
    clear hJ
    go_enter Tryd.func12, Tryd.ntmps12
    go_wp2_with fail
    refine IC.out.mono ?_
    rintro e w1 ⟨rfl, hb1⟩
    go_wp2_with fail
    go_loopw [3, 11] (fun v i wr => ∃ k : Nat, k ≤ L.length ∧ i = .int .i64 k ∧ v = .string (J k) ∧ Hid (Below w.heap.size w wr)) (fun _ i _ => L.length - (intOf i).toNat)
    case atStart => exact ⟨0, by omega, rfl, by rw [J0], Lib.hid hb1⟩
    case round =>
      clear hb1
      obtain ⟨k, hk, rfl, rfl, HB⟩ := hrel
      by_cases hlt : k < L.length
      · obtain ⟨-, -, -, y⟩ := H.out.below HB.out
        rcases y with h0 | ⟨b, oo, rfl, hbl, hc⟩
        · omega
        obtain ⟨x, hx, g1⟩ := OpR.op hc hlt
        have hx2 : Tm.opOk L.length x = true := by rw [hx]; exact OK.out k hlt
        have oi := (Tm.opOk_iff _ _).1 hx2
        have XL := Lib.hid (Tm.argT_len hx2 (by omega))
        have jl := JL.out k hk
        have NL := Lib.hid (Tm.opL_len (x 0))
        obtain ⟨P, hP⟩ : ∃ P, P = if k = 0 then [] else Tm.joinK L k ++ [59] := ⟨_, rfl⟩
        have FN : Tm.joinK L (k + 1) = P ++ Tm.opT x := by
          rw [Tm.joinK_succ L k hlt, ← hx, hP]
          by_cases h : k = 0
          · rw [if_pos h, if_pos h]; rfl
          · rw [if_neg h, if_neg h]
        have lP : P.length ≤ 3300 := by
          rw [hP]
          split
          · simp
          · rw [List.length_append, List.length_singleton]; omega
        obtain ⟨p0, p1, p2, p3⟩ := g1
        obtain ⟨BP, hBP⟩ : ∃ b : ByteArray, b = ⟨P.toArray⟩ := ⟨_, rfl⟩
        obtain ⟨BN, hBN⟩ : ∃ b : ByteArray, b = Tm.opName (x 0) := ⟨_, rfl⟩
        have hBN2 : BN = ⟨(Tm.opL (x 0)).toArray⟩ := by rw [hBN, Tm.opL_name]
        have ON := Lib.hid (fun w => sOpName (x 0) w)
        rw [← hBN] at ON
        obtain ⟨B1, hB1⟩ : ∃ b : ByteArray, b = ⟨(P ++ Tm.opL (x 0)).toArray⟩ := ⟨_, rfl⟩
        have A1 := fun w => add_lists P (Tm.opL (x 0)) _ rfl (by omega) (by have := NL.out; omega) hBP hBN2 hB1 w
        have A0 : 0 < k → ∀ w, (Op.stringOp .add (J k) ⟨#[59]⟩).run Tryd.prog w = .ok (.string BP) w := fun h w =>
          add_lists (Tm.joinK L k) [59] P (by rw [hP, if_neg (by omega)]) (by omega) (by simp) (HJ.out k) rfl hBP w
        have AZ : k = 0 → J k = BP := fun h => by rw [hBP, hP, if_pos h, h, J0]
        have lN := NL.out
        clear hx hP hc NL hBN
        rcases Nat.eq_zero_or_pos k with hz | hz
        · have AZ := AZ hz
          rw [AZ]
          have kz : ¬ (0 : Int) < (k : Int) := by omega
          clear A0 AZ hz
          have cc : x 0 = 1 ∨ x 0 = 10 ∨ x 0 = 13 ∨ x 0 = 14 ∨ (x 0 ≠ 1 ∧ x 0 ≠ 10 ∧ x 0 ≠ 13 ∧ x 0 ≠ 14) := by omega
          rcases cc with h1 | h1 | h1 | h1 | ⟨h1, h2, h3, h4⟩
          · have hr := oi.2.2.2.1 h1
            have lw : (Tm.fmtW (Tm.wordL (x 1) 9)).length ≤ 9 := Nat.le_trans Tm.fmtW_len (by rw [Tm.wordL_length]; exact Nat.le_refl _)
            obtain ⟨BW, hBW⟩ : ∃ b : ByteArray, b = ⟨(Tm.fmtW (Tm.wordL (x 1) 9)).toArray⟩ := ⟨_, rfl⟩
            obtain ⟨B2, hB2⟩ : ∃ b : ByteArray, b = ⟨((P ++ Tm.opL (x 0)) ++ [32]).toArray⟩ := ⟨_, rfl⟩
            have A2 := fun w => add_lists (P ++ Tm.opL (x 0)) [32] _ rfl (by simp; omega) (by simp) hB1 rfl hB2 w
            obtain ⟨B3, hB3⟩ : ∃ b : ByteArray, b = ⟨(((P ++ Tm.opL (x 0)) ++ [32]) ++ (Tm.fmtW (Tm.wordL (x 1) 9))).toArray⟩ := ⟨_, rfl⟩
            have A3 := fun w => add_lists ((P ++ Tm.opL (x 0)) ++ [32]) (Tm.fmtW (Tm.wordL (x 1) 9)) _ rfl (by simp; omega) (by omega) hB2 hBW hB3 w
            have BF : J (k + 1) = B3 := by rw [HJ.out, FN, Tm.opT_one h1, ← h1, hB3]; try simp
            have WL := Lib.hid (fun w => sWordL (x 1) 9 w (by omega) (by omega) (by omega))
            have FW := Lib.hid (fun a c (w : World) (h : Ints w a (Tm.wordL (x 1) 9).length c (Tm.wordL (x 1) 9)) => sFormatWord a _ c _ w h)
            rw [← hBW] at FW
            rw [h1] at ON
            clear FN hBP hBN2 oi hx2 lP lN jl XL hr hB1 hB2 hB3 hBW lw
            go_wp2_with fail
            refine (ON.out _).mono ?_
            rintro e w2 ⟨rfl, hb2⟩
            obtain ⟨q2, rfl⟩ := gw_of_below hb2
            clear hb2
            go_wp2_with fail
            refine (WL.out _).mono ?_
            intro r w3 hh
            unfold RetI at hh
            obtain ⟨aw, cw, rfl, ow, hb3, -⟩ := hh
            have I3 := Lib.hid (Ints.of_own ow)
            obtain ⟨q3, rfl⟩ := gw_of_below hb3
            rw [gw_gw] at I3
            clear hb3 ow
            go_wp2_with fail
            refine (FW.out aw cw _ I3.out).mono ?_
            rintro e w4 ⟨rfl, hb4⟩
            obtain ⟨q4, rfl⟩ := gw_of_below hb4
            clear hb4
            go_wp2
            exact ⟨⟨k + 1, by omega, by go_num, by rw [BF], Lib.hid (by have b1 := HB.out; have hs := b1.size; (repeat' (first | (with_reducible exact Below.refl _ _) | (with_reducible assumption) | (with_reducible refine below_drewN ?_ _) | (with_reducible refine Below.drew ?_) | (with_reducible refine Below.alloc ?_ ?_ _) | (with_reducible refine Below.setCell ?_ ?_ _) | (with_reducible refine below_gw ?_ ?_ _) | (with_reducible refine below_via ?_ ‹Below _ _ _› ?_) | (with_reducible exact Nat.le_refl _) | (with_reducible refine le_gw ?_ _) | (with_reducible refine le_alloc ?_ _) | (with_reducible refine le_setCell ?_ _ _) | (with_reducible refine le_drew ?_) | (with_reducible refine le_drewN ?_ _) | go_size)))⟩, by simp [intOf]; omega⟩
          · have hr : -99 ≤ x 1 ∧ x 1 ≤ 99 := by omega
            have lw := Tm.itoa_len hr
            obtain ⟨BI, hBI⟩ : ∃ b : ByteArray, b = ⟨(Lib.itoa (x 1)).toArray⟩ := ⟨_, rfl⟩
            obtain ⟨B2, hB2⟩ : ∃ b : ByteArray, b = ⟨((P ++ Tm.opL (x 0)) ++ [32]).toArray⟩ := ⟨_, rfl⟩
            have A2 := fun w => add_lists (P ++ Tm.opL (x 0)) [32] _ rfl (by simp; omega) (by simp) hB1 rfl hB2 w
            obtain ⟨B3, hB3⟩ : ∃ b : ByteArray, b = ⟨(((P ++ Tm.opL (x 0)) ++ [32]) ++ (Lib.itoa (x 1))).toArray⟩ := ⟨_, rfl⟩
            have A3 := fun w => add_lists ((P ++ Tm.opL (x 0)) ++ [32]) (Lib.itoa (x 1)) _ rfl (by simp; omega) (by omega) hB2 hBI hB3 w
            have BF : J (k + 1) = B3 := by rw [HJ.out, FN, Tm.opT_jump (x := x) (by omega), hB3]; try simp
            have NM := Lib.hid (fun w => sNum (x 1) w hr)
            rw [← hBI] at NM
            rw [h1] at ON
            clear FN hBP hBN2 oi hx2 lP lN jl XL hr hB1 hB2 hB3 hBI lw
            go_wp2_with fail
            refine (ON.out _).mono ?_
            rintro e w2 ⟨rfl, hb2⟩
            obtain ⟨q2, rfl⟩ := gw_of_below hb2
            clear hb2
            go_wp2_with fail
            refine (NM.out _).mono ?_
            rintro e w3 ⟨rfl, hb3⟩
            obtain ⟨q3, rfl⟩ := gw_of_below hb3
            clear hb3
            go_wp2
            exact ⟨⟨k + 1, by omega, by go_num, by rw [BF], Lib.hid (by have b1 := HB.out; have hs := b1.size; (repeat' (first | (with_reducible exact Below.refl _ _) | (with_reducible assumption) | (with_reducible refine below_drewN ?_ _) | (with_reducible refine Below.drew ?_) | (with_reducible refine Below.alloc ?_ ?_ _) | (with_reducible refine Below.setCell ?_ ?_ _) | (with_reducible refine below_gw ?_ ?_ _) | (with_reducible refine below_via ?_ ‹Below _ _ _› ?_) | (with_reducible exact Nat.le_refl _) | (with_reducible refine le_gw ?_ _) | (with_reducible refine le_alloc ?_ _) | (with_reducible refine le_setCell ?_ _ _) | (with_reducible refine le_drew ?_) | (with_reducible refine le_drewN ?_ _) | go_size)))⟩, by simp [intOf]; omega⟩
          · have hr : -99 ≤ x 1 ∧ x 1 ≤ 99 := by omega
            have lw := Tm.itoa_len hr
            obtain ⟨BI, hBI⟩ : ∃ b : ByteArray, b = ⟨(Lib.itoa (x 1)).toArray⟩ := ⟨_, rfl⟩
            obtain ⟨B2, hB2⟩ : ∃ b : ByteArray, b = ⟨((P ++ Tm.opL (x 0)) ++ [32]).toArray⟩ := ⟨_, rfl⟩
            have A2 := fun w => add_lists (P ++ Tm.opL (x 0)) [32] _ rfl (by simp; omega) (by simp) hB1 rfl hB2 w
            obtain ⟨B3, hB3⟩ : ∃ b : ByteArray, b = ⟨(((P ++ Tm.opL (x 0)) ++ [32]) ++ (Lib.itoa (x 1))).toArray⟩ := ⟨_, rfl⟩
            have A3 := fun w => add_lists ((P ++ Tm.opL (x 0)) ++ [32]) (Lib.itoa (x 1)) _ rfl (by simp; omega) (by omega) hB2 hBI hB3 w
            have BF : J (k + 1) = B3 := by rw [HJ.out, FN, Tm.opT_jump (x := x) (by omega), hB3]; try simp
            have NM := Lib.hid (fun w => sNum (x 1) w hr)
            rw [← hBI] at NM
            rw [h1] at ON
            clear FN hBP hBN2 oi hx2 lP lN jl XL hr hB1 hB2 hB3 hBI lw
            go_wp2_with fail
            refine (ON.out _).mono ?_
            rintro e w2 ⟨rfl, hb2⟩
            obtain ⟨q2, rfl⟩ := gw_of_below hb2
            clear hb2
            go_wp2_with fail
            refine (NM.out _).mono ?_
            rintro e w3 ⟨rfl, hb3⟩
            obtain ⟨q3, rfl⟩ := gw_of_below hb3
            clear hb3
            go_wp2
            exact ⟨⟨k + 1, by omega, by go_num, by rw [BF], Lib.hid (by have b1 := HB.out; have hs := b1.size; (repeat' (first | (with_reducible exact Below.refl _ _) | (with_reducible assumption) | (with_reducible refine below_drewN ?_ _) | (with_reducible refine Below.drew ?_) | (with_reducible refine Below.alloc ?_ ?_ _) | (with_reducible refine Below.setCell ?_ ?_ _) | (with_reducible refine below_gw ?_ ?_ _) | (with_reducible refine below_via ?_ ‹Below _ _ _› ?_) | (with_reducible exact Nat.le_refl _) | (with_reducible refine le_gw ?_ _) | (with_reducible refine le_alloc ?_ _) | (with_reducible refine le_setCell ?_ _ _) | (with_reducible refine le_drew ?_) | (with_reducible refine le_drewN ?_ _) | go_size)))⟩, by simp [intOf]; omega⟩
          · have hr := oi.2.2.2.2.2.2.1 h1
            have r1 : -99 ≤ x 1 ∧ x 1 ≤ 99 := by omega
            have r2 : -99 ≤ x 2 ∧ x 2 ≤ 99 := by omega
            have r3 : -99 ≤ x 3 ∧ x 3 ≤ 99 := by omega
            have lw1 := Tm.itoa_len r1
            have lw2 := Tm.itoa_len r2
            have lw3 := Tm.itoa_len r3
            obtain ⟨BI1, hBI1⟩ : ∃ b : ByteArray, b = ⟨(Lib.itoa (x 1)).toArray⟩ := ⟨_, rfl⟩
            obtain ⟨BI2, hBI2⟩ : ∃ b : ByteArray, b = ⟨(Lib.itoa (x 2)).toArray⟩ := ⟨_, rfl⟩
            obtain ⟨BI3, hBI3⟩ : ∃ b : ByteArray, b = ⟨(Lib.itoa (x 3)).toArray⟩ := ⟨_, rfl⟩
            obtain ⟨B2, hB2⟩ : ∃ b : ByteArray, b = ⟨((P ++ Tm.opL (x 0)) ++ [32]).toArray⟩ := ⟨_, rfl⟩
            have A2 := fun w => add_lists (P ++ Tm.opL (x 0)) [32] _ rfl (by simp; omega) (by simp) hB1 rfl hB2 w
            obtain ⟨B3, hB3⟩ : ∃ b : ByteArray, b = ⟨(((P ++ Tm.opL (x 0)) ++ [32]) ++ (Lib.itoa (x 1))).toArray⟩ := ⟨_, rfl⟩
            have A3 := fun w => add_lists ((P ++ Tm.opL (x 0)) ++ [32]) (Lib.itoa (x 1)) _ rfl (by simp; omega) (by omega) hB2 hBI1 hB3 w
            obtain ⟨B4, hB4⟩ : ∃ b : ByteArray, b = ⟨((((P ++ Tm.opL (x 0)) ++ [32]) ++ (Lib.itoa (x 1))) ++ [32]).toArray⟩ := ⟨_, rfl⟩
            have A4 := fun w => add_lists (((P ++ Tm.opL (x 0)) ++ [32]) ++ (Lib.itoa (x 1))) [32] _ rfl (by simp; omega) (by simp) hB3 rfl hB4 w
            obtain ⟨B5, hB5⟩ : ∃ b : ByteArray, b = ⟨(((((P ++ Tm.opL (x 0)) ++ [32]) ++ (Lib.itoa (x 1))) ++ [32]) ++ (Lib.itoa (x 2))).toArray⟩ := ⟨_, rfl⟩
            have A5 := fun w => add_lists ((((P ++ Tm.opL (x 0)) ++ [32]) ++ (Lib.itoa (x 1))) ++ [32]) (Lib.itoa (x 2)) _ rfl (by simp; omega) (by omega) hB4 hBI2 hB5 w
            obtain ⟨B6, hB6⟩ : ∃ b : ByteArray, b = ⟨((((((P ++ Tm.opL (x 0)) ++ [32]) ++ (Lib.itoa (x 1))) ++ [32]) ++ (Lib.itoa (x 2))) ++ [32]).toArray⟩ := ⟨_, rfl⟩
            have A6 := fun w => add_lists (((((P ++ Tm.opL (x 0)) ++ [32]) ++ (Lib.itoa (x 1))) ++ [32]) ++ (Lib.itoa (x 2))) [32] _ rfl (by simp; omega) (by simp) hB5 rfl hB6 w
            obtain ⟨B7, hB7⟩ : ∃ b : ByteArray, b = ⟨(((((((P ++ Tm.opL (x 0)) ++ [32]) ++ (Lib.itoa (x 1))) ++ [32]) ++ (Lib.itoa (x 2))) ++ [32]) ++ (Lib.itoa (x 3))).toArray⟩ := ⟨_, rfl⟩
            have A7 := fun w => add_lists ((((((P ++ Tm.opL (x 0)) ++ [32]) ++ (Lib.itoa (x 1))) ++ [32]) ++ (Lib.itoa (x 2))) ++ [32]) (Lib.itoa (x 3)) _ rfl (by simp; omega) (by omega) hB6 hBI3 hB7 w
            have BF : J (k + 1) = B7 := by rw [HJ.out, FN, Tm.opT_branch h1, ← h1, hB7]; try simp
            have NM1 := Lib.hid (fun w => sNum (x 1) w r1)
            have NM2 := Lib.hid (fun w => sNum (x 2) w r2)
            have NM3 := Lib.hid (fun w => sNum (x 3) w r3)
            rw [← hBI1] at NM1
            rw [← hBI2] at NM2
            rw [← hBI3] at NM3
            rw [h1] at ON
            clear FN hBP hBN2 oi hx2 lP lN jl XL hr r1 r2 r3 lw1 lw2 lw3 hB1 hB2 hB3 hB4 hB5 hB6 hB7 hBI1 hBI2 hBI3
            go_wp2_with fail
            refine (ON.out _).mono ?_
            rintro e w2 ⟨rfl, hb2⟩
            obtain ⟨q2, rfl⟩ := gw_of_below hb2
            clear hb2
            have s0 : wr.heap.size < (gw (wr.alloc (.cells #[.int .i64 14, .int .i64 (x 1), .int .i64 (x 2), .int .i64 (x 3)] 35)) q2).heap.size := by have := (below_gw (Below.refl _ _) (Nat.le_refl _) q2 : Below (wr.alloc (.cells #[.int .i64 14, .int .i64 (x 1), .int .i64 (x 2), .int .i64 (x 3)] 35)).heap.size (wr.alloc (.cells #[.int .i64 14, .int .i64 (x 1), .int .i64 (x 2), .int .i64 (x 3)] 35)) (gw (wr.alloc (.cells #[.int .i64 14, .int .i64 (x 1), .int .i64 (x 2), .int .i64 (x 3)] 35)) q2)).size; simp at this ⊢; omega
            have SB : Hid (∀ W : World, Below (gw (wr.alloc (.cells #[.int .i64 14, .int .i64 (x 1), .int .i64 (x 2), .int .i64 (x 3)] 35)) q2).heap.size (gw (wr.alloc (.cells #[.int .i64 14, .int .i64 (x 1), .int .i64 (x 2), .int .i64 (x 3)] 35)) q2) W → W.cell? ⟨wr.heap.size, 1, none⟩ = some (.int .i64 (x 1)) ∧ W.cell? ⟨wr.heap.size, 2, none⟩ = some (.int .i64 (x 2)) ∧ W.cell? ⟨wr.heap.size, 3, none⟩ = some (.int .i64 (x 3))) := Lib.hid (fun W hW => by
              have b0 : Below (wr.alloc (.cells #[.int .i64 14, .int .i64 (x 1), .int .i64 (x 2), .int .i64 (x 3)] 35)).heap.size (wr.alloc (.cells #[.int .i64 14, .int .i64 (x 1), .int .i64 (x 2), .int .i64 (x 3)] 35)) (gw (wr.alloc (.cells #[.int .i64 14, .int .i64 (x 1), .int .i64 (x 2), .int .i64 (x 3)] 35)) q2) := below_gw (Below.refl _ _) (Nat.le_refl _) q2
              have lt : wr.heap.size < (wr.alloc (.cells #[.int .i64 14, .int .i64 (x 1), .int .i64 (x 2), .int .i64 (x 3)] 35)).heap.size := by simp
              refine ⟨?_, ?_, ?_⟩ <;> (rw [hW.cell (p := ⟨wr.heap.size, _, none⟩) s0, b0.cell (p := ⟨wr.heap.size, _, none⟩) lt]; simp))
            have BB : Hid (Below w.heap.size w (gw (wr.alloc (.cells #[.int .i64 14, .int .i64 (x 1), .int .i64 (x 2), .int .i64 (x 3)] 35)) q2)) := Lib.hid (by have b1 := HB.out; have hs := b1.size; (repeat' (first | (with_reducible exact Below.refl _ _) | (with_reducible assumption) | (with_reducible refine below_drewN ?_ _) | (with_reducible refine Below.drew ?_) | (with_reducible refine Below.alloc ?_ ?_ _) | (with_reducible refine Below.setCell ?_ ?_ _) | (with_reducible refine below_gw ?_ ?_ _) | (with_reducible refine below_via ?_ ‹Below _ _ _› ?_) | (with_reducible exact Nat.le_refl _) | (with_reducible refine le_gw ?_ _) | (with_reducible refine le_alloc ?_ _) | (with_reducible refine le_setCell ?_ _ _) | (with_reducible refine le_drew ?_) | (with_reducible refine le_drewN ?_ _) | go_size)))
            go_wp2_with fail
            generalize gw (wr.alloc (.cells #[.int .i64 14, .int .i64 (x 1), .int .i64 (x 2), .int .i64 (x 3)] 35)) q2 = W0 at SB BB s0 ⊢
            have HS := Lib.hid (SB.out _ (Below.drew (Below.refl _ _)))
            refine wp_region_T [16] (fun W : World => W.cell? ⟨wr.heap.size, 1, none⟩ = some (.int .i64 (x 1)) ∧ W.cell? ⟨wr.heap.size, 2, none⟩ = some (.int .i64 (x 2)) ∧ W.cell? ⟨wr.heap.size, 3, none⟩ = some (.int .i64 (x 3))) (by kernel_rfl) ?_
            refine wpAnyT_take (i := 0) (v := ?v1) rfl (by kernel_rfl) (by kernel_rfl) (by kernel_rfl) (by kernel_rfl) (by kernel_rfl) (fun _ _ _ h => h) HS.out rfl ?hy1 ?hh1
            case hy1 => (intro W hW; obtain ⟨h1, h2, h3⟩ := hW; go_simp; try with_reducible rfl)
            case hh1 =>
            (try simp only [Act.put])
            refine wpAnyT_take (i := 1) (v := ?v2) rfl (by kernel_rfl) (by kernel_rfl) (by kernel_rfl) (by kernel_rfl) (by kernel_rfl) (fun _ _ _ h => h) HS.out rfl ?hy2 ?hh2
            case hy2 => (intro W hW; obtain ⟨h1, h2, h3⟩ := hW; go_simp; try with_reducible rfl)
            case hh2 =>
            (try simp only [Act.put])
            refine wpAnyT_take (i := 2) (v := ?v3) rfl (by kernel_rfl) (by kernel_rfl) (by kernel_rfl) (by kernel_rfl) (by kernel_rfl) (fun _ _ _ h => h) HS.out rfl ?hy3 ?hh3
            case hy3 => (intro W hW; obtain ⟨h1, h2, h3⟩ := hW; go_simp; try with_reducible rfl)
            case hh3 =>
            (try simp only [Act.put])
            refine wpAnyT_take (i := 3) (v := ?v4) rfl (by kernel_rfl) (by kernel_rfl) (by kernel_rfl) (by kernel_rfl) (by kernel_rfl) (fun _ _ _ h => h) HS.out rfl ?hy4 ?hh4
            case hy4 => (intro W hW; obtain ⟨h1, h2, h3⟩ := hW; go_simp; try with_reducible rfl)
            case hh4 =>
            (try simp only [Act.put])
            refine wpAnyT_take (i := 7) (v := ?v5) rfl (by kernel_rfl) (by kernel_rfl) (by kernel_rfl) (by kernel_rfl) (by kernel_rfl) (fun _ _ _ h => h) HS.out rfl ?hy5 ?hh5
            case hy5 => (intro W hW; obtain ⟨h1, h2, h3⟩ := hW; go_simp; try with_reducible rfl)
            case hh5 =>
            (try simp only [Act.put])
            refine wpAnyT_take (i := 8) (v := ?v6) rfl (by kernel_rfl) (by kernel_rfl) (by kernel_rfl) (by kernel_rfl) (by kernel_rfl) (fun _ _ _ h => h) HS.out rfl ?hy6 ?hh6
            case hy6 => (intro W hW; obtain ⟨h1, h2, h3⟩ := hW; go_simp; try with_reducible rfl)
            case hh6 =>
            (try simp only [Act.put])
            refine wpAnyT_take (i := 12) (v := ?v7) rfl (by kernel_rfl) (by kernel_rfl) (by kernel_rfl) (by kernel_rfl) (by kernel_rfl) (fun _ _ _ h => h) HS.out rfl ?hy7 ?hh7
            case hy7 => (intro W hW; obtain ⟨h1, h2, h3⟩ := hW; go_simp; try with_reducible rfl)
            case hh7 =>
            (try simp only [Act.put])
            refine wpAnyT_take (i := 13) (v := ?v8) rfl (by kernel_rfl) (by kernel_rfl) (by kernel_rfl) (by kernel_rfl) (by kernel_rfl) (fun _ _ _ h => h) HS.out rfl ?hy8 ?hh8
            case hy8 => (intro W hW; obtain ⟨h1, h2, h3⟩ := hW; go_simp; try with_reducible rfl)
            case hh8 =>
            (try simp only [Act.put])
            refine wpAnyT_only (i := 4) rfl (by kernel_rfl) (fun K hK => ?_)
            go_simp
            go_at_call 29
            refine (NM1.out _).mono ?_
            rintro e w4 ⟨rfl, hb⟩
            have C1 : Hid (Below W0.heap.size W0 w4) := Lib.hid ((Below.drew (Below.refl W0.heap.size W0)).trans (hb.mono ((Below.drew (Below.refl W0.heap.size W0))).size))
            have HS1 := Lib.hid (SB.out _ C1.out)
            refine hK _ _ (fun _ _ => HS1.out) ?_
            clear hK K hb
            (try simp only [Act.put])
            refine wpAnyT_take (i := 5) (v := ?v9) rfl (by kernel_rfl) (by kernel_rfl) (by kernel_rfl) (by kernel_rfl) (by kernel_rfl) (fun _ _ _ h => h) HS1.out rfl ?hy9 ?hh9
            case hy9 => (intro W hW; obtain ⟨h1, h2, h3⟩ := hW; go_simp; try with_reducible rfl)
            case hh9 =>
            (try simp only [Act.put])
            refine wpAnyT_take (i := 6) (v := ?v10) rfl (by kernel_rfl) (by kernel_rfl) (by kernel_rfl) (by kernel_rfl) (by kernel_rfl) (fun _ _ _ h => h) HS1.out rfl ?hy10 ?hh10
            case hy10 => (intro W hW; obtain ⟨h1, h2, h3⟩ := hW; go_simp; try with_reducible rfl)
            case hh10 =>
            (try simp only [Act.put])
            refine wpAnyT_only (i := 9) rfl (by kernel_rfl) (fun K hK => ?_)
            go_simp
            go_at_call 29
            refine (NM2.out _).mono ?_
            rintro e w5 ⟨rfl, hb⟩
            have C2 : Hid (Below W0.heap.size W0 w5) := Lib.hid (C1.out.trans (hb.mono (C1.out).size))
            have HS2 := Lib.hid (SB.out _ C2.out)
            refine hK _ _ (fun _ _ => HS2.out) ?_
            clear hK K hb
            (try simp only [Act.put])
            refine wpAnyT_take (i := 10) (v := ?v11) rfl (by kernel_rfl) (by kernel_rfl) (by kernel_rfl) (by kernel_rfl) (by kernel_rfl) (fun _ _ _ h => h) HS2.out rfl ?hy11 ?hh11
            case hy11 => (intro W hW; obtain ⟨h1, h2, h3⟩ := hW; go_simp; try with_reducible rfl)
            case hh11 =>
            (try simp only [Act.put])
            refine wpAnyT_take (i := 11) (v := ?v12) rfl (by kernel_rfl) (by kernel_rfl) (by kernel_rfl) (by kernel_rfl) (by kernel_rfl) (fun _ _ _ h => h) HS2.out rfl ?hy12 ?hh12
            case hy12 => (intro W hW; obtain ⟨h1, h2, h3⟩ := hW; go_simp; try with_reducible rfl)
            case hh12 =>
            (try simp only [Act.put])
            refine wpAnyT_only (i := 14) rfl (by kernel_rfl) (fun K hK => ?_)
            go_simp
            go_at_call 29
            refine (NM3.out _).mono ?_
            rintro e w6 ⟨rfl, hb⟩
            have C3 : Hid (Below W0.heap.size W0 w6) := Lib.hid (C2.out.trans (hb.mono (C2.out).size))
            have HS3 := Lib.hid (SB.out _ C3.out)
            refine hK _ _ (fun _ _ => HS3.out) ?_
            clear hK K hb
            (try simp only [Act.put])
            refine wpAnyT_take (i := 15) (v := ?v13) rfl (by kernel_rfl) (by kernel_rfl) (by kernel_rfl) (by kernel_rfl) (by kernel_rfl) (fun _ _ _ h => h) HS3.out rfl ?hy13 ?hh13
            case hy13 => (intro W hW; obtain ⟨h1, h2, h3⟩ := hW; go_simp; try with_reducible rfl)
            case hh13 =>
            (try simp only [Act.put])
            refine wpAnyT_only (i := 16) rfl (by kernel_rfl) (fun K hK => ?_)
            go_simp
            refine hK _ _ (fun h => (h (by decide)).elim) ?_
            clear hK K
            (try simp only [Act.put])
            refine wpAnyT_done (by kernel_rfl) ?_ _
            go_wp2
            exact ⟨⟨k + 1, by omega, by go_num, by rw [BF], Lib.hid (BB.out.trans (C3.out.mono (by have := BB.out.size; omega)))⟩, by simp [intOf]; omega⟩
          · have BF : J (k + 1) = B1 := by rw [HJ.out, FN, Tm.opT_none h1 h2 h3 h4, hB1]; try simp
            have c1 : (x 0 == 1) = false := by simpa using h1
            have c2 : (x 0 == 10) = false := by simpa using h2
            have c3 : (x 0 == 13) = false := by simpa using h3
            have c4 : (x 0 == 14) = false := by simpa using h4
            clear FN hBP hBN2 oi hx2 lP lN jl XL hB1
            go_wp2_with fail
            refine (ON.out _).mono ?_
            rintro e w2 ⟨rfl, hb2⟩
            obtain ⟨q2, rfl⟩ := gw_of_below hb2
            clear hb2
            go_wp2
            exact ⟨⟨k + 1, by omega, by go_num, by rw [BF], Lib.hid (by have b1 := HB.out; have hs := b1.size; (repeat' (first | (with_reducible exact Below.refl _ _) | (with_reducible assumption) | (with_reducible refine below_drewN ?_ _) | (with_reducible refine Below.drew ?_) | (with_reducible refine Below.alloc ?_ ?_ _) | (with_reducible refine Below.setCell ?_ ?_ _) | (with_reducible refine below_gw ?_ ?_ _) | (with_reducible refine below_via ?_ ‹Below _ _ _› ?_) | (with_reducible exact Nat.le_refl _) | (with_reducible refine le_gw ?_ _) | (with_reducible refine le_alloc ?_ _) | (with_reducible refine le_setCell ?_ _ _) | (with_reducible refine le_drew ?_) | (with_reducible refine le_drewN ?_ _) | go_size)))⟩, by simp [intOf]; omega⟩
        · have A0 := A0 hz
          have kz : (0 : Int) < (k : Int) := by omega
          clear AZ hz
          have cc : x 0 = 1 ∨ x 0 = 10 ∨ x 0 = 13 ∨ x 0 = 14 ∨ (x 0 ≠ 1 ∧ x 0 ≠ 10 ∧ x 0 ≠ 13 ∧ x 0 ≠ 14) := by omega
          rcases cc with h1 | h1 | h1 | h1 | ⟨h1, h2, h3, h4⟩
          · have hr := oi.2.2.2.1 h1
            have lw : (Tm.fmtW (Tm.wordL (x 1) 9)).length ≤ 9 := Nat.le_trans Tm.fmtW_len (by rw [Tm.wordL_length]; exact Nat.le_refl _)
            obtain ⟨BW, hBW⟩ : ∃ b : ByteArray, b = ⟨(Tm.fmtW (Tm.wordL (x 1) 9)).toArray⟩ := ⟨_, rfl⟩
            obtain ⟨B2, hB2⟩ : ∃ b : ByteArray, b = ⟨((P ++ Tm.opL (x 0)) ++ [32]).toArray⟩ := ⟨_, rfl⟩
            have A2 := fun w => add_lists (P ++ Tm.opL (x 0)) [32] _ rfl (by simp; omega) (by simp) hB1 rfl hB2 w
            obtain ⟨B3, hB3⟩ : ∃ b : ByteArray, b = ⟨(((P ++ Tm.opL (x 0)) ++ [32]) ++ (Tm.fmtW (Tm.wordL (x 1) 9))).toArray⟩ := ⟨_, rfl⟩
            have A3 := fun w => add_lists ((P ++ Tm.opL (x 0)) ++ [32]) (Tm.fmtW (Tm.wordL (x 1) 9)) _ rfl (by simp; omega) (by omega) hB2 hBW hB3 w
            have BF : J (k + 1) = B3 := by rw [HJ.out, FN, Tm.opT_one h1, ← h1, hB3]; try simp
            have WL := Lib.hid (fun w => sWordL (x 1) 9 w (by omega) (by omega) (by omega))
            have FW := Lib.hid (fun a c (w : World) (h : Ints w a (Tm.wordL (x 1) 9).length c (Tm.wordL (x 1) 9)) => sFormatWord a _ c _ w h)
            rw [← hBW] at FW
            rw [h1] at ON
            clear FN hBP hBN2 oi hx2 lP lN jl XL hr hB1 hB2 hB3 hBW lw
            go_wp2_with fail
            refine (ON.out _).mono ?_
            rintro e w2 ⟨rfl, hb2⟩
            obtain ⟨q2, rfl⟩ := gw_of_below hb2
            clear hb2
            go_wp2_with fail
            refine (WL.out _).mono ?_
            intro r w3 hh
            unfold RetI at hh
            obtain ⟨aw, cw, rfl, ow, hb3, -⟩ := hh
            have I3 := Lib.hid (Ints.of_own ow)
            obtain ⟨q3, rfl⟩ := gw_of_below hb3
            rw [gw_gw] at I3
            clear hb3 ow
            go_wp2_with fail
            refine (FW.out aw cw _ I3.out).mono ?_
            rintro e w4 ⟨rfl, hb4⟩
            obtain ⟨q4, rfl⟩ := gw_of_below hb4
            clear hb4
            go_wp2
            exact ⟨⟨k + 1, by omega, by go_num, by rw [BF], Lib.hid (by have b1 := HB.out; have hs := b1.size; (repeat' (first | (with_reducible exact Below.refl _ _) | (with_reducible assumption) | (with_reducible refine below_drewN ?_ _) | (with_reducible refine Below.drew ?_) | (with_reducible refine Below.alloc ?_ ?_ _) | (with_reducible refine Below.setCell ?_ ?_ _) | (with_reducible refine below_gw ?_ ?_ _) | (with_reducible refine below_via ?_ ‹Below _ _ _› ?_) | (with_reducible exact Nat.le_refl _) | (with_reducible refine le_gw ?_ _) | (with_reducible refine le_alloc ?_ _) | (with_reducible refine le_setCell ?_ _ _) | (with_reducible refine le_drew ?_) | (with_reducible refine le_drewN ?_ _) | go_size)))⟩, by simp [intOf]; omega⟩
          · have hr : -99 ≤ x 1 ∧ x 1 ≤ 99 := by omega
            have lw := Tm.itoa_len hr
            obtain ⟨BI, hBI⟩ : ∃ b : ByteArray, b = ⟨(Lib.itoa (x 1)).toArray⟩ := ⟨_, rfl⟩
            obtain ⟨B2, hB2⟩ : ∃ b : ByteArray, b = ⟨((P ++ Tm.opL (x 0)) ++ [32]).toArray⟩ := ⟨_, rfl⟩
            have A2 := fun w => add_lists (P ++ Tm.opL (x 0)) [32] _ rfl (by simp; omega) (by simp) hB1 rfl hB2 w
            obtain ⟨B3, hB3⟩ : ∃ b : ByteArray, b = ⟨(((P ++ Tm.opL (x 0)) ++ [32]) ++ (Lib.itoa (x 1))).toArray⟩ := ⟨_, rfl⟩
            have A3 := fun w => add_lists ((P ++ Tm.opL (x 0)) ++ [32]) (Lib.itoa (x 1)) _ rfl (by simp; omega) (by omega) hB2 hBI hB3 w
            have BF : J (k + 1) = B3 := by rw [HJ.out, FN, Tm.opT_jump (x := x) (by omega), hB3]; try simp
            have NM := Lib.hid (fun w => sNum (x 1) w hr)
            rw [← hBI] at NM
            rw [h1] at ON
            clear FN hBP hBN2 oi hx2 lP lN jl XL hr hB1 hB2 hB3 hBI lw
            go_wp2_with fail
            refine (ON.out _).mono ?_
            rintro e w2 ⟨rfl, hb2⟩
            obtain ⟨q2, rfl⟩ := gw_of_below hb2
            clear hb2
            go_wp2_with fail
            refine (NM.out _).mono ?_
            rintro e w3 ⟨rfl, hb3⟩
            obtain ⟨q3, rfl⟩ := gw_of_below hb3
            clear hb3
            go_wp2
            exact ⟨⟨k + 1, by omega, by go_num, by rw [BF], Lib.hid (by have b1 := HB.out; have hs := b1.size; (repeat' (first | (with_reducible exact Below.refl _ _) | (with_reducible assumption) | (with_reducible refine below_drewN ?_ _) | (with_reducible refine Below.drew ?_) | (with_reducible refine Below.alloc ?_ ?_ _) | (with_reducible refine Below.setCell ?_ ?_ _) | (with_reducible refine below_gw ?_ ?_ _) | (with_reducible refine below_via ?_ ‹Below _ _ _› ?_) | (with_reducible exact Nat.le_refl _) | (with_reducible refine le_gw ?_ _) | (with_reducible refine le_alloc ?_ _) | (with_reducible refine le_setCell ?_ _ _) | (with_reducible refine le_drew ?_) | (with_reducible refine le_drewN ?_ _) | go_size)))⟩, by simp [intOf]; omega⟩
          · have hr : -99 ≤ x 1 ∧ x 1 ≤ 99 := by omega
            have lw := Tm.itoa_len hr
            obtain ⟨BI, hBI⟩ : ∃ b : ByteArray, b = ⟨(Lib.itoa (x 1)).toArray⟩ := ⟨_, rfl⟩
            obtain ⟨B2, hB2⟩ : ∃ b : ByteArray, b = ⟨((P ++ Tm.opL (x 0)) ++ [32]).toArray⟩ := ⟨_, rfl⟩
            have A2 := fun w => add_lists (P ++ Tm.opL (x 0)) [32] _ rfl (by simp; omega) (by simp) hB1 rfl hB2 w
            obtain ⟨B3, hB3⟩ : ∃ b : ByteArray, b = ⟨(((P ++ Tm.opL (x 0)) ++ [32]) ++ (Lib.itoa (x 1))).toArray⟩ := ⟨_, rfl⟩
            have A3 := fun w => add_lists ((P ++ Tm.opL (x 0)) ++ [32]) (Lib.itoa (x 1)) _ rfl (by simp; omega) (by omega) hB2 hBI hB3 w
            have BF : J (k + 1) = B3 := by rw [HJ.out, FN, Tm.opT_jump (x := x) (by omega), hB3]; try simp
            have NM := Lib.hid (fun w => sNum (x 1) w hr)
            rw [← hBI] at NM
            rw [h1] at ON
            clear FN hBP hBN2 oi hx2 lP lN jl XL hr hB1 hB2 hB3 hBI lw
            go_wp2_with fail
            refine (ON.out _).mono ?_
            rintro e w2 ⟨rfl, hb2⟩
            obtain ⟨q2, rfl⟩ := gw_of_below hb2
            clear hb2
            go_wp2_with fail
            refine (NM.out _).mono ?_
            rintro e w3 ⟨rfl, hb3⟩
            obtain ⟨q3, rfl⟩ := gw_of_below hb3
            clear hb3
            go_wp2
            exact ⟨⟨k + 1, by omega, by go_num, by rw [BF], Lib.hid (by have b1 := HB.out; have hs := b1.size; (repeat' (first | (with_reducible exact Below.refl _ _) | (with_reducible assumption) | (with_reducible refine below_drewN ?_ _) | (with_reducible refine Below.drew ?_) | (with_reducible refine Below.alloc ?_ ?_ _) | (with_reducible refine Below.setCell ?_ ?_ _) | (with_reducible refine below_gw ?_ ?_ _) | (with_reducible refine below_via ?_ ‹Below _ _ _› ?_) | (with_reducible exact Nat.le_refl _) | (with_reducible refine le_gw ?_ _) | (with_reducible refine le_alloc ?_ _) | (with_reducible refine le_setCell ?_ _ _) | (with_reducible refine le_drew ?_) | (with_reducible refine le_drewN ?_ _) | go_size)))⟩, by simp [intOf]; omega⟩
          · have hr := oi.2.2.2.2.2.2.1 h1
            have r1 : -99 ≤ x 1 ∧ x 1 ≤ 99 := by omega
            have r2 : -99 ≤ x 2 ∧ x 2 ≤ 99 := by omega
            have r3 : -99 ≤ x 3 ∧ x 3 ≤ 99 := by omega
            have lw1 := Tm.itoa_len r1
            have lw2 := Tm.itoa_len r2
            have lw3 := Tm.itoa_len r3
            obtain ⟨BI1, hBI1⟩ : ∃ b : ByteArray, b = ⟨(Lib.itoa (x 1)).toArray⟩ := ⟨_, rfl⟩
            obtain ⟨BI2, hBI2⟩ : ∃ b : ByteArray, b = ⟨(Lib.itoa (x 2)).toArray⟩ := ⟨_, rfl⟩
            obtain ⟨BI3, hBI3⟩ : ∃ b : ByteArray, b = ⟨(Lib.itoa (x 3)).toArray⟩ := ⟨_, rfl⟩
            obtain ⟨B2, hB2⟩ : ∃ b : ByteArray, b = ⟨((P ++ Tm.opL (x 0)) ++ [32]).toArray⟩ := ⟨_, rfl⟩
            have A2 := fun w => add_lists (P ++ Tm.opL (x 0)) [32] _ rfl (by simp; omega) (by simp) hB1 rfl hB2 w
            obtain ⟨B3, hB3⟩ : ∃ b : ByteArray, b = ⟨(((P ++ Tm.opL (x 0)) ++ [32]) ++ (Lib.itoa (x 1))).toArray⟩ := ⟨_, rfl⟩
            have A3 := fun w => add_lists ((P ++ Tm.opL (x 0)) ++ [32]) (Lib.itoa (x 1)) _ rfl (by simp; omega) (by omega) hB2 hBI1 hB3 w
            obtain ⟨B4, hB4⟩ : ∃ b : ByteArray, b = ⟨((((P ++ Tm.opL (x 0)) ++ [32]) ++ (Lib.itoa (x 1))) ++ [32]).toArray⟩ := ⟨_, rfl⟩
            have A4 := fun w => add_lists (((P ++ Tm.opL (x 0)) ++ [32]) ++ (Lib.itoa (x 1))) [32] _ rfl (by simp; omega) (by simp) hB3 rfl hB4 w
            obtain ⟨B5, hB5⟩ : ∃ b : ByteArray, b = ⟨(((((P ++ Tm.opL (x 0)) ++ [32]) ++ (Lib.itoa (x 1))) ++ [32]) ++ (Lib.itoa (x 2))).toArray⟩ := ⟨_, rfl⟩
            have A5 := fun w => add_lists ((((P ++ Tm.opL (x 0)) ++ [32]) ++ (Lib.itoa (x 1))) ++ [32]) (Lib.itoa (x 2)) _ rfl (by simp; omega) (by omega) hB4 hBI2 hB5 w
            obtain ⟨B6, hB6⟩ : ∃ b : ByteArray, b = ⟨((((((P ++ Tm.opL (x 0)) ++ [32]) ++ (Lib.itoa (x 1))) ++ [32]) ++ (Lib.itoa (x 2))) ++ [32]).toArray⟩ := ⟨_, rfl⟩
            have A6 := fun w => add_lists (((((P ++ Tm.opL (x 0)) ++ [32]) ++ (Lib.itoa (x 1))) ++ [32]) ++ (Lib.itoa (x 2))) [32] _ rfl (by simp; omega) (by simp) hB5 rfl hB6 w
            obtain ⟨B7, hB7⟩ : ∃ b : ByteArray, b = ⟨(((((((P ++ Tm.opL (x 0)) ++ [32]) ++ (Lib.itoa (x 1))) ++ [32]) ++ (Lib.itoa (x 2))) ++ [32]) ++ (Lib.itoa (x 3))).toArray⟩ := ⟨_, rfl⟩
            have A7 := fun w => add_lists ((((((P ++ Tm.opL (x 0)) ++ [32]) ++ (Lib.itoa (x 1))) ++ [32]) ++ (Lib.itoa (x 2))) ++ [32]) (Lib.itoa (x 3)) _ rfl (by simp; omega) (by omega) hB6 hBI3 hB7 w
            have BF : J (k + 1) = B7 := by rw [HJ.out, FN, Tm.opT_branch h1, ← h1, hB7]; try simp
            have NM1 := Lib.hid (fun w => sNum (x 1) w r1)
            have NM2 := Lib.hid (fun w => sNum (x 2) w r2)
            have NM3 := Lib.hid (fun w => sNum (x 3) w r3)
            rw [← hBI1] at NM1
            rw [← hBI2] at NM2
            rw [← hBI3] at NM3
            rw [h1] at ON
            clear FN hBP hBN2 oi hx2 lP lN jl XL hr r1 r2 r3 lw1 lw2 lw3 hB1 hB2 hB3 hB4 hB5 hB6 hB7 hBI1 hBI2 hBI3
            go_wp2_with fail
            refine (ON.out _).mono ?_
            rintro e w2 ⟨rfl, hb2⟩
            obtain ⟨q2, rfl⟩ := gw_of_below hb2
            clear hb2
            have s0 : wr.heap.size < (gw (wr.alloc (.cells #[.int .i64 14, .int .i64 (x 1), .int .i64 (x 2), .int .i64 (x 3)] 35)) q2).heap.size := by have := (below_gw (Below.refl _ _) (Nat.le_refl _) q2 : Below (wr.alloc (.cells #[.int .i64 14, .int .i64 (x 1), .int .i64 (x 2), .int .i64 (x 3)] 35)).heap.size (wr.alloc (.cells #[.int .i64 14, .int .i64 (x 1), .int .i64 (x 2), .int .i64 (x 3)] 35)) (gw (wr.alloc (.cells #[.int .i64 14, .int .i64 (x 1), .int .i64 (x 2), .int .i64 (x 3)] 35)) q2)).size; simp at this ⊢; omega
            have SB : Hid (∀ W : World, Below (gw (wr.alloc (.cells #[.int .i64 14, .int .i64 (x 1), .int .i64 (x 2), .int .i64 (x 3)] 35)) q2).heap.size (gw (wr.alloc (.cells #[.int .i64 14, .int .i64 (x 1), .int .i64 (x 2), .int .i64 (x 3)] 35)) q2) W → W.cell? ⟨wr.heap.size, 1, none⟩ = some (.int .i64 (x 1)) ∧ W.cell? ⟨wr.heap.size, 2, none⟩ = some (.int .i64 (x 2)) ∧ W.cell? ⟨wr.heap.size, 3, none⟩ = some (.int .i64 (x 3))) := Lib.hid (fun W hW => by
              have b0 : Below (wr.alloc (.cells #[.int .i64 14, .int .i64 (x 1), .int .i64 (x 2), .int .i64 (x 3)] 35)).heap.size (wr.alloc (.cells #[.int .i64 14, .int .i64 (x 1), .int .i64 (x 2), .int .i64 (x 3)] 35)) (gw (wr.alloc (.cells #[.int .i64 14, .int .i64 (x 1), .int .i64 (x 2), .int .i64 (x 3)] 35)) q2) := below_gw (Below.refl _ _) (Nat.le_refl _) q2
              have lt : wr.heap.size < (wr.alloc (.cells #[.int .i64 14, .int .i64 (x 1), .int .i64 (x 2), .int .i64 (x 3)] 35)).heap.size := by simp
              refine ⟨?_, ?_, ?_⟩ <;> (rw [hW.cell (p := ⟨wr.heap.size, _, none⟩) s0, b0.cell (p := ⟨wr.heap.size, _, none⟩) lt]; simp))
            have BB : Hid (Below w.heap.size w (gw (wr.alloc (.cells #[.int .i64 14, .int .i64 (x 1), .int .i64 (x 2), .int .i64 (x 3)] 35)) q2)) := Lib.hid (by have b1 := HB.out; have hs := b1.size; (repeat' (first | (with_reducible exact Below.refl _ _) | (with_reducible assumption) | (with_reducible refine below_drewN ?_ _) | (with_reducible refine Below.drew ?_) | (with_reducible refine Below.alloc ?_ ?_ _) | (with_reducible refine Below.setCell ?_ ?_ _) | (with_reducible refine below_gw ?_ ?_ _) | (with_reducible refine below_via ?_ ‹Below _ _ _› ?_) | (with_reducible exact Nat.le_refl _) | (with_reducible refine le_gw ?_ _) | (with_reducible refine le_alloc ?_ _) | (with_reducible refine le_setCell ?_ _ _) | (with_reducible refine le_drew ?_) | (with_reducible refine le_drewN ?_ _) | go_size)))
            go_wp2_with fail
            generalize gw (wr.alloc (.cells #[.int .i64 14, .int .i64 (x 1), .int .i64 (x 2), .int .i64 (x 3)] 35)) q2 = W0 at SB BB s0 ⊢
            have HS := Lib.hid (SB.out _ (Below.drew (Below.refl _ _)))
            refine wp_region_T [16] (fun W : World => W.cell? ⟨wr.heap.size, 1, none⟩ = some (.int .i64 (x 1)) ∧ W.cell? ⟨wr.heap.size, 2, none⟩ = some (.int .i64 (x 2)) ∧ W.cell? ⟨wr.heap.size, 3, none⟩ = some (.int .i64 (x 3))) (by kernel_rfl) ?_
            refine wpAnyT_take (i := 0) (v := ?v14) rfl (by kernel_rfl) (by kernel_rfl) (by kernel_rfl) (by kernel_rfl) (by kernel_rfl) (fun _ _ _ h => h) HS.out rfl ?hy14 ?hh14
            case hy14 => (intro W hW; obtain ⟨h1, h2, h3⟩ := hW; go_simp; try with_reducible rfl)
            case hh14 =>
            (try simp only [Act.put])
            refine wpAnyT_take (i := 1) (v := ?v15) rfl (by kernel_rfl) (by kernel_rfl) (by kernel_rfl) (by kernel_rfl) (by kernel_rfl) (fun _ _ _ h => h) HS.out rfl ?hy15 ?hh15
            case hy15 => (intro W hW; obtain ⟨h1, h2, h3⟩ := hW; go_simp; try with_reducible rfl)
            case hh15 =>
            (try simp only [Act.put])
            refine wpAnyT_take (i := 2) (v := ?v16) rfl (by kernel_rfl) (by kernel_rfl) (by kernel_rfl) (by kernel_rfl) (by kernel_rfl) (fun _ _ _ h => h) HS.out rfl ?hy16 ?hh16
            case hy16 => (intro W hW; obtain ⟨h1, h2, h3⟩ := hW; go_simp; try with_reducible rfl)
            case hh16 =>
            (try simp only [Act.put])
            refine wpAnyT_take (i := 3) (v := ?v17) rfl (by kernel_rfl) (by kernel_rfl) (by kernel_rfl) (by kernel_rfl) (by kernel_rfl) (fun _ _ _ h => h) HS.out rfl ?hy17 ?hh17
            case hy17 => (intro W hW; obtain ⟨h1, h2, h3⟩ := hW; go_simp; try with_reducible rfl)
            case hh17 =>
            (try simp only [Act.put])
            refine wpAnyT_take (i := 7) (v := ?v18) rfl (by kernel_rfl) (by kernel_rfl) (by kernel_rfl) (by kernel_rfl) (by kernel_rfl) (fun _ _ _ h => h) HS.out rfl ?hy18 ?hh18
            case hy18 => (intro W hW; obtain ⟨h1, h2, h3⟩ := hW; go_simp; try with_reducible rfl)
            case hh18 =>
            (try simp only [Act.put])
            refine wpAnyT_take (i := 8) (v := ?v19) rfl (by kernel_rfl) (by kernel_rfl) (by kernel_rfl) (by kernel_rfl) (by kernel_rfl) (fun _ _ _ h => h) HS.out rfl ?hy19 ?hh19
            case hy19 => (intro W hW; obtain ⟨h1, h2, h3⟩ := hW; go_simp; try with_reducible rfl)
            case hh19 =>
            (try simp only [Act.put])
            refine wpAnyT_take (i := 12) (v := ?v20) rfl (by kernel_rfl) (by kernel_rfl) (by kernel_rfl) (by kernel_rfl) (by kernel_rfl) (fun _ _ _ h => h) HS.out rfl ?hy20 ?hh20
            case hy20 => (intro W hW; obtain ⟨h1, h2, h3⟩ := hW; go_simp; try with_reducible rfl)
            case hh20 =>
            (try simp only [Act.put])
            refine wpAnyT_take (i := 13) (v := ?v21) rfl (by kernel_rfl) (by kernel_rfl) (by kernel_rfl) (by kernel_rfl) (by kernel_rfl) (fun _ _ _ h => h) HS.out rfl ?hy21 ?hh21
            case hy21 => (intro W hW; obtain ⟨h1, h2, h3⟩ := hW; go_simp; try with_reducible rfl)
            case hh21 =>
            (try simp only [Act.put])
            refine wpAnyT_only (i := 4) rfl (by kernel_rfl) (fun K hK => ?_)
            go_simp
            go_at_call 29
            refine (NM1.out _).mono ?_
            rintro e w4 ⟨rfl, hb⟩
            have C1 : Hid (Below W0.heap.size W0 w4) := Lib.hid ((Below.drew (Below.refl W0.heap.size W0)).trans (hb.mono ((Below.drew (Below.refl W0.heap.size W0))).size))
            have HS1 := Lib.hid (SB.out _ C1.out)
            refine hK _ _ (fun _ _ => HS1.out) ?_
            clear hK K hb
            (try simp only [Act.put])
            refine wpAnyT_take (i := 5) (v := ?v22) rfl (by kernel_rfl) (by kernel_rfl) (by kernel_rfl) (by kernel_rfl) (by kernel_rfl) (fun _ _ _ h => h) HS1.out rfl ?hy22 ?hh22
            case hy22 => (intro W hW; obtain ⟨h1, h2, h3⟩ := hW; go_simp; try with_reducible rfl)
            case hh22 =>
            (try simp only [Act.put])
            refine wpAnyT_take (i := 6) (v := ?v23) rfl (by kernel_rfl) (by kernel_rfl) (by kernel_rfl) (by kernel_rfl) (by kernel_rfl) (fun _ _ _ h => h) HS1.out rfl ?hy23 ?hh23
            case hy23 => (intro W hW; obtain ⟨h1, h2, h3⟩ := hW; go_simp; try with_reducible rfl)
            case hh23 =>
            (try simp only [Act.put])
            refine wpAnyT_only (i := 9) rfl (by kernel_rfl) (fun K hK => ?_)
            go_simp
            go_at_call 29
            refine (NM2.out _).mono ?_
            rintro e w5 ⟨rfl, hb⟩
            have C2 : Hid (Below W0.heap.size W0 w5) := Lib.hid (C1.out.trans (hb.mono (C1.out).size))
            have HS2 := Lib.hid (SB.out _ C2.out)
            refine hK _ _ (fun _ _ => HS2.out) ?_
            clear hK K hb
            (try simp only [Act.put])
            refine wpAnyT_take (i := 10) (v := ?v24) rfl (by kernel_rfl) (by kernel_rfl) (by kernel_rfl) (by kernel_rfl) (by kernel_rfl) (fun _ _ _ h => h) HS2.out rfl ?hy24 ?hh24
            case hy24 => (intro W hW; obtain ⟨h1, h2, h3⟩ := hW; go_simp; try with_reducible rfl)
            case hh24 =>
            (try simp only [Act.put])
            refine wpAnyT_take (i := 11) (v := ?v25) rfl (by kernel_rfl) (by kernel_rfl) (by kernel_rfl) (by kernel_rfl) (by kernel_rfl) (fun _ _ _ h => h) HS2.out rfl ?hy25 ?hh25
            case hy25 => (intro W hW; obtain ⟨h1, h2, h3⟩ := hW; go_simp; try with_reducible rfl)
            case hh25 =>
            (try simp only [Act.put])
            refine wpAnyT_only (i := 14) rfl (by kernel_rfl) (fun K hK => ?_)
            go_simp
            go_at_call 29
            refine (NM3.out _).mono ?_
            rintro e w6 ⟨rfl, hb⟩
            have C3 : Hid (Below W0.heap.size W0 w6) := Lib.hid (C2.out.trans (hb.mono (C2.out).size))
            have HS3 := Lib.hid (SB.out _ C3.out)
            refine hK _ _ (fun _ _ => HS3.out) ?_
            clear hK K hb
            (try simp only [Act.put])
            refine wpAnyT_take (i := 15) (v := ?v26) rfl (by kernel_rfl) (by kernel_rfl) (by kernel_rfl) (by kernel_rfl) (by kernel_rfl) (fun _ _ _ h => h) HS3.out rfl ?hy26 ?hh26
            case hy26 => (intro W hW; obtain ⟨h1, h2, h3⟩ := hW; go_simp; try with_reducible rfl)
            case hh26 =>
            (try simp only [Act.put])
            refine wpAnyT_only (i := 16) rfl (by kernel_rfl) (fun K hK => ?_)
            go_simp
            refine hK _ _ (fun h => (h (by decide)).elim) ?_
            clear hK K
            (try simp only [Act.put])
            refine wpAnyT_done (by kernel_rfl) ?_ _
            go_wp2
            exact ⟨⟨k + 1, by omega, by go_num, by rw [BF], Lib.hid (BB.out.trans (C3.out.mono (by have := BB.out.size; omega)))⟩, by simp [intOf]; omega⟩
          · have BF : J (k + 1) = B1 := by rw [HJ.out, FN, Tm.opT_none h1 h2 h3 h4, hB1]; try simp
            have c1 : (x 0 == 1) = false := by simpa using h1
            have c2 : (x 0 == 10) = false := by simpa using h2
            have c3 : (x 0 == 13) = false := by simpa using h3
            have c4 : (x 0 == 14) = false := by simpa using h4
            clear FN hBP hBN2 oi hx2 lP lN jl XL hB1
            go_wp2_with fail
            refine (ON.out _).mono ?_
            rintro e w2 ⟨rfl, hb2⟩
            obtain ⟨q2, rfl⟩ := gw_of_below hb2
            clear hb2
            go_wp2
            exact ⟨⟨k + 1, by omega, by go_num, by rw [BF], Lib.hid (by have b1 := HB.out; have hs := b1.size; (repeat' (first | (with_reducible exact Below.refl _ _) | (with_reducible assumption) | (with_reducible refine below_drewN ?_ _) | (with_reducible refine Below.drew ?_) | (with_reducible refine Below.alloc ?_ ?_ _) | (with_reducible refine Below.setCell ?_ ?_ _) | (with_reducible refine below_gw ?_ ?_ _) | (with_reducible refine below_via ?_ ‹Below _ _ _› ?_) | (with_reducible exact Nat.le_refl _) | (with_reducible refine le_gw ?_ _) | (with_reducible refine le_alloc ?_ _) | (with_reducible refine le_setCell ?_ _ _) | (with_reducible refine le_drew ?_) | (with_reducible refine le_drewN ?_ _) | go_size)))⟩, by simp [intOf]; omega⟩
      · obtain rfl : k = L.length := by omega
        go_wp2
        go_ret
        exact ⟨rfl, HB.out⟩
end Go.Proofs.YtfnhoiomdjmjhaaDoor

/- Walks of laws: FnIncrement. -/
import Derived.Test.YtlbhekfjcbcpaaaAMath
import Derived.Test.YtlbhekfjcbcpaaaWVal
import Derived.Test.YtlbhekfjcbcpaaaWI4
import Derived.Test.YtlbhekfjcbcpaaaWI3
import Derived.Test.YtlbhekfjcbcpaaaAI
import Derived.Test.YtlbhekfjcbcpaaaWS4
namespace Go.Proofs.Ytlbhekfjcbcpaaa
set_option maxRecDepth 20000
open Go.RowKit
namespace Tm
theorem inc_eq {xs : List Int} (h : isW xs = true) : incOk xs = decide (val xs < lim xs.length) := by
  have l1 := isW_pos h
  have l2 := isW_len h
  have b := val_bd_len h xs.length (Nat.le_refl _)
  have e := lim_nat l1 l2
  rw [incOk, h, Bool.true_and, wordOk, decide_eq_decide, e]
  omega
theorem inc_lt {xs : List Int} (h : isW xs = true) (ho : incOk xs = true) : val xs < lim xs.length := by rwa [inc_eq h, decide_eq_true_eq] at ho
theorem inc_ge {xs : List Int} (h : isW xs = true) (ho : incOk xs = false) : lim xs.length ≤ val xs := by rw [inc_eq h, decide_eq_false_iff_not] at ho; omega
theorem inc_facts {xs : List Int} (h : isW xs = true) (ho : incOk xs = true) : isW (inc xs) = true ∧ val (inc xs) = val xs + 1 ∧ (inc xs).length = xs.length := by
  have wo : wordOk (val xs + 1) xs.length = true := by rwa [incOk, h, Bool.true_and] at ho
  rw [inc, if_pos h]
  have := word_length wo
  exact ⟨word_isW wo, val_word wo, by omega⟩
def ones (xs : List Int) (j : Nat) : List Int := List.replicate j 1 ++ xs.drop j
theorem ones_0 (xs : List Int) : ones xs 0 = xs := rfl
theorem ones_length (xs : List Int) (j : Nat) (h : j ≤ xs.length) : (ones xs j).length = xs.length := by simp [ones]; omega
theorem ones_set (xs : List Int) (j : Nat) (h : j < xs.length) : ((ones xs j).map (Value.int .i64)).set j (.int .i64 1) = (ones xs (j + 1)).map (Value.int .i64) := by
  rw [← List.map_set, ones, ones, List.set_append_right _ _ (by simp), List.length_replicate, Nat.sub_self, List.drop_eq_getElem_cons h, List.set_cons_zero, List.replicate_succ', List.append_assoc]
  rfl
theorem ones_word {xs : List Int} (h : isW xs = true) : isW (ones xs xs.length) = true := by
  have l1 := isW_pos h
  have l2 := isW_len h
  refine isW_mk (fun x hx => ?_) (by rw [ones_length xs _ (Nat.le_refl _)]; exact l1) (by rw [ones_length xs _ (Nat.le_refl _)]; exact l2)
  rw [ones, List.drop_length, List.append_nil] at hx
  rw [(List.mem_replicate.1 hx).2]; omega
end Tm
set_option maxHeartbeats 4000000 in
theorem wFnIncrement (a0 : Option Addr) (len0 cap0 : Nat) (z0 : List Int) (w : World) (w0 : IsRow .u8 w a0 len0 cap0 z0) : Calls Try.prog 7 #[.slice a0 len0 cap0] w fun e w' => e = .returned (.bool true) ∧ Below w.heap.size w w' := by
  have BY := Lib.hid (Byts.of_row w0)
  have m0 : len0 ≤ 9223372036854775807 := by obtain ⟨h1, h2, _⟩ := BY.out; unfold maxLen at h2; omega
  clear w0
  have B := Lib.hid (Below.refl w.heap.size w)
  by_cases g0 : len0 ≤ 1048576
  · skip
    go_enter Try.func7, Try.ntmps7
    go_wp2_with fail
    refine (makeWord_any a0 len0 cap0 30 _ BY.out (by omega) (by omega) (by omega)).mono ?_
    rintro e w0 ⟨xs, b0, c0, rfl, hw, hp, ho, hb⟩
    have OX := Lib.hid ho
    have W_xs := Lib.hid hw
    have xs_1 := Tm.isW_pos hw
    have xs_2 := Tm.isW_len hw
    clear ho hw hp
    have hsz := hb.size
    replace BY := Lib.hid (BY.out.below hb)
    replace B := Lib.hid (B.out.trans (hb.mono B.out.size))
    clear hb hsz
    go_wp2_with fail
    refine (at_any a0 len0 cap0 1 _ BY.out (by omega) (by omega) (by omega)).mono ?_
    rintro e w' ⟨y, rfl, y_0, y_1, rfl⟩
    by_cases y4 : y.tmod 4 = 0
    · skip
      go_wp2
      go_loopw [19] (fun i wr => ∃ j : Nat, j ≤ xs.length ∧ i = .int .i64 j ∧ Hid (wr.ownsRow w.heap.size 3 1 (.slice b0 xs.length c0) xs.length ((Tm.ones xs j).map (Value.int .i64))) ∧ Hid (Below w.heap.size w wr)) (fun i _ => xs.length - (intOf i).toNat)
      case atStart => exact ⟨0, by omega, rfl, Lib.hid (by rw [Tm.ones_0]; exact OX.out), B⟩
      case round =>
        clear B OX BY
        obtain ⟨j, hj, rfl, HO, B⟩ := hrel
        by_cases hlt : j < xs.length
        · have hown := HO.out
          rcases hown.2 with ⟨-, e0⟩ | ⟨g, cap', cur, e1, hB, -, -, -, -, -⟩
          · omega
          simp only [Value.slice.injEq] at e1
          obtain ⟨rfl, _, _⟩ := e1
          have fz := hown.frozenAt j
          have hst := hown.stored j (.int .i64 1)
          have ck := hown.cellAt j (by omega)
          rw [List.getElem?_eq_getElem (by rw [List.length_map, Tm.ones_length xs j (by omega)]; omega)] at ck
          rw [Tm.ones_set xs j hlt] at hst
          obtain ⟨s1, s2⟩ := hst
          have hs := B.out.size
          have hnx1 := Lib.hid (B.out.grown s2 (by omega) (fun q hq => by cases hq; exact hB))
          have S1 := Lib.hid s1
          clear hown HO s1 s2
          go_wp2
          exact ⟨⟨j + 1, by omega, by go_num, S1, hnx1⟩, by simp [intOf]; omega⟩
        · obtain rfl : j = xs.length := by omega
          have W_ys := Lib.hid (Tm.ones_word W_xs.out)
          obtain ⟨ys, hys⟩ : ∃ ys, ys = Tm.ones xs xs.length := ⟨_, rfl⟩
          rw [← hys] at HO W_ys
          have yl : ys.length = xs.length := by rw [hys]; exact Tm.ones_length xs _ (Nat.le_refl _)
          have YL := Lib.hid yl
          have I_ys := Lib.hid (Ints.of_own HO.out)
          clear hys yl
          skip
          have ys_2 : ys.length ≤ 30 := by rw [YL.out]; omega
          by_cases hO : Tm.incOk ys = true
          · skip
            have HO := Lib.hid hO
            clear hO
            have IF := Lib.hid (Tm.inc_facts W_ys.out HO.out)
            go_wp2_with fail
            have hok := HO.out
            refine (retIB_ex (iIncrementWord b0 xs.length c0 ys _ I_ys.out) hok).mono ?_
            clear hok
            rintro e w1 ⟨x, b1, c1, hv, rfl, ho, hb, ln1⟩
            have H_x : Hid (x = Tm.inc ys) := Lib.hid hv
            have hsz := hb.size
            replace I_ys := Lib.hid (I_ys.out.below hb)
            replace B := Lib.hid (B.out.trans (hb.mono B.out.size))
            clear hb hsz
            have I_x := Lib.hid (Ints.of_own ho)
            clear ho hv
            rw [← H_x.out] at IF
            go_wp2_with fail
            refine (sValueOf b0 xs.length c0 ys _ I_ys.out).mono ?_
            rintro e w' ⟨h0, rfl⟩
            obtain ⟨n, hv⟩ : ∃ r_, r_ = Tm.value ys := ⟨_, rfl⟩
            rw [← hv] at h0
            subst h0
            have H_n : Hid (n = Tm.value ys) := Lib.hid hv
            have bd : -102945566047324 ≤ n ∧ n ≤ 102945566047324 := by rw [hv, Tm.value_eq W_ys.out]; exact Tm.val_bd_len W_ys.out 30 (by omega)
            obtain ⟨n_0, n_1⟩ := bd
            clear hv
            go_wp2_with fail
            refine (sLimitOf (xs.length : Int) _).mono ?_
            rintro e w' ⟨h0, rfl⟩
            obtain ⟨lm, hv⟩ : ∃ r_, r_ = Tm.lim (xs.length : Int) := ⟨_, rfl⟩
            rw [← hv] at h0
            subst h0
            have H_lm : Hid (lm = Tm.lim (xs.length : Int)) := Lib.hid hv
            clear hv
            have lt : n < lm := by rw [H_n.out, H_lm.out, Tm.value_eq W_ys.out, ← YL.out]; exact Tm.inc_lt W_ys.out HO.out
            have xl : ((x.length : Int) == (xs.length : Int)) = true := by rw [IF.out.2.2, YL.out]; simp
            go_wp2_with fail
            refine (iValueOf b1 x.length c1 x _ I_x.out).mono ?_
            rintro e w' ⟨h0, rfl⟩
            obtain ⟨v, hv⟩ : ∃ r_, r_ = Tm.value x := ⟨_, rfl⟩
            rw [← hv] at h0
            subst h0
            have H_v : Hid (v = Tm.value x) := Lib.hid hv
            clear hv
            have ev : v = n + 1 := by rw [H_v.out, H_n.out, Tm.value_eq IF.out.1, IF.out.2.1, Tm.value_eq W_ys.out]
            clear H_v
            subst ev
            go_wp2
            go_ret
            exact ⟨rfl, B.out⟩
          · simp only [Bool.not_eq_true] at hO
            have HO := Lib.hid hO
            clear hO
            go_wp2_with fail
            have hok := HO.out
            refine (retIB_no (iIncrementWord b0 xs.length c0 ys _ I_ys.out) hok).mono ?_
            clear hok
            rintro e w2 ⟨v2, rfl, hb⟩
            have hsz := hb.size
            replace I_ys := Lib.hid (I_ys.out.below hb)
            replace B := Lib.hid (B.out.trans (hb.mono B.out.size))
            clear hb hsz
            go_wp2_with fail
            refine (sValueOf b0 xs.length c0 ys _ I_ys.out).mono ?_
            rintro e w' ⟨h0, rfl⟩
            obtain ⟨n, hv⟩ : ∃ r_, r_ = Tm.value ys := ⟨_, rfl⟩
            rw [← hv] at h0
            subst h0
            have H_n : Hid (n = Tm.value ys) := Lib.hid hv
            have bd : -102945566047324 ≤ n ∧ n ≤ 102945566047324 := by rw [hv, Tm.value_eq W_ys.out]; exact Tm.val_bd_len W_ys.out 30 (by omega)
            obtain ⟨n_0, n_1⟩ := bd
            clear hv
            go_wp2_with fail
            refine (sLimitOf (xs.length : Int) _).mono ?_
            rintro e w' ⟨h0, rfl⟩
            obtain ⟨lm, hv⟩ : ∃ r_, r_ = Tm.lim (xs.length : Int) := ⟨_, rfl⟩
            rw [← hv] at h0
            subst h0
            have H_lm : Hid (lm = Tm.lim (xs.length : Int)) := Lib.hid hv
            clear hv
            have ge : lm ≤ n := by rw [H_n.out, H_lm.out, Tm.value_eq W_ys.out, ← YL.out]; exact Tm.inc_ge W_ys.out HO.out
            have ge2 : decide (n < lm) = false := decide_eq_false (by omega)
            go_wp2
            go_ret
            exact ⟨rfl, B.out⟩
    · skip
      have y5 : ¬ (y % 4 = 0) := by rw [← Int.tmod_eq_emod_of_nonneg y_0]; exact y4
      have y6 : (y % 4 == 0) = false := by simpa using y5
      clear y4
      have I_xs := Lib.hid (Ints.of_own OX.out)
      clear OX
      by_cases hO : Tm.incOk xs = true
      · skip
        have HO := Lib.hid hO
        clear hO
        have IF := Lib.hid (Tm.inc_facts W_xs.out HO.out)
        go_wp2_with fail
        have hok := HO.out
        refine (retIB_ex (iIncrementWord b0 xs.length c0 xs _ I_xs.out) hok).mono ?_
        clear hok
        rintro e w3 ⟨x, b3, c3, hv, rfl, ho, hb, ln3⟩
        have H_x : Hid (x = Tm.inc xs) := Lib.hid hv
        have hsz := hb.size
        replace I_xs := Lib.hid (I_xs.out.below hb)
        replace BY := Lib.hid (BY.out.below hb)
        replace B := Lib.hid (B.out.trans (hb.mono B.out.size))
        clear hb hsz
        have I_x := Lib.hid (Ints.of_own ho)
        clear ho hv
        rw [← H_x.out] at IF
        go_wp2_with fail
        refine (sValueOf b0 xs.length c0 xs _ I_xs.out).mono ?_
        rintro e w' ⟨h0, rfl⟩
        obtain ⟨n, hv⟩ : ∃ r_, r_ = Tm.value xs := ⟨_, rfl⟩
        rw [← hv] at h0
        subst h0
        have H_n : Hid (n = Tm.value xs) := Lib.hid hv
        have bd : -102945566047324 ≤ n ∧ n ≤ 102945566047324 := by rw [hv, Tm.value_eq W_xs.out]; exact Tm.val_bd_len W_xs.out 30 (by omega)
        obtain ⟨n_0, n_1⟩ := bd
        clear hv
        go_wp2_with fail
        refine (sLimitOf (xs.length : Int) _).mono ?_
        rintro e w' ⟨h0, rfl⟩
        obtain ⟨lm, hv⟩ : ∃ r_, r_ = Tm.lim (xs.length : Int) := ⟨_, rfl⟩
        rw [← hv] at h0
        subst h0
        have H_lm : Hid (lm = Tm.lim (xs.length : Int)) := Lib.hid hv
        clear hv
        have lt : n < lm := by rw [H_n.out, H_lm.out, Tm.value_eq W_xs.out]; exact Tm.inc_lt W_xs.out HO.out
        have xl : ((x.length : Int) == (xs.length : Int)) = true := by rw [IF.out.2.2]; simp
        go_wp2_with fail
        refine (iValueOf b3 x.length c3 x _ I_x.out).mono ?_
        rintro e w' ⟨h0, rfl⟩
        obtain ⟨v, hv⟩ : ∃ r_, r_ = Tm.value x := ⟨_, rfl⟩
        rw [← hv] at h0
        subst h0
        have H_v : Hid (v = Tm.value x) := Lib.hid hv
        clear hv
        have ev : v = n + 1 := by rw [H_v.out, H_n.out, Tm.value_eq IF.out.1, IF.out.2.1, Tm.value_eq W_xs.out]
        clear H_v
        subst ev
        go_wp2
        go_ret
        exact ⟨rfl, B.out⟩
      · simp only [Bool.not_eq_true] at hO
        have HO := Lib.hid hO
        clear hO
        go_wp2_with fail
        have hok := HO.out
        refine (retIB_no (iIncrementWord b0 xs.length c0 xs _ I_xs.out) hok).mono ?_
        clear hok
        rintro e w4 ⟨v4, rfl, hb⟩
        have hsz := hb.size
        replace I_xs := Lib.hid (I_xs.out.below hb)
        replace BY := Lib.hid (BY.out.below hb)
        replace B := Lib.hid (B.out.trans (hb.mono B.out.size))
        clear hb hsz
        go_wp2_with fail
        refine (sValueOf b0 xs.length c0 xs _ I_xs.out).mono ?_
        rintro e w' ⟨h0, rfl⟩
        obtain ⟨n, hv⟩ : ∃ r_, r_ = Tm.value xs := ⟨_, rfl⟩
        rw [← hv] at h0
        subst h0
        have H_n : Hid (n = Tm.value xs) := Lib.hid hv
        have bd : -102945566047324 ≤ n ∧ n ≤ 102945566047324 := by rw [hv, Tm.value_eq W_xs.out]; exact Tm.val_bd_len W_xs.out 30 (by omega)
        obtain ⟨n_0, n_1⟩ := bd
        clear hv
        go_wp2_with fail
        refine (sLimitOf (xs.length : Int) _).mono ?_
        rintro e w' ⟨h0, rfl⟩
        obtain ⟨lm, hv⟩ : ∃ r_, r_ = Tm.lim (xs.length : Int) := ⟨_, rfl⟩
        rw [← hv] at h0
        subst h0
        have H_lm : Hid (lm = Tm.lim (xs.length : Int)) := Lib.hid hv
        clear hv
        have ge : lm ≤ n := by rw [H_n.out, H_lm.out, Tm.value_eq W_xs.out]; exact Tm.inc_ge W_xs.out HO.out
        have ge2 : decide (n < lm) = false := decide_eq_false (by omega)
        go_wp2
        go_ret
        exact ⟨rfl, B.out⟩
  · go_enter Try.func7, Try.ntmps7
    go_wp2
    go_ret
    exact ⟨rfl, B.out⟩
end Go.Proofs.Ytlbhekfjcbcpaaa

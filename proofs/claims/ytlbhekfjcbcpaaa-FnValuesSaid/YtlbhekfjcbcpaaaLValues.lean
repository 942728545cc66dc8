/- Walks of laws: FnValues. -/
import Derived.Test.YtlbhekfjcbcpaaaWVal
import Derived.Test.YtlbhekfjcbcpaaaWI4
import Derived.Test.YtlbhekfjcbcpaaaWI3
namespace Go.Proofs.Ytlbhekfjcbcpaaa
set_option maxRecDepth 20000
open Go.RowKit
namespace Tm
theorem inB_lim_mono {n : Int} {a b : Int} (h1 : 1 ≤ a) (h : a ≤ b) (h2 : b ≤ 30) (hi : inB n (-lim a) (lim a) = true) : inB n (-lim b) (lim b) = true := by
  obtain ⟨a, rfl⟩ := Int.eq_ofNat_of_zero_le (show 0 ≤ a by omega)
  obtain ⟨b, rfl⟩ := Int.eq_ofNat_of_zero_le (show 0 ≤ b by omega)
  rw [inB_iff] at *
  rw [lim_nat (by omega) (by omega)] at *
  have := limN_mono (show a ≤ b by omega)
  omega
/-- The least length, searched from k on. -/
theorem lenFrom_least (n : Int) (f : Nat) (k m : Int) (hk : 1 ≤ k) (hf : k + f = 31) (hkm : k ≤ m) (hm : m ≤ 30) (hok : inB n (-lim m) (lim m) = true) (hno : ∀ j, 1 ≤ j → j < k → inB n (-lim j) (lim j) = false) :
    k ≤ lenFrom n f k ∧ lenFrom n f k ≤ m ∧ inB n (-lim (lenFrom n f k)) (lim (lenFrom n f k)) = true ∧ ∀ j, 1 ≤ j → j < lenFrom n f k → inB n (-lim j) (lim j) = false := by
  induction f generalizing k with
  | zero => omega
  | succ f ih =>
    rw [lenFrom]
    by_cases h : inB n (-lim k) (lim k) = true
    · rw [if_pos h]; exact ⟨by omega, hkm, h, hno⟩
    · rw [if_neg h]
      have hne : k ≠ m := by intro e; subst e; exact h hok
      simp only [Bool.not_eq_true] at h
      have := ih (k + 1) (by omega) (by omega) (by omega) (fun j h1 h2 => by
        by_cases e : j = k
        · subst e; exact h
        · exact hno j h1 (by omega))
      exact ⟨by omega, this.2.1, this.2.2⟩
theorem lenOf_least {n k : Int} (h : wordOk n k = true) : 1 ≤ lenOf n ∧ lenOf n ≤ k ∧ wordOk n (lenOf n) = true ∧ wordOk n (lenOf n - 1) = false := by
  have h' := h
  simp only [wordOk, decide_eq_true_eq] at h'
  obtain ⟨k1, k2, k3, k4⟩ := h'
  have := lenFrom_least n 30 1 k (by omega) (by omega) (by omega) (by omega) ((inB_iff _ _ _).2 ⟨k3, k4⟩) (fun j h1 h2 => by omega)
  obtain ⟨h1, h2, h3, h4⟩ := this
  change 1 ≤ lenOf n at h1
  change lenOf n ≤ k at h2
  change inB n (-lim (lenOf n)) (lim (lenOf n)) = true at h3
  change ∀ j, 1 ≤ j → j < lenOf n → _ at h4
  refine ⟨h1, h2, ?_, ?_⟩
  · have := (inB_iff _ _ _).1 h3
    simp only [wordOk, decide_eq_true_eq]
    omega
  · rw [wordOk, decide_eq_false_iff_not]
    intro hh
    have := h4 (lenOf n - 1) hh.1 (by omega)
    rw [inB_no] at this
    omega
theorem rd_sg {a : Int} (h : isT a = true) : rd ((sg a).toNat : Int) = a := by
  rcases isT_cases h with rfl | rfl | rfl <;> decide
theorem bt_txt (l : List UInt8) (i : Nat) (h : i < l.length) : bt ⟨l.toArray⟩ i = (l[i].toNat : Int) := by
  rw [bt_at _ _ (by simpa [ByteArray.size] using h)]
  rfl
theorem sgn_take {xs : List Int} (h : isW xs = true) {j : Nat} (hj : j < xs.length) : sgn (val (xs.take (j + 1))) = if xs.getD j 0 = 0 then sgn (val (xs.take j)) else xs.getD j 0 := by
  have e : val (xs.take (j + 1)) = val (xs.take j) + pow3 j * xs.getD j 0 := by
    rw [List.take_succ_eq_append_getElem hj, val_append, List.length_take, Nat.min_eq_left (by omega), ← getD_at xs j hj]
    simp [val]
  have hb := val_bd _ (trits_take (isW_trits h) j)
  rw [List.length_take, Nat.min_eq_left (by omega)] at hb
  have pl := pow3_limN j
  have ht := isW_at h j
  rw [e]
  generalize xs.getD j 0 = x at *
  rcases (show x = -1 ∨ x = 0 ∨ x = 1 by omega) with rfl | rfl | rfl
  · rw [if_neg (by omega)]; unfold sgn; split
    · rfl
    · split <;> omega
  · simp
  · rw [if_neg (by omega)]; unfold sgn; split
    · omega
    · split
      · rfl
      · omega
theorem val_neg (xs : List Int) : val (negL xs) = -val xs := by
  induction xs with
  | nil => rfl
  | cons a l ih => rw [negL, List.map_cons, val, val]; rw [negL] at ih; rw [ih]; omega
theorem neg_word {xs : List Int} (h : isW xs = true) : isW (negL xs) = true ∧ val (negL xs) = -val xs := by
  obtain ⟨h1, h2, h3⟩ := (isW_iff xs).1 h
  refine ⟨isW_mk (fun x hx => ?_) (by simp [negL]; omega) (by simp [negL]; omega), val_neg xs⟩
  obtain ⟨y, hy, rfl⟩ := List.mem_map.1 hx
  have := h1 y hy
  omega
theorem rev_word {xs : List Int} (h : isW xs = true) : isW xs.reverse = true := by
  obtain ⟨h1, h2, h3⟩ := (isW_iff xs).1 h
  exact isW_mk (fun x hx => h1 x (List.mem_reverse.1 hx)) (by simp; omega) (by simp; omega)
theorem pow3_odd (k : Nat) : pow3 k % 2 = 1 := by rw [pow3_limN]; omega
theorem sumT_val (xs : List Int) (k : Nat) (h : k ≤ xs.length) : (sumT xs k - val (xs.take k)) % 2 = 0 := by
  induction k with
  | zero => rfl
  | succ k ih =>
    have e : val (xs.take (k + 1)) = val (xs.take k) + pow3 k * xs.getD k 0 := by
      rw [List.take_succ_eq_append_getElem (by omega), val_append, List.length_take, Nat.min_eq_left (by omega), ← getD_at xs k (by omega)]
      simp [val]
    have i := ih (by omega)
    rw [sumT, e]
    have o := pow3_odd k
    obtain ⟨q, hq⟩ : ∃ q, pow3 k = 2 * q + 1 := ⟨pow3 k / 2, by omega⟩
    rw [hq, Int.add_mul, Int.mul_assoc]
    generalize q * xs.getD k 0 = r
    omega
theorem sum_val (xs : List Int) : (sumT xs xs.length - val xs).tmod 2 = 0 := by
  have := sumT_val xs xs.length (Nat.le_refl _)
  rw [List.take_of_length_le (Nat.le_refl _)] at this
  exact Int.tmod_eq_zero_of_dvd (Int.dvd_of_emod_eq_zero this)
theorem abs_sum {xs : List Int} (h : isW xs = true) (k : Nat) : absI (sumT xs k) ≤ sqT xs k := by
  have : -sqT xs k ≤ sumT xs k ∧ sumT xs k ≤ sqT xs k := by
    induction k with
    | zero => simp [sumT, sqT]
    | succ k ih =>
      have ht := isW_at h k
      rw [sumT, sqT]
      generalize xs.getD k 0 = x at *
      rcases (show x = -1 ∨ x = 0 ∨ x = 1 by omega) with rfl | rfl | rfl <;> omega
  have := absI_abs (sumT xs k)
  omega
end Tm
theorem prs_fmt {xs : List Int} (h : Tm.isW xs = true) : Tm.prsOk ⟨(Tm.fmtW xs).toArray⟩ = true ∧ Tm.prs ⟨(Tm.fmtW xs).toArray⟩ = xs := by
  obtain ⟨h1, h2, h3⟩ := (Tm.isW_iff xs).1 h
  have hs : (⟨(Tm.txt xs).toArray⟩ : ByteArray).size = xs.length := by simp [ByteArray.size, Tm.txt_len]
  have e : Tm.prsL ⟨(Tm.txt xs).toArray⟩ = xs := by
    apply List.ext_getElem (by rw [Tm.prsL_length, hs])
    intro i hi1 hi2
    rw [getD_at _ i hi1, Tm.prsL_get _ _ (by rw [hs]; exact hi2), hs, Tm.bt_txt _ _ (by rw [Tm.txt_len]; omega)]
    have : (Tm.txt xs)[xs.length - 1 - i]'(by rw [Tm.txt_len]; omega) = Tm.sg xs[i] := by
      simp only [Tm.txt, List.getElem_reverse, List.getElem_map, List.length_map]
      congr 2; omega
    rw [this, Tm.rd_sg (Tm.isT_at h i hi2)]
  rw [Tm.fmtW, if_pos h]
  have ok : Tm.prsOk ⟨(Tm.txt xs).toArray⟩ = true := by
    rw [Tm.prsOk, e, h, hs, Bool.and_true, Tm.inB_iff]; omega
  exact ⟨ok, by rw [Tm.prs, if_pos ok, e]⟩
set_option maxHeartbeats 8000000 in
theorem wFnValues (a0 : Option Addr) (len0 cap0 : Nat) (z0 : List Int) (w : World) (w0 : IsRow .u8 w a0 len0 cap0 z0) : Calls Try.prog 3 #[.slice a0 len0 cap0] w fun e w' => e = .returned (.bool true) ∧ Below w.heap.size w w' := by
  have BY := Lib.hid (Byts.of_row w0)
  have m0 : len0 ≤ 9223372036854775807 := by obtain ⟨h1, h2, _⟩ := BY.out; unfold maxLen at h2; omega
  clear w0
  have B := Lib.hid (Below.refl w.heap.size w)
  by_cases g0 : len0 ≤ 1048576
  · skip
    go_enter Try.func3, Try.ntmps3
    go_wp2_with fail
    refine (makeWord_any a0 len0 cap0 30 _ BY.out (by omega) (by omega) (by omega)).mono ?_
    rintro e w0 ⟨xs, b0, c0, rfl, hw, hp, ho, hb⟩
    have hsz := hb.size
    replace BY := Lib.hid (BY.out.below hb)
    replace B := Lib.hid (B.out.trans (hb.mono B.out.size))
    clear hb hsz
    have I_xs := Lib.hid (Ints.of_own ho)
    clear ho
    have l1 := Tm.isW_pos hw
    have W := Lib.hid hw
    clear hw
    go_wp2_with fail
    refine (iValueOf b0 xs.length c0 xs _ I_xs.out).mono ?_
    rintro e w' ⟨h0, rfl⟩
    obtain ⟨n, hv⟩ : ∃ r_, r_ = Tm.value xs := ⟨_, rfl⟩
    rw [← hv] at h0
    subst h0
    have H_n : Hid (n = Tm.value xs) := Lib.hid hv
    have bd : -102945566047324 ≤ n ∧ n ≤ 102945566047324 := by rw [hv, Tm.value_eq W.out]; exact Tm.val_bd_len W.out 30 (by omega)
    obtain ⟨n_0, n_1⟩ := bd
    clear hv
    have HN : Hid (n = Tm.val xs) := Lib.hid (by rw [H_n.out, Tm.value_eq W.out])
    have WO : Hid (Tm.wordOk n (xs.length : Int) = true) := Lib.hid (by rw [HN.out]; exact Tm.wordOk_val W.out)
    go_wp2_with fail
    have hok := WO.out
    refine (retIB_ex (iWordOf n (xs.length : Int) _) hok).mono ?_
    clear hok
    rintro e w1 ⟨x, b1, c1, hv, rfl, ho, hb, ln1⟩
    have H_x : Hid (x = Tm.word n (xs.length : Int)) := Lib.hid hv
    have hsz := hb.size
    replace I_xs := Lib.hid (I_xs.out.below hb)
    replace BY := Lib.hid (BY.out.below hb)
    replace B := Lib.hid (B.out.trans (hb.mono B.out.size))
    clear hb hsz
    have I_x := Lib.hid (Ints.of_own ho)
    clear ho hv
    have HX : Hid (x = xs) := Lib.hid (by rw [H_x.out, HN.out]; exact Tm.word_val W.out)
    go_wp2_with fail
    refine (iFormatWord b0 xs.length c0 xs _ I_xs.out).mono ?_
    rintro e w2 ⟨h0, hb⟩
    obtain ⟨tx, hv⟩ : ∃ r_, r_ = (⟨(Tm.fmtW xs).toArray⟩ : ByteArray) := ⟨_, rfl⟩
    rw [← hv] at h0
    subst h0
    have H_tx := Lib.hid hv
    clear hv
    have hsz := hb.size
    replace I_xs := Lib.hid (I_xs.out.below hb)
    replace I_x := Lib.hid (I_x.out.below hb)
    replace BY := Lib.hid (BY.out.below hb)
    replace B := Lib.hid (B.out.trans (hb.mono B.out.size))
    clear hb hsz
    have HT : Hid (Tm.prsOk tx = true ∧ Tm.prs tx = xs) := Lib.hid (by rw [H_tx.out]; exact prs_fmt W.out)
    go_wp2_with fail
    have hok := HT.out.1
    refine (retIB_ex (iParseWord tx _) hok).mono ?_
    clear hok
    rintro e w3 ⟨y, b3, c3, hv, rfl, ho, hb, ln3⟩
    have H_y : Hid (y = Tm.prs tx) := Lib.hid hv
    have hsz := hb.size
    replace I_xs := Lib.hid (I_xs.out.below hb)
    replace I_x := Lib.hid (I_x.out.below hb)
    replace BY := Lib.hid (BY.out.below hb)
    replace B := Lib.hid (B.out.trans (hb.mono B.out.size))
    clear hb hsz
    have I_y := Lib.hid (Ints.of_own ho)
    clear ho hv
    have HY : Hid (y = xs) := Lib.hid (by rw [H_y.out]; exact HT.out.2)
    have lp := Tm.lenOf_least (n := n) (k := xs.length) WO.out
    obtain ⟨k, hk⟩ : ∃ k : Nat, Tm.lenOf n = (k : Int) := ⟨_, (Int.toNat_of_nonneg (by omega)).symm⟩
    rw [hk] at lp
    obtain ⟨k1, k2, k3, k4⟩ := lp
    have K3 := Lib.hid k3
    have K4 := Lib.hid k4
    have k2 : k ≤ xs.length := by omega
    clear k3 k4
    go_wp2_with fail
    refine (iLengthOf n _).mono ?_
    rintro e w' ⟨rfl, rfl⟩
    go_wp2_with fail
    have hok := K3.out
    refine (retIB_ex (iWordOf n (k : Int) _) hok).mono ?_
    clear hok
    rintro e w4 ⟨sh, b4, c4, hv, rfl, ho, hb, ln4⟩
    have H_sh : Hid (sh = Tm.word n (k : Int)) := Lib.hid hv
    have hsz := hb.size
    replace I_xs := Lib.hid (I_xs.out.below hb)
    replace I_x := Lib.hid (I_x.out.below hb)
    replace I_y := Lib.hid (I_y.out.below hb)
    replace BY := Lib.hid (BY.out.below hb)
    replace B := Lib.hid (B.out.trans (hb.mono B.out.size))
    clear hb hsz
    have I_sh := Lib.hid (Ints.of_own ho)
    clear ho hv
    have hsl : ((sh.length : Int) != (k : Int)) = false := by
      have := Tm.word_length K3.out
      rw [← H_sh.out] at this
      simp [this]
    go_wp2_with fail
    refine (ints_any b1 b0 x.length xs.length c1 c0 x xs _ I_x.out I_xs.out).mono ?_
    rintro e w5 ⟨h0, hb⟩
    rw [decide_eq_true (show x = xs from HX.out)] at h0
    subst h0
    have hsz := hb.size
    replace I_xs := Lib.hid (I_xs.out.below hb)
    replace I_x := Lib.hid (I_x.out.below hb)
    replace I_y := Lib.hid (I_y.out.below hb)
    replace I_sh := Lib.hid (I_sh.out.below hb)
    replace BY := Lib.hid (BY.out.below hb)
    replace B := Lib.hid (B.out.trans (hb.mono B.out.size))
    clear hb hsz
    go_wp2_with fail
    refine (ints_any b3 b0 y.length xs.length c3 c0 y xs _ I_y.out I_xs.out).mono ?_
    rintro e w6 ⟨h0, hb⟩
    rw [decide_eq_true (show y = xs from HY.out)] at h0
    subst h0
    have hsz := hb.size
    replace I_xs := Lib.hid (I_xs.out.below hb)
    replace I_x := Lib.hid (I_x.out.below hb)
    replace I_y := Lib.hid (I_y.out.below hb)
    replace I_sh := Lib.hid (I_sh.out.below hb)
    replace BY := Lib.hid (BY.out.below hb)
    replace B := Lib.hid (B.out.trans (hb.mono B.out.size))
    clear hb hsz
    go_wp2_with fail
    refine (abs_any n _ (by omega) (by omega)).mono ?_
    rintro e w' ⟨h0, rfl⟩
    obtain ⟨d, hv⟩ : ∃ r_, r_ = Tm.absI n := ⟨_, rfl⟩
    rw [← hv] at h0
    subst h0
    have H_d : Hid (d = Tm.absI n) := Lib.hid hv
    have bd : 0 ≤ d ∧ d ≤ 102945566047324 := by have := Tm.absI_abs n; omega
    obtain ⟨d_0, d_1⟩ := bd
    clear hv
    go_wp2_with fail
    refine (iLimitOf (xs.length : Int) _).mono ?_
    rintro e w' ⟨h0, rfl⟩
    obtain ⟨lm, hv⟩ : ∃ r_, r_ = Tm.lim (xs.length : Int) := ⟨_, rfl⟩
    rw [← hv] at h0
    subst h0
    have H_lm : Hid (lm = Tm.lim (xs.length : Int)) := Lib.hid hv
    clear hv
    have e1 : d ≤ lm := by
      have b := Tm.val_bd_len W.out xs.length (Nat.le_refl _)
      have a := Tm.absI_abs n
      rw [H_lm.out, Tm.lim_nat l1 (by omega), H_d.out]
      rw [← HN.out] at b
      omega
    go_wp2_with fail
    have hok := K4.out
    refine (retIB_no (iWordOf n ((k : Int) - 1) _) hok).mono ?_
    clear hok
    rintro e w7 ⟨v7, rfl, hb⟩
    have hsz := hb.size
    replace I_xs := Lib.hid (I_xs.out.below hb)
    replace I_x := Lib.hid (I_x.out.below hb)
    replace I_y := Lib.hid (I_y.out.below hb)
    replace I_sh := Lib.hid (I_sh.out.below hb)
    replace BY := Lib.hid (BY.out.below hb)
    replace B := Lib.hid (B.out.trans (hb.mono B.out.size))
    clear hb hsz
    go_wp2_with fail
    go_loop [14, 96] (fun s i => ∃ j : Nat, j ≤ xs.length ∧ i = .int .i64 j ∧ s = .int .i64 (Tm.sgn (Tm.val (xs.take j)))) (fun _ i => xs.length - (intOf i).toNat)
    case atStart => exact ⟨0, by omega, rfl, rfl⟩
    case round =>
      obtain ⟨j, hj, rfl, rfl⟩ := hrel
      by_cases hlt : j < xs.length
      · rcases I_xs.out.2.2.2 with h0 | ⟨b, o, rfl, hbl, hc⟩
        · omega
        have c1 := hc j hlt
        have ex := getD_at xs j hlt
        rw [← ex] at c1
        have ST := Lib.hid (Tm.sgn_take W.out hlt)
        rw [← ex] at ST
        clear hc ex
        by_cases h0 : xs[j] = 0
        · have h0' : (xs[j] != 0) = false := by simp [h0]
          rw [if_pos h0] at ST
          clear h0
          go_wp2
          exact ⟨⟨j + 1, by omega, by go_num, val_int ST.out.symm⟩, by simp [intOf]; omega⟩
        · have h0' : (xs[j] != 0) = true := by simp [h0]
          rw [if_neg h0] at ST
          clear h0
          go_wp2
          exact ⟨⟨j + 1, by omega, by go_num, val_int ST.out.symm⟩, by simp [intOf]; omega⟩
      · obtain rfl : j = xs.length := by omega
        rw [List.take_of_length_le (Nat.le_refl _), ← HN.out]
        obtain ⟨sn, hsn⟩ : ∃ sn, sn = Tm.sgn n := ⟨_, rfl⟩
        rw [← hsn]
        have HS := Lib.hid hsn
        clear hsn
        go_wp2_with fail
        refine (iSignWord b0 xs.length c0 xs _ I_xs.out).mono ?_
        rintro e w' ⟨h0, rfl⟩
        obtain ⟨sw, hv⟩ : ∃ r_, r_ = Tm.sgn (Tm.value xs) := ⟨_, rfl⟩
        rw [← hv] at h0
        subst h0
        have H_sw : Hid (sw = Tm.sgn (Tm.value xs)) := Lib.hid hv
        clear hv
        have e2 : sw = sn := by rw [H_sw.out, HS.out, H_n.out]
        clear H_sw
        subst e2
        go_wp2_with fail
        refine (iSignOf n _).mono ?_
        rintro e w' ⟨h0, rfl⟩
        obtain ⟨so, hv⟩ : ∃ r_, r_ = Tm.sgn n := ⟨_, rfl⟩
        rw [← hv] at h0
        subst h0
        have H_so : Hid (so = Tm.sgn n) := Lib.hid hv
        clear hv
        have e3 : so = sw := by rw [H_so.out, HS.out]
        clear H_so
        subst e3
        go_wp2_with fail
        refine (retI_ex (iNegateWord b0 xs.length c0 xs _ I_xs.out)).mono ?_
        rintro e w8 ⟨ng, b8, c8, hv, rfl, ho, hb, ln8⟩
        have H_ng : Hid (ng = Tm.negW xs) := Lib.hid hv
        have hsz := hb.size
        replace I_xs := Lib.hid (I_xs.out.below hb)
        replace I_x := Lib.hid (I_x.out.below hb)
        replace I_y := Lib.hid (I_y.out.below hb)
        replace I_sh := Lib.hid (I_sh.out.below hb)
        replace BY := Lib.hid (BY.out.below hb)
        replace B := Lib.hid (B.out.trans (hb.mono B.out.size))
        clear hb hsz
        have I_ng := Lib.hid (Ints.of_own ho)
        clear ho hv
        have NG : Hid (Tm.isW ng = true ∧ Tm.val ng = -n) := Lib.hid (by rw [H_ng.out, Tm.negW, if_pos W.out, HN.out]; exact Tm.neg_word W.out)
        go_wp2_with fail
        refine (iValueOf b8 ng.length c8 ng _ I_ng.out).mono ?_
        rintro e w' ⟨h0, rfl⟩
        obtain ⟨m, hv⟩ : ∃ r_, r_ = Tm.value ng := ⟨_, rfl⟩
        rw [← hv] at h0
        subst h0
        have H_m : Hid (m = Tm.value ng) := Lib.hid hv
        clear hv
        have e4 : m = -n := by rw [H_m.out, Tm.value_eq NG.out.1, NG.out.2]
        clear H_m
        subst e4
        go_wp2_with fail
        refine (iSumOf b0 xs.length c0 xs _ I_xs.out).mono ?_
        rintro e w' ⟨h0, rfl⟩
        obtain ⟨su, hv⟩ : ∃ r_, r_ = Tm.sumW xs := ⟨_, rfl⟩
        rw [← hv] at h0
        subst h0
        have H_su : Hid (su = Tm.sumW xs) := Lib.hid hv
        have bd : -30 ≤ su ∧ su ≤ 30 := by have := Tm.sumT_bd W.out xs.length; rw [hv, Tm.sumW, if_pos W.out]; omega
        obtain ⟨su_0, su_1⟩ := bd
        clear hv
        have SU : Hid (su = Tm.sumT xs xs.length) := Lib.hid (by rw [H_su.out, Tm.sumW, if_pos W.out])
        have e5 : ((su - n).tmod 2 == 0) = true := by rw [SU.out, HN.out, Tm.sum_val xs]; rfl
        go_wp2_with fail
        refine (iWeightOf b0 xs.length c0 xs _ I_xs.out).mono ?_
        rintro e w' ⟨h0, rfl⟩
        obtain ⟨wt, hv⟩ : ∃ r_, r_ = Tm.wgtW xs := ⟨_, rfl⟩
        rw [← hv] at h0
        subst h0
        have H_wt : Hid (wt = Tm.wgtW xs) := Lib.hid hv
        clear hv
        go_wp2_with fail
        refine (iSumOf b0 xs.length c0 xs _ I_xs.out).mono ?_
        rintro e w' ⟨h0, rfl⟩
        obtain ⟨su2, hv⟩ : ∃ r_, r_ = Tm.sumW xs := ⟨_, rfl⟩
        rw [← hv] at h0
        subst h0
        have H_su2 : Hid (su2 = Tm.sumW xs) := Lib.hid hv
        clear hv
        have e6 : su2 = su := by rw [H_su2.out, H_su.out]
        clear H_su2
        subst e6
        go_wp2_with fail
        refine (abs_any su2 _ (by omega) (by omega)).mono ?_
        rintro e w' ⟨h0, rfl⟩
        obtain ⟨sa, hv⟩ : ∃ r_, r_ = Tm.absI su2 := ⟨_, rfl⟩
        rw [← hv] at h0
        subst h0
        have H_sa : Hid (sa = Tm.absI su2) := Lib.hid hv
        clear hv
        have e7 : sa ≤ wt := by rw [H_sa.out, H_wt.out, Tm.wgtW, if_pos W.out, SU.out]; exact Tm.abs_sum W.out xs.length
        go_wp2_with fail
        refine (retI_ex (iReverseWord b0 xs.length c0 xs _ I_xs.out)).mono ?_
        rintro e w9 ⟨r1, b9, c9, hv, rfl, ho, hb, ln9⟩
        have H_r1 : Hid (r1 = Tm.revW xs) := Lib.hid hv
        have hsz := hb.size
        replace I_xs := Lib.hid (I_xs.out.below hb)
        replace I_x := Lib.hid (I_x.out.below hb)
        replace I_y := Lib.hid (I_y.out.below hb)
        replace I_sh := Lib.hid (I_sh.out.below hb)
        replace I_ng := Lib.hid (I_ng.out.below hb)
        replace BY := Lib.hid (BY.out.below hb)
        replace B := Lib.hid (B.out.trans (hb.mono B.out.size))
        clear hb hsz
        have I_r1 := Lib.hid (Ints.of_own ho)
        clear ho hv
        have R1 : Hid (Tm.isW r1 = true ∧ r1 = xs.reverse) := Lib.hid (by rw [H_r1.out, Tm.revW, if_pos W.out]; exact ⟨Tm.rev_word W.out, rfl⟩)
        go_wp2_with fail
        refine (retI_ex (iReverseWord b9 r1.length c9 r1 _ I_r1.out)).mono ?_
        rintro e w10 ⟨r2, b10, c10, hv, rfl, ho, hb, ln10⟩
        have H_r2 : Hid (r2 = Tm.revW r1) := Lib.hid hv
        have hsz := hb.size
        replace I_xs := Lib.hid (I_xs.out.below hb)
        replace I_x := Lib.hid (I_x.out.below hb)
        replace I_y := Lib.hid (I_y.out.below hb)
        replace I_sh := Lib.hid (I_sh.out.below hb)
        replace I_ng := Lib.hid (I_ng.out.below hb)
        replace I_r1 := Lib.hid (I_r1.out.below hb)
        replace BY := Lib.hid (BY.out.below hb)
        replace B := Lib.hid (B.out.trans (hb.mono B.out.size))
        clear hb hsz
        have I_r2 := Lib.hid (Ints.of_own ho)
        clear ho hv
        have R2 : Hid (r2 = xs) := Lib.hid (by rw [H_r2.out, Tm.revW, if_pos R1.out.1, R1.out.2, List.reverse_reverse])
        go_wp2_with fail
        refine (ints_any b10 b0 r2.length xs.length c10 c0 r2 xs _ I_r2.out I_xs.out).mono ?_
        rintro e w11 ⟨h0, hb⟩
        rw [decide_eq_true (show r2 = xs from R2.out)] at h0
        subst h0
        have hsz := hb.size
        replace I_xs := Lib.hid (I_xs.out.below hb)
        replace I_x := Lib.hid (I_x.out.below hb)
        replace I_y := Lib.hid (I_y.out.below hb)
        replace I_sh := Lib.hid (I_sh.out.below hb)
        replace I_ng := Lib.hid (I_ng.out.below hb)
        replace I_r1 := Lib.hid (I_r1.out.below hb)
        replace I_r2 := Lib.hid (I_r2.out.below hb)
        replace BY := Lib.hid (BY.out.below hb)
        replace B := Lib.hid (B.out.trans (hb.mono B.out.size))
        clear hb hsz
        go_wp2
        go_ret
        exact ⟨rfl, B.out⟩
  · go_enter Try.func3, Try.ntmps3
    go_wp2
    go_ret
    exact ⟨rfl, B.out⟩
end Go.Proofs.Ytlbhekfjcbcpaaa

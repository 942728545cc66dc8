/- The model's products, quotients, roots, powers, divisors. -/
import Derived.Test.YtbdgkipakjmidaaPMath
import Derived.Test.YtbdgkipakjmidaaWS4
import Derived.Test.YtbdgkipakjmidaaRow2
import Derived.Test.YtbdgkipakjmidaaLaw
namespace Go.Proofs.Ytbdgkipakjmidaa
open Go.RowKit
theorem sFit4 (a : Option Addr) (n cap : Nat) (xs : List Int) (b : Option Addr) (m cap2 : Nat) (ys : List Int) (w : World) (h : Ints w a n cap xs) (h2 : Ints w b m cap2 ys) : Calls Try.prog 72 #[.slice a n cap, .slice b m cap2] w fun e w' => e = .returned (.bool (Tm.mulOk xs ys)) ∧ w = w' := by
  have H := Lib.hid h
  have H2 := Lib.hid h2
  obtain rfl : n = xs.length := h.1.symm
  obtain rfl : m = ys.length := h2.1.symm
  clear h h2
  by_cases hx : Tm.isW xs = true
  · by_cases hy : Tm.isW ys = true
    · have l1 := Tm.isW_len hx
      have l2 := Tm.isW_len hy
      go_enter Try.func72, Try.ntmps72
      go_wp2_with fail
      refine (sIsWord a _ cap xs _ H.out).mono ?_
      rintro e w' ⟨rfl, rfl⟩
      go_wp2_with fail
      refine (sIsWord b _ cap2 ys _ H2.out).mono ?_
      rintro e w' ⟨rfl, rfl⟩
      go_wp2
      go_ret
      exact ⟨ret_bool (by rw [Tm.mulOk, hx, hy, Bool.eq_iff_iff]; simp; try omega), rfl⟩
    · simp only [Bool.not_eq_true] at hy
      go_enter Try.func72, Try.ntmps72
      go_wp2_with fail
      refine (sIsWord a _ cap xs _ H.out).mono ?_
      rintro e w' ⟨rfl, rfl⟩
      go_wp2_with fail
      refine (sIsWord b _ cap2 ys _ H2.out).mono ?_
      rintro e w' ⟨rfl, rfl⟩
      go_wp2
      go_ret
      exact ⟨ret_bool (by simp [Tm.mulOk, hy]), rfl⟩
  · simp only [Bool.not_eq_true] at hx
    go_enter Try.func72, Try.ntmps72
    go_wp2_with fail
    refine (sIsWord a _ cap xs _ H.out).mono ?_
    rintro e w' ⟨rfl, rfl⟩
    go_wp2
    go_ret
    exact ⟨ret_bool (by simp [Tm.mulOk, hx]), rfl⟩
theorem sMultiplyWords (a : Option Addr) (n cap : Nat) (xs : List Int) (b : Option Addr) (m cap2 : Nat) (ys : List Int) (w : World) (h : Ints w a n cap xs) (h2 : Ints w b m cap2 ys) : Calls Try.prog 42 #[.slice a n cap, .slice b m cap2] w (RetIB 3 w (Tm.mulW xs ys) (Tm.mulOk xs ys)) := by
  have H := Lib.hid h
  have H2 := Lib.hid h2
  obtain rfl : n = xs.length := h.1.symm
  obtain rfl : m = ys.length := h2.1.symm
  clear h h2
  by_cases ho : Tm.mulOk xs ys = true
  · have f := (Tm.mulOk_iff _ _).1 ho
    have pb := Tm.prod_bd ho
    have lb := Tm.limN_le f.2.2
    have HX := Lib.hid f.1
    have HY := Lib.hid f.2.1
    have hl := f.2.2
    rw [Tm.mulW, if_pos ho, ho]
    have VX := Lib.hid (sValue2 a _ cap xs w H.out HX.out)
    have VY := Lib.hid (sValue2 b _ cap2 ys w H2.out HY.out)
    obtain ⟨va, hva⟩ : ∃ v, v = Tm.val xs := ⟨_, rfl⟩
    obtain ⟨vb, hvb⟩ : ∃ v, v = Tm.val ys := ⟨_, rfl⟩
    rw [← hva] at VX pb ⊢
    rw [← hvb] at VY pb ⊢
    have pb1 : -102945566047324 ≤ va * vb := by omega
    have pb2 : va * vb ≤ 102945566047324 := by omega
    clear hva hvb f pb lb
    go_enter Try.func42, Try.ntmps42
    go_wp2_with fail
    refine (sFit4 a _ cap xs b _ cap2 ys _ H.out H2.out).mono ?_
    rintro e w' ⟨rfl, rfl⟩
    go_wp2_with fail
    refine VX.out.mono ?_
    rintro e w' ⟨rfl, rfl⟩
    go_wp2_with fail
    refine VY.out.mono ?_
    rintro e w' ⟨rfl, rfl⟩
    go_wp2_with fail
    refine (sWordL _ _ _ (by omega) (by omega) (by omega)).mono ?_
    rintro e w1 ⟨a1, c1, rfl, hown, hb, ln⟩
    go_wp2
    go_ret2
    exact ret_own_b hown hb ln
  · simp only [Bool.not_eq_true] at ho
    rw [Tm.mulW, ho]
    go_enter Try.func42, Try.ntmps42
    go_wp2_with fail
    refine (sFit4 a _ cap xs b _ cap2 ys _ H.out H2.out).mono ?_
    rintro e w' ⟨rfl, rfl⟩
    go_wp2
    go_ret2
    exact ret_nil_b (by (repeat' (first | (with_reducible exact Below.refl _ _) | (with_reducible assumption) | (with_reducible refine below_drewN ?_ _) | (with_reducible refine Below.drew ?_) | (with_reducible refine Below.alloc ?_ ?_ _) | (with_reducible refine Below.setCell ?_ ?_ _) | (with_reducible refine below_gw ?_ ?_ _) | (with_reducible refine below_via ?_ ‹Below _ _ _› ?_) | (with_reducible exact Nat.le_refl _) | (with_reducible refine le_gw ?_ _) | (with_reducible refine le_alloc ?_ _) | (with_reducible refine le_setCell ?_ _ _) | (with_reducible refine le_drew ?_) | (with_reducible refine le_drewN ?_ _) | go_size)))
theorem sCutProduct (a : Option Addr) (n cap : Nat) (xs : List Int) (b : Option Addr) (m cap2 : Nat) (ys : List Int) (k : Int) (w : World) (h : Ints w a n cap xs) (h2 : Ints w b m cap2 ys) : Calls Try.prog 48 #[.slice a n cap, .slice b m cap2, .int .i64 k] w (RetIB 3 w (Tm.cutW xs ys k) (Tm.cutOk xs ys k)) := by
  have H := Lib.hid h
  have H2 := Lib.hid h2
  obtain rfl : n = xs.length := h.1.symm
  obtain rfl : m = ys.length := h2.1.symm
  clear h h2
  by_cases ho : Tm.mulOk xs ys = true
  · have f := Tm.mul_facts ho
    have f2 := (Tm.mulOk_iff _ _).1 ho
    have l30 := f2.2.2
    have lp := Tm.isW_pos f2.1
    by_cases hk : 0 ≤ k ∧ k ≤ (xs.length : Int) + ys.length - 1
    · obtain ⟨k1, k2⟩ := hk
      have hc : Tm.cutOk xs ys k = true := by simp [Tm.cutOk, ho]; omega
      rw [Tm.cutW, if_pos hc, hc]
      obtain ⟨j, rfl⟩ := Int.eq_ofNat_of_zero_le k1
      rw [Int.toNat_natCast]
      obtain ⟨zs, hzs⟩ : ∃ zs, zs = Tm.mulW xs ys := ⟨_, rfl⟩
      have M := Lib.hid (sMultiplyWords a _ cap xs b _ cap2 ys w H.out H2.out)
      rw [← hzs] at f M ⊢
      have zl := f.2.2
      have e1 : Tm.inB (j : Int) 0 ((xs.length : Int) + ys.length - 1) = true := by rw [Tm.inB_iff]; omega
      clear hzs f hc
      go_enter Try.func48, Try.ntmps48
      go_wp2_with fail
      refine (retIB_ex M.out ho).mono ?_
      rintro e w1 ⟨zs, a1, c1, rfl, rfl, hown, hb, ln⟩
      have I1 := Ints.of_own hown
      have B1 := Lib.hid hb
      have hs := hb.size
      have hcap : zs.length ≤ c1 := I1.2.1
      have hcm := I1.2.2.1
      unfold maxLen at hcm
      rcases I1.2.2.2 with e | ⟨b', o, rfl, hbl, -⟩
      · omega
      have HP := Lib.hid (I1.part j (xs.length + ys.length) (by omega) (by omega))
      clear hown hb I1
      go_wp2_with fail
      refine (sIn _ _ _ _).mono ?_
      rintro e w' ⟨rfl, rfl⟩
      rw [e1]
      go_wp2_with fail
      refine (sCopy _ _ _ _ _ HP.out (by omega) (by omega)).mono ?_
      rintro e w2 ⟨a2, c2, rfl, hown, hb, ln2⟩
      go_wp2
      go_ret2
      rw [show List.drop j zs = Tm.part zs j (xs.length + ys.length) from (List.take_of_length_le (by rw [List.length_drop]; omega)).symm]
      exact ret_own_b (own_weak hown hs) (B1.out.trans (hb.mono hs)) ln2
    · have hc : Tm.cutOk xs ys k = false := by simp [Tm.cutOk, ho]; omega
      rw [Tm.cutW, hc]
      have M := Lib.hid (sMultiplyWords a _ cap xs b _ cap2 ys w H.out H2.out)
      obtain ⟨zs, hzs⟩ : ∃ zs, zs = Tm.mulW xs ys := ⟨_, rfl⟩
      rw [← hzs] at f M
      have zl := f.2.2
      have e1 : Tm.inB k 0 ((xs.length : Int) + ys.length - 1) = false := by rw [Tm.inB_no]; omega
      clear hzs f hc
      go_enter Try.func48, Try.ntmps48
      go_wp2_with fail
      refine (retIB_ex M.out ho).mono ?_
      rintro e w1 ⟨zs, a1, c1, rfl, rfl, hown, hb, ln⟩
      have B1 := Lib.hid hb
      clear hown hb
      go_wp2_with fail
      refine (sIn _ _ _ _).mono ?_
      rintro e w' ⟨rfl, rfl⟩
      rw [e1]
      go_wp2
      go_ret2
      exact ret_nil_b B1.out
  · simp only [Bool.not_eq_true] at ho
    have hc : Tm.cutOk xs ys k = false := by simp [Tm.cutOk, ho]
    rw [Tm.cutW, hc]
    have M := Lib.hid (sMultiplyWords a _ cap xs b _ cap2 ys w H.out H2.out)
    clear hc
    go_enter Try.func48, Try.ntmps48
    go_wp2_with fail
    refine (retIB_no M.out ho).mono ?_
    rintro e w1 ⟨v, rfl, hb⟩
    go_wp2
    go_ret2
    exact ret_nil_b hb
theorem sAbs4 (n : Int) (w : World) (h1 : -9223372036854775808 < n) (h2 : n ≤ 9223372036854775807) : Calls Try.prog 76 #[.int .i64 n] w fun e w' => e = .returned (.int .i64 (Tm.absI n)) ∧ w = w' := by
  go_enter Try.func76, Try.ntmps76
  go_wp2
  all_goals
    go_ret
    exact ⟨ret_int (by unfold Tm.absI; split <;> omega), rfl⟩
namespace Tm
theorem tdiv_part (n : Int) {d : Int} (hd : d ≠ 0) : n.tdiv d * d = n - n.tmod d ∧ -absI d < n.tmod d ∧ n.tmod d < absI d ∧ absI (n.tmod d) ≤ absI n := by
  have e := Int.mul_tdiv_add_tmod n d
  have a := absI_abs d
  have h1 : (n.tmod d).natAbs < d.natAbs := by
    rw [Int.natAbs_tmod]; exact Nat.mod_lt _ (by omega)
  have h2 : (n.tmod d).natAbs ≤ n.natAbs := by
    rw [Int.natAbs_tmod]; exact Nat.mod_le _ _
  rw [Int.mul_comm] at e
  have := absI_abs (n.tmod d)
  have := absI_abs n
  omega
theorem q_bd {n q d r : Int} (_ : d ≠ 0) (h : n = q * d + r) (h1 : -absI d < r) (h2 : r < absI d) : absI q ≤ absI n + 1 := by
  have b := abs_mul q d
  have e : q * d = n - r := by omega
  rw [e] at b
  have c := absI_abs (n - r)
  have d1 := absI_abs d
  have c2 := absI_abs n
  rcases Int.lt_or_le (absI n + 1) (absI q) with k | k
  · have h3 := Int.mul_le_mul_of_nonneg_right (show absI n + 2 ≤ absI q by omega) d1.2
    have h4 := Int.mul_le_mul_of_nonneg_left (show 1 ≤ absI d by omega) c2.2
    rw [Int.add_mul] at h3
    omega
  · exact k
theorem down {n q d r : Int} (h : n = q * d + r) : n = (q + sgn d) * d + (r - absI d) := by
  rw [Int.add_mul, sgn_abs]; omega
theorem up {n q d r : Int} (h : n = q * d + r) : n = (q - sgn d) * d + (r + absI d) := by
  rw [Int.sub_mul, sgn_abs]; omega
end Tm
theorem sDivide4 (n d : Int) (w : World) (h1 : -4000000000000000 ≤ n) (h2 : n ≤ 4000000000000000) (d1 : -4000000000000000 ≤ d) (d2 : d ≤ 4000000000000000) (hd : d ≠ 0) : Calls Try.prog 74 #[.int .i64 n, .int .i64 d] w fun e w' => e = .returned (.tuple #[.int .i64 (Tm.quo n d), .int .i64 (Tm.rem n d)]) ∧ w = w' := by
  obtain ⟨t1, t2, t3, t4⟩ := Tm.tdiv_part n hd
  have qb := Tm.q_bd hd (show n = n.tdiv d * d + n.tmod d by omega) t2 t3
  have sb : -1 ≤ Tm.sgn d ∧ Tm.sgn d ≤ 1 := by unfold Tm.sgn; split <;> (try split) <;> omega
  have an := Tm.absI_abs n
  have ad := Tm.absI_abs d
  have aq := Tm.absI_abs (n.tdiv d)
  have am := Tm.absI_abs (n.tmod d)
  have T1 := Lib.hid (show n = n.tdiv d * d + n.tmod d by omega)
  have HD := Lib.hid hd
  have AB := Lib.hid (fun w => sAbs4 d w (by omega) (by omega))
  obtain ⟨p, hp⟩ : ∃ p, p = n.tdiv d * d := ⟨_, rfl⟩
  obtain ⟨q0, hq⟩ : ∃ q, q = n.tdiv d := ⟨_, rfl⟩
  obtain ⟨r0, hr⟩ : ∃ q, q = n.tmod d := ⟨_, rfl⟩
  obtain ⟨m, hm⟩ : ∃ q, q = Tm.absI d := ⟨_, rfl⟩
  obtain ⟨s, hs⟩ : ∃ q, q = Tm.sgn d := ⟨_, rfl⟩
  have MM := Lib.hid hm
  have SS := Lib.hid hs
  have SG := Lib.hid (fun w => sSignOf d w)
  rw [← hr] at T1 t1 t2 t3 t4 am
  rw [← hq] at T1 hp qb t1 aq
  rw [← hp] at t1
  rw [← hm] at t2 t3 ad AB
  rw [← hs] at SG sb
  obtain ⟨s1, s2⟩ := sb
  have m1 : 1 ≤ m := by omega
  have m2 : m ≤ 4000000000000000 := by omega
  have hp' : q0 * d = p := hp.symm
  have p1 : -8000000000000000 ≤ p := by omega
  have p2 : p ≤ 8000000000000000 := by omega
  have hdb : (d == 0) = false := by simpa using hd
  have hr2 : n - p = r0 := by omega
  have hq' : n.tdiv d = q0 := hq.symm
  have q1 : -4000000000000001 ≤ q0 := by omega
  have q2 : q0 ≤ 4000000000000001 := by omega
  clear hm hs hr t4 an ad aq am qb hp
  clear t1 hq
  have QB : Hid (∀ q r : Int, n = q * d + r → -m < r → r < m → -4000000000000001 ≤ q ∧ q ≤ 4000000000000001) := Lib.hid fun q r h h1 h2 => by
    have b := Tm.q_bd HD.out h (by rw [← MM.out]; exact h1) (by rw [← MM.out]; exact h2)
    have := Tm.absI_abs q
    have := Tm.absI_abs n
    omega
  have DN : Hid (∀ q r : Int, n = q * d + r → n = (q + s) * d + (r - m)) := Lib.hid fun q r h => by rw [SS.out, MM.out]; exact Tm.down h
  have UP : Hid (∀ q r : Int, n = q * d + r → n = (q - s) * d + (r + m)) := Lib.hid fun q r h => by rw [SS.out, MM.out]; exact Tm.up h
  go_enter Try.func74, Try.ntmps74
  go_wp2_with fail
  go_loop [6, 7] (fun qv rv => ∃ q r : Int, qv = .int .i64 q ∧ rv = .int .i64 r ∧ Hid (n = q * d + r) ∧ -m < r ∧ r < m) (fun _ rv => (intOf rv + m).toNat)
  case atStart => exact ⟨_, _, rfl, rfl, T1, t2, t3⟩
  case round =>
    clear T1 t2 t3 hr2 hp' p1 p2 q1 q2 hq'
    obtain ⟨q, r, rfl, rfl, E, r1, r2⟩ := hrel
    have qb := QB.out q r E.out r1 r2
    obtain ⟨q1, q2⟩ := qb
    by_cases c : m < 2 * r
    · go_wp2_with fail
      refine (AB.out _).mono ?_
      rintro e w' ⟨rfl, rfl⟩
      go_wp2_with fail
      refine (AB.out _).mono ?_
      rintro e w' ⟨rfl, rfl⟩
      go_wp2_with fail
      refine (SG.out _).mono ?_
      rintro e w' ⟨rfl, rfl⟩
      go_wp2
      exact ⟨⟨q + s, r - m, rfl, rfl, Lib.hid (DN.out q r E.out), by omega, by omega⟩, by simp [intOf]; omega⟩
    · go_wp2_with fail
      refine (AB.out _).mono ?_
      rintro e w' ⟨rfl, rfl⟩
      go_wp2_with fail
      go_loop [6, 7] (fun qv rv => ∃ q r : Int, qv = .int .i64 q ∧ rv = .int .i64 r ∧ Hid (n = q * d + r) ∧ -m < r ∧ 2 * r ≤ m) (fun _ rv => (m - intOf rv).toNat)
      case atStart => exact ⟨_, _, rfl, rfl, E, r1, by omega⟩
      case round =>
        clear E r1 r2 q1 q2 c
        obtain ⟨q', r', rfl, rfl, E, r1, r2⟩ := hrel
        have qb := QB.out q' r' E.out r1 (by omega)
        obtain ⟨q1, q2⟩ := qb
        by_cases c : 2 * r' ≤ -m
        · go_wp2_with fail
          refine (AB.out _).mono ?_
          rintro e w' ⟨rfl, rfl⟩
          go_wp2_with fail
          refine (AB.out _).mono ?_
          rintro e w' ⟨rfl, rfl⟩
          go_wp2_with fail
          refine (SG.out _).mono ?_
          rintro e w' ⟨rfl, rfl⟩
          go_wp2
          exact ⟨⟨q' - s, r' + m, rfl, rfl, Lib.hid (UP.out q' r' E.out), by omega, by omega⟩, by simp [intOf]; omega⟩
        · go_wp2_with fail
          refine (AB.out _).mono ?_
          rintro e w' ⟨rfl, rfl⟩
          go_wp2
          go_ret2
          have F := Tm.quo_eq HD.out (show Tm.IsDiv n d q' r' from ⟨E.out, by rw [← MM.out]; omega, by rw [← MM.out]; omega⟩)
          rw [F.1, F.2]
          exact ⟨rfl, rfl⟩
theorem sDivideWords (a : Option Addr) (n cap : Nat) (xs : List Int) (b : Option Addr) (m cap2 : Nat) (ys : List Int) (w : World) (h : Ints w a n cap xs) (h2 : Ints w b m cap2 ys) : Calls Try.prog 44 #[.slice a n cap, .slice b m cap2] w (Ret2B 3 w (Tm.divQ xs ys) (Tm.divR xs ys) (Tm.divOk xs ys)) := by
  have H := Lib.hid h
  have H2 := Lib.hid h2
  obtain rfl : n = xs.length := h.1.symm
  obtain rfl : m = ys.length := h2.1.symm
  clear h h2
  by_cases hx : Tm.isW xs = true
  · have VX := Lib.hid (sValue2 a _ cap xs w H.out hx)
    by_cases hy : Tm.isW ys = true
    · have VY := Lib.hid (sValue2 b _ cap2 ys w H2.out hy)
      have b1 := Tm.val_bd_len hx 30 (Tm.isW_len hx)
      have b2 := Tm.val_bd_len hy 30 (Tm.isW_len hy)
      rw [Tm.limN_30] at b1 b2
      by_cases hd : Tm.val ys = 0
      · have ho : Tm.divOk xs ys = false := by simp [Tm.divOk, hd]
        rw [Tm.divQ, Tm.divR, ho]
        rw [hd] at VY
        clear ho b1 b2
        go_enter Try.func44, Try.ntmps44
        go_wp2_with fail
        refine (sIsWord a _ cap xs _ H.out).mono ?_
        rintro e w' ⟨rfl, rfl⟩
        go_wp2_with fail
        refine (sIsWord b _ cap2 ys _ H2.out).mono ?_
        rintro e w' ⟨rfl, rfl⟩
        go_wp2_with fail
        refine VY.out.mono ?_
        rintro e w' ⟨rfl, rfl⟩
        go_wp2
        go_ret3
        exact ret_nil_2b (by (repeat' (first | (with_reducible exact Below.refl _ _) | (with_reducible assumption) | (with_reducible refine below_drewN ?_ _) | (with_reducible refine Below.drew ?_) | (with_reducible refine Below.alloc ?_ ?_ _) | (with_reducible refine Below.setCell ?_ ?_ _) | (with_reducible refine below_gw ?_ ?_ _) | (with_reducible refine below_via ?_ ‹Below _ _ _› ?_) | (with_reducible exact Nat.le_refl _) | (with_reducible refine le_gw ?_ _) | (with_reducible refine le_alloc ?_ _) | (with_reducible refine le_setCell ?_ _ _) | (with_reducible refine le_drew ?_) | (with_reducible refine le_drewN ?_ _) | go_size)))
      · have ho : Tm.divOk xs ys = true := by simp [Tm.divOk, hx, hy, hd]
        have db := Tm.div_bd ho
        have l1 := Tm.isW_len hx
        have l2 := Tm.isW_len hy
        have k1 := Tm.limN_le l1
        have k2 := Tm.limN_le l2
        rw [Tm.divQ, Tm.divR, if_pos ho, if_pos ho, ho]
        obtain ⟨va, hva⟩ : ∃ v, v = Tm.val xs := ⟨_, rfl⟩
        obtain ⟨vb, hvb⟩ : ∃ v, v = Tm.val ys := ⟨_, rfl⟩
        rw [← hva] at VX b1 db ⊢
        rw [← hvb] at VY b2 db hd ⊢
        have D := Lib.hid (sDivide4 va vb w (by omega) (by omega) (by omega) (by omega) hd)
        have hd2 : (vb == 0) = false := by simpa using hd
        obtain ⟨⟨q1, q2⟩, r1, r2⟩ := db
        obtain ⟨q, hq⟩ : ∃ v, v = Tm.quo va vb := ⟨_, rfl⟩
        obtain ⟨r, hr⟩ : ∃ v, v = Tm.rem va vb := ⟨_, rfl⟩
        rw [← hq] at D q1 q2 ⊢
        rw [← hr] at D r1 r2 ⊢
        have WQ := fun w => sWordL q (xs.length : Int) w (by omega) (by omega) (by omega)
        have WR := fun w => sWordL r (ys.length : Int) w (by omega) (by omega) (by omega)
        rw [Int.toNat_natCast] at WQ WR
        have WQ := Lib.hid WQ
        have WR := Lib.hid WR
        clear hq hr hva hvb hd q1 q2 r1 r2 b1 b2 k1 k2 ho
        go_enter Try.func44, Try.ntmps44
        go_wp2_with fail
        refine (sIsWord a _ cap xs _ H.out).mono ?_
        rintro e w' ⟨rfl, rfl⟩
        go_wp2_with fail
        refine (sIsWord b _ cap2 ys _ H2.out).mono ?_
        rintro e w' ⟨rfl, rfl⟩
        go_wp2_with fail
        refine VY.out.mono ?_
        rintro e w' ⟨rfl, rfl⟩
        go_wp2_with fail
        refine VX.out.mono ?_
        rintro e w' ⟨rfl, rfl⟩
        go_wp2_with fail
        refine VY.out.mono ?_
        rintro e w' ⟨rfl, rfl⟩
        go_wp2_with fail
        refine D.out.mono ?_
        rintro e w' ⟨rfl, rfl⟩
        go_wp2_with fail
        refine (WQ.out _).mono ?_
        rintro e w1 ⟨a1, c1, rfl, hown1, hb1, ln1⟩
        go_wp2_with fail
        refine (WR.out _).mono ?_
        rintro e w2 ⟨a2, c2, rfl, hown2, hb2, ln2⟩
        go_wp2
        go_ret3
        exact ret_own_2b (own_below hown1 hb2) (own_weak hown2 hb1.size) (Apart.of_lt (own_ge hown2) (own_lt hown1)).symm (hb1.trans (hb2.mono hb1.size)) ln1 ln2
    · simp only [Bool.not_eq_true] at hy
      have ho : Tm.divOk xs ys = false := by simp [Tm.divOk, hy]
      rw [Tm.divQ, Tm.divR, ho]
      clear ho
      go_enter Try.func44, Try.ntmps44
      go_wp2_with fail
      refine (sIsWord a _ cap xs _ H.out).mono ?_
      rintro e w' ⟨rfl, rfl⟩
      go_wp2_with fail
      refine (sIsWord b _ cap2 ys _ H2.out).mono ?_
      rintro e w' ⟨rfl, rfl⟩
      go_wp2
      go_ret3
      exact ret_nil_2b (by (repeat' (first | (with_reducible exact Below.refl _ _) | (with_reducible assumption) | (with_reducible refine below_drewN ?_ _) | (with_reducible refine Below.drew ?_) | (with_reducible refine Below.alloc ?_ ?_ _) | (with_reducible refine Below.setCell ?_ ?_ _) | (with_reducible refine below_gw ?_ ?_ _) | (with_reducible refine below_via ?_ ‹Below _ _ _› ?_) | (with_reducible exact Nat.le_refl _) | (with_reducible refine le_gw ?_ _) | (with_reducible refine le_alloc ?_ _) | (with_reducible refine le_setCell ?_ _ _) | (with_reducible refine le_drew ?_) | (with_reducible refine le_drewN ?_ _) | go_size)))
  · simp only [Bool.not_eq_true] at hx
    have ho : Tm.divOk xs ys = false := by simp [Tm.divOk, hx]
    rw [Tm.divQ, Tm.divR, ho]
    clear ho
    go_enter Try.func44, Try.ntmps44
    go_wp2_with fail
    refine (sIsWord a _ cap xs _ H.out).mono ?_
    rintro e w' ⟨rfl, rfl⟩
    go_wp2
    go_ret3
    exact ret_nil_2b (by (repeat' (first | (with_reducible exact Below.refl _ _) | (with_reducible assumption) | (with_reducible refine below_drewN ?_ _) | (with_reducible refine Below.drew ?_) | (with_reducible refine Below.alloc ?_ ?_ _) | (with_reducible refine Below.setCell ?_ ?_ _) | (with_reducible refine below_gw ?_ ?_ _) | (with_reducible refine below_via ?_ ‹Below _ _ _› ?_) | (with_reducible exact Nat.le_refl _) | (with_reducible refine le_gw ?_ _) | (with_reducible refine le_alloc ?_ _) | (with_reducible refine le_setCell ?_ _ _) | (with_reducible refine le_drew ?_) | (with_reducible refine le_drewN ?_ _) | go_size)))
theorem sRoot4 (n : Int) (w : World) (h1 : 1 ≤ n) (h2 : n ≤ 102945566047324) : Calls Try.prog 75 #[.int .i64 n] w fun e w' => e = .returned (.int .i64 (Tm.root n)) ∧ w = w' := by
  have SQ : Hid (∀ x : Int, 0 ≤ x → x ≤ 20000000 → 0 ≤ x * x ∧ x * x ≤ 400000000000000) := Lib.hid fun x a b => by
    have := Tm.mul_bd (a := x) (b := x) (A := 20000000) (B := 20000000) ⟨by omega, b⟩ ⟨by omega, b⟩
    have := Int.mul_nonneg a a
    omega
  go_enter Try.func75, Try.ntmps75
  go_wp2_with fail
  go_loop [3, 4] (fun lv hv => ∃ lo hi : Int, lv = .int .i64 lo ∧ hv = .int .i64 hi ∧ 1 ≤ lo ∧ lo ≤ hi ∧ hi ≤ 20000000 ∧ Hid (lo * lo - lo < n) ∧ Hid (n ≤ hi * hi + hi)) (fun lv hv => (intOf hv - intOf lv).toNat)
  case atStart => exact ⟨1, 20000000, rfl, rfl, by omega, by omega, by omega, Lib.hid (by omega), Lib.hid (by omega)⟩
  case round =>
    obtain ⟨lo, hi, rfl, rfl, l1, l2, l3, L, U⟩ := hrel
    by_cases c : lo < hi
    · obtain ⟨mid, hm⟩ : ∃ v, v = (lo + hi + 1).tdiv 2 := ⟨_, rfl⟩
      have hm2 : (lo + hi + 1).tdiv 2 = mid := hm.symm
      have m0 : mid = (lo + hi + 1) / 2 := by rw [hm, Int.tdiv_eq_ediv_of_nonneg (by omega)]
      have m1 : lo < mid := by omega
      have m2 : mid ≤ hi := by omega
      have sq := SQ.out mid (by omega) (by omega)
      obtain ⟨sq1, sq2⟩ := sq
      clear hm m0
      by_cases d : mid * mid - mid < n
      · have D := Lib.hid d
        go_wp2
        exact ⟨⟨mid, hi, rfl, rfl, by omega, by omega, by omega, D, U⟩, by simp [intOf]; omega⟩
      · have D := Lib.hid d
        go_wp2
        exact ⟨⟨lo, mid - 1, rfl, rfl, by omega, by omega, by omega, L, Lib.hid (by have := D.out; rw [show (mid - 1) * (mid - 1) + (mid - 1) = mid * mid - mid by grind]; omega)⟩, by simp [intOf]; omega⟩
    · obtain rfl : lo = hi := by omega
      go_wp2
      go_ret
      exact ⟨ret_int (Tm.root_eq ⟨by omega, .inr ⟨h1, L.out, U.out⟩⟩).symm, rfl⟩
theorem sRootWord (a : Option Addr) (n cap : Nat) (xs : List Int) (w : World) (h : Ints w a n cap xs) : Calls Try.prog 45 #[.slice a n cap] w (Ret2B 3 w (Tm.rootW xs) (Tm.rootT xs) (Tm.rootOk xs)) := by
  have H := Lib.hid h
  obtain rfl : n = xs.length := h.1.symm
  clear h
  by_cases hx : Tm.isW xs = true
  · have VX := Lib.hid (sValue2 a _ cap xs w H.out hx)
    have l1 := Tm.isW_len hx
    have vb := Tm.val_bd_len hx xs.length (Nat.le_refl _)
    have k1 := Tm.limN_le l1
    by_cases h0 : 0 ≤ Tm.val xs
    · have ho : Tm.rootOk xs = true := by simp [Tm.rootOk, hx, h0]
      have sp := Tm.root_spec h0
      have rb := Tm.root_bd sp
      rw [Tm.rootW, Tm.rootT, if_pos ho, if_pos ho, ho]
      obtain ⟨v, hv⟩ : ∃ v, v = Tm.val xs := ⟨_, rfl⟩
      rw [← hv] at VX vb h0 sp rb ⊢
      clear hv ho
      by_cases c : 0 < v
      · have R := Lib.hid (sRoot4 v w (by omega) (by omega))
        obtain ⟨r, hr⟩ : ∃ r, r = Tm.root v := ⟨_, rfl⟩
        rw [← hr] at R rb ⊢
        obtain ⟨r0, r1, r2, r3, r4, r5⟩ := rb
        have WQ := fun w => sWordL r (xs.length : Int) w (by omega) (by omega) (by omega)
        have WR := fun w => sWordL (v - r * r) (xs.length : Int) w (by omega) (by omega) (by omega)
        rw [Int.toNat_natCast] at WQ WR
        have WQ := Lib.hid WQ
        have WR := Lib.hid WR
        have s1 : 0 ≤ r * r := Int.mul_nonneg r0 r0
        have s2 : r * r ≤ 205891132094648 := by omega
        have v2 : v ≤ 102945566047324 := by omega
        clear hr sp r2 r3 r4 r5 vb k1
        go_enter Try.func45, Try.ntmps45
        go_wp2_with fail
        refine (sIsWord a _ cap xs _ H.out).mono ?_
        rintro e w' ⟨rfl, rfl⟩
        go_wp2_with fail
        refine VX.out.mono ?_
        rintro e w' ⟨rfl, rfl⟩
        go_wp2_with fail
        refine VX.out.mono ?_
        rintro e w' ⟨rfl, rfl⟩
        go_wp2_with fail
        refine R.out.mono ?_
        rintro e w' ⟨rfl, rfl⟩
        go_wp2_with fail
        refine (WQ.out _).mono ?_
        rintro e w1 ⟨a1, c1, rfl, hown1, hb1, ln1⟩
        go_wp2_with fail
        refine (WR.out _).mono ?_
        rintro e w2 ⟨a2, c2, rfl, hown2, hb2, ln2⟩
        go_wp2
        go_ret3
        exact ret_own_2b (own_below hown1 hb2) (own_weak hown2 hb1.size) (Apart.of_lt (own_ge hown2) (own_lt hown1)).symm (hb1.trans (hb2.mono hb1.size)) ln1 ln2
      · obtain rfl : v = 0 := by omega
        have e0 : Tm.root 0 = 0 := Tm.root_eq ⟨by omega, .inl ⟨rfl, rfl⟩⟩
        rw [e0]
        have WQ := fun w => sWordL 0 (xs.length : Int) w (by omega) (by omega) (by omega)
        rw [Int.toNat_natCast] at WQ
        have WQ := Lib.hid WQ
        clear sp rb vb k1 e0
        go_enter Try.func45, Try.ntmps45
        go_wp2_with fail
        refine (sIsWord a _ cap xs _ H.out).mono ?_
        rintro e w' ⟨rfl, rfl⟩
        go_wp2_with fail
        refine VX.out.mono ?_
        rintro e w' ⟨rfl, rfl⟩
        go_wp2_with fail
        refine VX.out.mono ?_
        rintro e w' ⟨rfl, rfl⟩
        go_wp2_with fail
        refine (WQ.out _).mono ?_
        rintro e w1 ⟨a1, c1, rfl, hown1, hb1, ln1⟩
        go_wp2_with fail
        refine (WQ.out _).mono ?_
        rintro e w2 ⟨a2, c2, rfl, hown2, hb2, ln2⟩
        go_wp2
        go_ret3
        exact ret_own_2b (own_below hown1 hb2) (own_weak hown2 hb1.size) (Apart.of_lt (own_ge hown2) (own_lt hown1)).symm (hb1.trans (hb2.mono hb1.size)) ln1 ln2
    · have ho : Tm.rootOk xs = false := by simp [Tm.rootOk, hx]; omega
      rw [Tm.rootW, Tm.rootT, ho]
      obtain ⟨v, hv⟩ : ∃ v, v = Tm.val xs := ⟨_, rfl⟩
      rw [← hv] at VX h0
      have h0' : v < 0 := by omega
      clear hv ho vb k1
      go_enter Try.func45, Try.ntmps45
      go_wp2_with fail
      refine (sIsWord a _ cap xs _ H.out).mono ?_
      rintro e w' ⟨rfl, rfl⟩
      go_wp2_with fail
      refine VX.out.mono ?_
      rintro e w' ⟨rfl, rfl⟩
      go_wp2
      go_ret3
      exact ret_nil_2b (by (repeat' (first | (with_reducible exact Below.refl _ _) | (with_reducible assumption) | (with_reducible refine below_drewN ?_ _) | (with_reducible refine Below.drew ?_) | (with_reducible refine Below.alloc ?_ ?_ _) | (with_reducible refine Below.setCell ?_ ?_ _) | (with_reducible refine below_gw ?_ ?_ _) | (with_reducible refine below_via ?_ ‹Below _ _ _› ?_) | (with_reducible exact Nat.le_refl _) | (with_reducible refine le_gw ?_ _) | (with_reducible refine le_alloc ?_ _) | (with_reducible refine le_setCell ?_ _ _) | (with_reducible refine le_drew ?_) | (with_reducible refine le_drewN ?_ _) | go_size)))
  · simp only [Bool.not_eq_true] at hx
    have ho : Tm.rootOk xs = false := by simp [Tm.rootOk, hx]
    rw [Tm.rootW, Tm.rootT, ho]
    clear ho
    go_enter Try.func45, Try.ntmps45
    go_wp2_with fail
    refine (sIsWord a _ cap xs _ H.out).mono ?_
    rintro e w' ⟨rfl, rfl⟩
    go_wp2
    go_ret3
    exact ret_nil_2b (by (repeat' (first | (with_reducible exact Below.refl _ _) | (with_reducible assumption) | (with_reducible refine below_drewN ?_ _) | (with_reducible refine Below.drew ?_) | (with_reducible refine Below.alloc ?_ ?_ _) | (with_reducible refine Below.setCell ?_ ?_ _) | (with_reducible refine below_gw ?_ ?_ _) | (with_reducible refine below_via ?_ ‹Below _ _ _› ?_) | (with_reducible exact Nat.le_refl _) | (with_reducible refine le_gw ?_ _) | (with_reducible refine le_alloc ?_ _) | (with_reducible refine le_setCell ?_ _ _) | (with_reducible refine le_drew ?_) | (with_reducible refine le_drewN ?_ _) | go_size)))
end Go.Proofs.Ytbdgkipakjmidaa

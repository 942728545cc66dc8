/- Walks of laws: FnGray. -/
import Derived.Test.YtfmpnkckaceigaaQI1
import Derived.Test.YtfmpnkckaceigaaQS1
import Derived.Test.YtfmpnkckaceigaaLaw3
import Derived.Test.YtfmpnkckaceigaaRowL
import Derived.Test.YtfmpnkckaceigaaBOwn
namespace Go.Proofs.Ytfmpnkckaceigaa
set_option maxRecDepth 20000
open Go.RowKit
namespace Tm
/-- How far two lists differ, place by place, up to place p. -/
def dif (xs ys : List Int) : Nat → Int
  | 0 => 0
  | p + 1 => dif xs ys p + absI (ys.getD p 0 - xs.getD p 0)
theorem dif_le (xs ys : List Int) (p q : Nat) (h : p ≤ q) : dif xs ys p ≤ dif xs ys q := by
  induction q with
  | zero => rw [show p = 0 from by omega]; exact Int.le_refl _
  | succ q ih =>
    by_cases e : p = q + 1
    · rw [e]; exact Int.le_refl _
    · have := ih (by omega)
      have := (absI_abs (ys.getD q 0 - xs.getD q 0)).2
      rw [dif]; omega
theorem dif_congr {xs ys us vs : List Int} {p : Nat} (h1 : ∀ i, i < p → xs.getD i 0 = us.getD i 0) (h2 : ∀ i, i < p → ys.getD i 0 = vs.getD i 0) : dif xs ys p = dif us vs p := by
  induction p with
  | zero => rfl
  | succ p ih => rw [dif, dif, ih (fun i hi => h1 i (by omega)) (fun i hi => h2 i (by omega)), h1 p (by omega), h2 p (by omega)]
theorem absI_flip (a b : Int) : absI (a - b) = absI (b - a) := by
  have h1 := absI_abs (a - b)
  have h2 := absI_abs (b - a)
  omega
theorem dif_flip (xs ys : List Int) (p : Nat) : dif xs ys p = dif ys xs p := by
  induction p with
  | zero => rfl
  | succ p ih => rw [dif, dif, ih, absI_flip]
theorem dif_self (xs : List Int) (p : Nat) : dif xs xs p = 0 := by
  induction p with
  | zero => rfl
  | succ p ih => rw [dif, ih, Int.sub_self]; rfl
theorem dif_last {xs ys : List Int} {a b : Int} {k : Nat} (h1 : xs.length = k) (h2 : ys.length = k) : dif (xs ++ [a]) (ys ++ [b]) (k + 1) = dif xs ys k + absI (b - a) := by
  have e1 : (xs ++ [a]).getD k 0 = a := by rw [← h1]; exact getD_last xs a
  have e2 : (ys ++ [b]).getD k 0 = b := by rw [← h2]; exact getD_last ys b
  rw [dif, e1, e2, dif_congr (us := xs) (vs := ys) (fun i hi => getD_left (by omega)) (fun i hi => getD_left (by omega))]
/-- Neighbours in the sequence differ at one place, by 1. -/
theorem gray_step (k : Nat) (i : Int) (h0 : 0 ≤ i) (h1 : i + 1 < pow3 k) : dif (grayL k i) (grayL k (i + 1)) k = 1 := by
  induction k generalizing i with
  | zero => simp [pow3] at h1; omega
  | succ k ih =>
    obtain ⟨b1, b2, b3, b4⟩ := third_bd h0 (show i < pow3 (k + 1) by omega)
    have hp := pow3_pos k
    have ei : i = pow3 k * (i / pow3 k) + i % pow3 k := (Int.mul_ediv_add_emod i (pow3 k)).symm
    rw [grayL, grayL, dif_last (grayL_length _ _) (grayL_length _ _)]
    generalize hc : i / pow3 k = c at *
    generalize hr : i % pow3 k = r at *
    rw [pow3_succ] at h1
    by_cases hlt : r + 1 < pow3 k
    · obtain ⟨f1, f2⟩ := div_at (P := pow3 k) (c := c) (r := r + 1) (by omega) hlt
      rw [← Int.add_assoc, ← ei] at f1 f2
      rw [f1, f2, Int.sub_self]
      have z : absI 0 = 0 := rfl
      rw [z, Int.add_zero]
      unfold inThird
      split
      · have := ih (pow3 k - 1 - (r + 1)) (by omega) (by omega)
        rw [show pow3 k - 1 - (r + 1) + 1 = pow3 k - 1 - r from by omega] at this
        rw [dif_flip]; exact this
      · exact ih r b3 hlt
    · have er : r = pow3 k - 1 := by omega
      obtain ⟨f1, f2⟩ := div_at (P := pow3 k) (c := c + 1) (r := 0) (by omega) hp
      have e2 : i + 1 = pow3 k * (c + 1) + 0 := by rw [Int.mul_add]; omega
      rw [← e2] at f1 f2
      have c2 : c ≠ 2 := by
        intro e; subst e
        omega
      have : c = 0 ∨ c = 1 := by omega
      rcases this with e | e <;> subst e
      · have g : inThird r (0 - 1) (pow3 k) = inThird ((i + 1) % pow3 k) ((i + 1) / pow3 k - 1) (pow3 k) := by rw [f1, f2]; unfold inThird; simp; omega
        rw [g, dif_self, f1]; rfl
      · have g : inThird r (1 - 1) (pow3 k) = inThird ((i + 1) % pow3 k) ((i + 1) / pow3 k - 1) (pow3 k) := by rw [f1, f2]; unfold inThird; simp; omega
        rw [g, dif_self, f1]; rfl
end Tm
set_option maxHeartbeats 4000000 in
theorem wFnGray (a0 : Option Addr) (len0 cap0 : Nat) (z0 : List Int) (w : World) (w0 : IsRow .u8 w a0 len0 cap0 z0) : Calls Try.prog 12 #[.slice a0 len0 cap0] w fun e w' => e = .returned (.bool true) ∧ Below w.heap.size w w' := by
  have BY := Lib.hid (Byts.of_row w0)
  have m0 : len0 ≤ 9223372036854775807 := by obtain ⟨h1, h2, _⟩ := BY.out; unfold maxLen at h2; omega
  clear w0
  have B := Lib.hid (Below.refl w.heap.size w)
  by_cases g0 : len0 ≤ 1048576
  · skip
    go_enter Try.func12, Try.ntmps12
    go_wp2_with fail
    refine (at_any a0 len0 cap0 1 _ BY.out (by omega) (by omega) (by omega)).mono ?_
    rintro e w' ⟨x, rfl, x_0, x_1, rfl⟩
    obtain ⟨j, hj⟩ : ∃ j : Nat, x.tmod 30 = (j : Int) := ⟨_, (Int.toNat_of_nonneg (Int.tmod_nonneg _ x_0)).symm⟩
    have j_lt : j < 30 := by have := Int.tmod_lt_of_pos x (show (0 : Int) < 30 by omega); omega
    obtain ⟨K, hK⟩ : ∃ K : Nat, K = j + 1 := ⟨_, rfl⟩
    have K1 : 1 ≤ K := by omega
    have K30 : K ≤ 30 := by omega
    go_wp2_with fail
    rw [show (1 + (j : Int)) = ((K : Nat) : Int) from by omega]
    refine (makePower K _ (by omega)).mono ?_
    rintro e w' ⟨h0, rfl⟩
    obtain ⟨P, hv⟩ : ∃ r_, r_ = Tm.pow3 K := ⟨_, rfl⟩
    rw [← hv] at h0
    subst h0
    have H_P : Hid (P = Tm.pow3 K) := Lib.hid hv
    have bd : 1 ≤ P ∧ P ≤ 205891132094649 := by rw [hv]; exact ⟨Tm.pow3_pos K, by have := Tm.pow3_le K30; rwa [Tm.pow3_30] at this⟩
    obtain ⟨P_0, P_1⟩ := bd
    clear hv
    clear hK hj j_lt
    go_wp2_with fail
    refine (at_any a0 len0 cap0 2 _ BY.out (by omega) (by omega) (by omega)).mono ?_
    rintro e w' ⟨b2, rfl, b2_0, b2_1, rfl⟩
    go_wp2_with fail
    refine (at_any a0 len0 cap0 3 _ BY.out (by omega) (by omega) (by omega)).mono ?_
    rintro e w' ⟨b3, rfl, b3_0, b3_1, rfl⟩
    go_wp2_with fail
    refine (at_any a0 len0 cap0 4 _ BY.out (by omega) (by omega) (by omega)).mono ?_
    rintro e w' ⟨b4, rfl, b4_0, b4_1, rfl⟩
    go_wp2_with fail
    refine (at_any a0 len0 cap0 5 _ BY.out (by omega) (by omega) (by omega)).mono ?_
    rintro e w' ⟨b5, rfl, b5_0, b5_1, rfl⟩
    have v0 : 0 ≤ b2 * 16777216 + b3 * 65536 + b4 * 256 + b5 := by omega
    obtain ⟨i, hi⟩ : ∃ i, i = (b2 * 16777216 + b3 * 65536 + b4 * 256 + b5).tmod P := ⟨_, rfl⟩
    have i1 := Int.tmod_nonneg P v0
    have i2 := Int.tmod_lt_of_pos (b2 * 16777216 + b3 * 65536 + b4 * 256 + b5) (show 0 < P by omega)
    have m2 : (b2 * 16777216 + b3 * 65536 + b4 * 256 + b5) % P = i := by rw [hi, Int.tmod_eq_emod_of_nonneg v0]
    rw [← hi] at i1 i2
    have m1 := hi.symm
    clear hi
    have P0 : ¬ (P = 0) := by omega
    go_wp2_with fail
    have hok := show Tm.grayOk i (K : Int) = true from (Tm.grayOk_iff _ _).2 ⟨K1, K30, i1, by rw [← H_P.out]; exact i2⟩
    refine (retIB_ex (iGrayWord i (K : Int) _) hok).mono ?_
    clear hok
    rintro e w0 ⟨ws, b0, c0, hv, rfl, ho, hb, ln0⟩
    have H_ws : Hid (ws = Tm.gray i (K : Int)) := Lib.hid hv
    have hsz := hb.size
    replace BY := Lib.hid (BY.out.below hb)
    replace B := Lib.hid (B.out.trans (hb.mono B.out.size))
    clear hb hsz
    have I_ws := Lib.hid (Ints.of_own ho)
    clear ho hv
    clear m1 m2 v0
    have PK := H_P.out
    have iK : i < Tm.pow3 K := by rw [← PK]; exact i2
    have EW : Hid (ws = Tm.grayL K i) := Lib.hid (by rw [H_ws.out, Tm.gray, if_pos ((Tm.grayOk_iff _ _).2 ⟨K1, K30, i1, iK⟩), Int.toNat_natCast])
    have LW : Hid (ws.length = K) := Lib.hid (by rw [EW.out, Tm.grayL_length])
    have TW : Hid (Tm.isW ws = true) := Lib.hid (Tm.isW_mk (by rw [EW.out]; exact Tm.grayL_isT K i i1 iK) (by rw [LW.out]; exact K1) (by rw [LW.out]; exact K30))
    have q1 : ((ws.length : Int) != (K : Int)) = false := by rw [LW.out]; simp
    clear PK
    go_wp2_with fail
    refine (iGrayRank b0 ws.length c0 ws _ I_ws.out).mono ?_
    rintro e w' ⟨h0, rfl⟩
    obtain ⟨r, hv⟩ : ∃ r_, r_ = Tm.rank ws := ⟨_, rfl⟩
    rw [← hv] at h0
    subst h0
    have H_r : Hid (r = Tm.rank ws) := Lib.hid hv
    clear hv
    have er : (r != i) = false := by rw [H_r.out, Tm.rank, if_pos TW.out, LW.out, EW.out, Tm.rk_gray K i i1 iK]; simp
    go_wp2_with fail
    refine (fresh_any a0 len0 cap0 3 _ BY.out (by omega) (by omega) (by omega)).mono ?_
    rintro e w1 ⟨a9, len9, cap9, rfl, m9, by9, hb⟩
    have BZ := Lib.hid by9
    clear by9
    have hsz := hb.size
    replace I_ws := Lib.hid (I_ws.out.below hb)
    replace BY := Lib.hid (BY.out.below hb)
    replace B := Lib.hid (B.out.trans (hb.mono B.out.size))
    clear hb hsz
    go_wp2_with fail
    refine (makeWord_any a9 len9 cap9 30 _ BZ.out (by omega) (by omega) (by omega)).mono ?_
    rintro e w2 ⟨xs, b2, c2, rfl, hw, hp, ho, hb⟩
    clear BZ
    have hsz := hb.size
    replace I_ws := Lib.hid (I_ws.out.below hb)
    replace BY := Lib.hid (BY.out.below hb)
    replace B := Lib.hid (B.out.trans (hb.mono B.out.size))
    clear hb hsz
    have I_xs := Lib.hid (Ints.of_own ho)
    clear ho
    have W_xs := Lib.hid hw
    have xs_1 := Tm.isW_pos hw
    have xs_2 : xs.length ≤ 30 := by omega
    clear hw hp
    go_wp2_with fail
    refine (iGrayRank b2 xs.length c2 xs _ I_xs.out).mono ?_
    rintro e w' ⟨h0, rfl⟩
    obtain ⟨q, hv⟩ : ∃ r_, r_ = Tm.rank xs := ⟨_, rfl⟩
    rw [← hv] at h0
    subst h0
    have H_q : Hid (q = Tm.rank xs) := Lib.hid hv
    clear hv
    have qq : Hid (q = Tm.rkN xs xs.length) := Lib.hid (by rw [H_q.out, Tm.rank, if_pos W_xs.out])
    have qb : 0 ≤ q ∧ q < Tm.pow3 xs.length := by rw [qq.out]; exact Tm.rkN_bd (Tm.isW_at W_xs.out) _
    have QB := Lib.hid qb
    clear qb
    go_wp2_with fail
    have hok := show Tm.grayOk q (xs.length : Int) = true from (Tm.grayOk_iff _ _).2 ⟨xs_1, xs_2, QB.out.1, QB.out.2⟩
    refine (retIB_ex (iGrayWord q (xs.length : Int) _) hok).mono ?_
    clear hok
    rintro e w3 ⟨ys, b3, c3, hv, rfl, ho, hb, ln3⟩
    have H_ys : Hid (ys = Tm.gray q (xs.length : Int)) := Lib.hid hv
    have hsz := hb.size
    replace I_ws := Lib.hid (I_ws.out.below hb)
    replace I_xs := Lib.hid (I_xs.out.below hb)
    replace BY := Lib.hid (BY.out.below hb)
    replace B := Lib.hid (B.out.trans (hb.mono B.out.size))
    clear hb hsz
    have I_ys := Lib.hid (Ints.of_own ho)
    clear ho hv
    go_wp2_with fail
    refine (ints_any b2 b3 xs.length ys.length c2 c3 xs ys _ I_xs.out I_ys.out).mono ?_
    rintro e w4 ⟨h0, hb⟩
    rw [decide_eq_true (show xs = ys from by rw [H_ys.out, Tm.gray, if_pos ((Tm.grayOk_iff _ _).2 ⟨xs_1, xs_2, QB.out.1, QB.out.2⟩), Int.toNat_natCast, qq.out, Tm.gray_rk (Tm.isW_trits W_xs.out)])] at h0
    subst h0
    have hsz := hb.size
    replace I_ws := Lib.hid (I_ws.out.below hb)
    replace I_xs := Lib.hid (I_xs.out.below hb)
    replace I_ys := Lib.hid (I_ys.out.below hb)
    replace BY := Lib.hid (BY.out.below hb)
    replace B := Lib.hid (B.out.trans (hb.mono B.out.size))
    clear hb hsz
    have iw : IntKind.i64.wrap (i + 1) = i + 1 := IntWalk.i64_in _ (by omega)
    by_cases hm : i + 1 < P
    · skip
      go_wp2_with fail
      have hok := show Tm.grayOk (i + 1) (K : Int) = true from (Tm.grayOk_iff _ _).2 ⟨K1, K30, by omega, by rw [← H_P.out]; exact hm⟩
      refine (retIB_ex (iGrayWord (i + 1) (K : Int) _) hok).mono ?_
      clear hok
      rintro e w5 ⟨ns, b5, c5, hv, rfl, ho, hb, ln5⟩
      have H_ns : Hid (ns = Tm.gray (i + 1) (K : Int)) := Lib.hid hv
      have hsz := hb.size
      replace I_ws := Lib.hid (I_ws.out.below hb)
      replace I_xs := Lib.hid (I_xs.out.below hb)
      replace I_ys := Lib.hid (I_ys.out.below hb)
      replace BY := Lib.hid (BY.out.below hb)
      replace B := Lib.hid (B.out.trans (hb.mono B.out.size))
      clear hb hsz
      have I_ns := Lib.hid (Ints.of_own ho)
      clear ho hv
      have iN : i + 1 < Tm.pow3 K := by rw [← H_P.out]; exact hm
      have EN : Hid (ns = Tm.grayL K (i + 1)) := Lib.hid (by rw [H_ns.out, Tm.gray, if_pos ((Tm.grayOk_iff _ _).2 ⟨K1, K30, by omega, iN⟩), Int.toNat_natCast])
      have LN : Hid (ns.length = K) := Lib.hid (by rw [EN.out, Tm.grayL_length])
      have q2 : ((ns.length : Int) == (K : Int)) = true := by rw [LN.out]; simp
      have DF : Hid (Tm.dif ws ns K = 1) := Lib.hid (by rw [EW.out, EN.out]; exact Tm.gray_step K i i1 iN)
      have DS := Lib.hid (Tm.dif_le ws ns)
      have TN : Hid (Tm.isW ns = true) := Lib.hid (Tm.isW_mk (by rw [EN.out]; exact Tm.grayL_isT K (i + 1) (by omega) iN) (by rw [LN.out]; exact K1) (by rw [LN.out]; exact K30))
      go_wp2_with fail
      go_loopw [13, 94] (fun dv pv wr => ∃ (p d : Nat), p ≤ ws.length ∧ pv = .int .i64 p ∧ dv = .int .i64 (Tm.dif ws ns p) ∧ wr = World.drewN w5 d) (fun _ pv _ => ws.length - (intOf pv).toNat)
      case atStart => exact ⟨0, 0, by omega, rfl, rfl, rfl⟩
      case round =>
        obtain ⟨p, d, hp, rfl, rfl, rfl⟩ := hrel
        by_cases hlt : p < ws.length
        · have hK := LW.out
          rcases I_ws.out.2.2.2 with h0 | ⟨b1, o1, rfl, hb1, hc1⟩
          · omega
          rcases I_ns.out.2.2.2 with h0 | ⟨b2', o2, rfl, hb2, hc2⟩
          · rw [LN.out] at h0; omega
          have c1 := hc1 p hlt
          have c2 := hc2 p (by rw [LN.out]; omega)
          have pn : p < ns.length := by rw [LN.out]; omega
          have t1 := Tm.isW_at TW.out p
          have t2 := Tm.isW_at TN.out p
          have D1 : Hid (Tm.dif ws ns (p + 1) = Tm.dif ws ns p + Tm.absI (ns.getD p 0 - ws.getD p 0)) := Lib.hid rfl
          have b5' := DS.out (p + 1) K (by omega)
          have b6 := DS.out 0 p (by omega)
          have b7 := DS.out p (p + 1) (by omega)
          rw [DF.out] at b5'
          have b8 : Tm.dif ws ns 0 = 0 := rfl
          rw [b8] at b6
          have ab := (Tm.absI_abs (ns.getD p 0 - ws.getD p 0)).2
          obtain ⟨x1, hx1⟩ : ∃ x1, x1 = ws.getD p 0 := ⟨_, rfl⟩
          obtain ⟨x2, hx2⟩ : ∃ x2, x2 = ns.getD p 0 := ⟨_, rfl⟩
          rw [← hx1] at c1 t1 D1 ab
          rw [← hx2] at c2 t2 D1 ab
          have AB := Lib.hid (fun W => abs_any (x2 - x1) W (by omega) (by omega))
          obtain ⟨D0, hD0⟩ : ∃ D0, D0 = Tm.dif ws ns p := ⟨_, rfl⟩
          obtain ⟨Z, hZ⟩ : ∃ Z, Z = Tm.absI (x2 - x1) := ⟨_, rfl⟩
          rw [← hD0] at D1 b6 b7 ⊢
          rw [← hZ] at D1 AB ab
          rw [D1.out] at b5' b7
          clear hc1 hc2 hx1 hx2 hD0 hZ hK b8
          obtain ⟨t1a, t1b⟩ := t1
          obtain ⟨t2a, t2b⟩ := t2
          go_wp2_with fail
          go_quiet ((go_at_call 46; first | exact quiet_same2 (fun W => AB.out W) | exact quiet_same (fun W => AB.out W)))
          go_wp2
          exact ⟨⟨p + 1, _, by omega, by go_num, val_int (by rw [D1.out]), rfl⟩, by simp [intOf]; omega⟩
        · obtain rfl : p = ws.length := by omega
          have E1 : Tm.dif ws ns ws.length = 1 := by rw [LW.out]; exact DF.out
          rw [E1]
          go_wp2
          go_ret
          exact ⟨by simp, below_drewN B.out _⟩
    · skip
      go_wp2_with fail
      have hok := show Tm.grayOk (i + 1) (K : Int) = false by
        rw [Bool.eq_false_iff]
        intro h
        have := ((Tm.grayOk_iff _ _).1 h).2.2.2
        rw [← H_P.out] at this
        omega
      refine (retIB_no (iGrayWord (i + 1) (K : Int) _) hok).mono ?_
      clear hok
      rintro e w5 ⟨v5, rfl, hb⟩
      have hsz := hb.size
      replace I_ws := Lib.hid (I_ws.out.below hb)
      replace I_xs := Lib.hid (I_xs.out.below hb)
      replace I_ys := Lib.hid (I_ys.out.below hb)
      replace BY := Lib.hid (BY.out.below hb)
      replace B := Lib.hid (B.out.trans (hb.mono B.out.size))
      clear hb hsz
      go_wp2_with fail
      go_loop [94] (fun pv => ∃ (p : Nat), p ≤ ws.length ∧ pv = .int .i64 p) (fun pv => ws.length - (intOf pv).toNat)
      case atStart => exact ⟨0, by omega, rfl⟩
      case round =>
        obtain ⟨p, hp, rfl⟩ := hrel
        by_cases hlt : p < ws.length
        · go_wp2
          exact ⟨⟨p + 1, by omega, by go_num⟩, by simp [intOf]; omega⟩
        · obtain rfl : p = ws.length := by omega
          go_wp2
          go_ret
          exact ⟨rfl, B.out⟩
  · go_enter Try.func12, Try.ntmps12
    go_wp2
    go_ret
    exact ⟨rfl, B.out⟩
end Go.Proofs.Ytfmpnkckaceigaa

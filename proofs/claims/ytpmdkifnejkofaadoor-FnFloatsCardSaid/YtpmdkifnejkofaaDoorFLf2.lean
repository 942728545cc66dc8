/- Walks of laws: FnFloats. -/
import Derived.Test.YtpmdkifnejkofaaDoorDP
import Derived.Test.YtpmdkifnejkofaaDoorFMath
import Derived.Test.YtpmdkifnejkofaaDoorOwn2
import Derived.Test.YtpmdkifnejkofaaDoorBox
import Derived.Test.YtpmdkifnejkofaaDoorLaw2
import Derived.Test.YtpmdkifnejkofaaDoorLaw
import Derived.Test.YtpmdkifnejkofaaDoorLAm
namespace Go.Proofs.YtpmdkifnejkofaaDoor
set_option maxRecDepth 20000
open Go.RowKit
namespace Tm
theorem frm_25 {n : Int} (h : -423644304721 ≤ n ∧ n ≤ 423644304721) : frmOk n 0 = true ∧ frmD n 0 = ofD n ∧ frmE n 0 = ofE n 0 ∧ fits n ∧ ofOk n 0 = true := by
  have f : fits n := ⟨by omega, by omega⟩
  have o : ofOk n 0 = true := by
    rw [ofOk, ofE]; split
    · rfl
    · have := lenN_spec f
      have s5 := this.2.2.2.2 (by assumption)
      have k6 : lenN n ≤ 25 := by
        rcases Nat.lt_or_ge 25 (lenN n) with c | c
        · have m := limN_mono (show 25 ≤ lenN n - 1 by omega)
          rw [show limN 25 = 423644304721 from by decide] at m
          have := absI_abs n
          omega
        · exact c
      exact (inB_iff _ _ _).2 ⟨by omega, by omega⟩
  have g := frm_of (m := n) (f := 0) f ⟨by omega, by omega⟩ rfl rfl
  rw [g.1, g.2.1, g.2.2, fD, fE, o, if_pos rfl, if_pos rfl]
  exact ⟨rfl, rfl, rfl, f, rfl⟩
end Tm
theorem retFB_ex {P : Program} {f : FuncId} {args : Array Value} {w : World} {e : Nat} {xs : List Int} {x : Int} {ok : Bool} (h : Calls P f args w (RetFB e w xs x ok)) (hk : ok = true) :
    Calls P f args w fun r w' => ∃ (ys : List Int) (y : Int) (a : Option Addr) (cap : Nat), ys = xs ∧ y = x ∧ r = .returned (.tuple #[.agg #[.slice a ys.length cap, .int .i64 y], .bool true]) ∧ w'.ownsRow w.heap.size e 1 (.slice a ys.length cap) ys.length (ys.map (Value.int .i64)) ∧ Below w.heap.size w w' ∧ ys.length ≤ 1048576 :=
  h.mono fun r w' hr => by
    obtain ⟨a, cap, h1, h2, h3, h4⟩ := hr
    subst hk
    exact ⟨xs, x, a, cap, rfl, rfl, h1, h2, h3, h4⟩
theorem retFB_any {P : Program} {f : FuncId} {args : Array Value} {w : World} {e : Nat} {xs : List Int} {x : Int} {ok : Bool} (h : Calls P f args w (RetFB e w xs x ok)) :
    Calls P f args w fun r w' => ∃ (ys : List Int) (y : Int) (o : Bool) (a : Option Addr) (cap : Nat), ys = xs ∧ y = x ∧ o = ok ∧ r = .returned (.tuple #[.agg #[.slice a ys.length cap, .int .i64 y], .bool o]) ∧ w'.ownsRow w.heap.size e 1 (.slice a ys.length cap) ys.length (ys.map (Value.int .i64)) ∧ Below w.heap.size w w' ∧ ys.length ≤ 1048576 :=
  h.mono fun r w' hr => by
    obtain ⟨a, cap, h1, h2, h3, h4⟩ := hr
    exact ⟨xs, x, ok, a, cap, rfl, rfl, rfl, h1, h2, h3, h4⟩
theorem retF_ex {P : Program} {f : FuncId} {args : Array Value} {w : World} {e : Nat} {xs : List Int} {x : Int} (h : Calls P f args w (RetF e w xs x)) :
    Calls P f args w fun r w' => ∃ (ys : List Int) (y : Int) (a : Option Addr) (cap : Nat), ys = xs ∧ y = x ∧ r = .returned (.agg #[.slice a ys.length cap, .int .i64 y]) ∧ w'.ownsRow w.heap.size e 1 (.slice a ys.length cap) ys.length (ys.map (Value.int .i64)) ∧ Below w.heap.size w w' ∧ ys.length ≤ 1048576 :=
  h.mono fun r w' hr => by
    obtain ⟨a, cap, h1, h2, h3, h4⟩ := hr
    exact ⟨xs, x, a, cap, rfl, rfl, h1, h2, h3, h4⟩
set_option maxRecDepth 20000 in
set_option maxHeartbeats 4000000 in
theorem wFnFloats (a0 : Option Addr) (len0 cap0 : Nat) (z0 : List Int) (w : World) (w0 : IsRow .u8 w a0 len0 cap0 z0) (hD : Door w) : Calls Tryd.prog 3 #[.slice a0 len0 cap0] w fun e w' => e = .returned (.bool true) ∧ Below w.heap.size w w' := by
  have HD := Lib.hid hD
  clear hD
  have BY := Lib.hid (Byts.of_row w0)
  have m0 : len0 ≤ 9223372036854775807 := by obtain ⟨h1, h2, _⟩ := BY.out; unfold maxLen at h2; omega
  clear w0
  have B := Lib.hid (Below.refl w.heap.size w)
  by_cases g0 : len0 ≤ 1048576
  · skip
    go_enter Tryd.func3, Tryd.ntmps3
    go_wp2_with fail
    refine (makeWord_any a0 len0 cap0 25 _ BY.out (by omega) (by omega) (by omega)).mono ?_
    rintro e w0 ⟨xs, b0, c0, rfl, hw, hp, ho, hb⟩
    have hsz := hb.size
    replace BY := Lib.hid (BY.out.below hb)
    replace B := Lib.hid (B.out.trans (hb.mono B.out.size))
    clear hb hsz
    have I_xs := Lib.hid (Ints.of_own ho)
    clear ho
    have W_xs := Lib.hid hw
    have xs_1 := Tm.isW_pos hw
    have xs_2 : xs.length ≤ 25 := by omega
    clear hw hp
    have VB : Hid (-423644304721 ≤ Tm.value xs ∧ Tm.value xs ≤ 423644304721) := Lib.hid (by rw [Tm.value_eq W_xs.out]; exact Tm.val_bd_len W_xs.out 25 (by omega))
    go_wp2_with fail
    refine (iValueOf b0 xs.length c0 xs _ I_xs.out).mono ?_
    rintro e w' ⟨h0, rfl⟩
    obtain ⟨n, hv⟩ : ∃ r_, r_ = Tm.value xs := ⟨_, rfl⟩
    rw [← hv] at h0
    subst h0
    have H_n : Hid (n = Tm.value xs) := Lib.hid hv
    have bd : -423644304721 ≤ n ∧ n ≤ 423644304721 := by rw [hv]; exact VB.out
    obtain ⟨n_0, n_1⟩ := bd
    clear hv
    have FN := Lib.hid (Tm.frm_25 (n := n) ⟨by omega, by omega⟩)
    have NR := Lib.hid (Tm.of_near (n := n) FN.out.2.2.2.1)
    go_wp2_with fail
    have hok := FN.out.1
    refine (retFB_ex (iFloatOf n 0 _) hok).mono ?_
    clear hok
    rintro e w1 ⟨f, e_f, b1, c1, hv, hv2, rfl, ho, hb, ln1⟩
    have H_f : Hid (f = Tm.frmD n 0) := Lib.hid hv
    have E_f : Hid (e_f = Tm.frmE n 0) := Lib.hid hv2
    have hsz := hb.size
    replace I_xs := Lib.hid (I_xs.out.below hb)
    replace BY := Lib.hid (BY.out.below hb)
    replace B := Lib.hid (B.out.trans (hb.mono B.out.size))
    clear hb hsz
    have I_f := Lib.hid (Ints.of_own ho)
    clear ho hv hv2
    have HF : Hid (f = Tm.ofD n ∧ e_f = Tm.ofE n 0) := Lib.hid ⟨by rw [H_f.out, FN.out.2.1], by rw [E_f.out, FN.out.2.2.1]⟩
    have IFF : Tm.isF f e_f = true := by rw [HF.out.1, HF.out.2, Tm.of_isF 0 FN.out.2.2.2.1]; exact FN.out.2.2.2.2
    have IFT := Lib.hid IFF
    have eb := ((Tm.isF_iff _ _).1 IFF).2.2.1
    obtain ⟨eb1, eb2⟩ := eb
    have W_f : Hid (Tm.isW f = true) := Lib.hid ((Tm.isF_iff _ _).1 IFF).1
    have vb := Tm.isF_val IFF
    clear IFF
    go_wp2_with fail
    generalize hW : World.alloc w1 _ = w2
    obtain ⟨bx, hb⟩ := box_of hW
    have BX_f := Lib.hid bx
    clear hW bx
    have hsz := hb.size
    replace I_xs := Lib.hid (I_xs.out.below hb)
    replace I_f := Lib.hid (I_f.out.below hb)
    replace BY := Lib.hid (BY.out.below hb)
    replace B := Lib.hid (B.out.trans (hb.mono B.out.size))
    clear hb hsz
    refine (sIsFloat b1 f.length c1 f e_f _ I_f.out).mono ?_
    rw [IFT.out]
    rintro e w3 ⟨rfl, hb⟩
    have hsz := hb.size
    replace I_xs := Lib.hid (I_xs.out.below hb)
    replace I_f := Lib.hid (I_f.out.below hb)
    replace BX_f := Lib.hid (BX_f.out.below hb)
    replace BY := Lib.hid (BY.out.below hb)
    replace B := Lib.hid (B.out.trans (hb.mono B.out.size))
    clear hb hsz
    have c_ := BX_f.out
    obtain ⟨l0_, x0_, y0_⟩ := c_
    go_wp2_with fail
    clear l0_ x0_ y0_
    refine (iFormatFloat b1 f.length c1 f e_f _ I_f.out (HD.out.below B.out).1).mono ?_
    rintro e w4 ⟨h0, hb⟩
    obtain ⟨tx, hv⟩ : ∃ r_, r_ = (⟨(Tm.fmtF f e_f).toArray⟩ : ByteArray) := ⟨_, rfl⟩
    rw [← hv] at h0
    subst h0
    have H_tx := Lib.hid hv
    clear hv
    have hsz := hb.size
    replace I_xs := Lib.hid (I_xs.out.below hb)
    replace I_f := Lib.hid (I_f.out.below hb)
    replace BX_f := Lib.hid (BX_f.out.below hb)
    replace BY := Lib.hid (BY.out.below hb)
    replace B := Lib.hid (B.out.trans (hb.mono B.out.size))
    clear hb hsz
    have PP : Hid (Tm.isP tx f e_f) := Lib.hid ⟨IFT.out, (Tm.isP_fmt IFT.out).1 H_tx.out⟩
    have PR := Lib.hid (Tm.pr_yes PP.out)
    have ts : tx.size ≤ 1048576 := by rw [(Tm.isP_parts PP.out).1]; have := (Tm.dec_rd (e := e_f) ⟨by omega, by omega⟩).2.2.1; omega
    go_wp2_with fail
    have hok := PR.out.1
    refine (retFB_ex (iParseFloat tx _ ts (HD.out.below B.out)) hok).mono ?_
    clear hok
    rintro e w5 ⟨g, e_g, b5, c5, hv, hv2, rfl, ho, hb, ln5⟩
    have H_g : Hid (g = Tm.prD tx) := Lib.hid hv
    have E_g : Hid (e_g = Tm.prE tx) := Lib.hid hv2
    have hsz := hb.size
    replace I_xs := Lib.hid (I_xs.out.below hb)
    replace I_f := Lib.hid (I_f.out.below hb)
    replace BX_f := Lib.hid (BX_f.out.below hb)
    replace BY := Lib.hid (BY.out.below hb)
    replace B := Lib.hid (B.out.trans (hb.mono B.out.size))
    clear hb hsz
    have I_g := Lib.hid (Ints.of_own ho)
    clear ho hv hv2
    have GF : Hid (g = f ∧ e_g = e_f) := Lib.hid ⟨by rw [H_g.out, PR.out.2.1], by rw [E_g.out, PR.out.2.2]⟩
    have q1 : (e_g != e_f) = false := by rw [GF.out.2]; simp
    have c_ := BX_f.out
    obtain ⟨l0_, x0_, y0_⟩ := c_
    go_wp2_with fail
    generalize hW : World.alloc w5 _ = w6
    obtain ⟨bx, hb⟩ := box_of hW
    have BX_g := Lib.hid bx
    clear hW bx
    clear l0_ x0_ y0_
    have hsz := hb.size
    replace I_xs := Lib.hid (I_xs.out.below hb)
    replace I_f := Lib.hid (I_f.out.below hb)
    replace I_g := Lib.hid (I_g.out.below hb)
    replace BX_f := Lib.hid (BX_f.out.below hb)
    replace BY := Lib.hid (BY.out.below hb)
    replace B := Lib.hid (B.out.trans (hb.mono B.out.size))
    clear hb hsz
    refine (ints_any b5 b1 g.length f.length c5 c1 g f _ I_g.out I_f.out).mono ?_
    rintro e w7 ⟨h0, hb⟩
    rw [decide_eq_true (show g = f from GF.out.1)] at h0
    subst h0
    have hsz := hb.size
    replace I_xs := Lib.hid (I_xs.out.below hb)
    replace I_f := Lib.hid (I_f.out.below hb)
    replace I_g := Lib.hid (I_g.out.below hb)
    replace BX_f := Lib.hid (BX_f.out.below hb)
    replace BX_g := Lib.hid (BX_g.out.below hb)
    replace BY := Lib.hid (BY.out.below hb)
    replace B := Lib.hid (B.out.trans (hb.mono B.out.size))
    clear hb hsz
    have VF : Hid (-364 ≤ Tm.value f ∧ Tm.value f ≤ 364) := Lib.hid (by rw [Tm.value_eq W_f.out]; exact vb)
    clear vb q1
    have c_ := BX_f.out
    obtain ⟨l0_, x0_, y0_⟩ := c_
    go_wp2_with fail
    clear l0_ x0_ y0_
    refine (iValueOf b1 f.length c1 f _ I_f.out).mono ?_
    rintro e w' ⟨h0, rfl⟩
    obtain ⟨v, hv⟩ : ∃ r_, r_ = Tm.value f := ⟨_, rfl⟩
    rw [← hv] at h0
    subst h0
    have H_v : Hid (v = Tm.value f) := Lib.hid hv
    have bd : -364 ≤ v ∧ v ≤ 364 := by rw [hv]; exact VF.out
    obtain ⟨v_0, v_1⟩ := bd
    clear hv
    have VV : Hid (v = Tm.val (Tm.ofD n)) := Lib.hid (by rw [H_v.out, Tm.value_eq W_f.out, HF.out.1])
    by_cases e0 : e_f < 0
    · skip
      obtain ⟨k, hk⟩ : ∃ k : Nat, -e_f = (k : Int) := ⟨(-e_f).toNat, by omega⟩
      have k30 : k ≤ 30 := by omega
      have hk2 : IntKind.i64.wrap (-e_f) = (k : Int) := by rw [hk]; exact IntWalk.i64_in _ (by omega)
      have EQ : Hid (v = n * Tm.pow3 k) := Lib.hid (by rw [VV.out, NR.out.1 (by rw [← HF.out.2]; exact e0), ← HF.out.2, show (-e_f).toNat = k by omega])
      have c_ := BX_f.out
      obtain ⟨l0_, x0_, y0_⟩ := c_
      go_wp2_with fail
      clear l0_ x0_ y0_
      refine (makePower k _ k30).mono ?_
      rintro e w' ⟨h0, rfl⟩
      obtain ⟨pw, hv⟩ : ∃ r_, r_ = Tm.pow3 k := ⟨_, rfl⟩
      rw [← hv] at h0
      subst h0
      have H_pw : Hid (pw = Tm.pow3 k) := Lib.hid hv
      have bd : 1 ≤ pw ∧ pw ≤ 205891132094649 := by rw [hv]; exact ⟨Tm.pow3_pos k, Tm.pow3_le (b := 30) (by omega)⟩
      obtain ⟨pw_0, pw_1⟩ := bd
      clear hv
      have e1 : v = n * pw := by rw [EQ.out, H_pw.out]
      have e2 : (v == n * pw) = true := by simpa using e1
      have e3 : -364 ≤ n * pw := by omega
      have e4 : n * pw ≤ 364 := by omega
      clear e1
      have c_ := BX_f.out
      obtain ⟨l0_, x0_, y0_⟩ := c_
      go_wp2
      go_ret
      exact ⟨rfl, B.out⟩
    · skip
      obtain ⟨k, rfl⟩ := Int.eq_ofNat_of_zero_le (show 0 ≤ e_f by omega)
      have k30 : k ≤ 20 := by omega
      have NN := Lib.hid (NR.out.2 (by rw [← HF.out.2]; omega))
      rw [← HF.out.2, ← VV.out, Int.toNat_natCast] at NN
      have c_ := BX_f.out
      obtain ⟨l0_, x0_, y0_⟩ := c_
      go_wp2_with fail
      clear l0_ x0_ y0_
      refine (makePower k _ (by omega)).mono ?_
      rintro e w' ⟨h0, rfl⟩
      obtain ⟨pw, hv⟩ : ∃ r_, r_ = Tm.pow3 k := ⟨_, rfl⟩
      rw [← hv] at h0
      subst h0
      have H_pw : Hid (pw = Tm.pow3 k) := Lib.hid hv
      have bd : 1 ≤ pw ∧ pw ≤ 3486784401 := by rw [hv]; exact ⟨Tm.pow3_pos k, Tm.pow3_le (b := 20) (by omega)⟩
      obtain ⟨pw_0, pw_1⟩ := bd
      clear hv
      have mb := Tm.mul_bd (a := v) (b := pw) (A := 364) (B := 3486784401) ⟨by omega, by omega⟩ ⟨by omega, by omega⟩
      obtain ⟨mb1, mb2⟩ := mb
      have nr : 2 * Tm.absI (n - v * pw) < pw := by rw [H_pw.out]; exact NN.out.1
      have NR2 := Lib.hid nr
      have na := Tm.absI_abs (n - v * pw)
      have AB : Hid (0 ≤ Tm.absI (n - v * pw) ∧ Tm.absI (n - v * pw) ≤ 3486784401) := Lib.hid (by omega)
      clear nr na
      go_wp2_with fail
      refine (abs_any (n - v * pw) _ (by omega) (by omega)).mono ?_
      rintro e w' ⟨h0, rfl⟩
      obtain ⟨d, hv⟩ : ∃ r_, r_ = Tm.absI (n - v * pw) := ⟨_, rfl⟩
      rw [← hv] at h0
      subst h0
      have H_d : Hid (d = Tm.absI (n - v * pw)) := Lib.hid hv
      have bd : 0 ≤ d ∧ d ≤ 3486784401 := by rw [hv]; exact AB.out
      obtain ⟨d_0, d_1⟩ := bd
      clear hv
      have e9 : 2 * d < pw := by rw [H_d.out]; exact NR2.out
      go_wp2_with fail
      refine (iLengthOf n _).mono ?_
      rintro e w' ⟨h0, rfl⟩
      obtain ⟨ln, hv⟩ : ∃ r_, r_ = Tm.lenOf n := ⟨_, rfl⟩
      rw [← hv] at h0
      subst h0
      have H_ln : Hid (ln = Tm.lenOf n) := Lib.hid hv
      clear hv
      have LE : Hid (6 < ln ∨ v * pw = n) := Lib.hid (by rw [H_ln.out, H_pw.out]; exact NN.out.2)
      clear H_ln
      have le := LE.out
      by_cases l6 : 6 < ln
      · skip
        go_wp2
        go_ret
        exact ⟨rfl, B.out⟩
      · skip
        have l7 := le.resolve_left l6
        have l8 : (v * pw == n) = true := by simpa using l7
        clear le
        go_wp2
        go_ret
        exact ⟨rfl, B.out⟩
  · go_enter Tryd.func3, Tryd.ntmps3
    go_wp2
    go_ret
    exact ⟨rfl, B.out⟩
end Go.Proofs.YtpmdkifnejkofaaDoor

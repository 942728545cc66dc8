/- Walks of laws: FnFloatExact. -/
import Derived.Test.YtgkljlmfflbejaaFI3
import Derived.Test.YtgkljlmfflbejaaFMath
import Derived.Test.YtgkljlmfflbejaaOwn2
import Derived.Test.YtgkljlmfflbejaaBox
import Derived.Test.YtgkljlmfflbejaaLaw2
import Derived.Test.YtgkljlmfflbejaaLaw
import Derived.Test.YtgkljlmfflbejaaLAm
namespace Go.Proofs.Ytgkljlmfflbejaa
set_option maxRecDepth 20000
open Go.RowKit
namespace Tm
/-- Whole numbers of at most six trits, as the program's FloatOf hands them back. -/
theorem frm_small {n e : Int} (h : -364 ≤ n ∧ n ≤ 364) (he : -14 ≤ e ∧ e ≤ 14) : frmOk n e = true ∧ frmD n e = ofD n ∧ frmE n e = ofE n e ∧ isF (ofD n) (ofE n e) = true := by
  have f : fits n := ⟨by omega, by omega⟩
  have o : ofOk n e = true := by
    rw [ofOk, ofE]; split
    · rfl
    · have := lenN_spec f
      have s5 := this.2.2.2.2 (by assumption)
      have k6 : lenN n ≤ 6 := by
        rcases Nat.lt_or_ge 6 (lenN n) with c | c
        · have m := limN_mono (show 6 ≤ lenN n - 1 by omega)
          rw [show limN 6 = 364 from by decide] at m
          have := absI_abs n
          omega
        · exact c
      exact (inB_iff _ _ _).2 ⟨by omega, by omega⟩
  have g := frm_of (m := n) (f := e) f ⟨by omega, by omega⟩ rfl rfl
  rw [g.1, g.2.1, g.2.2, fD, fE, o, if_pos rfl, if_pos rfl]
  exact ⟨rfl, rfl, rfl, by rw [of_isF e f, o]⟩
/-- Products of them. -/
theorem frm_prod {n : Int} (h : -20000 ≤ n ∧ n ≤ 20000) : frmOk n 0 = true ∧ frmD n 0 = ofD n ∧ frmE n 0 = ofE n 0 ∧ ofOk n 0 = true := by
  have f : fits n := ⟨by omega, by omega⟩
  have o : ofOk n 0 = true := by
    rw [ofOk, ofE]; split
    · rfl
    · have := lenN_spec f
      have s5 := this.2.2.2.2 (by assumption)
      have k6 : lenN n ≤ 10 := by
        rcases Nat.lt_or_ge 10 (lenN n) with c | c
        · have m := limN_mono (show 10 ≤ lenN n - 1 by omega)
          rw [show limN 10 = 29524 from by decide] at m
          have := absI_abs n
          omega
        · exact c
      exact (inB_iff _ _ _).2 ⟨by omega, by omega⟩
  have g := frm_of (m := n) (f := 0) f ⟨by omega, by omega⟩ rfl rfl
  rw [g.1, g.2.1, g.2.2, fD, fE, o, if_pos rfl, if_pos rfl]
  exact ⟨rfl, rfl, rfl, rfl⟩
theorem ex_add {n m : Int} (hn : -128 ≤ n ∧ n ≤ 127) (hm : -128 ≤ m ∧ m ≤ 127) : adOk (ofD n) (ofE n 0) (ofD m) (ofE m 0) = true ∧ adD (ofD n) (ofE n 0) (ofD m) (ofE m 0) = frmD (n + m) 0 ∧ adE (ofD n) (ofE n 0) (ofD m) (ofE m 0) = frmE (n + m) 0 ∧ cmpF (ofD n) (ofE n 0) (ofD m) (ofE m 0) = sgn (n - m) := by
  have a := (frm_small (n := n) (e := 0) ⟨by omega, by omega⟩ ⟨by omega, by omega⟩).2.2.2
  have b := (frm_small (n := m) (e := 0) ⟨by omega, by omega⟩ ⟨by omega, by omega⟩).2.2.2
  have s := sum_exact (n := n) (m := m) ⟨by omega, by omega⟩ ⟨by omega, by omega⟩
  have f := frm_prod (n := n + m) ⟨by omega, by omega⟩
  have e := ad_eq a b
  have o : ofOk (sumN (ofD n) (ofE n 0) (ofD m) (ofE m 0)) (sumE (ofD n) (ofE n 0) (ofD m) (ofE m 0)) = true := by rw [ofOk, s.2.1]; exact f.2.2.2
  rw [e.1, e.2.1, e.2.2, f.2.1, f.2.2.1, fD, fE, o, if_pos rfl, if_pos rfl, s.1, s.2.1, cmpF, a, b]
  exact ⟨rfl, rfl, rfl, s.2.2⟩
theorem ex_mul {n m : Int} (hn : -128 ≤ n ∧ n ≤ 127) (hm : -128 ≤ m ∧ m ≤ 127) : mlOk (ofD n) (ofE n 0) (ofD m) (ofE m 0) = true ∧ mlD (ofD n) (ofE n 0) (ofD m) (ofE m 0) = frmD (n * m) 0 ∧ mlE (ofD n) (ofE n 0) (ofD m) (ofE m 0) = frmE (n * m) 0 := by
  have a := (frm_small (n := n) (e := 0) ⟨by omega, by omega⟩ ⟨by omega, by omega⟩).2.2.2
  have b := (frm_small (n := m) (e := 0) ⟨by omega, by omega⟩ ⟨by omega, by omega⟩).2.2.2
  have s := mul_exact (n := n) (m := m) ⟨by omega, by omega⟩ ⟨by omega, by omega⟩
  have mb := mul_bd (a := n) (b := m) (A := 128) (B := 128) ⟨by omega, by omega⟩ ⟨by omega, by omega⟩
  have f := frm_prod (n := n * m) ⟨by omega, by omega⟩
  have e := ml_eq a b
  have o : ofOk (val (ofD n) * val (ofD m)) (ofE n 0 + ofE m 0) = true := by rw [ofOk, s.2]; exact f.2.2.2
  rw [e.1, e.2.1, e.2.2, f.2.1, f.2.2.1, fD, fE, o, if_pos rfl, if_pos rfl, s.1, s.2]
  exact ⟨rfl, rfl, rfl⟩
theorem ex_scl {n k : Int} (hn : -128 ≤ n ∧ n ≤ 127) (hk : -4 ≤ k ∧ k ≤ 4) : sclOk (ofD n) (ofE n 0) k = true ∧ sclD (ofD n) (ofE n 0) k = frmD n k ∧ sclE (ofD n) (ofE n 0) k = frmE n k := by
  have a := (frm_small (n := n) (e := 0) ⟨by omega, by omega⟩ ⟨by omega, by omega⟩).2.2.2
  have f := frm_small (n := n) (e := k) ⟨by omega, by omega⟩ ⟨by omega, by omega⟩
  have s := scl_exact (n := n) ⟨by omega, by omega⟩ k
  have e := scl_eq (by_ := k) a ((inB_iff _ _ _).2 ⟨by omega, by omega⟩)
  have g : ofOk n k = true := by
    have := (isF_iff _ _).1 f.2.2.2
    rw [ofOk]; exact (inB_iff _ _ _).2 this.2.2.1
  have o : ofOk (val (ofD n)) (ofE n 0 + k) = true := by rw [ofOk, s.2]; exact g
  rw [e.1, e.2.1, e.2.2, f.2.1, f.2.2.1, fD, fE, o, if_pos rfl, if_pos rfl, s.1, s.2]
  exact ⟨rfl, rfl, rfl⟩
end Tm
theorem retFB_ex {P : Program} {f : FuncId} {args : Array Value} {w : World} {e : Nat} {xs : List Int} {x : Int} {ok : Bool} (h : Calls P f args w (RetFB e w xs x ok)) (hk : ok = true) :
    Calls P f args w fun r w' => ∃ (ys : List Int) (y : Int) (a : Option Addr) (cap : Nat), ys = xs ∧ y = x ∧ r = .returned (.tuple #[.agg #[.slice a ys.length cap, .int .i64 y], .bool true]) ∧ w'.ownsRow w.heap.size e 1 (.slice a ys.length cap) ys.length (ys.map (Value.int .i64)) ∧ Below w.heap.size w w' ∧ ys.length ≤ 1048576 :=
  h.mono fun r w' hr => by
    obtain ⟨a, cap, h1, h2, h3, h4⟩ := hr
    subst hk
    exact ⟨xs, x, a, cap, rfl, rfl, h1, h2, h3, h4⟩
theorem retFB_any {P : Program} {f : FuncId} {args : Array Value} {w : World} {e : Nat} {xs : List Int} {x : Int} {ok : Bool} (h : Calls P f args w (RetFB e w xs x ok)) :
    Calls P f args w fun r w' => ∃ (ys : List Int) (y : Int) (o : Bool) (a : Option Addr) (cap : Nat), ys = xs ∧ y = x ∧ o = ok ∧ r = .returned (.tuple #[.agg #[.slice a ys.length cap, .int .i64 y], .bool o]) ∧ w'.ownsRow w.heap.size e 1 (.slice a ys.length cap) ys.length (ys.map (Value.int .i64)) ∧ Below w.heap.size w w' ∧ ys.length ≤ 1048576 :=
  h.mono fun r w' hr => by
    obtain ⟨a, cap, h1, h2, h3, h4⟩ := hr
    exact ⟨xs, x, ok, a, cap, rfl, rfl, rfl, h1, h2, h3, h4⟩
theorem retF_ex {P : Program} {f : FuncId} {args : Array Value} {w : World} {e : Nat} {xs : List Int} {x : Int} (h : Calls P f args w (RetF e w xs x)) :
    Calls P f args w fun r w' => ∃ (ys : List Int) (y : Int) (a : Option Addr) (cap : Nat), ys = xs ∧ y = x ∧ r = .returned (.agg #[.slice a ys.length cap, .int .i64 y]) ∧ w'.ownsRow w.heap.size e 1 (.slice a ys.length cap) ys.length (ys.map (Value.int .i64)) ∧ Below w.heap.size w w' ∧ ys.length ≤ 1048576 :=
  h.mono fun r w' hr => by
    obtain ⟨a, cap, h1, h2, h3, h4⟩ := hr
    exact ⟨xs, x, a, cap, rfl, rfl, h1, h2, h3, h4⟩
set_option maxRecDepth 20000 in
set_option maxHeartbeats 4000000 in
theorem wFnFloatExact (a0 : Option Addr) (len0 cap0 : Nat) (z0 : List Int) (w : World) (w0 : IsRow .u8 w a0 len0 cap0 z0) : Calls Try.prog 3 #[.slice a0 len0 cap0] w fun e w' => e = .returned (.bool true) ∧ Below w.heap.size w w' := by
  have BY := Lib.hid (Byts.of_row w0)
  have m0 : len0 ≤ 9223372036854775807 := by obtain ⟨h1, h2, _⟩ := BY.out; unfold maxLen at h2; omega
  clear w0
  have B := Lib.hid (Below.refl w.heap.size w)
  by_cases g0 : len0 ≤ 1048576
  · skip
    go_enter Try.func3, Try.ntmps3
    go_wp2_with fail
    refine (at_any a0 len0 cap0 1 _ BY.out (by omega) (by omega) (by omega)).mono ?_
    rintro e w' ⟨x, rfl, x_0, x_1, rfl⟩
    go_wp2_with fail
    refine (at_any a0 len0 cap0 2 _ BY.out (by omega) (by omega) (by omega)).mono ?_
    rintro e w' ⟨y, rfl, y_0, y_1, rfl⟩
    obtain ⟨n, hn⟩ : ∃ n, n = x - 128 := ⟨_, rfl⟩
    have n_0 : -128 ≤ n := by omega
    have n_1 : n ≤ 127 := by omega
    obtain ⟨m, hm⟩ : ∃ m, m = y - 128 := ⟨_, rfl⟩
    have m_0 : -128 ≤ m := by omega
    have m_1 : m ≤ 127 := by omega
    have hn2 := hn.symm
    have hm2 := hm.symm
    clear hn hm
    have FN := Lib.hid (Tm.frm_small (n := n) (e := 0) ⟨by omega, by omega⟩ ⟨by omega, by omega⟩)
    have FM := Lib.hid (Tm.frm_small (n := m) (e := 0) ⟨by omega, by omega⟩ ⟨by omega, by omega⟩)
    have EX := Lib.hid (Tm.ex_add (n := n) (m := m) ⟨by omega, by omega⟩ ⟨by omega, by omega⟩)
    have MX := Lib.hid (Tm.ex_mul (n := n) (m := m) ⟨by omega, by omega⟩ ⟨by omega, by omega⟩)
    have FX := Lib.hid (Tm.flr_exact (n := n) ⟨by omega, by omega⟩)
    have mb := Tm.mul_bd (a := n) (b := m) (A := 128) (B := 128) ⟨by omega, by omega⟩ ⟨by omega, by omega⟩
    obtain ⟨mb1, mb2⟩ := mb
    have FS := Lib.hid (Tm.frm_prod (n := n + m) ⟨by omega, by omega⟩)
    have FP := Lib.hid (Tm.frm_prod (n := n * m) ⟨by omega, by omega⟩)
    go_wp2_with fail
    have hok := FN.out.1
    refine (retFB_ex (iFloatOf n 0 _) hok).mono ?_
    clear hok
    rintro e w0 ⟨a, e_a, b0, c0, hv, hv2, rfl, ho, hb, ln0⟩
    have H_a : Hid (a = Tm.frmD n 0) := Lib.hid hv
    have E_a : Hid (e_a = Tm.frmE n 0) := Lib.hid hv2
    have hsz := hb.size
    replace BY := Lib.hid (BY.out.below hb)
    replace B := Lib.hid (B.out.trans (hb.mono B.out.size))
    clear hb hsz
    have I_a := Lib.hid (Ints.of_own ho)
    clear ho hv hv2
    have HA : Hid (a = Tm.ofD n ∧ e_a = Tm.ofE n 0) := Lib.hid ⟨by rw [H_a.out, FN.out.2.1], by rw [E_a.out, FN.out.2.2.1]⟩
    go_wp2_with fail
    generalize hW : World.alloc w0 _ = w1
    obtain ⟨bx, hb⟩ := box_of hW
    have BX_a := Lib.hid bx
    clear hW bx
    have hsz := hb.size
    replace I_a := Lib.hid (I_a.out.below hb)
    replace BY := Lib.hid (BY.out.below hb)
    replace B := Lib.hid (B.out.trans (hb.mono B.out.size))
    clear hb hsz
    have hok := FM.out.1
    refine (retFB_ex (iFloatOf m 0 _) hok).mono ?_
    clear hok
    rintro e w2 ⟨b, e_b, b2, c2, hv, hv2, rfl, ho, hb, ln2⟩
    have H_b : Hid (b = Tm.frmD m 0) := Lib.hid hv
    have E_b : Hid (e_b = Tm.frmE m 0) := Lib.hid hv2
    have hsz := hb.size
    replace I_a := Lib.hid (I_a.out.below hb)
    replace BX_a := Lib.hid (BX_a.out.below hb)
    replace BY := Lib.hid (BY.out.below hb)
    replace B := Lib.hid (B.out.trans (hb.mono B.out.size))
    clear hb hsz
    have I_b := Lib.hid (Ints.of_own ho)
    clear ho hv hv2
    have HB : Hid (b = Tm.ofD m ∧ e_b = Tm.ofE m 0) := Lib.hid ⟨by rw [H_b.out, FM.out.2.1], by rw [E_b.out, FM.out.2.2.1]⟩
    have c_ := BX_a.out
    obtain ⟨l0_, x0_, y0_⟩ := c_
    go_wp2_with fail
    generalize hW : World.alloc w2 _ = w3
    obtain ⟨bx, hb⟩ := box_of hW
    have BX_b := Lib.hid bx
    clear hW bx
    clear l0_ x0_ y0_
    have hsz := hb.size
    replace I_a := Lib.hid (I_a.out.below hb)
    replace I_b := Lib.hid (I_b.out.below hb)
    replace BX_a := Lib.hid (BX_a.out.below hb)
    replace BY := Lib.hid (BY.out.below hb)
    replace B := Lib.hid (B.out.trans (hb.mono B.out.size))
    clear hb hsz
    have hok := show Tm.adOk a e_a b e_b = true by rw [HA.out.1, HA.out.2, HB.out.1, HB.out.2]; exact EX.out.1
    refine (retFB_ex (iAddFloats b0 a.length c0 a e_a b2 b.length c2 b e_b _ I_a.out I_b.out) hok).mono ?_
    clear hok
    rintro e w4 ⟨s, e_s, b4, c4, hv, hv2, rfl, ho, hb, ln4⟩
    have H_s : Hid (s = Tm.adD a e_a b e_b) := Lib.hid hv
    have E_s : Hid (e_s = Tm.adE a e_a b e_b) := Lib.hid hv2
    have hsz := hb.size
    replace I_a := Lib.hid (I_a.out.below hb)
    replace I_b := Lib.hid (I_b.out.below hb)
    replace BX_a := Lib.hid (BX_a.out.below hb)
    replace BX_b := Lib.hid (BX_b.out.below hb)
    replace BY := Lib.hid (BY.out.below hb)
    replace B := Lib.hid (B.out.trans (hb.mono B.out.size))
    clear hb hsz
    have I_s := Lib.hid (Ints.of_own ho)
    clear ho hv hv2
    go_wp2_with fail
    generalize hW : World.alloc w4 _ = w5
    obtain ⟨bx, hb⟩ := box_of hW
    have BX_s := Lib.hid bx
    clear hW bx
    have hsz := hb.size
    replace I_a := Lib.hid (I_a.out.below hb)
    replace I_b := Lib.hid (I_b.out.below hb)
    replace I_s := Lib.hid (I_s.out.below hb)
    replace BX_a := Lib.hid (BX_a.out.below hb)
    replace BX_b := Lib.hid (BX_b.out.below hb)
    replace BY := Lib.hid (BY.out.below hb)
    replace B := Lib.hid (B.out.trans (hb.mono B.out.size))
    clear hb hsz
    have hok := FS.out.1
    refine (retFB_ex (iFloatOf (n + m) 0 _) hok).mono ?_
    clear hok
    rintro e w6 ⟨t, e_t, b6, c6, hv, hv2, rfl, ho, hb, ln6⟩
    have H_t : Hid (t = Tm.frmD (n + m) 0) := Lib.hid hv
    have E_t : Hid (e_t = Tm.frmE (n + m) 0) := Lib.hid hv2
    have hsz := hb.size
    replace I_a := Lib.hid (I_a.out.below hb)
    replace I_b := Lib.hid (I_b.out.below hb)
    replace I_s := Lib.hid (I_s.out.below hb)
    replace BX_a := Lib.hid (BX_a.out.below hb)
    replace BX_b := Lib.hid (BX_b.out.below hb)
    replace BX_s := Lib.hid (BX_s.out.below hb)
    replace BY := Lib.hid (BY.out.below hb)
    replace B := Lib.hid (B.out.trans (hb.mono B.out.size))
    clear hb hsz
    have I_t := Lib.hid (Ints.of_own ho)
    clear ho hv hv2
    have ST : Hid (s = t ∧ e_s = e_t) := Lib.hid ⟨by rw [H_s.out, H_t.out]; rw [HA.out.1, HA.out.2, HB.out.1, HB.out.2]; exact EX.out.2.1, by rw [E_s.out, E_t.out]; rw [HA.out.1, HA.out.2, HB.out.1, HB.out.2]; exact EX.out.2.2.1⟩
    have q1 : (e_s != e_t) = false := by rw [ST.out.2]; simp
    have c_ := BX_s.out
    obtain ⟨l0_, x0_, y0_⟩ := c_
    go_wp2_with fail
    generalize hW : World.alloc w6 _ = w7
    obtain ⟨bx, hb⟩ := box_of hW
    have BX_t := Lib.hid bx
    clear hW bx
    clear l0_ x0_ y0_
    have hsz := hb.size
    replace I_a := Lib.hid (I_a.out.below hb)
    replace I_b := Lib.hid (I_b.out.below hb)
    replace I_s := Lib.hid (I_s.out.below hb)
    replace I_t := Lib.hid (I_t.out.below hb)
    replace BX_a := Lib.hid (BX_a.out.below hb)
    replace BX_b := Lib.hid (BX_b.out.below hb)
    replace BX_s := Lib.hid (BX_s.out.below hb)
    replace BY := Lib.hid (BY.out.below hb)
    replace B := Lib.hid (B.out.trans (hb.mono B.out.size))
    clear hb hsz
    refine (ints_any b4 b6 s.length t.length c4 c6 s t _ I_s.out I_t.out).mono ?_
    rintro e w8 ⟨h0, hb⟩
    rw [decide_eq_true (show s = t from ST.out.1)] at h0
    subst h0
    have hsz := hb.size
    replace I_a := Lib.hid (I_a.out.below hb)
    replace I_b := Lib.hid (I_b.out.below hb)
    replace I_s := Lib.hid (I_s.out.below hb)
    replace I_t := Lib.hid (I_t.out.below hb)
    replace BX_a := Lib.hid (BX_a.out.below hb)
    replace BX_b := Lib.hid (BX_b.out.below hb)
    replace BX_s := Lib.hid (BX_s.out.below hb)
    replace BX_t := Lib.hid (BX_t.out.below hb)
    replace BY := Lib.hid (BY.out.below hb)
    replace B := Lib.hid (B.out.trans (hb.mono B.out.size))
    clear hb hsz
    have c_ := BX_a.out
    obtain ⟨l0_, x0_, y0_⟩ := c_
    have c_ := BX_b.out
    obtain ⟨l1_, x1_, y1_⟩ := c_
    go_wp2_with fail
    clear l0_ x0_ y0_
    clear l1_ x1_ y1_
    refine (iCompareFloats b0 a.length c0 a e_a b2 b.length c2 b e_b _ I_a.out I_b.out).mono ?_
    rintro e w9 ⟨h0, hb⟩
    obtain ⟨cp, hv⟩ : ∃ r_, r_ = Tm.cmpF a e_a b e_b := ⟨_, rfl⟩
    rw [← hv] at h0
    subst h0
    have H_cp : Hid (cp = Tm.cmpF a e_a b e_b) := Lib.hid hv
    clear hv
    have hsz := hb.size
    replace I_a := Lib.hid (I_a.out.below hb)
    replace I_b := Lib.hid (I_b.out.below hb)
    replace I_s := Lib.hid (I_s.out.below hb)
    replace I_t := Lib.hid (I_t.out.below hb)
    replace BX_a := Lib.hid (BX_a.out.below hb)
    replace BX_b := Lib.hid (BX_b.out.below hb)
    replace BX_s := Lib.hid (BX_s.out.below hb)
    replace BX_t := Lib.hid (BX_t.out.below hb)
    replace BY := Lib.hid (BY.out.below hb)
    replace B := Lib.hid (B.out.trans (hb.mono B.out.size))
    clear hb hsz
    have CS : Hid (cp = Tm.sgn (n - m)) := Lib.hid (by rw [H_cp.out]; rw [HA.out.1, HA.out.2, HB.out.1, HB.out.2]; exact EX.out.2.2.2)
    go_wp2_with fail
    refine (iSignOf (n - m) _).mono ?_
    rintro e w' ⟨h0, rfl⟩
    obtain ⟨sg, hv⟩ : ∃ r_, r_ = Tm.sgn (n - m) := ⟨_, rfl⟩
    rw [← hv] at h0
    subst h0
    have H_sg : Hid (sg = Tm.sgn (n - m)) := Lib.hid hv
    clear hv
    have q2 : (cp != sg) = false := by rw [CS.out, H_sg.out]; simp
    have c_ := BX_a.out
    obtain ⟨l0_, x0_, y0_⟩ := c_
    have c_ := BX_b.out
    obtain ⟨l1_, x1_, y1_⟩ := c_
    go_wp2_with fail
    clear l0_ x0_ y0_
    clear l1_ x1_ y1_
    have hok := show Tm.mlOk a e_a b e_b = true by rw [HA.out.1, HA.out.2, HB.out.1, HB.out.2]; exact MX.out.1
    refine (retFB_ex (iMulFloats b0 a.length c0 a e_a b2 b.length c2 b e_b _ I_a.out I_b.out) hok).mono ?_
    clear hok
    rintro e w10 ⟨p, e_p, b10, c10, hv, hv2, rfl, ho, hb, ln10⟩
    have H_p : Hid (p = Tm.mlD a e_a b e_b) := Lib.hid hv
    have E_p : Hid (e_p = Tm.mlE a e_a b e_b) := Lib.hid hv2
    have hsz := hb.size
    replace I_a := Lib.hid (I_a.out.below hb)
    replace I_b := Lib.hid (I_b.out.below hb)
    replace I_s := Lib.hid (I_s.out.below hb)
    replace I_t := Lib.hid (I_t.out.below hb)
    replace BX_a := Lib.hid (BX_a.out.below hb)
    replace BX_b := Lib.hid (BX_b.out.below hb)
    replace BX_s := Lib.hid (BX_s.out.below hb)
    replace BX_t := Lib.hid (BX_t.out.below hb)
    replace BY := Lib.hid (BY.out.below hb)
    replace B := Lib.hid (B.out.trans (hb.mono B.out.size))
    clear hb hsz
    have I_p := Lib.hid (Ints.of_own ho)
    clear ho hv hv2
    clear q1 q2
    have s1 : IntKind.i64.wrap (n * m) = n * m := IntWalk.i64_in _ (by omega)
    go_wp2_with fail
    generalize hW : World.alloc w10 _ = w11
    obtain ⟨bx, hb⟩ := box_of hW
    have BX_p := Lib.hid bx
    clear hW bx
    have hsz := hb.size
    replace I_a := Lib.hid (I_a.out.below hb)
    replace I_b := Lib.hid (I_b.out.below hb)
    replace I_s := Lib.hid (I_s.out.below hb)
    replace I_t := Lib.hid (I_t.out.below hb)
    replace I_p := Lib.hid (I_p.out.below hb)
    replace BX_a := Lib.hid (BX_a.out.below hb)
    replace BX_b := Lib.hid (BX_b.out.below hb)
    replace BX_s := Lib.hid (BX_s.out.below hb)
    replace BX_t := Lib.hid (BX_t.out.below hb)
    replace BY := Lib.hid (BY.out.below hb)
    replace B := Lib.hid (B.out.trans (hb.mono B.out.size))
    clear hb hsz
    have hok := FP.out.1
    refine (retFB_ex (iFloatOf (n * m) 0 _) hok).mono ?_
    clear hok
    rintro e w12 ⟨q, e_q, b12, c12, hv, hv2, rfl, ho, hb, ln12⟩
    have H_q : Hid (q = Tm.frmD (n * m) 0) := Lib.hid hv
    have E_q : Hid (e_q = Tm.frmE (n * m) 0) := Lib.hid hv2
    have hsz := hb.size
    replace I_a := Lib.hid (I_a.out.below hb)
    replace I_b := Lib.hid (I_b.out.below hb)
    replace I_s := Lib.hid (I_s.out.below hb)
    replace I_t := Lib.hid (I_t.out.below hb)
    replace I_p := Lib.hid (I_p.out.below hb)
    replace BX_a := Lib.hid (BX_a.out.below hb)
    replace BX_b := Lib.hid (BX_b.out.below hb)
    replace BX_s := Lib.hid (BX_s.out.below hb)
    replace BX_t := Lib.hid (BX_t.out.below hb)
    replace BX_p := Lib.hid (BX_p.out.below hb)
    replace BY := Lib.hid (BY.out.below hb)
    replace B := Lib.hid (B.out.trans (hb.mono B.out.size))
    clear hb hsz
    have I_q := Lib.hid (Ints.of_own ho)
    clear ho hv hv2
    have PQ : Hid (p = q ∧ e_p = e_q) := Lib.hid ⟨by rw [H_p.out, H_q.out]; rw [HA.out.1, HA.out.2, HB.out.1, HB.out.2]; exact MX.out.2.1, by rw [E_p.out, E_q.out]; rw [HA.out.1, HA.out.2, HB.out.1, HB.out.2]; exact MX.out.2.2⟩
    clear s1
    go_wp2_with fail
    generalize hW : World.alloc w12 _ = w13
    obtain ⟨bx, hb⟩ := box_of hW
    have BX_q := Lib.hid bx
    clear hW bx
    have hsz := hb.size
    replace I_a := Lib.hid (I_a.out.below hb)
    replace I_b := Lib.hid (I_b.out.below hb)
    replace I_s := Lib.hid (I_s.out.below hb)
    replace I_t := Lib.hid (I_t.out.below hb)
    replace I_p := Lib.hid (I_p.out.below hb)
    replace I_q := Lib.hid (I_q.out.below hb)
    replace BX_a := Lib.hid (BX_a.out.below hb)
    replace BX_b := Lib.hid (BX_b.out.below hb)
    replace BX_s := Lib.hid (BX_s.out.below hb)
    replace BX_t := Lib.hid (BX_t.out.below hb)
    replace BX_p := Lib.hid (BX_p.out.below hb)
    replace BY := Lib.hid (BY.out.below hb)
    replace B := Lib.hid (B.out.trans (hb.mono B.out.size))
    clear hb hsz
    refine (at_any a0 len0 cap0 3 _ BY.out (by omega) (by omega) (by omega)).mono ?_
    rintro e w' ⟨z, rfl, z_0, z_1, rfl⟩
    obtain ⟨j, hj⟩ : ∃ j : Nat, z.tmod 9 = (j : Int) := ⟨_, (Int.toNat_of_nonneg (Int.tmod_nonneg _ z_0)).symm⟩
    have j_lt : j < 9 := by have := Int.tmod_lt_of_pos z (show (0 : Int) < 9 by omega); omega
    have SC := Lib.hid (Tm.ex_scl (n := n) (k := (j : Int) - 4) ⟨by omega, by omega⟩ ⟨by omega, by omega⟩)
    have FV := Lib.hid (Tm.frm_small (n := n) (e := (j : Int) - 4) ⟨by omega, by omega⟩ ⟨by omega, by omega⟩)
    have c_ := BX_a.out
    obtain ⟨l0_, x0_, y0_⟩ := c_
    go_wp2_with fail
    clear l0_ x0_ y0_
    have hok := show Tm.sclOk a e_a ((j : Int) - 4) = true by rw [HA.out.1, HA.out.2]; exact SC.out.1
    refine (retFB_ex (iScaleFloat b0 a.length c0 a e_a ((j : Int) - 4) _ I_a.out) hok).mono ?_
    clear hok
    rintro e w14 ⟨u, e_u, b14, c14, hv, hv2, rfl, ho, hb, ln14⟩
    have H_u : Hid (u = Tm.sclD a e_a ((j : Int) - 4)) := Lib.hid hv
    have E_u : Hid (e_u = Tm.sclE a e_a ((j : Int) - 4)) := Lib.hid hv2
    have hsz := hb.size
    replace I_a := Lib.hid (I_a.out.below hb)
    replace I_b := Lib.hid (I_b.out.below hb)
    replace I_s := Lib.hid (I_s.out.below hb)
    replace I_t := Lib.hid (I_t.out.below hb)
    replace I_p := Lib.hid (I_p.out.below hb)
    replace I_q := Lib.hid (I_q.out.below hb)
    replace BX_a := Lib.hid (BX_a.out.below hb)
    replace BX_b := Lib.hid (BX_b.out.below hb)
    replace BX_s := Lib.hid (BX_s.out.below hb)
    replace BX_t := Lib.hid (BX_t.out.below hb)
    replace BX_p := Lib.hid (BX_p.out.below hb)
    replace BX_q := Lib.hid (BX_q.out.below hb)
    replace BY := Lib.hid (BY.out.below hb)
    replace B := Lib.hid (B.out.trans (hb.mono B.out.size))
    clear hb hsz
    have I_u := Lib.hid (Ints.of_own ho)
    clear ho hv hv2
    go_wp2_with fail
    generalize hW : World.alloc w14 _ = w15
    obtain ⟨bx, hb⟩ := box_of hW
    have BX_u := Lib.hid bx
    clear hW bx
    have hsz := hb.size
    replace I_a := Lib.hid (I_a.out.below hb)
    replace I_b := Lib.hid (I_b.out.below hb)
    replace I_s := Lib.hid (I_s.out.below hb)
    replace I_t := Lib.hid (I_t.out.below hb)
    replace I_p := Lib.hid (I_p.out.below hb)
    replace I_q := Lib.hid (I_q.out.below hb)
    replace I_u := Lib.hid (I_u.out.below hb)
    replace BX_a := Lib.hid (BX_a.out.below hb)
    replace BX_b := Lib.hid (BX_b.out.below hb)
    replace BX_s := Lib.hid (BX_s.out.below hb)
    replace BX_t := Lib.hid (BX_t.out.below hb)
    replace BX_p := Lib.hid (BX_p.out.below hb)
    replace BX_q := Lib.hid (BX_q.out.below hb)
    replace BY := Lib.hid (BY.out.below hb)
    replace B := Lib.hid (B.out.trans (hb.mono B.out.size))
    clear hb hsz
    have hok := FV.out.1
    refine (retFB_ex (iFloatOf n ((j : Int) - 4) _) hok).mono ?_
    clear hok
    rintro e w16 ⟨v, e_v, b16, c16, hv, hv2, rfl, ho, hb, ln16⟩
    have H_v : Hid (v = Tm.frmD n ((j : Int) - 4)) := Lib.hid hv
    have E_v : Hid (e_v = Tm.frmE n ((j : Int) - 4)) := Lib.hid hv2
    have hsz := hb.size
    replace I_a := Lib.hid (I_a.out.below hb)
    replace I_b := Lib.hid (I_b.out.below hb)
    replace I_s := Lib.hid (I_s.out.below hb)
    replace I_t := Lib.hid (I_t.out.below hb)
    replace I_p := Lib.hid (I_p.out.below hb)
    replace I_q := Lib.hid (I_q.out.below hb)
    replace I_u := Lib.hid (I_u.out.below hb)
    replace BX_a := Lib.hid (BX_a.out.below hb)
    replace BX_b := Lib.hid (BX_b.out.below hb)
    replace BX_s := Lib.hid (BX_s.out.below hb)
    replace BX_t := Lib.hid (BX_t.out.below hb)
    replace BX_p := Lib.hid (BX_p.out.below hb)
    replace BX_q := Lib.hid (BX_q.out.below hb)
    replace BX_u := Lib.hid (BX_u.out.below hb)
    replace BY := Lib.hid (BY.out.below hb)
    replace B := Lib.hid (B.out.trans (hb.mono B.out.size))
    clear hb hsz
    have I_v := Lib.hid (Ints.of_own ho)
    clear ho hv hv2
    have UV : Hid (u = v ∧ e_u = e_v) := Lib.hid ⟨by rw [H_u.out, H_v.out, HA.out.1, HA.out.2]; exact SC.out.2.1, by rw [E_u.out, E_v.out, HA.out.1, HA.out.2]; exact SC.out.2.2⟩
    have OK9 : Tm.isF a e_a = true := by rw [HA.out.1, HA.out.2]; exact FN.out.2.2.2
    have OK9 := Lib.hid OK9
    have c_ := BX_a.out
    obtain ⟨l0_, x0_, y0_⟩ := c_
    go_wp2_with fail
    generalize hW : World.alloc w16 _ = w17
    obtain ⟨bx, hb⟩ := box_of hW
    have BX_v := Lib.hid bx
    clear hW bx
    clear l0_ x0_ y0_
    have hsz := hb.size
    replace I_a := Lib.hid (I_a.out.below hb)
    replace I_b := Lib.hid (I_b.out.below hb)
    replace I_s := Lib.hid (I_s.out.below hb)
    replace I_t := Lib.hid (I_t.out.below hb)
    replace I_p := Lib.hid (I_p.out.below hb)
    replace I_q := Lib.hid (I_q.out.below hb)
    replace I_u := Lib.hid (I_u.out.below hb)
    replace I_v := Lib.hid (I_v.out.below hb)
    replace BX_a := Lib.hid (BX_a.out.below hb)
    replace BX_b := Lib.hid (BX_b.out.below hb)
    replace BX_s := Lib.hid (BX_s.out.below hb)
    replace BX_t := Lib.hid (BX_t.out.below hb)
    replace BX_p := Lib.hid (BX_p.out.below hb)
    replace BX_q := Lib.hid (BX_q.out.below hb)
    replace BX_u := Lib.hid (BX_u.out.below hb)
    replace BY := Lib.hid (BY.out.below hb)
    replace B := Lib.hid (B.out.trans (hb.mono B.out.size))
    clear hb hsz
    refine (iFloorFloat b0 a.length c0 a e_a _ I_a.out).mono ?_
    rintro e w18 ⟨h0, hb⟩
    obtain ⟨k, hv⟩ : ∃ r_, r_ = Tm.flrV a e_a := ⟨_, rfl⟩
    rw [← hv, OK9.out] at h0
    subst h0
    have H_k : Hid (k = Tm.flrV a e_a) := Lib.hid hv
    clear hv
    have hsz := hb.size
    replace I_a := Lib.hid (I_a.out.below hb)
    replace I_b := Lib.hid (I_b.out.below hb)
    replace I_s := Lib.hid (I_s.out.below hb)
    replace I_t := Lib.hid (I_t.out.below hb)
    replace I_p := Lib.hid (I_p.out.below hb)
    replace I_q := Lib.hid (I_q.out.below hb)
    replace I_u := Lib.hid (I_u.out.below hb)
    replace I_v := Lib.hid (I_v.out.below hb)
    replace BX_a := Lib.hid (BX_a.out.below hb)
    replace BX_b := Lib.hid (BX_b.out.below hb)
    replace BX_s := Lib.hid (BX_s.out.below hb)
    replace BX_t := Lib.hid (BX_t.out.below hb)
    replace BX_p := Lib.hid (BX_p.out.below hb)
    replace BX_q := Lib.hid (BX_q.out.below hb)
    replace BX_u := Lib.hid (BX_u.out.below hb)
    replace BX_v := Lib.hid (BX_v.out.below hb)
    replace BY := Lib.hid (BY.out.below hb)
    replace B := Lib.hid (B.out.trans (hb.mono B.out.size))
    clear hb hsz
    have q3 : (k == n) = true := by rw [H_k.out, HA.out.1, HA.out.2, FX.out]; simp
    have q4 : (e_p == e_q) = true := by rw [PQ.out.2]; simp
    have q5 : (e_u == e_v) = true := by rw [UV.out.2]; simp
    have c_ := BX_p.out
    obtain ⟨l0_, x0_, y0_⟩ := c_
    have c_ := BX_q.out
    obtain ⟨l1_, x1_, y1_⟩ := c_
    go_wp2_with fail
    clear l0_ x0_ y0_
    clear l1_ x1_ y1_
    refine (ints_any b10 b12 p.length q.length c10 c12 p q _ I_p.out I_q.out).mono ?_
    rintro e w19 ⟨h0, hb⟩
    rw [decide_eq_true (show p = q from PQ.out.1)] at h0
    subst h0
    have hsz := hb.size
    replace I_a := Lib.hid (I_a.out.below hb)
    replace I_b := Lib.hid (I_b.out.below hb)
    replace I_s := Lib.hid (I_s.out.below hb)
    replace I_t := Lib.hid (I_t.out.below hb)
    replace I_p := Lib.hid (I_p.out.below hb)
    replace I_q := Lib.hid (I_q.out.below hb)
    replace I_u := Lib.hid (I_u.out.below hb)
    replace I_v := Lib.hid (I_v.out.below hb)
    replace BX_a := Lib.hid (BX_a.out.below hb)
    replace BX_b := Lib.hid (BX_b.out.below hb)
    replace BX_s := Lib.hid (BX_s.out.below hb)
    replace BX_t := Lib.hid (BX_t.out.below hb)
    replace BX_p := Lib.hid (BX_p.out.below hb)
    replace BX_q := Lib.hid (BX_q.out.below hb)
    replace BX_u := Lib.hid (BX_u.out.below hb)
    replace BX_v := Lib.hid (BX_v.out.below hb)
    replace BY := Lib.hid (BY.out.below hb)
    replace B := Lib.hid (B.out.trans (hb.mono B.out.size))
    clear hb hsz
    have c_ := BX_u.out
    obtain ⟨l0_, x0_, y0_⟩ := c_
    have c_ := BX_v.out
    obtain ⟨l1_, x1_, y1_⟩ := c_
    go_wp2_with fail
    clear l0_ x0_ y0_
    clear l1_ x1_ y1_
    refine (ints_any b14 b16 u.length v.length c14 c16 u v _ I_u.out I_v.out).mono ?_
    rintro e w20 ⟨h0, hb⟩
    rw [decide_eq_true (show u = v from UV.out.1)] at h0
    subst h0
    have hsz := hb.size
    replace I_a := Lib.hid (I_a.out.below hb)
    replace I_b := Lib.hid (I_b.out.below hb)
    replace I_s := Lib.hid (I_s.out.below hb)
    replace I_t := Lib.hid (I_t.out.below hb)
    replace I_p := Lib.hid (I_p.out.below hb)
    replace I_q := Lib.hid (I_q.out.below hb)
    replace I_u := Lib.hid (I_u.out.below hb)
    replace I_v := Lib.hid (I_v.out.below hb)
    replace BX_a := Lib.hid (BX_a.out.below hb)
    replace BX_b := Lib.hid (BX_b.out.below hb)
    replace BX_s := Lib.hid (BX_s.out.below hb)
    replace BX_t := Lib.hid (BX_t.out.below hb)
    replace BX_p := Lib.hid (BX_p.out.below hb)
    replace BX_q := Lib.hid (BX_q.out.below hb)
    replace BX_u := Lib.hid (BX_u.out.below hb)
    replace BX_v := Lib.hid (BX_v.out.below hb)
    replace BY := Lib.hid (BY.out.below hb)
    replace B := Lib.hid (B.out.trans (hb.mono B.out.size))
    clear hb hsz
    go_wp2
    go_ret
    exact ⟨rfl, B.out⟩
  · go_enter Try.func3, Try.ntmps3
    go_wp2
    go_ret
    exact ⟨rfl, B.out⟩
end Go.Proofs.Ytgkljlmfflbejaa

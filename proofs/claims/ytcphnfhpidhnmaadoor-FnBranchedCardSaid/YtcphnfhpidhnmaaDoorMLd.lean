/- Three small programs of the machine: one branches on a number, one takes its sign, one adds two numbers: plain facts. The walk of the law on branches. -/
import Derived.Test.YtcphnfhpidhnmaaDoorMRow
import Derived.Test.YtcphnfhpidhnmaaDoorMS1
import Derived.Test.YtcphnfhpidhnmaaDoorLaw
import Derived.Test.YtcphnfhpidhnmaaDoorGBox
import Derived.Test.YtcphnfhpidhnmaaDoorAS
import Derived.Test.YtcphnfhpidhnmaaDoorTr
import Derived.Test.YtcphnfhpidhnmaaDoorMCp
import Derived.Test.YtcphnfhpidhnmaaDoorAMath
import Derived.Test.YtcphnfhpidhnmaaDoorWVal
namespace Go.Proofs.YtcphnfhpidhnmaaDoor
set_option maxRecDepth 20000
open Go.RowKit
namespace Tm
def brF : Nat → Int := fun j => if j = 0 then 14 else if j = 1 then 2 else if j = 2 then 4 else if j = 3 then 6 else 0
def brProg (x : Int) : List (Nat → Int) := [opF 1 x, brF, opF 1 (-1), opF 13 7, opF 1 0, opF 13 7, opF 1 1]
def sgProg (x : Int) : List (Nat → Int) := [opF 1 x, opF 6 0]
def suProg (x y : Int) : List (Nat → Int) := [opF 1 x, opF 1 y, opF 2 0]
theorem brProg_ok {x : Int} (hx : -9841 ≤ x ∧ x ≤ 9841) : codeOk (brProg x) = true := by
  refine codeOk_of ⟨by simp [brProg], by simp [brProg]⟩ fun i hi => ?_
  have h7 : i < 7 := hi
  match i, h7 with
  | 0, _ => exact (opOk_iff _ _).2 (by simp [brProg, opF]; omega)
  | 1, _ => exact (opOk_iff _ _).2 (by simp [brProg, brF])
  | 2, _ => exact (opOk_iff _ _).2 (by simp [brProg, opF])
  | 3, _ => exact (opOk_iff _ _).2 (by simp [brProg, opF])
  | 4, _ => exact (opOk_iff _ _).2 (by simp [brProg, opF])
  | 5, _ => exact (opOk_iff _ _).2 (by simp [brProg, opF])
  | 6, _ => exact (opOk_iff _ _).2 (by simp [brProg, opF])
theorem sgProg_ok {x : Int} (hx : -9841 ≤ x ∧ x ≤ 9841) : codeOk (sgProg x) = true := by
  refine codeOk_of ⟨by simp [sgProg], by simp [sgProg]⟩ fun i hi => ?_
  have h7 : i < 2 := hi
  match i, h7 with
  | 0, _ => exact (opOk_iff _ _).2 (by simp [sgProg, opF]; omega)
  | 1, _ => exact (opOk_iff _ _).2 (by simp [sgProg, opF])
theorem suProg_ok {x y : Int} (hx : -9841 ≤ x ∧ x ≤ 9841) (hy : -9841 ≤ y ∧ y ≤ 9841) : codeOk (suProg x y) = true := by
  refine codeOk_of ⟨by simp [suProg], by simp [suProg]⟩ fun i hi => ?_
  have h7 : i < 3 := hi
  match i, h7 with
  | 0, _ => exact (opOk_iff _ _).2 (by simp [suProg, opF]; omega)
  | 1, _ => exact (opOk_iff _ _).2 (by simp [suProg, opF]; omega)
  | 2, _ => exact (opOk_iff _ _).2 (by simp [suProg, opF])
/-- A run from the machine at its beginning that comes to the end of the program. -/
theorem rn_end {L : List (Nat → Int)} {f : Nat} {s o : List Int} (ok : codeOk L = true) (r : SameRun L 20 0 [] zs27 (f + 1) (L.length : Int) s o) : rnS L 0 [] zs27 20 = s ∧ rnE L 0 [] zs27 20 = 2 := by
  have m : machOk L 0 [] zs27 = true := (machOk_iff _ _ _ _).2 ⟨ok, ⟨by omega, by omega⟩, by simp, by simp [zs27], rfl, zs27_ok⟩
  have k : rnOk L 0 [] zs27 20 = true := by unfold rnOk; rw [m]; rfl
  have hw : why L (L.length : Int) s = 2 := by unfold why; rw [if_pos rfl]
  have hn : ¬ why L (L.length : Int) s = 0 := by rw [hw]; decide
  obtain ⟨-, r2, -, r4⟩ := r
  have n20 : (20 : Int).toNat = 20 := rfl
  unfold rnS rnE
  rw [k, n20]
  simp only [↓reduceIte]
  rw [r2, r4, runS, runE, if_neg hn, if_neg hn]
  exact ⟨rfl, hw⟩
theorem sg_rn {x : Int} (hx : -9841 ≤ x ∧ x ≤ 9841) : rnS (sgProg x) 0 [] zs27 20 = [sgn x] ∧ rnE (sgProg x) 0 [] zs27 20 = 2 := by
  have t0 : SameRun (sgProg x) 20 0 [] zs27 19 1 [x] zs27 := run_to (why_zero 1 rfl (by simp [sgProg]) (by decide) (by simp [popsN, pushN]) (by omega)) rfl rfl rfl
  have t1 : SameRun (sgProg x) 19 1 [x] zs27 18 2 [sgn x] zs27 := run_to (why_zero 6 rfl (by simp [sgProg]) (by decide) (by simp [popsN, pushN]) (by omega)) rfl rfl rfl
  exact rn_end (sgProg_ok hx) (t0.trans t1)
theorem su_rn {x y : Int} (hx : -9841 ≤ x ∧ x ≤ 9841) (hy : -9841 ≤ y ∧ y ≤ 9841) : rnS (suProg x y) 0 [] zs27 20 = [wrapC (x + y)] ∧ rnE (suProg x y) 0 [] zs27 20 = 2 := by
  have t0 : SameRun (suProg x y) 20 0 [] zs27 19 1 [x] zs27 := run_to (why_zero 1 rfl (by simp [suProg]) (by decide) (by simp [popsN, pushN]) (by omega)) rfl rfl rfl
  have t1 : SameRun (suProg x y) 19 1 [x] zs27 18 2 [x, y] zs27 := run_to (why_zero 1 rfl (by simp [suProg]) (by decide) (by simp [popsN, pushN]) (by omega)) rfl rfl rfl
  have t2 : SameRun (suProg x y) 18 2 [x, y] zs27 17 3 [wrapC (x + y)] zs27 := run_to (why_zero 2 rfl (by simp [suProg]) (by decide) (by simp [popsN, pushN]) (by omega)) rfl rfl rfl
  exact rn_end (suProg_ok hx hy) (t0.trans (t1.trans t2))
theorem br_rn {x : Int} (hx : -9841 ≤ x ∧ x ≤ 9841) : rnS (brProg x) 0 [] zs27 20 = [sgn x] ∧ rnE (brProg x) 0 [] zs27 20 = 2 := by
  have t0 : SameRun (brProg x) 20 0 [] zs27 19 1 [x] zs27 := run_to (why_zero 1 rfl (by simp [brProg]) (by decide) (by simp [popsN, pushN]) (by omega)) rfl rfl rfl
  have wb : why (brProg x) 1 [x] = 0 := why_zero 14 rfl (by simp [brProg]) (by decide) (by simp [popsN, pushN]) (by omega)
  have op : opP ((brProg x).getD (1 : Int).toNat g0) (1 + 1) [x] = if x < 0 then 2 else if x = 0 then 4 else 6 := rfl
  by_cases h1 : x < 0
  · have t1 : SameRun (brProg x) 19 1 [x] zs27 18 2 [] zs27 := run_to wb (by rw [op, if_pos h1]) rfl rfl
    have t2 : SameRun (brProg x) 18 2 [] zs27 17 3 [-1] zs27 := run_to (why_zero 1 rfl (by simp [brProg]) (by decide) (by simp [popsN, pushN]) (by omega)) rfl rfl rfl
    have t3 : SameRun (brProg x) 17 3 [-1] zs27 16 7 [-1] zs27 := run_to (why_zero 13 rfl (by simp [brProg]) (by decide) (by simp [popsN, pushN]) (by omega)) rfl rfl rfl
    rw [show sgn x = -1 by unfold sgn; rw [if_pos h1]]
    exact rn_end (brProg_ok hx) (t0.trans (t1.trans (t2.trans t3)))
  by_cases h2 : x = 0
  · have t1 : SameRun (brProg x) 19 1 [x] zs27 18 4 [] zs27 := run_to wb (by rw [op, if_neg h1, if_pos h2]) rfl rfl
    have t2 : SameRun (brProg x) 18 4 [] zs27 17 5 [0] zs27 := run_to (why_zero 1 rfl (by simp [brProg]) (by decide) (by simp [popsN, pushN]) (by omega)) rfl rfl rfl
    have t3 : SameRun (brProg x) 17 5 [0] zs27 16 7 [0] zs27 := run_to (why_zero 13 rfl (by simp [brProg]) (by decide) (by simp [popsN, pushN]) (by omega)) rfl rfl rfl
    rw [show sgn x = 0 by unfold sgn; rw [if_neg h1, if_neg (by omega)]]
    exact rn_end (brProg_ok hx) (t0.trans (t1.trans (t2.trans t3)))
  · have t1 : SameRun (brProg x) 19 1 [x] zs27 18 6 [] zs27 := run_to wb (by rw [op, if_neg h1, if_neg h2]) rfl rfl
    have t2 : SameRun (brProg x) 18 6 [] zs27 17 7 [1] zs27 := run_to (why_zero 1 rfl (by simp [brProg]) (by decide) (by simp [popsN, pushN]) (by omega)) rfl rfl rfl
    rw [show sgn x = 1 by unfold sgn; rw [if_neg h1, if_pos (by omega)]]
    exact rn_end (brProg_ok hx) (t0.trans (t1.trans t2))
theorem tmod_small {n : Int} (h : -19683 < n ∧ n < 19683) : n.tmod 19683 = n := by
  rcases Int.lt_or_le n 0 with h1 | h1
  · have e := Int.neg_tmod (a := -n) (b := 19683)
    have q := Int.tmod_eq_of_lt (show 0 ≤ -n by omega) (show -n < 19683 by omega)
    rw [Int.neg_neg] at e
    omega
  · exact Int.tmod_eq_of_lt h1 h.2
theorem wrapC_mod (n : Int) : (n - wrapC n).tmod 19683 = 0 := by
  have h := Int.tmod_add_mul_tdiv n 19683
  have e : ∃ q : Int, n - wrapC n = 19683 * q := by
    unfold wrapC
    split
    · exact ⟨n.tdiv 19683 + 1, by omega⟩
    · split
      · exact ⟨n.tdiv 19683 - 1, by omega⟩
      · exact ⟨n.tdiv 19683, by omega⟩
  obtain ⟨q, hq⟩ := e
  rw [hq, Int.mul_tmod_right]
theorem wordL_nine_isW (x : Int) : isW (wordL x 9) = true := isW_mk (wordL_trits x 9) (by rw [wordL_length]; omega) (by rw [wordL_length]; omega)
/-- The sum of two words of nine trits, without its carry, is the sum wrapped as the machine wraps it. -/
theorem add_nine {x y : Int} (hx : -9841 ≤ x ∧ x ≤ 9841) (hy : -9841 ≤ y ∧ y ≤ 9841) : add (wordL x 9) (wordL y 9) 0 = addL (wordL x 9) (wordL y 9) 0 ∧ value (add (wordL x 9) (wordL y 9) 0) = wrapC (x + y) := by
  have l9 : limN 9 = 9841 := by decide
  have p9 : pow3 9 = 19683 := by decide
  have ok : addOk (wordL x 9) (wordL y 9) 0 = true := by
    rw [addOk, Bool.and_eq_true, fit_iff]
    exact ⟨⟨wordL_nine_isW x, wordL_nine_isW y, by rw [wordL_length, wordL_length]⟩, rfl⟩
  have e : add (wordL x 9) (wordL y 9) 0 = addL (wordL x 9) (wordL y 9) 0 := by rw [add, if_pos ok]
  refine ⟨e, ?_⟩
  rw [e, value_eq (isW_add ok)]
  have v := add_val ok
  rw [val_wordL x 9 (by omega), val_wordL y 9 (by omega), wordL_length, p9] at v
  have b := val_bd_len (isW_add ok) 9 (by rw [addL, genL_length, wordL_length]; omega)
  rw [l9] at b
  have c := crr_bd (wordL_nine_isW x) (wordL_nine_isW y) (c := 0) (by omega) 9
  have t := tmod_small (n := x + y) (by omega)
  unfold wrapC
  rw [t]
  generalize crr (wordL x 9) (wordL y 9) 0 9 = z at v c
  have c3 : z = -1 ∨ z = 0 ∨ z = 1 := by omega
  rcases c3 with rfl | rfl | rfl
  · rw [if_neg (by omega), if_pos (by omega)]; omega
  · rw [if_neg (by omega), if_neg (by omega)]; omega
  · rw [if_pos (by omega)]; omega
end Tm
theorem opr_br {W : World} {B : Nat} (x : Int) (t : TypeId) (hB : B = W.heap.size) : OpR (W.alloc (.cells #[.int .i64 1, .int .i64 x, .int .i64 0, .int .i64 0, .int .i64 14, .int .i64 2, .int .i64 4, .int .i64 6, .int .i64 1, .int .i64 (-1), .int .i64 0, .int .i64 0, .int .i64 13, .int .i64 7, .int .i64 0, .int .i64 0, .int .i64 1, .int .i64 0, .int .i64 0, .int .i64 0, .int .i64 13, .int .i64 7, .int .i64 0, .int .i64 0, .int .i64 1, .int .i64 1, .int .i64 0, .int .i64 0] t)) (some ⟨B, 0, none⟩) 7 7 (Tm.brProg x) := by
  subst hB
  refine ⟨rfl, by omega, by unfold maxLen; omega, .inr ⟨_, 0, rfl, by simp, fun i hi j hj => ?_⟩⟩
  match i, hi with
  | 0, _ | 1, _ | 2, _ | 3, _ | 4, _ | 5, _ | 6, _ =>
    match j, hj with
    | 0, _ | 1, _ | 2, _ | 3, _ => simp [Tm.brProg, Tm.opF, Tm.brF]
theorem opr_sg {W : World} {B : Nat} (x : Int) (t : TypeId) (hB : B = W.heap.size) : OpR (W.alloc (.cells #[.int .i64 1, .int .i64 x, .int .i64 0, .int .i64 0, .int .i64 6, .int .i64 0, .int .i64 0, .int .i64 0] t)) (some ⟨B, 0, none⟩) 2 2 (Tm.sgProg x) := by
  subst hB
  refine ⟨rfl, by omega, by unfold maxLen; omega, .inr ⟨_, 0, rfl, by simp, fun i hi j hj => ?_⟩⟩
  match i, hi with
  | 0, _ | 1, _ =>
    match j, hj with
    | 0, _ | 1, _ | 2, _ | 3, _ => simp [Tm.sgProg, Tm.opF]
theorem opr_su {W : World} {B : Nat} (x y : Int) (t : TypeId) (hB : B = W.heap.size) : OpR (W.alloc (.cells #[.int .i64 1, .int .i64 x, .int .i64 0, .int .i64 0, .int .i64 1, .int .i64 y, .int .i64 0, .int .i64 0, .int .i64 2, .int .i64 0, .int .i64 0, .int .i64 0] t)) (some ⟨B, 0, none⟩) 3 3 (Tm.suProg x y) := by
  subst hB
  refine ⟨rfl, by omega, by unfold maxLen; omega, .inr ⟨_, 0, rfl, by simp, fun i hi j hj => ?_⟩⟩
  match i, hi with
  | 0, _ | 1, _ | 2, _ =>
    match j, hj with
    | 0, _ | 1, _ | 2, _ | 3, _ => simp [Tm.suProg, Tm.opF]
theorem ints_yes (a a' : Option Addr) (n n' cap cap' : Nat) (xs : List Int) (w : World) (h : Ints w a n cap xs) (h' : Ints w a' n' cap' xs) : Calls Tryd.prog 11 #[.slice a n cap, .slice a' n' cap'] w fun e w' => e = .returned (.bool true) ∧ Below w.heap.size w w' :=
  (ints_any a a' n n' cap cap' xs xs w h h').mono fun _ _ hh => ⟨by rw [hh.1, decide_eq_true rfl], hh.2⟩
/-- A new machine runs a program of 20 steps. -/
theorem run_new (aL : Option Addr) (nL cL : Nat) (L : List (Nat → Int)) (s : List Int) (a b : Option Addr) (c d : Nat) (w : World) (hL : OpR w aL nL cL L) (hT : OpsTab w) (hM : Ms w a 0 c [] b 27 d (List.replicate 27 0)) (hr : Tm.rnS L 0 [] Tm.zs27 20 = s ∧ Tm.rnE L 0 [] Tm.zs27 20 = 2) : Calls Tryd.prog 7 #[.slice aL nL cL, machV 0 a 0 c b 27 d, .int .i64 20] w fun r w' =>
    ∃ k a' c' m' b' d', r = .returned (.tuple #[machV k a' s.length c' b' m' d', .int .i64 2]) ∧ Ints w' a' s.length c' s ∧ Below w.heap.size w w' := by
  have h := iRunMachine aL nL cL L 0 a 0 c [] b 27 d (List.replicate 27 0) 20 w hL hM hT
  change Calls _ _ _ _ (RetMI w (Tm.rnK L 0 [] Tm.zs27 20) (Tm.rnS L 0 [] Tm.zs27 20) (Tm.rnO L 0 [] Tm.zs27 20) (Tm.rnE L 0 [] Tm.zs27 20)) at h
  rw [hr.1, hr.2] at h
  refine h.mono ?_
  intro r w' hh
  unfold RetMI at hh
  obtain ⟨a2, c2, b2, d2, rfl, om, hb, -, -⟩ := hh
  exact ⟨_, a2, c2, _, b2, d2, rfl, om.ms.1, hb⟩
set_option maxHeartbeats 4000000 in
theorem wFnBranched (a0 : Option Addr) (len0 cap0 : Nat) (z0 : List Int) (w : World) (w0 : IsRow .u8 w a0 len0 cap0 z0) (hT : OpsTab w) : Calls Tryd.prog 3 #[.slice a0 len0 cap0] w fun e w' => e = .returned (.bool true) ∧ Below w.heap.size w w' := by
  have BY := Lib.hid (Byts.of_row w0)
  have HT := Lib.hid hT
  have m0 : len0 ≤ 9223372036854775807 := by obtain ⟨h1, h2, _⟩ := BY.out; unfold maxLen at h2; omega
  clear w0 hT
  by_cases g0 : len0 ≤ 1048576
  · go_enter Tryd.func3, Tryd.ntmps3
    go_wp2_with fail
    refine (at_any a0 len0 cap0 1 _ BY.out (by omega) (by omega) (by omega)).mono ?_
    rintro e w' ⟨y1, rfl, l1, u1, rfl⟩
    go_wp2_with fail
    refine (at_any a0 len0 cap0 2 _ BY.out (by omega) (by omega) (by omega)).mono ?_
    rintro e w' ⟨y2, rfl, l2, u2, rfl⟩
    have p0 : 0 ≤ y1 * y2 := Int.mul_nonneg l1 l2
    have p1 : y1 * y2 ≤ 255 * 255 := Int.mul_le_mul u1 u2 l2 (by omega)
    go_wp2_with fail
    refine (at_any a0 len0 cap0 3 _ BY.out (by omega) (by omega) (by omega)).mono ?_
    rintro e w' ⟨y3, rfl, l3, u3, rfl⟩
    go_wp2_with fail
    obtain ⟨n, hn⟩ : ∃ n, n = y1 * y2 - y3 * 100 := ⟨_, rfl⟩
    have n0 : -25500 ≤ n := by omega
    have n1 : n ≤ 65025 := by omega
    rw [← hn]
    clear hn p0 p1 l1 u1 l2 u2 l3 u3
    refine (iWrapCell _ _).mono ?_
    rintro e w' ⟨rfl, rfl⟩
    obtain ⟨x, hx⟩ : ∃ x, x = Tm.wrapC n := ⟨_, rfl⟩
    have xb := Tm.wrapC_bd n
    have xm := Tm.wrapC_mod n
    rw [← hx] at xb xm ⊢
    have XB := Lib.hid xb
    have XM := Lib.hid xm
    obtain ⟨x0, x1⟩ := xb
    clear hx xm
    obtain ⟨A, hA⟩ : ∃ A, A = (w.alloc (.cells #[.int .i64 1, .int .i64 x, .int .i64 0, .int .i64 0, .int .i64 14, .int .i64 2, .int .i64 4, .int .i64 6, .int .i64 1, .int .i64 (-1), .int .i64 0, .int .i64 0, .int .i64 13, .int .i64 7, .int .i64 0, .int .i64 0, .int .i64 1, .int .i64 0, .int .i64 0, .int .i64 0, .int .i64 13, .int .i64 7, .int .i64 0, .int .i64 0, .int .i64 1, .int .i64 1, .int .i64 0, .int .i64 0] 26)).alloc (.cells #[.int .i64 1, .int .i64 x, .int .i64 0, .int .i64 0, .int .i64 6, .int .i64 0, .int .i64 0, .int .i64 0] 26) := ⟨_, rfl⟩
    have sA : A.heap.size = w.heap.size + 2 := by rw [hA]; simp
    have AB : Below w.heap.size w A := by rw [hA]; (repeat' (first | (with_reducible exact Below.refl _ _) | (with_reducible assumption) | (with_reducible refine below_drewN ?_ _) | (with_reducible refine Below.drew ?_) | (with_reducible refine Below.alloc ?_ ?_ _) | (with_reducible refine Below.setCell ?_ ?_ _) | (with_reducible refine below_gw ?_ ?_ _) | (with_reducible refine below_via ?_ ‹Below _ _ _› ?_) | (with_reducible exact Nat.le_refl _) | (with_reducible refine le_gw ?_ _) | (with_reducible refine le_alloc ?_ _) | (with_reducible refine le_setCell ?_ _ _) | (with_reducible refine le_drew ?_) | (with_reducible refine le_drewN ?_ _) | go_size))
    have PR := Lib.hid (show OpR A (some ⟨w.heap.size, 0, none⟩) 7 7 (Tm.brProg x) by
      rw [hA]; exact (opr_br (W := w) x 26 rfl).below ((Below.refl _ _).alloc (Nat.le_refl _) _))
    have PS := Lib.hid (show OpR A (some ⟨w.heap.size + 1, 0, none⟩) 2 2 (Tm.sgProg x) by
      rw [hA]; exact opr_sg x 26 (by simp))
    have BA := Lib.hid AB
    have IC := Lib.hid (sIsCode (some ⟨w.heap.size, 0, none⟩) 7 7 (Tm.brProg x) A PR.out)
    rw [Tm.brProg_ok XB.out] at IC
    clear AB
    go_wp2_with fail
    rw [← hA]
    clear hA
    refine IC.out.mono ?_
    rintro e w3 ⟨rfl, hb3⟩
    have s3 := hb3.size
    have P3 := Lib.hid (PR.out.below hb3)
    have S3 := Lib.hid (PS.out.below hb3)
    have B3 := Lib.hid (BA.out.trans (hb3.mono (by omega)))
    clear IC hb3 PR PS BA
    go_wp2_with fail
    refine (iNewMachine _).mono ?_
    intro e w4 hh
    unfold RetM at hh
    obtain ⟨a1, c1, b1, d1, rfl, om, hb4, -, -⟩ := hh
    have s4 := hb4.size
    have P4 := Lib.hid (P3.out.below hb4)
    have S4 := Lib.hid (S3.out.below hb4)
    have B4 := Lib.hid (B3.out.trans (hb4.mono (by omega)))
    have RM := Lib.hid (run_new _ _ _ _ _ a1 b1 c1 d1 w4 P4.out (HT.out.below B4.out) om.ms (Tm.br_rn XB.out))
    clear om hb4 P3 S3 B3
    go_wp2_with fail
    refine RM.out.mono ?_
    rintro e w5 ⟨k2, a2, c2, m2, b2, d2, rfl, i5, hb5⟩
    have s5 := hb5.size
    have S5 := Lib.hid (S4.out.below hb5)
    have B5 := Lib.hid (B4.out.trans (hb5.mono (by omega)))
    have I5 := Lib.hid i5
    clear RM i5 hb5 P4 S4 B4
    go_wp2_with fail
    generalize hW : World.alloc w5 _ = w6
    obtain ⟨bx, hb6⟩ := box3_of hW
    have s6 := hb6.size
    have X6 := Lib.hid bx
    have S6 := Lib.hid (S5.out.below hb6)
    have B6 := Lib.hid (B5.out.trans (hb6.mono (by omega)))
    have I6 := Lib.hid (I5.out.below hb6)
    clear hW bx hb6 S5 B5 I5
    refine (iNewMachine _).mono ?_
    intro e w7 hh
    unfold RetM at hh
    obtain ⟨a3, c3, b3, d3, rfl, om, hb7, -, -⟩ := hh
    have s7 := hb7.size
    have S7 := Lib.hid (S6.out.below hb7)
    have B7 := Lib.hid (B6.out.trans (hb7.mono (by omega)))
    have X7 := Lib.hid (X6.out.below hb7)
    have I7 := Lib.hid (I6.out.below hb7)
    have RM := Lib.hid (run_new _ _ _ _ _ a3 b3 c3 d3 w7 S7.out (HT.out.below B7.out) om.ms (Tm.sg_rn XB.out))
    clear om hb7 S6 B6 X6 I6
    go_wp2_with fail
    refine RM.out.mono ?_
    rintro e w8 ⟨k4, a4, c4, m4, b4, d4, rfl, j8, hb8⟩
    have s8 := hb8.size
    have B8 := Lib.hid (B7.out.trans (hb8.mono (by omega)))
    have X8 := Lib.hid (X7.out.below hb8)
    have I8 := Lib.hid (I7.out.below hb8)
    have J8 := Lib.hid j8
    clear RM j8 hb8 S7 B7 X7 I7
    go_wp2_with fail
    generalize hW : World.alloc w8 _ = w9
    obtain ⟨bx, hb9⟩ := box3_of hW
    have s9 := hb9.size
    have Y9 := Lib.hid bx
    have B9 := Lib.hid (B8.out.trans (hb9.mono (by omega)))
    have X9 := Lib.hid (X8.out.below hb9)
    have I9 := Lib.hid (I8.out.below hb9)
    have J9 := Lib.hid (J8.out.below hb9)
    clear hW bx hb9 B8 X8 I8 J8
    refine (at_any a0 len0 cap0 4 _ (BY.out.below B9.out) (by omega) (by omega) (by omega)).mono ?_
    rintro e w' ⟨y4, rfl, l4, u4, rfl⟩
    go_wp2_with fail
    obtain ⟨m, hm⟩ : ∃ m, m = y4 * 41 - 5000 := ⟨_, rfl⟩
    rw [← hm]
    clear hm l4 u4
    refine (iWrapCell _ _).mono ?_
    rintro e w' ⟨rfl, rfl⟩
    obtain ⟨y, hy⟩ : ∃ y, y = Tm.wrapC m := ⟨_, rfl⟩
    have yb := Tm.wrapC_bd m
    rw [← hy] at yb ⊢
    have YB := Lib.hid yb
    obtain ⟨y0, y1⟩ := yb
    have HY := Lib.hid hy
    clear hy
    go_wp2_with fail
    have PR0 := opr_su (W := w9) x y 26 rfl
    generalize hA : World.alloc w9 _ = A9 at PR0 ⊢
    have AB : Below w9.heap.size w9 A9 := by rw [← hA]; exact (Below.refl _ _).alloc (Nat.le_refl _) _
    have sA := AB.size
    refine (iNewMachine _).mono ?_
    intro e w10 hh
    unfold RetM at hh
    obtain ⟨a5, c5, b5, d5, rfl, om, hb10, -, -⟩ := hh
    have hb10' : Below w9.heap.size w9 w10 := AB.trans (hb10.mono (by omega))
    have s10 := hb10'.size
    have P10 := Lib.hid (PR0.below hb10)
    have B10 := Lib.hid (B9.out.trans (hb10'.mono (by omega)))
    have X10 := Lib.hid (X9.out.below hb10')
    have Y10 := Lib.hid (Y9.out.below hb10')
    have I10 := Lib.hid (I9.out.below hb10')
    have J10 := Lib.hid (J9.out.below hb10')
    have RM := Lib.hid (run_new _ _ _ _ _ a5 b5 c5 d5 w10 P10.out (HT.out.below B10.out) om.ms (Tm.su_rn XB.out YB.out))
    clear om hb10 hb10' hA AB sA PR0 B9 X9 Y9 I9 J9
    go_wp2_with fail
    refine RM.out.mono ?_
    rintro e w11 ⟨k6, a6, c6, m6, b6, d6, rfl, q11, hb11⟩
    have s11 := hb11.size
    have B11 := Lib.hid (B10.out.trans (hb11.mono (by omega)))
    have X11 := Lib.hid (X10.out.below hb11)
    have Y11 := Lib.hid (Y10.out.below hb11)
    have I11 := Lib.hid (I10.out.below hb11)
    have J11 := Lib.hid (J10.out.below hb11)
    have Q11 := Lib.hid q11
    clear RM q11 hb11 P10 B10 X10 Y10 I10 J10
    go_wp2_with fail
    generalize hW : World.alloc w11 _ = w12
    obtain ⟨bx, hb12⟩ := box3_of hW
    have s12 := hb12.size
    have Z12 := Lib.hid bx
    have B12 := Lib.hid (B11.out.trans (hb12.mono (by omega)))
    have X12 := Lib.hid (X11.out.below hb12)
    have Y12 := Lib.hid (Y11.out.below hb12)
    have I12 := Lib.hid (I11.out.below hb12)
    have J12 := Lib.hid (J11.out.below hb12)
    have Q12 := Lib.hid (Q11.out.below hb12)
    clear hW bx hb12 B11 X11 Y11 I11 J11 Q11
    have okx : Tm.wordOk x 9 = true := by unfold Tm.wordOk; rw [show Tm.lim 9 = 9841 by decide]; simp; omega
    have oky : Tm.wordOk y 9 = true := by unfold Tm.wordOk; rw [show Tm.lim 9 = 9841 by decide]; simp; omega
    have WX := Lib.hid (sWordOf x 9 w12)
    rw [Tm.word_nine XB.out, okx] at WX
    refine WX.out.mono ?_
    intro e w13 hh
    unfold RetIB at hh
    obtain ⟨a7, c7, rfl, o7, hb13, -⟩ := hh
    have s13 := hb13.size
    have U13 := Lib.hid (Ints.of_own o7)
    have B13 := Lib.hid (B12.out.trans (hb13.mono (by omega)))
    have X13 := Lib.hid (X12.out.below hb13)
    have Y13 := Lib.hid (Y12.out.below hb13)
    have Z13 := Lib.hid (Z12.out.below hb13)
    have I13 := Lib.hid (I12.out.below hb13)
    have J13 := Lib.hid (J12.out.below hb13)
    have Q13 := Lib.hid (Q12.out.below hb13)
    clear WX o7 hb13 B12 X12 Y12 Z12 I12 J12 Q12
    go_wp2_with fail
    refine (iWrapCell _ _).mono ?_
    rintro e w' ⟨rfl, rfl⟩
    rw [← HY.out]
    go_wp2_with fail
    have WY := Lib.hid (sWordOf y 9 w13)
    rw [Tm.word_nine YB.out, oky] at WY
    refine WY.out.mono ?_
    intro e w14 hh
    unfold RetIB at hh
    obtain ⟨a8, c8, rfl, o8, hb14, -⟩ := hh
    have s14 := hb14.size
    have V14 := Lib.hid (Ints.of_own o8)
    have U14 := Lib.hid (U13.out.below hb14)
    have B14 := Lib.hid (B13.out.trans (hb14.mono (by omega)))
    have X14 := Lib.hid (X13.out.below hb14)
    have Y14 := Lib.hid (Y13.out.below hb14)
    have Z14 := Lib.hid (Z13.out.below hb14)
    have I14 := Lib.hid (I13.out.below hb14)
    have J14 := Lib.hid (J13.out.below hb14)
    have Q14 := Lib.hid (Q13.out.below hb14)
    clear WY o8 hb14 U13 B13 X13 Y13 Z13 I13 J13 Q13
    go_wp2_with fail
    refine (sAddWords a7 _ c7 (Tm.wordL x 9) a8 _ c8 (Tm.wordL y 9) 0 w14 U14.out V14.out).mono ?_
    intro e w15 hh
    unfold RetINB at hh
    obtain ⟨a9, c9, rfl, o9, hb15, -⟩ := hh
    have s15 := hb15.size
    have S15 := Lib.hid (Ints.of_own o9)
    have B15 := Lib.hid (B14.out.trans (hb15.mono (by omega)))
    have X15 := Lib.hid (X14.out.below hb15)
    have Y15 := Lib.hid (Y14.out.below hb15)
    have Z15 := Lib.hid (Z14.out.below hb15)
    have I15 := Lib.hid (I14.out.below hb15)
    have J15 := Lib.hid (J14.out.below hb15)
    have Q15 := Lib.hid (Q14.out.below hb15)
    clear o9 hb15 U14 V14 B14 X14 Y14 Z14 I14 J14 Q14
    have VV := Lib.hid (Tm.add_nine XB.out YB.out).2
    obtain ⟨D, hD⟩ : ∃ D, D = Tm.add (Tm.wordL x 9) (Tm.wordL y 9) 0 := ⟨_, rfl⟩
    rw [← hD] at S15 VV ⊢
    clear hD
    have SS : Hid (∀ W, Below w15.heap.size w15 W → W.cell? ⟨w5.heap.size, 1, none⟩ = some (.slice a2 1 c2) ∧ W.cell? ⟨w8.heap.size, 1, none⟩ = some (.slice a4 1 c4) ∧ W.cell? ⟨w11.heap.size, 1, none⟩ = some (.slice a6 1 c6)) := Lib.hid fun W hW => ⟨(X15.out.below hW).2.2.1, (Y15.out.below hW).2.2.1, (Z15.out.below hW).2.2.1⟩
    obtain ⟨lx, -, xx, -⟩ := X15.out
    obtain ⟨ly, -, yy, -⟩ := Y15.out
    obtain ⟨lz, -, zz, -⟩ := Z15.out
    have hwr : IntKind.i64.wrap (n - x) = n - x := IntWalk.i64_in _ ⟨by omega, by omega⟩
    have M0 := XM.out
    go_wp2
    go_region_held3 (fun W => W.cell? ⟨w5.heap.size, 1, none⟩ = some (.slice a2 1 c2) ∧ W.cell? ⟨w8.heap.size, 1, none⟩ = some (.slice a4 1 c4) ∧ W.cell? ⟨w11.heap.size, 1, none⟩ = some (.slice a6 1 c6)) (exact SS.out _ (by ((repeat' (first | (with_reducible exact Below.refl _ _) | (with_reducible assumption) | (with_reducible refine below_drewN ?_ _) | (with_reducible refine Below.drew ?_) | (with_reducible refine Below.alloc ?_ ?_ _) | (with_reducible refine Below.setCell ?_ ?_ _) | (with_reducible refine below_gw ?_ ?_ _) | (with_reducible refine below_via ?_ ‹Below _ _ _› ?_) | (with_reducible exact Nat.le_refl _) | (with_reducible refine le_gw ?_ _) | (with_reducible refine le_alloc ?_ _) | (with_reducible refine le_setCell ?_ _ _) | (with_reducible refine le_drew ?_) | (with_reducible refine le_drewN ?_ _) | go_size))); done)) ((first | (go_at_call 12; refine (iSignOf x _).mono ?_; rintro e w_ ⟨rfl, rfl⟩) | (go_at_call 13; refine (sValueOf a9 D.length c9 D _ (S15.out.below (by ((repeat' (first | (with_reducible exact Below.refl _ _) | (with_reducible assumption) | (with_reducible refine below_drewN ?_ _) | (with_reducible refine Below.drew ?_) | (with_reducible refine Below.alloc ?_ ?_ _) | (with_reducible refine Below.setCell ?_ ?_ _) | (with_reducible refine below_gw ?_ ?_ _) | (with_reducible refine below_via ?_ ‹Below _ _ _› ?_) | (with_reducible exact Nat.le_refl _) | (with_reducible refine le_gw ?_ _) | (with_reducible refine le_alloc ?_ _) | (with_reducible refine le_setCell ?_ _ _) | (with_reducible refine le_drew ?_) | (with_reducible refine le_drewN ?_ _) | go_size))); done))).mono ?_; rintro e w_ ⟨rfl, rfl⟩; rw [VV.out]) | (go_at_call 11; with_reducible refine (ints_yes a2 _ 1 1 c2 1 [Tm.sgn x] _ (I15.out.below (by ((repeat' (first | (with_reducible exact Below.refl _ _) | (with_reducible assumption) | (with_reducible refine below_drewN ?_ _) | (with_reducible refine Below.drew ?_) | (with_reducible refine Below.alloc ?_ ?_ _) | (with_reducible refine Below.setCell ?_ ?_ _) | (with_reducible refine below_gw ?_ ?_ _) | (with_reducible refine below_via ?_ ‹Below _ _ _› ?_) | (with_reducible exact Nat.le_refl _) | (with_reducible refine le_gw ?_ _) | (with_reducible refine le_alloc ?_ _) | (with_reducible refine le_setCell ?_ _ _) | (with_reducible refine le_drew ?_) | (with_reducible refine le_drewN ?_ _) | go_size))); done)) (by first | exact ints_one _ _ (by first | rfl | (simp only [gw_size, World.size_alloc]; done) | (simp; done) | (simp; omega)) | exact Ints.drew (ints_one _ _ (by first | rfl | (simp only [gw_size, World.size_alloc]; done) | (simp; done) | (simp; omega))))).mono ?_; rintro e w_ ⟨rfl, hb⟩; obtain ⟨p1, rfl⟩ := gw_of_below hb; clear hb) | (go_at_call 11; with_reducible refine (ints_yes a4 a2 1 1 c4 c2 [Tm.sgn x] _ (J15.out.below (by ((repeat' (first | (with_reducible exact Below.refl _ _) | (with_reducible assumption) | (with_reducible refine below_drewN ?_ _) | (with_reducible refine Below.drew ?_) | (with_reducible refine Below.alloc ?_ ?_ _) | (with_reducible refine Below.setCell ?_ ?_ _) | (with_reducible refine below_gw ?_ ?_ _) | (with_reducible refine below_via ?_ ‹Below _ _ _› ?_) | (with_reducible exact Nat.le_refl _) | (with_reducible refine le_gw ?_ _) | (with_reducible refine le_alloc ?_ _) | (with_reducible refine le_setCell ?_ _ _) | (with_reducible refine le_drew ?_) | (with_reducible refine le_drewN ?_ _) | go_size))); done)) (I15.out.below (by ((repeat' (first | (with_reducible exact Below.refl _ _) | (with_reducible assumption) | (with_reducible refine below_drewN ?_ _) | (with_reducible refine Below.drew ?_) | (with_reducible refine Below.alloc ?_ ?_ _) | (with_reducible refine Below.setCell ?_ ?_ _) | (with_reducible refine below_gw ?_ ?_ _) | (with_reducible refine below_via ?_ ‹Below _ _ _› ?_) | (with_reducible exact Nat.le_refl _) | (with_reducible refine le_gw ?_ _) | (with_reducible refine le_alloc ?_ _) | (with_reducible refine le_setCell ?_ _ _) | (with_reducible refine le_drew ?_) | (with_reducible refine le_drewN ?_ _) | go_size))); done))).mono ?_; rintro e w_ ⟨rfl, hb⟩; obtain ⟨p2, rfl⟩ := gw_of_below hb; clear hb) | (go_at_call 11; with_reducible refine (ints_yes a6 _ 1 1 c6 1 [Tm.wrapC (x + y)] _ (Q15.out.below (by ((repeat' (first | (with_reducible exact Below.refl _ _) | (with_reducible assumption) | (with_reducible refine below_drewN ?_ _) | (with_reducible refine Below.drew ?_) | (with_reducible refine Below.alloc ?_ ?_ _) | (with_reducible refine Below.setCell ?_ ?_ _) | (with_reducible refine below_gw ?_ ?_ _) | (with_reducible refine below_via ?_ ‹Below _ _ _› ?_) | (with_reducible exact Nat.le_refl _) | (with_reducible refine le_gw ?_ _) | (with_reducible refine le_alloc ?_ _) | (with_reducible refine le_setCell ?_ _ _) | (with_reducible refine le_drew ?_) | (with_reducible refine le_drewN ?_ _) | go_size))); done)) (by first | exact ints_one _ _ (by first | rfl | (simp only [gw_size, World.size_alloc]; done) | (simp; done) | (simp; omega)) | exact Ints.drew (ints_one _ _ (by first | rfl | (simp only [gw_size, World.size_alloc]; done) | (simp; done) | (simp; omega))))).mono ?_; rintro e w_ ⟨rfl, hb⟩; obtain ⟨p3, rfl⟩ := gw_of_below hb; clear hb) | fail))
    all_goals
      go_wp2
      go_ret
      exact ⟨rfl, by have b15 := B15.out; (repeat' (first | (with_reducible exact Below.refl _ _) | (with_reducible assumption) | (with_reducible refine below_drewN ?_ _) | (with_reducible refine Below.drew ?_) | (with_reducible refine Below.alloc ?_ ?_ _) | (with_reducible refine Below.setCell ?_ ?_ _) | (with_reducible refine below_gw ?_ ?_ _) | (with_reducible refine below_via ?_ ‹Below _ _ _› ?_) | (with_reducible exact Nat.le_refl _) | (with_reducible refine le_gw ?_ _) | (with_reducible refine le_alloc ?_ _) | (with_reducible refine le_setCell ?_ _ _) | (with_reducible refine le_drew ?_) | (with_reducible refine le_drewN ?_ _) | go_size))⟩
  · go_enter Tryd.func3, Tryd.ntmps3
    go_wp2
    go_ret
    exact ⟨rfl, by (repeat' (first | (with_reducible exact Below.refl _ _) | (with_reducible assumption) | (with_reducible refine below_drewN ?_ _) | (with_reducible refine Below.drew ?_) | (with_reducible refine Below.alloc ?_ ?_ _) | (with_reducible refine Below.setCell ?_ ?_ _) | (with_reducible refine below_gw ?_ ?_ _) | (with_reducible refine below_via ?_ ‹Below _ _ _› ?_) | (with_reducible exact Nat.le_refl _) | (with_reducible refine le_gw ?_ _) | (with_reducible refine le_alloc ?_ _) | (with_reducible refine le_setCell ?_ _ _) | (with_reducible refine le_drew ?_) | (with_reducible refine le_drewN ?_ _) | go_size))⟩
end Go.Proofs.YtcphnfhpidhnmaaDoor

/- The model's floating numbers, on. -/
import Derived.Test.YtkphbnejnilehaaFS
import Derived.Test.YtkphbnejnilehaaFMath2
import Derived.Deep.RegionHeld3
import Derived.Test.YtkphbnejnilehaaAS3
namespace Go.Proofs.Ytkphbnejnilehaa
open Go.RowKit
namespace Tm
theorem lenFrom_none {n : Int} (h : ¬ fits n) (f : Nat) (k : Int) (hk : 1 ≤ k) (hf : k + f ≤ 31) : lenFrom n f k = 0 := by
  induction f generalizing k with
  | zero => rfl
  | succ f ih =>
    rw [lenFrom, if_neg, ih (k + 1) (by omega) (by omega)]
    intro hb
    have b := (inB_iff _ _ _).1 hb
    obtain ⟨m, rfl⟩ := Int.eq_ofNat_of_zero_le (show 0 ≤ k by omega)
    rw [lim_nat (by omega) (by omega)] at b
    have := limN_le (show m ≤ 30 by omega)
    exact h ⟨by omega, by omega⟩
theorem lenOf_none {n : Int} (h : ¬ fits n) : lenOf n = 0 := lenFrom_none h 30 1 (by omega) (by omega)
instance (n : Int) : Decidable (fits n) := by unfold fits; exact inferInstance
end Tm
theorem sFloatOf (n e : Int) (w : World) : Calls Try.prog 19 #[.int .i64 n, .int .i64 e] w (RetFB 3 w (Tm.frmD n e) (Tm.frmE n e) (Tm.frmOk n e)) := by
  by_cases hn : Tm.fits n
  · have ls := Tm.lenN_spec hn
    obtain ⟨s0, s1, -⟩ := ls
    have LO := Lib.hid (fun w => sLengthOf n w)
    rw [s0] at LO
    obtain ⟨K, hK⟩ : ∃ K, K = Tm.lenN n := ⟨_, rfl⟩
    rw [← hK] at LO s1
    have hK1 : ((K : Int) == 0) = false := by simp; omega
    clear hK s0
    by_cases he : Tm.inB e (-100) 100 = true
    · have e1 := (Tm.inB_iff _ _ _).1 he
      obtain ⟨e1, e2⟩ := e1
      have ok : Tm.okF n e = true := by rw [Tm.okF, he, decide_eq_true (show -102945566047324 ≤ n ∧ n ≤ 102945566047324 from hn)]; rfl
      rw [Tm.frmD, Tm.frmE, Tm.frmOk, if_pos ok, if_pos ok, ok, Bool.true_and]
      have OF := Lib.hid (fun w => sOf5 n e w hn (by omega) (by omega))
      clear ok
      go_enter Try.func19, Try.ntmps19
      go_wp2_with fail
      refine (LO.out _).mono ?_
      rintro r w' ⟨rfl, rfl⟩
      go_wp2_with fail
      refine (sIn _ _ _ _).mono ?_
      rw [he]
      rintro r w' ⟨rfl, rfl⟩
      go_wp2_with fail
      refine (OF.out _).mono ?_
      rintro r w1 ⟨a1, c1, rfl, hown, hb, ln⟩
      obtain ⟨p, rfl⟩ := gw_of_below hb
      have HO := Lib.hid hown
      clear hown hb
      go_wp2
      go_returns
      exact ret_own_fb (own_weak (own_gw HO.out (by rw [World.size_alloc]; omega)) (by rw [World.size_alloc]; omega)) (by (repeat' (first | (with_reducible exact Below.refl _ _) | (with_reducible assumption) | (with_reducible refine below_drewN ?_ _) | (with_reducible refine Below.drew ?_) | (with_reducible refine Below.alloc ?_ ?_ _) | (with_reducible refine Below.setCell ?_ ?_ _) | (with_reducible refine below_gw ?_ ?_ _) | (with_reducible refine below_via ?_ ‹Below _ _ _› ?_) | (with_reducible exact Nat.le_refl _) | (with_reducible refine le_gw ?_ _) | (with_reducible refine le_alloc ?_ _) | (with_reducible refine le_setCell ?_ _ _) | (with_reducible refine le_drew ?_) | (with_reducible refine le_drewN ?_ _) | go_size))) ln
    · simp only [Bool.not_eq_true] at he
      have ok : Tm.okF n e = false := by rw [Tm.okF, he]; simp
      rw [Tm.frmD, Tm.frmE, Tm.frmOk, ok]
      clear ok
      go_enter Try.func19, Try.ntmps19
      go_wp2_with fail
      refine (LO.out _).mono ?_
      rintro r w' ⟨rfl, rfl⟩
      go_wp2_with fail
      refine (sIn _ _ _ _).mono ?_
      rw [he]
      rintro r w' ⟨rfl, rfl⟩
      go_wp2
      go_returns
      exact ret_nil_fb (by (repeat' (first | (with_reducible exact Below.refl _ _) | (with_reducible assumption) | (with_reducible refine below_drewN ?_ _) | (with_reducible refine Below.drew ?_) | (with_reducible refine Below.alloc ?_ ?_ _) | (with_reducible refine Below.setCell ?_ ?_ _) | (with_reducible refine below_gw ?_ ?_ _) | (with_reducible refine below_via ?_ ‹Below _ _ _› ?_) | (with_reducible exact Nat.le_refl _) | (with_reducible refine le_gw ?_ _) | (with_reducible refine le_alloc ?_ _) | (with_reducible refine le_setCell ?_ _ _) | (with_reducible refine le_drew ?_) | (with_reducible refine le_drewN ?_ _) | go_size)))
  · have ok : Tm.okF n e = false := by rw [Tm.okF, decide_eq_false (show ¬ (-102945566047324 ≤ n ∧ n ≤ 102945566047324) from hn)]; rfl
    rw [Tm.frmD, Tm.frmE, Tm.frmOk, ok]
    have LO := Lib.hid (fun w => sLengthOf n w)
    rw [Tm.lenOf_none hn] at LO
    clear ok hn
    go_enter Try.func19, Try.ntmps19
    go_wp2_with fail
    refine (LO.out _).mono ?_
    rintro r w' ⟨rfl, rfl⟩
    go_wp2
    go_returns
    exact ret_nil_fb (by (repeat' (first | (with_reducible exact Below.refl _ _) | (with_reducible assumption) | (with_reducible refine below_drewN ?_ _) | (with_reducible refine Below.drew ?_) | (with_reducible refine Below.alloc ?_ ?_ _) | (with_reducible refine Below.setCell ?_ ?_ _) | (with_reducible refine below_gw ?_ ?_ _) | (with_reducible refine below_via ?_ ‹Below _ _ _› ?_) | (with_reducible exact Nat.le_refl _) | (with_reducible refine le_gw ?_ _) | (with_reducible refine le_alloc ?_ _) | (with_reducible refine le_setCell ?_ _ _) | (with_reducible refine le_drew ?_) | (with_reducible refine le_drewN ?_ _) | go_size)))
theorem sNegateFloat (a : Option Addr) (n cap : Nat) (xs : List Int) (e : Int) (w : World) (h : Ints w a n cap xs) : Calls Try.prog 23 #[.agg #[.slice a n cap, .int .i64 e]] w (RetF 3 w (Tm.ngD xs e) (Tm.ngE xs e)) := by
  have H := Lib.hid h
  obtain rfl : n = xs.length := h.1.symm
  clear h
  have IF := Lib.hid (fun (w : World) (h : Ints w a xs.length cap xs) => sIsFloat a _ cap xs e w h)
  rw [Tm.ngD, Tm.ngE]
  cases hf : Tm.isF xs e with
  | true =>
    rw [hf] at IF
    rw [if_pos rfl, if_pos rfl]
    have hw := ((Tm.isF_iff _ _).1 hf).1
    have NW := Lib.hid (fun (w : World) (h : Ints w a xs.length cap xs) => sNegateWord a _ cap xs w h)
    rw [Tm.negW, if_pos hw] at NW
    clear hf hw
    go_enter Try.func23, Try.ntmps23
    go_wp2_with fail
    refine (IF.out _ ((H.out.alloc _).alloc _)).mono ?_
    rintro r w1 ⟨rfl, hb⟩
    obtain ⟨p, rfl⟩ := gw_of_below hb
    clear hb IF
    go_wp2_with fail
    go_region_held3 (fun W => W.cell? ⟨w.heap.size, 0, none⟩ = some (.slice a xs.length cap) ∧ W.cell? ⟨w.heap.size, 1, none⟩ = some (.int .i64 e)) (go_simp) ((first | (go_at_call 58; refine (NW.out _ ((((H.out.alloc _).alloc _).below (by (repeat' (first | (with_reducible exact Below.refl _ _) | (with_reducible assumption) | (with_reducible refine below_drewN ?_ _) | (with_reducible refine Below.drew ?_) | (with_reducible refine Below.alloc ?_ ?_ _) | (with_reducible refine Below.setCell ?_ ?_ _) | (with_reducible refine below_gw ?_ ?_ _) | (with_reducible refine below_via ?_ ‹Below _ _ _› ?_) | (with_reducible exact Nat.le_refl _) | (with_reducible refine le_gw ?_ _) | (with_reducible refine le_alloc ?_ _) | (with_reducible refine le_setCell ?_ _ _) | (with_reducible refine le_drew ?_) | (with_reducible refine le_drewN ?_ _) | go_size)))))).mono ?_; rintro r w1 ⟨a2, c2, rfl, ho, hb, ln⟩; have HO := Lib.hid ho; clear ho; obtain ⟨q, rfl⟩ := gw_of_below hb; clear hb)))
    go_wp2
    go_returns
    have ho := HO.out
    rw [gw_gw] at ho
    exact ret_own_f (own_weak (own_gw ho (by simp only [gw_size, World.size_alloc]; omega)) (by simp only [gw_size, World.size_alloc]; omega)) (by (repeat' (first | (with_reducible exact Below.refl _ _) | (with_reducible assumption) | (with_reducible refine below_drewN ?_ _) | (with_reducible refine Below.drew ?_) | (with_reducible refine Below.alloc ?_ ?_ _) | (with_reducible refine Below.setCell ?_ ?_ _) | (with_reducible refine below_gw ?_ ?_ _) | (with_reducible refine below_via ?_ ‹Below _ _ _› ?_) | (with_reducible exact Nat.le_refl _) | (with_reducible refine le_gw ?_ _) | (with_reducible refine le_alloc ?_ _) | (with_reducible refine le_setCell ?_ _ _) | (with_reducible refine le_drew ?_) | (with_reducible refine le_drewN ?_ _) | go_size))) ln
  | false =>
    rw [hf] at IF
    clear hf
    go_enter Try.func23, Try.ntmps23
    go_wp2_with fail
    refine (IF.out _ ((H.out.alloc _).alloc _)).mono ?_
    rintro r w1 ⟨rfl, hb⟩
    obtain ⟨p, rfl⟩ := gw_of_below hb
    clear hb IF
    go_wp2
    go_returns
    exact ret_nil_f (by (repeat' (first | (with_reducible exact Below.refl _ _) | (with_reducible assumption) | (with_reducible refine below_drewN ?_ _) | (with_reducible refine Below.drew ?_) | (with_reducible refine Below.alloc ?_ ?_ _) | (with_reducible refine Below.setCell ?_ ?_ _) | (with_reducible refine below_gw ?_ ?_ _) | (with_reducible refine below_via ?_ ‹Below _ _ _› ?_) | (with_reducible exact Nat.le_refl _) | (with_reducible refine le_gw ?_ _) | (with_reducible refine le_alloc ?_ _) | (with_reducible refine le_setCell ?_ _ _) | (with_reducible refine le_drew ?_) | (with_reducible refine le_drewN ?_ _) | go_size)))
namespace Tm
theorem lift_bd {x : Int} (hx : -1000 ≤ x ∧ x ≤ 1000) {j : Nat} (hj : j ≤ 20) : -3486784401000 ≤ x * pow3 j ∧ x * pow3 j ≤ 3486784401000 := by
  have p := pow3_le hj
  rw [show pow3 20 = 3486784401 from by decide] at p
  have q := pow3_one j
  have := mul_bd (A := 1000) (B := 3486784401) hx (show -3486784401 ≤ pow3 j ∧ pow3 j ≤ 3486784401 by omega)
  omega
end Tm
theorem sLift5 (x : Int) (k : Nat) (w : World) (hx : -1000 ≤ x ∧ x ≤ 1000) (hk : k ≤ 20) : Calls Try.prog 67 #[.int .i64 x, .int .i64 k] w fun e w' => e = .returned (.int .i64 (x * Tm.pow3 k)) ∧ w = w' := by
  have BD := Lib.hid (fun j hj => Tm.lift_bd hx (j := j) hj)
  have ST : Hid (∀ j, x * Tm.pow3 (j + 1) = 3 * (x * Tm.pow3 j)) := Lib.hid fun j => by rw [Tm.pow3_succ]; grind
  have Z : Hid (x * Tm.pow3 0 = x) := Lib.hid (by simp [Tm.pow3])
  clear hx
  go_enter Try.func67, Try.ntmps67
  go_wp2
  go_loop [0, 1] (fun v i => ∃ (j : Nat) (z : Int), j ≤ k ∧ i = .int .i64 ((k : Int) - j) ∧ v = .int .i64 z ∧ Hid (z = x * Tm.pow3 j)) (fun _ i => (intOf i).toNat)
  case atStart => exact ⟨0, x, by omega, val_int (by omega), rfl, Lib.hid Z.out.symm⟩
  case round =>
    obtain ⟨j, z, hj, rfl, rfl, ZZ⟩ := hrel
    by_cases hlt : j < k
    · have b := BD.out j (by omega)
      have b2 := BD.out (j + 1) (by omega)
      rw [ST.out, ← ZZ.out] at b2
      rw [← ZZ.out] at b
      obtain ⟨b1, b3⟩ := b
      go_wp2
      exact ⟨⟨j + 1, 3 * z, by omega, by go_num, rfl, Lib.hid (by rw [ST.out, ZZ.out])⟩, by simp [intOf]; omega⟩
    · obtain rfl : j = k := by omega
      go_wp2
      go_ret
      exact ⟨ret_int ZZ.out, rfl⟩
namespace Tm
def lf (z i : Int) : Int := z * pow3 i.toNat
end Tm
theorem sLiftG (z i : Int) (w : World) (hz : -1000 ≤ z ∧ z ≤ 1000) (hi : 0 ≤ i ∧ i ≤ 20) : Calls Try.prog 67 #[.int .i64 z, .int .i64 i] w fun e w' => e = .returned (.int .i64 (Tm.lf z i)) ∧ w = w' := by
  obtain ⟨k, rfl⟩ := Int.eq_ofNat_of_zero_le hi.1
  exact sLift5 z k w hz (by omega)
theorem sNear5 (a : Option Addr) (n cap : Nat) (xs : List Int) (e : Int) (b : Option Addr) (m cap2 : Nat) (ys : List Int) (f : Int) (w : World) (h : Ints w a n cap xs) (h2 : Ints w b m cap2 ys) (hx : Tm.isF xs e = true) (hy : Tm.isF ys f = true) :
    Calls Try.prog 60 #[.agg #[.slice a n cap, .int .i64 e], .agg #[.slice b m cap2, .int .i64 f]] w fun r w' => r = .returned (.tuple #[.int .i64 (Tm.nearX (Tm.val xs) (Tm.val ys) e f), .int .i64 (Tm.nearX (Tm.val ys) (Tm.val xs) f e), .int .i64 (Tm.nearE (Tm.val xs) (Tm.val ys) e f)]) ∧ Below w.heap.size w w' := by
  have H := Lib.hid h
  have H2 := Lib.hid h2
  obtain rfl : n = xs.length := h.1.symm
  obtain rfl : m = ys.length := h2.1.symm
  clear h h2
  have fx := (Tm.isF_iff _ _).1 hx
  have fy := (Tm.isF_iff _ _).1 hy
  have VX := Lib.hid (fun (w : World) (h : Ints w a xs.length cap xs) => sValue2 a _ cap xs w h fx.1)
  have VY := Lib.hid (fun (w : World) (h : Ints w b ys.length cap2 ys) => sValue2 b _ cap2 ys w h fy.1)
  have bx := Tm.isF_val hx
  have byy := Tm.isF_val hy
  obtain ⟨-, -, ⟨e1, e2⟩, -⟩ := fx
  obtain ⟨-, -, ⟨f1, f2⟩, -⟩ := fy
  obtain ⟨x, hvx⟩ : ∃ x, x = Tm.val xs := ⟨_, rfl⟩
  obtain ⟨y, hvy⟩ : ∃ y, y = Tm.val ys := ⟨_, rfl⟩
  rw [← hvx] at VX bx ⊢
  rw [← hvy] at VY byy ⊢
  clear hvx hvy hx hy
  by_cases x0 : x = 0
  · subst x0
    have N : Hid (Tm.nearX 0 y e f = 0 ∧ Tm.nearX y 0 f e = y ∧ Tm.nearE 0 y e f = f) := Lib.hid (by
      refine ⟨by rw [Tm.nearX, if_pos rfl], ?_, by rw [Tm.nearE, if_pos rfl]⟩
      rw [Tm.nearX]; split
      · rename_i h; exact h.symm
      · rw [if_pos rfl])
    rw [N.out.1, N.out.2.1, N.out.2.2]
    go_enter Try.func60, Try.ntmps60
    go_wp2_with fail
    refine (VX.out _ ((H.out.alloc _).alloc _)).mono ?_
    rintro r w' ⟨rfl, rfl⟩
    go_wp2_with fail
    refine (VY.out _ ((H2.out.alloc _).alloc _)).mono ?_
    rintro r w' ⟨rfl, rfl⟩
    go_wp2
    go_quiet (fail)
    go_wp2
    go_returns
    exact ⟨rfl, by (repeat' (first | (with_reducible exact Below.refl _ _) | (with_reducible assumption) | (with_reducible refine below_drewN ?_ _) | (with_reducible refine Below.drew ?_) | (with_reducible refine Below.alloc ?_ ?_ _) | (with_reducible refine Below.setCell ?_ ?_ _) | (with_reducible refine below_gw ?_ ?_ _) | (with_reducible refine below_via ?_ ‹Below _ _ _› ?_) | (with_reducible exact Nat.le_refl _) | (with_reducible refine le_gw ?_ _) | (with_reducible refine le_alloc ?_ _) | (with_reducible refine le_setCell ?_ _ _) | (with_reducible refine le_drew ?_) | (with_reducible refine le_drewN ?_ _) | go_size))⟩
  have x0b : (x == 0) = false := by simpa using x0
  by_cases y0 : y = 0
  · subst y0
    have N : Hid (Tm.nearX x 0 e f = x ∧ Tm.nearX 0 x f e = 0 ∧ Tm.nearE x 0 e f = e) := Lib.hid ⟨by rw [Tm.nearX, if_neg x0, if_pos rfl], by rw [Tm.nearX, if_pos rfl], by rw [Tm.nearE, if_neg x0, if_pos rfl]⟩
    rw [N.out.1, N.out.2.1, N.out.2.2]
    clear x0
    go_enter Try.func60, Try.ntmps60
    go_wp2_with fail
    refine (VX.out _ ((H.out.alloc _).alloc _)).mono ?_
    rintro r w' ⟨rfl, rfl⟩
    go_wp2_with fail
    refine (VY.out _ ((H2.out.alloc _).alloc _)).mono ?_
    rintro r w' ⟨rfl, rfl⟩
    go_wp2
    go_quiet (fail)
    go_wp2
    go_returns
    exact ⟨rfl, by (repeat' (first | (with_reducible exact Below.refl _ _) | (with_reducible assumption) | (with_reducible refine below_drewN ?_ _) | (with_reducible refine Below.drew ?_) | (with_reducible refine Below.alloc ?_ ?_ _) | (with_reducible refine Below.setCell ?_ ?_ _) | (with_reducible refine below_gw ?_ ?_ _) | (with_reducible refine below_via ?_ ‹Below _ _ _› ?_) | (with_reducible exact Nat.le_refl _) | (with_reducible refine le_gw ?_ _) | (with_reducible refine le_alloc ?_ _) | (with_reducible refine le_setCell ?_ _ _) | (with_reducible refine le_drew ?_) | (with_reducible refine le_drewN ?_ _) | go_size))⟩
  have y0b : (y == 0) = false := by simpa using y0
  by_cases c1 : 6 ≤ e - f
  · have N : Hid (Tm.nearX x y e f = x ∧ Tm.nearX y x f e = 0 ∧ Tm.nearE x y e f = e) := Lib.hid ⟨by rw [Tm.nearX, if_neg x0, if_neg y0, if_pos c1], by rw [Tm.nearX, if_neg y0, if_neg x0, if_neg (by omega), if_pos c1], by rw [Tm.nearE, if_neg x0, if_neg y0, if_pos c1]⟩
    rw [N.out.1, N.out.2.1, N.out.2.2]
    clear x0 y0
    go_enter Try.func60, Try.ntmps60
    go_wp2_with fail
    refine (VX.out _ ((H.out.alloc _).alloc _)).mono ?_
    rintro r w' ⟨rfl, rfl⟩
    go_wp2_with fail
    refine (VY.out _ ((H2.out.alloc _).alloc _)).mono ?_
    rintro r w' ⟨rfl, rfl⟩
    go_wp2
    go_quiet (fail)
    go_wp2
    go_returns
    exact ⟨rfl, by (repeat' (first | (with_reducible exact Below.refl _ _) | (with_reducible assumption) | (with_reducible refine below_drewN ?_ _) | (with_reducible refine Below.drew ?_) | (with_reducible refine Below.alloc ?_ ?_ _) | (with_reducible refine Below.setCell ?_ ?_ _) | (with_reducible refine below_gw ?_ ?_ _) | (with_reducible refine below_via ?_ ‹Below _ _ _› ?_) | (with_reducible exact Nat.le_refl _) | (with_reducible refine le_gw ?_ _) | (with_reducible refine le_alloc ?_ _) | (with_reducible refine le_setCell ?_ _ _) | (with_reducible refine le_drew ?_) | (with_reducible refine le_drewN ?_ _) | go_size))⟩
  by_cases c2 : 6 ≤ f - e
  · have N : Hid (Tm.nearX x y e f = 0 ∧ Tm.nearX y x f e = y ∧ Tm.nearE x y e f = f) := Lib.hid ⟨by rw [Tm.nearX, if_neg x0, if_neg y0, if_neg c1, if_pos c2], by rw [Tm.nearX, if_neg y0, if_neg x0, if_pos c2], by rw [Tm.nearE, if_neg x0, if_neg y0, if_neg c1, if_pos c2]⟩
    rw [N.out.1, N.out.2.1, N.out.2.2]
    clear x0 y0
    go_enter Try.func60, Try.ntmps60
    go_wp2_with fail
    refine (VX.out _ ((H.out.alloc _).alloc _)).mono ?_
    rintro r w' ⟨rfl, rfl⟩
    go_wp2_with fail
    refine (VY.out _ ((H2.out.alloc _).alloc _)).mono ?_
    rintro r w' ⟨rfl, rfl⟩
    go_wp2
    go_quiet (fail)
    go_wp2
    go_returns
    exact ⟨rfl, by (repeat' (first | (with_reducible exact Below.refl _ _) | (with_reducible assumption) | (with_reducible refine below_drewN ?_ _) | (with_reducible refine Below.drew ?_) | (with_reducible refine Below.alloc ?_ ?_ _) | (with_reducible refine Below.setCell ?_ ?_ _) | (with_reducible refine below_gw ?_ ?_ _) | (with_reducible refine below_via ?_ ‹Below _ _ _› ?_) | (with_reducible exact Nat.le_refl _) | (with_reducible refine le_gw ?_ _) | (with_reducible refine le_alloc ?_ _) | (with_reducible refine le_setCell ?_ _ _) | (with_reducible refine le_drew ?_) | (with_reducible refine le_drewN ?_ _) | go_size))⟩
  have N : Hid (Tm.nearX x y e f = x * Tm.pow3 (e - f).toNat ∧ Tm.nearX y x f e = y * Tm.pow3 (f - e).toNat ∧ Tm.nearE x y e f = min e f) := Lib.hid ⟨by rw [Tm.nearX, if_neg x0, if_neg y0, if_neg c1, if_neg c2], by rw [Tm.nearX, if_neg y0, if_neg x0, if_neg c2, if_neg c1], by rw [Tm.nearE, if_neg x0, if_neg y0, if_neg c1, if_neg c2]⟩
  rw [N.out.1, N.out.2.1, N.out.2.2]
  clear x0 y0
  rcases Int.lt_or_le f e with c | c
  · obtain ⟨k, hk⟩ : ∃ k : Nat, e - f = k := ⟨(e - f).toNat, by omega⟩
    have E0 : Hid (x * Tm.pow3 (e - f).toNat = Tm.lf x (k : Int) ∧ y * Tm.pow3 (f - e).toNat = Tm.lf y 0) := Lib.hid ⟨by rw [Tm.lf]; congr 2; omega, by rw [Tm.lf]; congr 2; omega⟩
    rw [E0.out.1, E0.out.2]
    have mn : min e f = f := by omega
    rw [mn]
    go_enter Try.func60, Try.ntmps60
    go_wp2_with fail
    refine (VX.out _ ((H.out.alloc _).alloc _)).mono ?_
    rintro r w' ⟨rfl, rfl⟩
    go_wp2_with fail
    refine (VY.out _ ((H2.out.alloc _).alloc _)).mono ?_
    rintro r w' ⟨rfl, rfl⟩
    go_wp2
    go_quiet ((go_at_call 67; exact quiet_same fun _ => sLiftG _ _ _ (by omega) (by omega)))
    go_wp2
    go_returns
    exact ⟨rfl, by (repeat' (first | (with_reducible exact Below.refl _ _) | (with_reducible assumption) | (with_reducible refine below_drewN ?_ _) | (with_reducible refine Below.drew ?_) | (with_reducible refine Below.alloc ?_ ?_ _) | (with_reducible refine Below.setCell ?_ ?_ _) | (with_reducible refine below_gw ?_ ?_ _) | (with_reducible refine below_via ?_ ‹Below _ _ _› ?_) | (with_reducible exact Nat.le_refl _) | (with_reducible refine le_gw ?_ _) | (with_reducible refine le_alloc ?_ _) | (with_reducible refine le_setCell ?_ _ _) | (with_reducible refine le_drew ?_) | (with_reducible refine le_drewN ?_ _) | go_size))⟩
  · obtain ⟨k, hk⟩ : ∃ k : Nat, f - e = k := ⟨(f - e).toNat, by omega⟩
    have E0 : Hid (x * Tm.pow3 (e - f).toNat = Tm.lf x 0 ∧ y * Tm.pow3 (f - e).toNat = Tm.lf y (k : Int)) := Lib.hid ⟨by rw [Tm.lf]; congr 2; omega, by rw [Tm.lf]; congr 2; omega⟩
    rw [E0.out.1, E0.out.2]
    have mn : min e f = e := by omega
    rw [mn]
    go_enter Try.func60, Try.ntmps60
    go_wp2_with fail
    refine (VX.out _ ((H.out.alloc _).alloc _)).mono ?_
    rintro r w' ⟨rfl, rfl⟩
    go_wp2_with fail
    refine (VY.out _ ((H2.out.alloc _).alloc _)).mono ?_
    rintro r w' ⟨rfl, rfl⟩
    go_wp2
    go_quiet ((go_at_call 67; exact quiet_same fun _ => sLiftG _ _ _ (by omega) (by omega)))
    go_wp2
    go_returns
    exact ⟨rfl, by (repeat' (first | (with_reducible exact Below.refl _ _) | (with_reducible assumption) | (with_reducible refine below_drewN ?_ _) | (with_reducible refine Below.drew ?_) | (with_reducible refine Below.alloc ?_ ?_ _) | (with_reducible refine Below.setCell ?_ ?_ _) | (with_reducible refine below_gw ?_ ?_ _) | (with_reducible refine below_via ?_ ‹Below _ _ _› ?_) | (with_reducible exact Nat.le_refl _) | (with_reducible refine le_gw ?_ _) | (with_reducible refine le_alloc ?_ _) | (with_reducible refine le_setCell ?_ _ _) | (with_reducible refine le_drew ?_) | (with_reducible refine le_drewN ?_ _) | go_size))⟩
end Go.Proofs.Ytkphbnejnilehaa

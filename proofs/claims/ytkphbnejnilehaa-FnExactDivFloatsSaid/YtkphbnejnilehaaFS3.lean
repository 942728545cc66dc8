/- The model's floating numbers: comparing, scaling, sums, products, quotients. -/
import Derived.Test.YtkphbnejnilehaaFS2
namespace Go.Proofs.Ytkphbnejnilehaa
open Go.RowKit
theorem quiet_here {P : Program} {f : FuncId} {args : Array Value} {w : World} {n : Nat} {v : Value}
    (h : Calls P f args (w.drewN n) fun e w' => e = .returned v ∧ w.drewN n = w') : Calls P f args (w.drewN n) fun e w'' => e = .returned v ∧ ∃ m, w'' = w.drewN m :=
  h.mono fun _ _ ⟨he, hm⟩ => ⟨he, n, hm.symm⟩
namespace Tm
theorem ad_eq {xs ys : List Int} {a b : Int} (h : isF xs a = true) (k : isF ys b = true) : adOk xs a ys b = ofOk (sumN xs a ys b) (sumE xs a ys b) ∧ adD xs a ys b = fD (sumN xs a ys b) (sumE xs a ys b) ∧ adE xs a ys b = fE (sumN xs a ys b) (sumE xs a ys b) := by
  have e : adOk xs a ys b = ofOk (sumN xs a ys b) (sumE xs a ys b) := by rw [adOk, h, k]; rfl
  exact ⟨e, by rw [adD, e, fD], by rw [adE, e, fE]⟩
theorem ml_eq {xs ys : List Int} {a b : Int} (h : isF xs a = true) (k : isF ys b = true) : mlOk xs a ys b = ofOk (val xs * val ys) (a + b) ∧ mlD xs a ys b = fD (val xs * val ys) (a + b) ∧ mlE xs a ys b = fE (val xs * val ys) (a + b) := by
  have e : mlOk xs a ys b = ofOk (val xs * val ys) (a + b) := by rw [mlOk, h, k]; rfl
  exact ⟨e, by rw [mlD, e, fD], by rw [mlE, e, fE]⟩
theorem scl_eq {xs : List Int} {a by_ : Int} (h : isF xs a = true) (k : inB by_ (-100) 100 = true) : sclOk xs a by_ = ofOk (val xs) (a + by_) ∧ sclD xs a by_ = fD (val xs) (a + by_) ∧ sclE xs a by_ = fE (val xs) (a + by_) := by
  have e : sclOk xs a by_ = ofOk (val xs) (a + by_) := by rw [sclOk, h, k]; rfl
  exact ⟨e, by rw [sclD, e, fD], by rw [sclE, e, fE]⟩
theorem dv_eq {xs ys : List Int} {a b : Int} (h : isF xs a = true) (k : isF ys b = true) (z : val ys ≠ 0) : dvOk xs a ys b = ofOk (dvN xs ys) (a - b - 9) ∧ dvD xs a ys b = fD (dvN xs ys) (a - b - 9) ∧ dvE xs a ys b = fE (dvN xs ys) (a - b - 9) := by
  have e : dvOk xs a ys b = ofOk (dvN xs ys) (a - b - 9) := by rw [dvOk, h, k, decide_eq_true z]; rfl
  exact ⟨e, by rw [dvD, e, fD], by rw [dvE, e, fE]⟩
theorem near_e_bd {x y a b : Int} (ha : -20 ≤ a ∧ a ≤ 20) (hb : -20 ≤ b ∧ b ≤ 20) : -20 ≤ nearE x y a b ∧ nearE x y a b ≤ 20 := by
  unfold nearE
  repeat' split
  all_goals omega
end Tm
set_option maxRecDepth 20000 in
theorem sCompareFloats (a : Option Addr) (n cap : Nat) (xs : List Int) (e : Int) (b : Option Addr) (m cap2 : Nat) (ys : List Int) (f : Int) (w : World) (h : Ints w a n cap xs) (h2 : Ints w b m cap2 ys) : Calls Try.prog 25 #[.agg #[.slice a n cap, .int .i64 e], .agg #[.slice b m cap2, .int .i64 f]] w fun r w' => r = .returned (.int .i64 (Tm.cmpF xs e ys f)) ∧ Below w.heap.size w w' := by
  have H := Lib.hid h
  obtain rfl : n = xs.length := h.1.symm
  have H2 := Lib.hid h2
  obtain rfl : m = ys.length := h2.1.symm
  clear h h2
  have IX := Lib.hid (fun (w : World) (h : Ints w a xs.length cap xs) => sIsFloat a _ cap xs e w h)
  have IY := Lib.hid (fun (w : World) (h : Ints w b ys.length cap2 ys) => sIsFloat b _ cap2 ys f w h)
  cases hx : Tm.isF xs e with
  | false =>
    rw [hx] at IX
    have Z := Lib.hid hx
    clear hx
    have CE : Tm.cmpF xs e ys f = 0 := by rw [Tm.cmpF, Z.out]; rfl
    rw [CE]
    clear CE
    go_enter Try.func25, Try.ntmps25
    go_wp2_with fail
    refine (IX.out _ (H.out.below (by (repeat' (first | (with_reducible exact Below.refl _ _) | (with_reducible assumption) | (with_reducible refine below_drewN ?_ _) | (with_reducible refine Below.drew ?_) | (with_reducible refine Below.alloc ?_ ?_ _) | (with_reducible refine Below.setCell ?_ ?_ _) | (with_reducible refine below_gw ?_ ?_ _) | (with_reducible refine below_via ?_ ‹Below _ _ _› ?_) | (with_reducible exact Nat.le_refl _) | (with_reducible refine le_gw ?_ _) | (with_reducible refine le_alloc ?_ _) | (with_reducible refine le_setCell ?_ _ _) | (with_reducible refine le_drew ?_) | (with_reducible refine le_drewN ?_ _) | go_size))))).mono ?_
    rintro r w1 ⟨rfl, hb⟩
    obtain ⟨p, rfl⟩ := gw_of_below hb
    clear hb
    go_wp2
    go_returns
    exact ⟨rfl, by (repeat' (first | (with_reducible exact Below.refl _ _) | (with_reducible assumption) | (with_reducible refine below_drewN ?_ _) | (with_reducible refine Below.drew ?_) | (with_reducible refine Below.alloc ?_ ?_ _) | (with_reducible refine Below.setCell ?_ ?_ _) | (with_reducible refine below_gw ?_ ?_ _) | (with_reducible refine below_via ?_ ‹Below _ _ _› ?_) | (with_reducible exact Nat.le_refl _) | (with_reducible refine le_gw ?_ _) | (with_reducible refine le_alloc ?_ _) | (with_reducible refine le_setCell ?_ _ _) | (with_reducible refine le_drew ?_) | (with_reducible refine le_drewN ?_ _) | go_size))⟩
  | true =>
    rw [hx] at IX
    cases hy : Tm.isF ys f with
    | false =>
      rw [hy] at IY
      have Z := Lib.hid hy
      clear hx hy
      have CE : Tm.cmpF xs e ys f = 0 := by rw [Tm.cmpF, Z.out]; simp
      rw [CE]
      clear CE
      go_enter Try.func25, Try.ntmps25
      go_wp2_with fail
      refine (IX.out _ (H.out.below (by (repeat' (first | (with_reducible exact Below.refl _ _) | (with_reducible assumption) | (with_reducible refine below_drewN ?_ _) | (with_reducible refine Below.drew ?_) | (with_reducible refine Below.alloc ?_ ?_ _) | (with_reducible refine Below.setCell ?_ ?_ _) | (with_reducible refine below_gw ?_ ?_ _) | (with_reducible refine below_via ?_ ‹Below _ _ _› ?_) | (with_reducible exact Nat.le_refl _) | (with_reducible refine le_gw ?_ _) | (with_reducible refine le_alloc ?_ _) | (with_reducible refine le_setCell ?_ _ _) | (with_reducible refine le_drew ?_) | (with_reducible refine le_drewN ?_ _) | go_size))))).mono ?_
      rintro r w1 ⟨rfl, hb⟩
      obtain ⟨p, rfl⟩ := gw_of_below hb
      clear hb
      go_wp2_with fail
      refine (IY.out _ (H2.out.below (by (repeat' (first | (with_reducible exact Below.refl _ _) | (with_reducible assumption) | (with_reducible refine below_drewN ?_ _) | (with_reducible refine Below.drew ?_) | (with_reducible refine Below.alloc ?_ ?_ _) | (with_reducible refine Below.setCell ?_ ?_ _) | (with_reducible refine below_gw ?_ ?_ _) | (with_reducible refine below_via ?_ ‹Below _ _ _› ?_) | (with_reducible exact Nat.le_refl _) | (with_reducible refine le_gw ?_ _) | (with_reducible refine le_alloc ?_ _) | (with_reducible refine le_setCell ?_ _ _) | (with_reducible refine le_drew ?_) | (with_reducible refine le_drewN ?_ _) | go_size))))).mono ?_
      rintro r w1 ⟨rfl, hb⟩
      obtain ⟨p, rfl⟩ := gw_of_below hb
      clear hb
      go_wp2
      go_returns
      exact ⟨rfl, by (repeat' (first | (with_reducible exact Below.refl _ _) | (with_reducible assumption) | (with_reducible refine below_drewN ?_ _) | (with_reducible refine Below.drew ?_) | (with_reducible refine Below.alloc ?_ ?_ _) | (with_reducible refine Below.setCell ?_ ?_ _) | (with_reducible refine below_gw ?_ ?_ _) | (with_reducible refine below_via ?_ ‹Below _ _ _› ?_) | (with_reducible exact Nat.le_refl _) | (with_reducible refine le_gw ?_ _) | (with_reducible refine le_alloc ?_ _) | (with_reducible refine le_setCell ?_ _ _) | (with_reducible refine le_drew ?_) | (with_reducible refine le_drewN ?_ _) | go_size))⟩
    | true =>
      rw [hy] at IY
      have NR := Lib.hid (fun (w : World) (h : Ints w a xs.length cap xs) (h2 : Ints w b ys.length cap2 ys) => sNear5 a _ cap xs e b _ cap2 ys f w h h2 hx hy)
      have b1 := Tm.near_bd (ea := e) (eb := f) (Tm.val ys) (Tm.isF_val hx)
      have b2 := Tm.near_bd (ea := f) (eb := e) (Tm.val xs) (Tm.isF_val hy)
      have b3 := Tm.near_e_bd (x := Tm.val xs) (y := Tm.val ys) ((Tm.isF_iff _ _).1 hx).2.2.1 ((Tm.isF_iff _ _).1 hy).2.2.1
      obtain ⟨u, hu⟩ : ∃ u, u = Tm.nearX (Tm.val xs) (Tm.val ys) e f := ⟨_, rfl⟩
      obtain ⟨v, hv⟩ : ∃ v, v = Tm.nearX (Tm.val ys) (Tm.val xs) f e := ⟨_, rfl⟩
      obtain ⟨z, hz⟩ : ∃ z, z = Tm.nearE (Tm.val xs) (Tm.val ys) e f := ⟨_, rfl⟩
      rw [← hu] at b1
      rw [← hv] at b2
      rw [← hz] at b3
      rw [← hu, ← hv, ← hz] at NR
      obtain ⟨b11, b12⟩ := b1
      obtain ⟨b21, b22⟩ := b2
      obtain ⟨b31, b32⟩ := b3
      have CE : Tm.cmpF xs e ys f = Tm.sgn (u - v) := by rw [Tm.cmpF, hx, hy, hu, hv]; rfl
      rw [CE]
      clear CE hx hy hu hv hz
      go_enter Try.func25, Try.ntmps25
      go_wp2_with fail
      refine (IX.out _ (H.out.below (by (repeat' (first | (with_reducible exact Below.refl _ _) | (with_reducible assumption) | (with_reducible refine below_drewN ?_ _) | (with_reducible refine Below.drew ?_) | (with_reducible refine Below.alloc ?_ ?_ _) | (with_reducible refine Below.setCell ?_ ?_ _) | (with_reducible refine below_gw ?_ ?_ _) | (with_reducible refine below_via ?_ ‹Below _ _ _› ?_) | (with_reducible exact Nat.le_refl _) | (with_reducible refine le_gw ?_ _) | (with_reducible refine le_alloc ?_ _) | (with_reducible refine le_setCell ?_ _ _) | (with_reducible refine le_drew ?_) | (with_reducible refine le_drewN ?_ _) | go_size))))).mono ?_
      rintro r w1 ⟨rfl, hb⟩
      obtain ⟨p, rfl⟩ := gw_of_below hb
      clear hb
      go_wp2_with fail
      refine (IY.out _ (H2.out.below (by (repeat' (first | (with_reducible exact Below.refl _ _) | (with_reducible assumption) | (with_reducible refine below_drewN ?_ _) | (with_reducible refine Below.drew ?_) | (with_reducible refine Below.alloc ?_ ?_ _) | (with_reducible refine Below.setCell ?_ ?_ _) | (with_reducible refine below_gw ?_ ?_ _) | (with_reducible refine below_via ?_ ‹Below _ _ _› ?_) | (with_reducible exact Nat.le_refl _) | (with_reducible refine le_gw ?_ _) | (with_reducible refine le_alloc ?_ _) | (with_reducible refine le_setCell ?_ _ _) | (with_reducible refine le_drew ?_) | (with_reducible refine le_drewN ?_ _) | go_size))))).mono ?_
      rintro r w1 ⟨rfl, hb⟩
      obtain ⟨p, rfl⟩ := gw_of_below hb
      clear hb
      go_wp2_with fail
      refine (NR.out _ (H.out.below (by (repeat' (first | (with_reducible exact Below.refl _ _) | (with_reducible assumption) | (with_reducible refine below_drewN ?_ _) | (with_reducible refine Below.drew ?_) | (with_reducible refine Below.alloc ?_ ?_ _) | (with_reducible refine Below.setCell ?_ ?_ _) | (with_reducible refine below_gw ?_ ?_ _) | (with_reducible refine below_via ?_ ‹Below _ _ _› ?_) | (with_reducible exact Nat.le_refl _) | (with_reducible refine le_gw ?_ _) | (with_reducible refine le_alloc ?_ _) | (with_reducible refine le_setCell ?_ _ _) | (with_reducible refine le_drew ?_) | (with_reducible refine le_drewN ?_ _) | go_size)))) (H2.out.below (by (repeat' (first | (with_reducible exact Below.refl _ _) | (with_reducible assumption) | (with_reducible refine below_drewN ?_ _) | (with_reducible refine Below.drew ?_) | (with_reducible refine Below.alloc ?_ ?_ _) | (with_reducible refine Below.setCell ?_ ?_ _) | (with_reducible refine below_gw ?_ ?_ _) | (with_reducible refine below_via ?_ ‹Below _ _ _› ?_) | (with_reducible exact Nat.le_refl _) | (with_reducible refine le_gw ?_ _) | (with_reducible refine le_alloc ?_ _) | (with_reducible refine le_setCell ?_ _ _) | (with_reducible refine le_drew ?_) | (with_reducible refine le_drewN ?_ _) | go_size))))).mono ?_
      rintro r w1 ⟨rfl, hb⟩
      obtain ⟨p, rfl⟩ := gw_of_below hb
      clear hb
      go_wp2_with fail
      refine (sSignOf _ _).mono ?_
      rintro r w' ⟨rfl, rfl⟩
      go_wp2
      go_returns
      exact ⟨rfl, by (repeat' (first | (with_reducible exact Below.refl _ _) | (with_reducible assumption) | (with_reducible refine below_drewN ?_ _) | (with_reducible refine Below.drew ?_) | (with_reducible refine Below.alloc ?_ ?_ _) | (with_reducible refine Below.setCell ?_ ?_ _) | (with_reducible refine below_gw ?_ ?_ _) | (with_reducible refine below_via ?_ ‹Below _ _ _› ?_) | (with_reducible exact Nat.le_refl _) | (with_reducible refine le_gw ?_ _) | (with_reducible refine le_alloc ?_ _) | (with_reducible refine le_setCell ?_ _ _) | (with_reducible refine le_drew ?_) | (with_reducible refine le_drewN ?_ _) | go_size))⟩
set_option maxRecDepth 20000 in
theorem sAddFloats (a : Option Addr) (n cap : Nat) (xs : List Int) (e : Int) (b : Option Addr) (m cap2 : Nat) (ys : List Int) (f : Int) (w : World) (h : Ints w a n cap xs) (h2 : Ints w b m cap2 ys) : Calls Try.prog 29 #[.agg #[.slice a n cap, .int .i64 e], .agg #[.slice b m cap2, .int .i64 f]] w (RetFB 3 w (Tm.adD xs e ys f) (Tm.adE xs e ys f) (Tm.adOk xs e ys f)) := by
  have H := Lib.hid h
  obtain rfl : n = xs.length := h.1.symm
  have H2 := Lib.hid h2
  obtain rfl : m = ys.length := h2.1.symm
  clear h h2
  have IX := Lib.hid (fun (w : World) (h : Ints w a xs.length cap xs) => sIsFloat a _ cap xs e w h)
  have IY := Lib.hid (fun (w : World) (h : Ints w b ys.length cap2 ys) => sIsFloat b _ cap2 ys f w h)
  cases hx : Tm.isF xs e with
  | false =>
    rw [hx] at IX
    have Z := Lib.hid hx
    clear hx
    have CE : Tm.adOk xs e ys f = false := by rw [Tm.adOk, Z.out]; simp
    rw [Tm.adD, Tm.adE, CE]
    clear CE
    go_enter Try.func29, Try.ntmps29
    go_wp2_with fail
    refine (IX.out _ (H.out.below (by (repeat' (first | (with_reducible exact Below.refl _ _) | (with_reducible assumption) | (with_reducible refine below_drewN ?_ _) | (with_reducible refine Below.drew ?_) | (with_reducible refine Below.alloc ?_ ?_ _) | (with_reducible refine Below.setCell ?_ ?_ _) | (with_reducible refine below_gw ?_ ?_ _) | (with_reducible refine below_via ?_ ‹Below _ _ _› ?_) | (with_reducible exact Nat.le_refl _) | (with_reducible refine le_gw ?_ _) | (with_reducible refine le_alloc ?_ _) | (with_reducible refine le_setCell ?_ _ _) | (with_reducible refine le_drew ?_) | (with_reducible refine le_drewN ?_ _) | go_size))))).mono ?_
    rintro r w1 ⟨rfl, hb⟩
    obtain ⟨p, rfl⟩ := gw_of_below hb
    clear hb
    go_wp2
    go_returns
    exact ret_nil_fb (by (repeat' (first | (with_reducible exact Below.refl _ _) | (with_reducible assumption) | (with_reducible refine below_drewN ?_ _) | (with_reducible refine Below.drew ?_) | (with_reducible refine Below.alloc ?_ ?_ _) | (with_reducible refine Below.setCell ?_ ?_ _) | (with_reducible refine below_gw ?_ ?_ _) | (with_reducible refine below_via ?_ ‹Below _ _ _› ?_) | (with_reducible exact Nat.le_refl _) | (with_reducible refine le_gw ?_ _) | (with_reducible refine le_alloc ?_ _) | (with_reducible refine le_setCell ?_ _ _) | (with_reducible refine le_drew ?_) | (with_reducible refine le_drewN ?_ _) | go_size)))
  | true =>
    rw [hx] at IX
    cases hy : Tm.isF ys f with
    | false =>
      rw [hy] at IY
      have Z := Lib.hid hy
      clear hx hy
      have CE : Tm.adOk xs e ys f = false := by rw [Tm.adOk, Z.out]; simp
      rw [Tm.adD, Tm.adE, CE]
      clear CE
      go_enter Try.func29, Try.ntmps29
      go_wp2_with fail
      refine (IX.out _ (H.out.below (by (repeat' (first | (with_reducible exact Below.refl _ _) | (with_reducible assumption) | (with_reducible refine below_drewN ?_ _) | (with_reducible refine Below.drew ?_) | (with_reducible refine Below.alloc ?_ ?_ _) | (with_reducible refine Below.setCell ?_ ?_ _) | (with_reducible refine below_gw ?_ ?_ _) | (with_reducible refine below_via ?_ ‹Below _ _ _› ?_) | (with_reducible exact Nat.le_refl _) | (with_reducible refine le_gw ?_ _) | (with_reducible refine le_alloc ?_ _) | (with_reducible refine le_setCell ?_ _ _) | (with_reducible refine le_drew ?_) | (with_reducible refine le_drewN ?_ _) | go_size))))).mono ?_
      rintro r w1 ⟨rfl, hb⟩
      obtain ⟨p, rfl⟩ := gw_of_below hb
      clear hb
      go_wp2_with fail
      refine (IY.out _ (H2.out.below (by (repeat' (first | (with_reducible exact Below.refl _ _) | (with_reducible assumption) | (with_reducible refine below_drewN ?_ _) | (with_reducible refine Below.drew ?_) | (with_reducible refine Below.alloc ?_ ?_ _) | (with_reducible refine Below.setCell ?_ ?_ _) | (with_reducible refine below_gw ?_ ?_ _) | (with_reducible refine below_via ?_ ‹Below _ _ _› ?_) | (with_reducible exact Nat.le_refl _) | (with_reducible refine le_gw ?_ _) | (with_reducible refine le_alloc ?_ _) | (with_reducible refine le_setCell ?_ _ _) | (with_reducible refine le_drew ?_) | (with_reducible refine le_drewN ?_ _) | go_size))))).mono ?_
      rintro r w1 ⟨rfl, hb⟩
      obtain ⟨p, rfl⟩ := gw_of_below hb
      clear hb
      go_wp2
      go_returns
      exact ret_nil_fb (by (repeat' (first | (with_reducible exact Below.refl _ _) | (with_reducible assumption) | (with_reducible refine below_drewN ?_ _) | (with_reducible refine Below.drew ?_) | (with_reducible refine Below.alloc ?_ ?_ _) | (with_reducible refine Below.setCell ?_ ?_ _) | (with_reducible refine below_gw ?_ ?_ _) | (with_reducible refine below_via ?_ ‹Below _ _ _› ?_) | (with_reducible exact Nat.le_refl _) | (with_reducible refine le_gw ?_ _) | (with_reducible refine le_alloc ?_ _) | (with_reducible refine le_setCell ?_ _ _) | (with_reducible refine le_drew ?_) | (with_reducible refine le_drewN ?_ _) | go_size)))
    | true =>
      rw [hy] at IY
      have AE := Tm.ad_eq hx hy
      rw [AE.1, AE.2.1, AE.2.2, Tm.sumN, Tm.sumE]
      clear AE
      have NR := Lib.hid (fun (w : World) (h : Ints w a xs.length cap xs) (h2 : Ints w b ys.length cap2 ys) => sNear5 a _ cap xs e b _ cap2 ys f w h h2 hx hy)
      have b1 := Tm.near_bd (ea := e) (eb := f) (Tm.val ys) (Tm.isF_val hx)
      have b2 := Tm.near_bd (ea := f) (eb := e) (Tm.val xs) (Tm.isF_val hy)
      have b3 := Tm.near_e_bd (x := Tm.val xs) (y := Tm.val ys) ((Tm.isF_iff _ _).1 hx).2.2.1 ((Tm.isF_iff _ _).1 hy).2.2.1
      obtain ⟨u, hu⟩ : ∃ u, u = Tm.nearX (Tm.val xs) (Tm.val ys) e f := ⟨_, rfl⟩
      obtain ⟨v, hv⟩ : ∃ v, v = Tm.nearX (Tm.val ys) (Tm.val xs) f e := ⟨_, rfl⟩
      obtain ⟨z, hz⟩ : ∃ z, z = Tm.nearE (Tm.val xs) (Tm.val ys) e f := ⟨_, rfl⟩
      rw [← hu] at b1
      rw [← hv] at b2
      rw [← hz] at b3
      rw [← hu, ← hv, ← hz] at NR
      obtain ⟨b11, b12⟩ := b1
      obtain ⟨b21, b22⟩ := b2
      obtain ⟨b31, b32⟩ := b3
      rw [← hu, ← hv, ← hz]
      have OF := Lib.hid (fun w => sOf5 (u + v) z w ⟨by omega, by omega⟩ (by omega) (by omega))
      clear hx hy hu hv hz
      go_enter Try.func29, Try.ntmps29
      go_wp2_with fail
      refine (IX.out _ (H.out.below (by (repeat' (first | (with_reducible exact Below.refl _ _) | (with_reducible assumption) | (with_reducible refine below_drewN ?_ _) | (with_reducible refine Below.drew ?_) | (with_reducible refine Below.alloc ?_ ?_ _) | (with_reducible refine Below.setCell ?_ ?_ _) | (with_reducible refine below_gw ?_ ?_ _) | (with_reducible refine below_via ?_ ‹Below _ _ _› ?_) | (with_reducible exact Nat.le_refl _) | (with_reducible refine le_gw ?_ _) | (with_reducible refine le_alloc ?_ _) | (with_reducible refine le_setCell ?_ _ _) | (with_reducible refine le_drew ?_) | (with_reducible refine le_drewN ?_ _) | go_size))))).mono ?_
      rintro r w1 ⟨rfl, hb⟩
      obtain ⟨p, rfl⟩ := gw_of_below hb
      clear hb
      go_wp2_with fail
      refine (IY.out _ (H2.out.below (by (repeat' (first | (with_reducible exact Below.refl _ _) | (with_reducible assumption) | (with_reducible refine below_drewN ?_ _) | (with_reducible refine Below.drew ?_) | (with_reducible refine Below.alloc ?_ ?_ _) | (with_reducible refine Below.setCell ?_ ?_ _) | (with_reducible refine below_gw ?_ ?_ _) | (with_reducible refine below_via ?_ ‹Below _ _ _› ?_) | (with_reducible exact Nat.le_refl _) | (with_reducible refine le_gw ?_ _) | (with_reducible refine le_alloc ?_ _) | (with_reducible refine le_setCell ?_ _ _) | (with_reducible refine le_drew ?_) | (with_reducible refine le_drewN ?_ _) | go_size))))).mono ?_
      rintro r w1 ⟨rfl, hb⟩
      obtain ⟨p, rfl⟩ := gw_of_below hb
      clear hb
      go_wp2_with fail
      refine (NR.out _ (H.out.below (by (repeat' (first | (with_reducible exact Below.refl _ _) | (with_reducible assumption) | (with_reducible refine below_drewN ?_ _) | (with_reducible refine Below.drew ?_) | (with_reducible refine Below.alloc ?_ ?_ _) | (with_reducible refine Below.setCell ?_ ?_ _) | (with_reducible refine below_gw ?_ ?_ _) | (with_reducible refine below_via ?_ ‹Below _ _ _› ?_) | (with_reducible exact Nat.le_refl _) | (with_reducible refine le_gw ?_ _) | (with_reducible refine le_alloc ?_ _) | (with_reducible refine le_setCell ?_ _ _) | (with_reducible refine le_drew ?_) | (with_reducible refine le_drewN ?_ _) | go_size)))) (H2.out.below (by (repeat' (first | (with_reducible exact Below.refl _ _) | (with_reducible assumption) | (with_reducible refine below_drewN ?_ _) | (with_reducible refine Below.drew ?_) | (with_reducible refine Below.alloc ?_ ?_ _) | (with_reducible refine Below.setCell ?_ ?_ _) | (with_reducible refine below_gw ?_ ?_ _) | (with_reducible refine below_via ?_ ‹Below _ _ _› ?_) | (with_reducible exact Nat.le_refl _) | (with_reducible refine le_gw ?_ _) | (with_reducible refine le_alloc ?_ _) | (with_reducible refine le_setCell ?_ _ _) | (with_reducible refine le_drew ?_) | (with_reducible refine le_drewN ?_ _) | go_size))))).mono ?_
      rintro r w1 ⟨rfl, hb⟩
      obtain ⟨p, rfl⟩ := gw_of_below hb
      clear hb
      go_wp2_with fail
      refine (OF.out _).mono ?_
      rintro r w1 ⟨a1, c1, rfl, hown, hb, ln⟩
      obtain ⟨q, rfl⟩ := gw_of_below hb
      have HO := Lib.hid hown
      clear hown hb
      go_wp2
      go_returns
      have ho := HO.out
      rw [gw_gw] at ho
      exact ret_own_fb (own_weak (own_gw ho (by simp only [gw_size, World.size_alloc]; omega)) (by simp only [gw_size, World.size_alloc]; omega)) (by (repeat' (first | (with_reducible exact Below.refl _ _) | (with_reducible assumption) | (with_reducible refine below_drewN ?_ _) | (with_reducible refine Below.drew ?_) | (with_reducible refine Below.alloc ?_ ?_ _) | (with_reducible refine Below.setCell ?_ ?_ _) | (with_reducible refine below_gw ?_ ?_ _) | (with_reducible refine below_via ?_ ‹Below _ _ _› ?_) | (with_reducible exact Nat.le_refl _) | (with_reducible refine le_gw ?_ _) | (with_reducible refine le_alloc ?_ _) | (with_reducible refine le_setCell ?_ _ _) | (with_reducible refine le_drew ?_) | (with_reducible refine le_drewN ?_ _) | go_size))) ln
set_option maxRecDepth 20000 in
theorem sMulFloats (a : Option Addr) (n cap : Nat) (xs : List Int) (e : Int) (b : Option Addr) (m cap2 : Nat) (ys : List Int) (f : Int) (w : World) (h : Ints w a n cap xs) (h2 : Ints w b m cap2 ys) : Calls Try.prog 33 #[.agg #[.slice a n cap, .int .i64 e], .agg #[.slice b m cap2, .int .i64 f]] w (RetFB 3 w (Tm.mlD xs e ys f) (Tm.mlE xs e ys f) (Tm.mlOk xs e ys f)) := by
  have H := Lib.hid h
  obtain rfl : n = xs.length := h.1.symm
  have H2 := Lib.hid h2
  obtain rfl : m = ys.length := h2.1.symm
  clear h h2
  have IX := Lib.hid (fun (w : World) (h : Ints w a xs.length cap xs) => sIsFloat a _ cap xs e w h)
  have IY := Lib.hid (fun (w : World) (h : Ints w b ys.length cap2 ys) => sIsFloat b _ cap2 ys f w h)
  cases hx : Tm.isF xs e with
  | false =>
    rw [hx] at IX
    have Z := Lib.hid hx
    clear hx
    have CE : Tm.mlOk xs e ys f = false := by rw [Tm.mlOk, Z.out]; simp
    rw [Tm.mlD, Tm.mlE, CE]
    clear CE
    go_enter Try.func33, Try.ntmps33
    go_wp2_with fail
    refine (IX.out _ (H.out.below (by (repeat' (first | (with_reducible exact Below.refl _ _) | (with_reducible assumption) | (with_reducible refine below_drewN ?_ _) | (with_reducible refine Below.drew ?_) | (with_reducible refine Below.alloc ?_ ?_ _) | (with_reducible refine Below.setCell ?_ ?_ _) | (with_reducible refine below_gw ?_ ?_ _) | (with_reducible refine below_via ?_ ‹Below _ _ _› ?_) | (with_reducible exact Nat.le_refl _) | (with_reducible refine le_gw ?_ _) | (with_reducible refine le_alloc ?_ _) | (with_reducible refine le_setCell ?_ _ _) | (with_reducible refine le_drew ?_) | (with_reducible refine le_drewN ?_ _) | go_size))))).mono ?_
    rintro r w1 ⟨rfl, hb⟩
    obtain ⟨p, rfl⟩ := gw_of_below hb
    clear hb
    go_wp2
    go_returns
    exact ret_nil_fb (by (repeat' (first | (with_reducible exact Below.refl _ _) | (with_reducible assumption) | (with_reducible refine below_drewN ?_ _) | (with_reducible refine Below.drew ?_) | (with_reducible refine Below.alloc ?_ ?_ _) | (with_reducible refine Below.setCell ?_ ?_ _) | (with_reducible refine below_gw ?_ ?_ _) | (with_reducible refine below_via ?_ ‹Below _ _ _› ?_) | (with_reducible exact Nat.le_refl _) | (with_reducible refine le_gw ?_ _) | (with_reducible refine le_alloc ?_ _) | (with_reducible refine le_setCell ?_ _ _) | (with_reducible refine le_drew ?_) | (with_reducible refine le_drewN ?_ _) | go_size)))
  | true =>
    rw [hx] at IX
    cases hy : Tm.isF ys f with
    | false =>
      rw [hy] at IY
      have Z := Lib.hid hy
      clear hx hy
      have CE : Tm.mlOk xs e ys f = false := by rw [Tm.mlOk, Z.out]; simp
      rw [Tm.mlD, Tm.mlE, CE]
      clear CE
      go_enter Try.func33, Try.ntmps33
      go_wp2_with fail
      refine (IX.out _ (H.out.below (by (repeat' (first | (with_reducible exact Below.refl _ _) | (with_reducible assumption) | (with_reducible refine below_drewN ?_ _) | (with_reducible refine Below.drew ?_) | (with_reducible refine Below.alloc ?_ ?_ _) | (with_reducible refine Below.setCell ?_ ?_ _) | (with_reducible refine below_gw ?_ ?_ _) | (with_reducible refine below_via ?_ ‹Below _ _ _› ?_) | (with_reducible exact Nat.le_refl _) | (with_reducible refine le_gw ?_ _) | (with_reducible refine le_alloc ?_ _) | (with_reducible refine le_setCell ?_ _ _) | (with_reducible refine le_drew ?_) | (with_reducible refine le_drewN ?_ _) | go_size))))).mono ?_
      rintro r w1 ⟨rfl, hb⟩
      obtain ⟨p, rfl⟩ := gw_of_below hb
      clear hb
      go_wp2_with fail
      refine (IY.out _ (H2.out.below (by (repeat' (first | (with_reducible exact Below.refl _ _) | (with_reducible assumption) | (with_reducible refine below_drewN ?_ _) | (with_reducible refine Below.drew ?_) | (with_reducible refine Below.alloc ?_ ?_ _) | (with_reducible refine Below.setCell ?_ ?_ _) | (with_reducible refine below_gw ?_ ?_ _) | (with_reducible refine below_via ?_ ‹Below _ _ _› ?_) | (with_reducible exact Nat.le_refl _) | (with_reducible refine le_gw ?_ _) | (with_reducible refine le_alloc ?_ _) | (with_reducible refine le_setCell ?_ _ _) | (with_reducible refine le_drew ?_) | (with_reducible refine le_drewN ?_ _) | go_size))))).mono ?_
      rintro r w1 ⟨rfl, hb⟩
      obtain ⟨p, rfl⟩ := gw_of_below hb
      clear hb
      go_wp2
      go_returns
      exact ret_nil_fb (by (repeat' (first | (with_reducible exact Below.refl _ _) | (with_reducible assumption) | (with_reducible refine below_drewN ?_ _) | (with_reducible refine Below.drew ?_) | (with_reducible refine Below.alloc ?_ ?_ _) | (with_reducible refine Below.setCell ?_ ?_ _) | (with_reducible refine below_gw ?_ ?_ _) | (with_reducible refine below_via ?_ ‹Below _ _ _› ?_) | (with_reducible exact Nat.le_refl _) | (with_reducible refine le_gw ?_ _) | (with_reducible refine le_alloc ?_ _) | (with_reducible refine le_setCell ?_ _ _) | (with_reducible refine le_drew ?_) | (with_reducible refine le_drewN ?_ _) | go_size)))
    | true =>
      rw [hy] at IY
      have ME := Tm.ml_eq hx hy
      rw [ME.1, ME.2.1, ME.2.2]
      clear ME
      have VX := Lib.hid (fun (w : World) (h : Ints w a xs.length cap xs) => sValue2 a _ cap xs w h ((Tm.isF_iff _ _).1 hx).1)
      have VY := Lib.hid (fun (w : World) (h : Ints w b ys.length cap2 ys) => sValue2 b _ cap2 ys w h ((Tm.isF_iff _ _).1 hy).1)
      have b1 := Tm.isF_val hx
      have b2 := Tm.isF_val hy
      have b3 := ((Tm.isF_iff _ _).1 hx).2.2.1
      have b4 := ((Tm.isF_iff _ _).1 hy).2.2.1
      obtain ⟨u, hu⟩ : ∃ u, u = Tm.val xs := ⟨_, rfl⟩
      obtain ⟨v, hv⟩ : ∃ v, v = Tm.val ys := ⟨_, rfl⟩
      rw [← hu] at b1 VX
      rw [← hv] at b2 VY
      obtain ⟨b31, b32⟩ := b3
      obtain ⟨b41, b42⟩ := b4
      rw [← hu, ← hv]
      have mb := Tm.mul_bd (A := 364) (B := 364) b1 b2
      obtain ⟨mb1, mb2⟩ := mb
      obtain ⟨b11, b12⟩ := b1
      obtain ⟨b21, b22⟩ := b2
      have OF := Lib.hid (fun w => sOf5 (u * v) (e + f) w ⟨by omega, by omega⟩ (by omega) (by omega))
      have s1 : IntKind.i64.wrap (e + f) = e + f := IntWalk.i64_in _ (by omega)
      have s2 : IntKind.i64.wrap (u * v) = u * v := IntWalk.i64_in _ (by omega)
      clear hx hy hu hv
      go_enter Try.func33, Try.ntmps33
      go_wp2_with fail
      refine (IX.out _ (H.out.below (by (repeat' (first | (with_reducible exact Below.refl _ _) | (with_reducible assumption) | (with_reducible refine below_drewN ?_ _) | (with_reducible refine Below.drew ?_) | (with_reducible refine Below.alloc ?_ ?_ _) | (with_reducible refine Below.setCell ?_ ?_ _) | (with_reducible refine below_gw ?_ ?_ _) | (with_reducible refine below_via ?_ ‹Below _ _ _› ?_) | (with_reducible exact Nat.le_refl _) | (with_reducible refine le_gw ?_ _) | (with_reducible refine le_alloc ?_ _) | (with_reducible refine le_setCell ?_ _ _) | (with_reducible refine le_drew ?_) | (with_reducible refine le_drewN ?_ _) | go_size))))).mono ?_
      rintro r w1 ⟨rfl, hb⟩
      obtain ⟨p, rfl⟩ := gw_of_below hb
      clear hb
      go_wp2_with fail
      refine (IY.out _ (H2.out.below (by (repeat' (first | (with_reducible exact Below.refl _ _) | (with_reducible assumption) | (with_reducible refine below_drewN ?_ _) | (with_reducible refine Below.drew ?_) | (with_reducible refine Below.alloc ?_ ?_ _) | (with_reducible refine Below.setCell ?_ ?_ _) | (with_reducible refine below_gw ?_ ?_ _) | (with_reducible refine below_via ?_ ‹Below _ _ _› ?_) | (with_reducible exact Nat.le_refl _) | (with_reducible refine le_gw ?_ _) | (with_reducible refine le_alloc ?_ _) | (with_reducible refine le_setCell ?_ _ _) | (with_reducible refine le_drew ?_) | (with_reducible refine le_drewN ?_ _) | go_size))))).mono ?_
      rintro r w1 ⟨rfl, hb⟩
      obtain ⟨p, rfl⟩ := gw_of_below hb
      clear hb
      go_wp2_with fail
      go_region_held3 (fun W => W.cell? ⟨w.heap.size, 0, none⟩ = some (.slice a xs.length cap) ∧ W.cell? ⟨w.heap.size, 1, none⟩ = some (.int .i64 e) ∧ W.cell? ⟨w.heap.size + 1, 0, none⟩ = some (.slice b ys.length cap2) ∧ W.cell? ⟨w.heap.size + 1, 1, none⟩ = some (.int .i64 f)) (go_simp) ((first | (go_at_call 45; with_reducible refine (VX.out _ (H.out.below (by (repeat' (first | (with_reducible exact Below.refl _ _) | (with_reducible assumption) | (with_reducible refine below_drewN ?_ _) | (with_reducible refine Below.drew ?_) | (with_reducible refine Below.alloc ?_ ?_ _) | (with_reducible refine Below.setCell ?_ ?_ _) | (with_reducible refine below_gw ?_ ?_ _) | (with_reducible refine below_via ?_ ‹Below _ _ _› ?_) | (with_reducible exact Nat.le_refl _) | (with_reducible refine le_gw ?_ _) | (with_reducible refine le_alloc ?_ _) | (with_reducible refine le_setCell ?_ _ _) | (with_reducible refine le_drew ?_) | (with_reducible refine le_drewN ?_ _) | go_size))))).mono ?_; rintro r w' ⟨rfl, rfl⟩) | (go_at_call 45; with_reducible refine (VY.out _ (H2.out.below (by (repeat' (first | (with_reducible exact Below.refl _ _) | (with_reducible assumption) | (with_reducible refine below_drewN ?_ _) | (with_reducible refine Below.drew ?_) | (with_reducible refine Below.alloc ?_ ?_ _) | (with_reducible refine Below.setCell ?_ ?_ _) | (with_reducible refine below_gw ?_ ?_ _) | (with_reducible refine below_via ?_ ‹Below _ _ _› ?_) | (with_reducible exact Nat.le_refl _) | (with_reducible refine le_gw ?_ _) | (with_reducible refine le_alloc ?_ _) | (with_reducible refine le_setCell ?_ _ _) | (with_reducible refine le_drew ?_) | (with_reducible refine le_drewN ?_ _) | go_size))))).mono ?_; rintro r w' ⟨rfl, rfl⟩) | (go_at_call 51; refine (OF.out _).mono ?_; rintro r w1 ⟨a1, c1, rfl, hown, hb, ln⟩; obtain ⟨q, rfl⟩ := gw_of_below hb; have HO := Lib.hid hown; clear hown hb)))
      go_wp2
      go_returns
      have ho := HO.out
      rw [gw_gw] at ho
      exact ret_own_fb (own_weak (own_gw ho (by simp only [gw_size, World.size_alloc]; omega)) (by simp only [gw_size, World.size_alloc]; omega)) (by (repeat' (first | (with_reducible exact Below.refl _ _) | (with_reducible assumption) | (with_reducible refine below_drewN ?_ _) | (with_reducible refine Below.drew ?_) | (with_reducible refine Below.alloc ?_ ?_ _) | (with_reducible refine Below.setCell ?_ ?_ _) | (with_reducible refine below_gw ?_ ?_ _) | (with_reducible refine below_via ?_ ‹Below _ _ _› ?_) | (with_reducible exact Nat.le_refl _) | (with_reducible refine le_gw ?_ _) | (with_reducible refine le_alloc ?_ _) | (with_reducible refine le_setCell ?_ _ _) | (with_reducible refine le_drew ?_) | (with_reducible refine le_drewN ?_ _) | go_size))) ln
set_option maxRecDepth 20000 in
theorem sDivFloats (a : Option Addr) (n cap : Nat) (xs : List Int) (e : Int) (b : Option Addr) (m cap2 : Nat) (ys : List Int) (f : Int) (w : World) (h : Ints w a n cap xs) (h2 : Ints w b m cap2 ys) : Calls Try.prog 35 #[.agg #[.slice a n cap, .int .i64 e], .agg #[.slice b m cap2, .int .i64 f]] w (RetFB 3 w (Tm.dvD xs e ys f) (Tm.dvE xs e ys f) (Tm.dvOk xs e ys f)) := by
  have H := Lib.hid h
  obtain rfl : n = xs.length := h.1.symm
  have H2 := Lib.hid h2
  obtain rfl : m = ys.length := h2.1.symm
  clear h h2
  have IX := Lib.hid (fun (w : World) (h : Ints w a xs.length cap xs) => sIsFloat a _ cap xs e w h)
  have IY := Lib.hid (fun (w : World) (h : Ints w b ys.length cap2 ys) => sIsFloat b _ cap2 ys f w h)
  cases hx : Tm.isF xs e with
  | false =>
    rw [hx] at IX
    have Z := Lib.hid hx
    clear hx
    have CE : Tm.dvOk xs e ys f = false := by rw [Tm.dvOk, Z.out]; simp
    rw [Tm.dvD, Tm.dvE, CE]
    clear CE
    go_enter Try.func35, Try.ntmps35
    go_wp2_with fail
    refine (IX.out _ (H.out.below (by (repeat' (first | (with_reducible exact Below.refl _ _) | (with_reducible assumption) | (with_reducible refine below_drewN ?_ _) | (with_reducible refine Below.drew ?_) | (with_reducible refine Below.alloc ?_ ?_ _) | (with_reducible refine Below.setCell ?_ ?_ _) | (with_reducible refine below_gw ?_ ?_ _) | (with_reducible refine below_via ?_ ‹Below _ _ _› ?_) | (with_reducible exact Nat.le_refl _) | (with_reducible refine le_gw ?_ _) | (with_reducible refine le_alloc ?_ _) | (with_reducible refine le_setCell ?_ _ _) | (with_reducible refine le_drew ?_) | (with_reducible refine le_drewN ?_ _) | go_size))))).mono ?_
    rintro r w1 ⟨rfl, hb⟩
    obtain ⟨p, rfl⟩ := gw_of_below hb
    clear hb
    go_wp2
    go_returns
    exact ret_nil_fb (by (repeat' (first | (with_reducible exact Below.refl _ _) | (with_reducible assumption) | (with_reducible refine below_drewN ?_ _) | (with_reducible refine Below.drew ?_) | (with_reducible refine Below.alloc ?_ ?_ _) | (with_reducible refine Below.setCell ?_ ?_ _) | (with_reducible refine below_gw ?_ ?_ _) | (with_reducible refine below_via ?_ ‹Below _ _ _› ?_) | (with_reducible exact Nat.le_refl _) | (with_reducible refine le_gw ?_ _) | (with_reducible refine le_alloc ?_ _) | (with_reducible refine le_setCell ?_ _ _) | (with_reducible refine le_drew ?_) | (with_reducible refine le_drewN ?_ _) | go_size)))
  | true =>
    rw [hx] at IX
    cases hy : Tm.isF ys f with
    | false =>
      rw [hy] at IY
      have Z := Lib.hid hy
      clear hx hy
      have CE : Tm.dvOk xs e ys f = false := by rw [Tm.dvOk, Z.out]; simp
      rw [Tm.dvD, Tm.dvE, CE]
      clear CE
      go_enter Try.func35, Try.ntmps35
      go_wp2_with fail
      refine (IX.out _ (H.out.below (by (repeat' (first | (with_reducible exact Below.refl _ _) | (with_reducible assumption) | (with_reducible refine below_drewN ?_ _) | (with_reducible refine Below.drew ?_) | (with_reducible refine Below.alloc ?_ ?_ _) | (with_reducible refine Below.setCell ?_ ?_ _) | (with_reducible refine below_gw ?_ ?_ _) | (with_reducible refine below_via ?_ ‹Below _ _ _› ?_) | (with_reducible exact Nat.le_refl _) | (with_reducible refine le_gw ?_ _) | (with_reducible refine le_alloc ?_ _) | (with_reducible refine le_setCell ?_ _ _) | (with_reducible refine le_drew ?_) | (with_reducible refine le_drewN ?_ _) | go_size))))).mono ?_
      rintro r w1 ⟨rfl, hb⟩
      obtain ⟨p, rfl⟩ := gw_of_below hb
      clear hb
      go_wp2_with fail
      refine (IY.out _ (H2.out.below (by (repeat' (first | (with_reducible exact Below.refl _ _) | (with_reducible assumption) | (with_reducible refine below_drewN ?_ _) | (with_reducible refine Below.drew ?_) | (with_reducible refine Below.alloc ?_ ?_ _) | (with_reducible refine Below.setCell ?_ ?_ _) | (with_reducible refine below_gw ?_ ?_ _) | (with_reducible refine below_via ?_ ‹Below _ _ _› ?_) | (with_reducible exact Nat.le_refl _) | (with_reducible refine le_gw ?_ _) | (with_reducible refine le_alloc ?_ _) | (with_reducible refine le_setCell ?_ _ _) | (with_reducible refine le_drew ?_) | (with_reducible refine le_drewN ?_ _) | go_size))))).mono ?_
      rintro r w1 ⟨rfl, hb⟩
      obtain ⟨p, rfl⟩ := gw_of_below hb
      clear hb
      go_wp2
      go_returns
      exact ret_nil_fb (by (repeat' (first | (with_reducible exact Below.refl _ _) | (with_reducible assumption) | (with_reducible refine below_drewN ?_ _) | (with_reducible refine Below.drew ?_) | (with_reducible refine Below.alloc ?_ ?_ _) | (with_reducible refine Below.setCell ?_ ?_ _) | (with_reducible refine below_gw ?_ ?_ _) | (with_reducible refine below_via ?_ ‹Below _ _ _› ?_) | (with_reducible exact Nat.le_refl _) | (with_reducible refine le_gw ?_ _) | (with_reducible refine le_alloc ?_ _) | (with_reducible refine le_setCell ?_ _ _) | (with_reducible refine le_drew ?_) | (with_reducible refine le_drewN ?_ _) | go_size)))
    | true =>
      rw [hy] at IY
      have VX := Lib.hid (fun (w : World) (h : Ints w a xs.length cap xs) => sValue2 a _ cap xs w h ((Tm.isF_iff _ _).1 hx).1)
      have VY := Lib.hid (fun (w : World) (h : Ints w b ys.length cap2 ys) => sValue2 b _ cap2 ys w h ((Tm.isF_iff _ _).1 hy).1)
      have b1 := Tm.isF_val hx
      have b2 := Tm.isF_val hy
      have b3 := ((Tm.isF_iff _ _).1 hx).2.2.1
      have b4 := ((Tm.isF_iff _ _).1 hy).2.2.1
      obtain ⟨u, hu⟩ : ∃ u, u = Tm.val xs := ⟨_, rfl⟩
      obtain ⟨v, hv⟩ : ∃ v, v = Tm.val ys := ⟨_, rfl⟩
      rw [← hu] at b1 VX
      rw [← hv] at b2 VY
      obtain ⟨b31, b32⟩ := b3
      obtain ⟨b41, b42⟩ := b4
      by_cases v0 : v = 0
      · subst v0
        have CE : Tm.dvOk xs e ys f = false := by rw [Tm.dvOk, ← hv]; simp
        rw [Tm.dvD, Tm.dvE, CE]
        clear CE hx hy hu hv
        go_enter Try.func35, Try.ntmps35
        go_wp2_with fail
        refine (IX.out _ (H.out.below (by (repeat' (first | (with_reducible exact Below.refl _ _) | (with_reducible assumption) | (with_reducible refine below_drewN ?_ _) | (with_reducible refine Below.drew ?_) | (with_reducible refine Below.alloc ?_ ?_ _) | (with_reducible refine Below.setCell ?_ ?_ _) | (with_reducible refine below_gw ?_ ?_ _) | (with_reducible refine below_via ?_ ‹Below _ _ _› ?_) | (with_reducible exact Nat.le_refl _) | (with_reducible refine le_gw ?_ _) | (with_reducible refine le_alloc ?_ _) | (with_reducible refine le_setCell ?_ _ _) | (with_reducible refine le_drew ?_) | (with_reducible refine le_drewN ?_ _) | go_size))))).mono ?_
        rintro r w1 ⟨rfl, hb⟩
        obtain ⟨p, rfl⟩ := gw_of_below hb
        clear hb
        go_wp2_with fail
        refine (IY.out _ (H2.out.below (by (repeat' (first | (with_reducible exact Below.refl _ _) | (with_reducible assumption) | (with_reducible refine below_drewN ?_ _) | (with_reducible refine Below.drew ?_) | (with_reducible refine Below.alloc ?_ ?_ _) | (with_reducible refine Below.setCell ?_ ?_ _) | (with_reducible refine below_gw ?_ ?_ _) | (with_reducible refine below_via ?_ ‹Below _ _ _› ?_) | (with_reducible exact Nat.le_refl _) | (with_reducible refine le_gw ?_ _) | (with_reducible refine le_alloc ?_ _) | (with_reducible refine le_setCell ?_ _ _) | (with_reducible refine le_drew ?_) | (with_reducible refine le_drewN ?_ _) | go_size))))).mono ?_
        rintro r w1 ⟨rfl, hb⟩
        obtain ⟨p, rfl⟩ := gw_of_below hb
        clear hb
        go_wp2_with fail
        refine (VY.out _ (H2.out.below (by (repeat' (first | (with_reducible exact Below.refl _ _) | (with_reducible assumption) | (with_reducible refine below_drewN ?_ _) | (with_reducible refine Below.drew ?_) | (with_reducible refine Below.alloc ?_ ?_ _) | (with_reducible refine Below.setCell ?_ ?_ _) | (with_reducible refine below_gw ?_ ?_ _) | (with_reducible refine below_via ?_ ‹Below _ _ _› ?_) | (with_reducible exact Nat.le_refl _) | (with_reducible refine le_gw ?_ _) | (with_reducible refine le_alloc ?_ _) | (with_reducible refine le_setCell ?_ _ _) | (with_reducible refine le_drew ?_) | (with_reducible refine le_drewN ?_ _) | go_size))))).mono ?_
        rintro r w' ⟨rfl, rfl⟩
        go_wp2
        go_returns
        exact ret_nil_fb (by (repeat' (first | (with_reducible exact Below.refl _ _) | (with_reducible assumption) | (with_reducible refine below_drewN ?_ _) | (with_reducible refine Below.drew ?_) | (with_reducible refine Below.alloc ?_ ?_ _) | (with_reducible refine Below.setCell ?_ ?_ _) | (with_reducible refine below_gw ?_ ?_ _) | (with_reducible refine below_via ?_ ‹Below _ _ _› ?_) | (with_reducible exact Nat.le_refl _) | (with_reducible refine le_gw ?_ _) | (with_reducible refine le_alloc ?_ _) | (with_reducible refine le_setCell ?_ _ _) | (with_reducible refine le_drew ?_) | (with_reducible refine le_drewN ?_ _) | go_size)))
      · skip
        have DE := Tm.dv_eq hx hy (by rw [← hv]; exact v0)
        rw [DE.1, DE.2.1, DE.2.2, Tm.dvN]
        clear DE
        rw [← hu, ← hv]
        have v1 : (v == 0) = false := by simpa using v0
        obtain ⟨b11, b12⟩ := b1
        obtain ⟨b21, b22⟩ := b2
        have lb := Tm.lift_bd (x := u) (j := 9) ⟨by omega, by omega⟩ (by omega)
        rw [show Tm.pow3 9 = 19683 from by decide] at lb
        have LF : Hid (∀ w : World, Calls Try.prog 67 #[.int .i64 u, .int .i64 9] w fun e w' => e = .returned (.int .i64 (u * 19683)) ∧ w = w') := Lib.hid fun w => by
          have h := sLift5 u 9 w ⟨by omega, by omega⟩ (by omega)
          rw [show Tm.pow3 9 = 19683 from by decide] at h
          exact h
        have DV := Lib.hid (fun w => sDivide4 (u * 19683) v w (by omega) (by omega) (by omega) (by omega) v0)
        have qb := Tm.abs_in (Tm.quo_bd (u * 19683) v0)
        have ab := Tm.absI_abs (u * 19683)
        obtain ⟨k, hk⟩ : ∃ k, k = Tm.quo (u * 19683) v := ⟨_, rfl⟩
        obtain ⟨t, ht⟩ : ∃ t, t = Tm.rem (u * 19683) v := ⟨_, rfl⟩
        rw [← hk] at qb
        rw [← hk, ← ht] at DV
        rw [← hk]
        have k1 : -7166412 ≤ k := by omega
        have k2 : k ≤ 7166412 := by omega
        have OF := Lib.hid (fun w => sOf5 k (e - f - 9) w ⟨by omega, by omega⟩ (by omega) (by omega))
        clear hx hy hu hv hk ht qb ab lb v0
        go_enter Try.func35, Try.ntmps35
        go_wp2_with fail
        refine (IX.out _ (H.out.below (by (repeat' (first | (with_reducible exact Below.refl _ _) | (with_reducible assumption) | (with_reducible refine below_drewN ?_ _) | (with_reducible refine Below.drew ?_) | (with_reducible refine Below.alloc ?_ ?_ _) | (with_reducible refine Below.setCell ?_ ?_ _) | (with_reducible refine below_gw ?_ ?_ _) | (with_reducible refine below_via ?_ ‹Below _ _ _› ?_) | (with_reducible exact Nat.le_refl _) | (with_reducible refine le_gw ?_ _) | (with_reducible refine le_alloc ?_ _) | (with_reducible refine le_setCell ?_ _ _) | (with_reducible refine le_drew ?_) | (with_reducible refine le_drewN ?_ _) | go_size))))).mono ?_
        rintro r w1 ⟨rfl, hb⟩
        obtain ⟨p, rfl⟩ := gw_of_below hb
        clear hb
        go_wp2_with fail
        refine (IY.out _ (H2.out.below (by (repeat' (first | (with_reducible exact Below.refl _ _) | (with_reducible assumption) | (with_reducible refine below_drewN ?_ _) | (with_reducible refine Below.drew ?_) | (with_reducible refine Below.alloc ?_ ?_ _) | (with_reducible refine Below.setCell ?_ ?_ _) | (with_reducible refine below_gw ?_ ?_ _) | (with_reducible refine below_via ?_ ‹Below _ _ _› ?_) | (with_reducible exact Nat.le_refl _) | (with_reducible refine le_gw ?_ _) | (with_reducible refine le_alloc ?_ _) | (with_reducible refine le_setCell ?_ _ _) | (with_reducible refine le_drew ?_) | (with_reducible refine le_drewN ?_ _) | go_size))))).mono ?_
        rintro r w1 ⟨rfl, hb⟩
        obtain ⟨p, rfl⟩ := gw_of_below hb
        clear hb
        go_wp2_with fail
        refine (VY.out _ (H2.out.below (by (repeat' (first | (with_reducible exact Below.refl _ _) | (with_reducible assumption) | (with_reducible refine below_drewN ?_ _) | (with_reducible refine Below.drew ?_) | (with_reducible refine Below.alloc ?_ ?_ _) | (with_reducible refine Below.setCell ?_ ?_ _) | (with_reducible refine below_gw ?_ ?_ _) | (with_reducible refine below_via ?_ ‹Below _ _ _› ?_) | (with_reducible exact Nat.le_refl _) | (with_reducible refine le_gw ?_ _) | (with_reducible refine le_alloc ?_ _) | (with_reducible refine le_setCell ?_ _ _) | (with_reducible refine le_drew ?_) | (with_reducible refine le_drewN ?_ _) | go_size))))).mono ?_
        rintro r w' ⟨rfl, rfl⟩
        go_wp2_with fail
        go_region_held3 (fun W => W.cell? ⟨w.heap.size, 0, none⟩ = some (.slice a xs.length cap) ∧ W.cell? ⟨w.heap.size, 1, none⟩ = some (.int .i64 e) ∧ W.cell? ⟨w.heap.size + 1, 0, none⟩ = some (.slice b ys.length cap2) ∧ W.cell? ⟨w.heap.size + 1, 1, none⟩ = some (.int .i64 f)) (go_simp) ((first | (go_at_call 45; with_reducible refine (VX.out _ (H.out.below (by (repeat' (first | (with_reducible exact Below.refl _ _) | (with_reducible assumption) | (with_reducible refine below_drewN ?_ _) | (with_reducible refine Below.drew ?_) | (with_reducible refine Below.alloc ?_ ?_ _) | (with_reducible refine Below.setCell ?_ ?_ _) | (with_reducible refine below_gw ?_ ?_ _) | (with_reducible refine below_via ?_ ‹Below _ _ _› ?_) | (with_reducible exact Nat.le_refl _) | (with_reducible refine le_gw ?_ _) | (with_reducible refine le_alloc ?_ _) | (with_reducible refine le_setCell ?_ _ _) | (with_reducible refine le_drew ?_) | (with_reducible refine le_drewN ?_ _) | go_size))))).mono ?_; rintro r w' ⟨rfl, rfl⟩) | (go_at_call 45; with_reducible refine (VY.out _ (H2.out.below (by (repeat' (first | (with_reducible exact Below.refl _ _) | (with_reducible assumption) | (with_reducible refine below_drewN ?_ _) | (with_reducible refine Below.drew ?_) | (with_reducible refine Below.alloc ?_ ?_ _) | (with_reducible refine Below.setCell ?_ ?_ _) | (with_reducible refine below_gw ?_ ?_ _) | (with_reducible refine below_via ?_ ‹Below _ _ _› ?_) | (with_reducible exact Nat.le_refl _) | (with_reducible refine le_gw ?_ _) | (with_reducible refine le_alloc ?_ _) | (with_reducible refine le_setCell ?_ _ _) | (with_reducible refine le_drew ?_) | (with_reducible refine le_drewN ?_ _) | go_size))))).mono ?_; rintro r w' ⟨rfl, rfl⟩) | (go_at_call 67; with_reducible refine (LF.out _).mono ?_; rintro r w' ⟨rfl, rfl⟩) | (go_at_call 66; with_reducible refine (DV.out _).mono ?_; rintro r w' ⟨rfl, rfl⟩)))
        go_wp2_with fail
        refine (OF.out _).mono ?_
        rintro r w1 ⟨a1, c1, rfl, hown, hb, ln⟩
        obtain ⟨q, rfl⟩ := gw_of_below hb
        have HO := Lib.hid hown
        clear hown hb
        go_wp2
        go_returns
        have ho := HO.out
        rw [gw_gw] at ho
        exact ret_own_fb (own_weak (own_gw ho (by simp only [gw_size, World.size_alloc]; omega)) (by simp only [gw_size, World.size_alloc]; omega)) (by (repeat' (first | (with_reducible exact Below.refl _ _) | (with_reducible assumption) | (with_reducible refine below_drewN ?_ _) | (with_reducible refine Below.drew ?_) | (with_reducible refine Below.alloc ?_ ?_ _) | (with_reducible refine Below.setCell ?_ ?_ _) | (with_reducible refine below_gw ?_ ?_ _) | (with_reducible refine below_via ?_ ‹Below _ _ _› ?_) | (with_reducible exact Nat.le_refl _) | (with_reducible refine le_gw ?_ _) | (with_reducible refine le_alloc ?_ _) | (with_reducible refine le_setCell ?_ _ _) | (with_reducible refine le_drew ?_) | (with_reducible refine le_drewN ?_ _) | go_size))) ln
theorem sSubFloats (a : Option Addr) (n cap : Nat) (xs : List Int) (e : Int) (b : Option Addr) (m cap2 : Nat) (ys : List Int) (f : Int) (w : World) (h : Ints w a n cap xs) (h2 : Ints w b m cap2 ys) : Calls Try.prog 31 #[.agg #[.slice a n cap, .int .i64 e], .agg #[.slice b m cap2, .int .i64 f]] w (RetFB 3 w (Tm.adD xs e (Tm.ngD ys f) (Tm.ngE ys f)) (Tm.adE xs e (Tm.ngD ys f) (Tm.ngE ys f)) (Tm.adOk xs e (Tm.ngD ys f) (Tm.ngE ys f))) := by
  have H := Lib.hid h
  obtain rfl : n = xs.length := h.1.symm
  have H2 := Lib.hid h2
  obtain rfl : m = ys.length := h2.1.symm
  clear h h2
  have NG := Lib.hid (fun (w : World) (h : Ints w b ys.length cap2 ys) => sNegateFloat b _ cap2 ys f w h)
  obtain ⟨ns, hn⟩ : ∃ ns, ns = Tm.ngD ys f := ⟨_, rfl⟩
  obtain ⟨g, hg⟩ : ∃ g, g = Tm.ngE ys f := ⟨_, rfl⟩
  rw [← hn, ← hg] at NG ⊢
  clear hn hg
  go_enter Try.func31, Try.ntmps31
  go_wp2_with fail
  go_region_held3 (fun W => W.cell? ⟨w.heap.size, 0, none⟩ = some (.slice a xs.length cap) ∧ W.cell? ⟨w.heap.size, 1, none⟩ = some (.int .i64 e) ∧ W.cell? ⟨w.heap.size + 1, 0, none⟩ = some (.slice b ys.length cap2) ∧ W.cell? ⟨w.heap.size + 1, 1, none⟩ = some (.int .i64 f)) (go_simp) ((first | (go_at_call 23; refine (NG.out _ (H2.out.below (by (repeat' (first | (with_reducible exact Below.refl _ _) | (with_reducible assumption) | (with_reducible refine below_drewN ?_ _) | (with_reducible refine Below.drew ?_) | (with_reducible refine Below.alloc ?_ ?_ _) | (with_reducible refine Below.setCell ?_ ?_ _) | (with_reducible refine below_gw ?_ ?_ _) | (with_reducible refine below_via ?_ ‹Below _ _ _› ?_) | (with_reducible exact Nat.le_refl _) | (with_reducible refine le_gw ?_ _) | (with_reducible refine le_alloc ?_ _) | (with_reducible refine le_setCell ?_ _ _) | (with_reducible refine le_drew ?_) | (with_reducible refine le_drewN ?_ _) | go_size))))).mono ?_; rintro r w1 ⟨a1, c1, rfl, hown, hb, ln1⟩; obtain ⟨p, rfl⟩ := gw_of_below hb; have HN := Lib.hid (Ints.of_own hown); clear hown hb) | (go_at_call 29; refine (sAddFloats a _ cap xs e _ _ _ ns g _ (H.out.below (by (repeat' (first | (with_reducible exact Below.refl _ _) | (with_reducible assumption) | (with_reducible refine below_drewN ?_ _) | (with_reducible refine Below.drew ?_) | (with_reducible refine Below.alloc ?_ ?_ _) | (with_reducible refine Below.setCell ?_ ?_ _) | (with_reducible refine below_gw ?_ ?_ _) | (with_reducible refine below_via ?_ ‹Below _ _ _› ?_) | (with_reducible exact Nat.le_refl _) | (with_reducible refine le_gw ?_ _) | (with_reducible refine le_alloc ?_ _) | (with_reducible refine le_setCell ?_ _ _) | (with_reducible refine le_drew ?_) | (with_reducible refine le_drewN ?_ _) | go_size)))) (by first | (have hh := HN.out; simp only [gw_gw] at hh ⊢; exact hh) | exact HN.out | exact HN.out.below (by (repeat' (first | (with_reducible exact Below.refl _ _) | (with_reducible assumption) | (with_reducible refine below_drewN ?_ _) | (with_reducible refine Below.drew ?_) | (with_reducible refine Below.alloc ?_ ?_ _) | (with_reducible refine Below.setCell ?_ ?_ _) | (with_reducible refine below_gw ?_ ?_ _) | (with_reducible refine below_via ?_ ‹Below _ _ _› ?_) | (with_reducible exact Nat.le_refl _) | (with_reducible refine le_gw ?_ _) | (with_reducible refine le_alloc ?_ _) | (with_reducible refine le_setCell ?_ _ _) | (with_reducible refine le_drew ?_) | (with_reducible refine le_drewN ?_ _) | go_size))))).mono ?_; rintro r w1 ⟨a2, c2, rfl, hown, hb, ln⟩; obtain ⟨q, rfl⟩ := gw_of_below hb; have HO := Lib.hid hown; clear hown hb)))
  go_wp2
  go_returns
  have ho := HO.out
  simp only [gw_gw] at ho
  exact ret_own_fb (own_weak (own_gw ho (by simp only [gw_size, World.size_alloc]; omega)) (by simp only [gw_size, World.size_alloc]; omega)) (by (repeat' (first | (with_reducible exact Below.refl _ _) | (with_reducible assumption) | (with_reducible refine below_drewN ?_ _) | (with_reducible refine Below.drew ?_) | (with_reducible refine Below.alloc ?_ ?_ _) | (with_reducible refine Below.setCell ?_ ?_ _) | (with_reducible refine below_gw ?_ ?_ _) | (with_reducible refine below_via ?_ ‹Below _ _ _› ?_) | (with_reducible exact Nat.le_refl _) | (with_reducible refine le_gw ?_ _) | (with_reducible refine le_alloc ?_ _) | (with_reducible refine le_setCell ?_ _ _) | (with_reducible refine le_drew ?_) | (with_reducible refine le_drewN ?_ _) | go_size))) ln
set_option maxRecDepth 20000 in
theorem sScaleFloat (a : Option Addr) (n cap : Nat) (xs : List Int) (e : Int) (k : Int) (w : World) (h : Ints w a n cap xs) : Calls Try.prog 27 #[.agg #[.slice a n cap, .int .i64 e], .int .i64 k] w (RetFB 3 w (Tm.sclD xs e k) (Tm.sclE xs e k) (Tm.sclOk xs e k)) := by
  have H := Lib.hid h
  obtain rfl : n = xs.length := h.1.symm
  clear h
  have IX := Lib.hid (fun (w : World) (h : Ints w a xs.length cap xs) => sIsFloat a _ cap xs e w h)
  cases hx : Tm.isF xs e with
  | false =>
    rw [hx] at IX
    have Z := Lib.hid hx
    clear hx
    have CE : Tm.sclOk xs e k = false := by rw [Tm.sclOk, Z.out]; simp
    rw [Tm.sclD, Tm.sclE, CE]
    clear CE
    go_enter Try.func27, Try.ntmps27
    go_wp2_with fail
    refine (IX.out _ (H.out.below (by (repeat' (first | (with_reducible exact Below.refl _ _) | (with_reducible assumption) | (with_reducible refine below_drewN ?_ _) | (with_reducible refine Below.drew ?_) | (with_reducible refine Below.alloc ?_ ?_ _) | (with_reducible refine Below.setCell ?_ ?_ _) | (with_reducible refine below_gw ?_ ?_ _) | (with_reducible refine below_via ?_ ‹Below _ _ _› ?_) | (with_reducible exact Nat.le_refl _) | (with_reducible refine le_gw ?_ _) | (with_reducible refine le_alloc ?_ _) | (with_reducible refine le_setCell ?_ _ _) | (with_reducible refine le_drew ?_) | (with_reducible refine le_drewN ?_ _) | go_size))))).mono ?_
    rintro r w1 ⟨rfl, hb⟩
    obtain ⟨p, rfl⟩ := gw_of_below hb
    clear hb
    go_wp2
    go_returns
    exact ret_nil_fb (by (repeat' (first | (with_reducible exact Below.refl _ _) | (with_reducible assumption) | (with_reducible refine below_drewN ?_ _) | (with_reducible refine Below.drew ?_) | (with_reducible refine Below.alloc ?_ ?_ _) | (with_reducible refine Below.setCell ?_ ?_ _) | (with_reducible refine below_gw ?_ ?_ _) | (with_reducible refine below_via ?_ ‹Below _ _ _› ?_) | (with_reducible exact Nat.le_refl _) | (with_reducible refine le_gw ?_ _) | (with_reducible refine le_alloc ?_ _) | (with_reducible refine le_setCell ?_ _ _) | (with_reducible refine le_drew ?_) | (with_reducible refine le_drewN ?_ _) | go_size)))
  | true =>
    rw [hx] at IX
    cases hk : Tm.inB k (-100) 100 with
    | false =>
      have CE : Tm.sclOk xs e k = false := by rw [Tm.sclOk, hk]; simp
      rw [Tm.sclD, Tm.sclE, CE]
      clear CE hx
      go_enter Try.func27, Try.ntmps27
      go_wp2_with fail
      refine (IX.out _ (H.out.below (by (repeat' (first | (with_reducible exact Below.refl _ _) | (with_reducible assumption) | (with_reducible refine below_drewN ?_ _) | (with_reducible refine Below.drew ?_) | (with_reducible refine Below.alloc ?_ ?_ _) | (with_reducible refine Below.setCell ?_ ?_ _) | (with_reducible refine below_gw ?_ ?_ _) | (with_reducible refine below_via ?_ ‹Below _ _ _› ?_) | (with_reducible exact Nat.le_refl _) | (with_reducible refine le_gw ?_ _) | (with_reducible refine le_alloc ?_ _) | (with_reducible refine le_setCell ?_ _ _) | (with_reducible refine le_drew ?_) | (with_reducible refine le_drewN ?_ _) | go_size))))).mono ?_
      rintro r w1 ⟨rfl, hb⟩
      obtain ⟨p, rfl⟩ := gw_of_below hb
      clear hb
      go_wp2_with fail
      refine (sIn _ _ _ _).mono ?_
      rw [hk]
      rintro r w' ⟨rfl, rfl⟩
      go_wp2
      go_returns
      exact ret_nil_fb (by (repeat' (first | (with_reducible exact Below.refl _ _) | (with_reducible assumption) | (with_reducible refine below_drewN ?_ _) | (with_reducible refine Below.drew ?_) | (with_reducible refine Below.alloc ?_ ?_ _) | (with_reducible refine Below.setCell ?_ ?_ _) | (with_reducible refine below_gw ?_ ?_ _) | (with_reducible refine below_via ?_ ‹Below _ _ _› ?_) | (with_reducible exact Nat.le_refl _) | (with_reducible refine le_gw ?_ _) | (with_reducible refine le_alloc ?_ _) | (with_reducible refine le_setCell ?_ _ _) | (with_reducible refine le_drew ?_) | (with_reducible refine le_drewN ?_ _) | go_size)))
    | true =>
      have SE := Tm.scl_eq hx hk
      rw [SE.1, SE.2.1, SE.2.2]
      clear SE
      have VX := Lib.hid (fun (w : World) (h : Ints w a xs.length cap xs) => sValue2 a _ cap xs w h ((Tm.isF_iff _ _).1 hx).1)
      have b1 := Tm.isF_val hx
      have b3 := ((Tm.isF_iff _ _).1 hx).2.2.1
      have b5 := (Tm.inB_iff _ _ _).1 hk
      obtain ⟨u, hu⟩ : ∃ u, u = Tm.val xs := ⟨_, rfl⟩
      rw [← hu] at b1 VX ⊢
      obtain ⟨b31, b32⟩ := b3
      obtain ⟨b51, b52⟩ := b5
      have OF := Lib.hid (fun w => sOf5 u (e + k) w ⟨by omega, by omega⟩ (by omega) (by omega))
      have s1 : IntKind.i64.wrap (e + k) = e + k := IntWalk.i64_in _ (by omega)
      clear hx hu
      go_enter Try.func27, Try.ntmps27
      go_wp2_with fail
      refine (IX.out _ (H.out.below (by (repeat' (first | (with_reducible exact Below.refl _ _) | (with_reducible assumption) | (with_reducible refine below_drewN ?_ _) | (with_reducible refine Below.drew ?_) | (with_reducible refine Below.alloc ?_ ?_ _) | (with_reducible refine Below.setCell ?_ ?_ _) | (with_reducible refine below_gw ?_ ?_ _) | (with_reducible refine below_via ?_ ‹Below _ _ _› ?_) | (with_reducible exact Nat.le_refl _) | (with_reducible refine le_gw ?_ _) | (with_reducible refine le_alloc ?_ _) | (with_reducible refine le_setCell ?_ _ _) | (with_reducible refine le_drew ?_) | (with_reducible refine le_drewN ?_ _) | go_size))))).mono ?_
      rintro r w1 ⟨rfl, hb⟩
      obtain ⟨p, rfl⟩ := gw_of_below hb
      clear hb
      go_wp2_with fail
      refine (sIn _ _ _ _).mono ?_
      rw [hk]
      rintro r w' ⟨rfl, rfl⟩
      go_wp2_with fail
      go_region_held3 (fun W => W.cell? ⟨w.heap.size, 0, none⟩ = some (.slice a xs.length cap) ∧ W.cell? ⟨w.heap.size, 1, none⟩ = some (.int .i64 e)) (go_simp) ((first | (go_at_call 45; with_reducible refine (VX.out _ (H.out.below (by (repeat' (first | (with_reducible exact Below.refl _ _) | (with_reducible assumption) | (with_reducible refine below_drewN ?_ _) | (with_reducible refine Below.drew ?_) | (with_reducible refine Below.alloc ?_ ?_ _) | (with_reducible refine Below.setCell ?_ ?_ _) | (with_reducible refine below_gw ?_ ?_ _) | (with_reducible refine below_via ?_ ‹Below _ _ _› ?_) | (with_reducible exact Nat.le_refl _) | (with_reducible refine le_gw ?_ _) | (with_reducible refine le_alloc ?_ _) | (with_reducible refine le_setCell ?_ _ _) | (with_reducible refine le_drew ?_) | (with_reducible refine le_drewN ?_ _) | go_size))))).mono ?_; rintro r w' ⟨rfl, rfl⟩) | (go_at_call 51; refine (OF.out _).mono ?_; rintro r w1 ⟨a1, c1, rfl, hown, hb, ln⟩; obtain ⟨q, rfl⟩ := gw_of_below hb; have HO := Lib.hid hown; clear hown hb)))
      go_wp2
      go_returns
      have ho := HO.out
      rw [gw_gw] at ho
      exact ret_own_fb (own_weak (own_gw ho (by simp only [gw_size, World.size_alloc]; omega)) (by simp only [gw_size, World.size_alloc]; omega)) (by (repeat' (first | (with_reducible exact Below.refl _ _) | (with_reducible assumption) | (with_reducible refine below_drewN ?_ _) | (with_reducible refine Below.drew ?_) | (with_reducible refine Below.alloc ?_ ?_ _) | (with_reducible refine Below.setCell ?_ ?_ _) | (with_reducible refine below_gw ?_ ?_ _) | (with_reducible refine below_via ?_ ‹Below _ _ _› ?_) | (with_reducible exact Nat.le_refl _) | (with_reducible refine le_gw ?_ _) | (with_reducible refine le_alloc ?_ _) | (with_reducible refine le_setCell ?_ _ _) | (with_reducible refine le_drew ?_) | (with_reducible refine le_drewN ?_ _) | go_size))) ln
end Go.Proofs.Ytkphbnejnilehaa

/- The model's adders, on. -/
import Derived.Test.YteonnaagpjmgeaaAS
import Derived.Test.YteonnaagpjmgeaaDraw
namespace Go.Proofs.Yteonnaagpjmgeaa
open Go.RowKit
theorem own_shape {w : World} {B e n : Nat} {v : Value} {xs : List Value} (h : w.ownsRow B e 1 v (n + 1) xs) : ∃ g cap, v = .slice (some ⟨g, 0, none⟩) (n + 1) cap ∧ n + 1 ≤ cap ∧ cap ≤ maxLen := by
  rcases h.2 with ⟨_, e2⟩ | ⟨g, cap, cur, e1, _, _, h4, h5, _⟩
  · omega
  · exact ⟨g, cap, e1, h4, h5⟩
theorem sAddWords (a : Option Addr) (n cap : Nat) (xs : List Int) (b : Option Addr) (m cap2 : Nat) (ys : List Int) (c : Int) (w : World) (h : Ints w a n cap xs) (h2 : Ints w b m cap2 ys) : Calls Try.prog 29 #[.slice a n cap, .slice b m cap2, .int .i64 c] w (RetINB 3 w (Tm.add xs ys c) (Tm.addC xs ys c) (Tm.addOk xs ys c)) := by
  have H := Lib.hid h
  have H2 := Lib.hid h2
  clear h h2
  by_cases hf : Tm.fit xs ys = true
  · by_cases hc : Tm.isT c = true
    · have ho : Tm.addOk xs ys c = true := by simp [Tm.addOk, hf, hc]
      rw [Tm.add, Tm.addC, if_pos ho, if_pos ho, ho]
      obtain ⟨hx, hy, hl⟩ := (Tm.fit_iff xs ys).1 hf
      have l30 := Tm.isW_len hx
      have HX := Lib.hid hx
      have HY := Lib.hid hy
      have HL := Lib.hid hl
      have HC := Lib.hid ((Tm.isT_iff c).1 hc)
      clear ho hx hy hl
      go_enter Try.func29, Try.ntmps29
      go_wp2_with (first | (go_at_call 63; refine (sFit a n cap xs b m cap2 ys _ H.out H2.out).mono ?_; rintro e w1 ⟨rfl, rfl⟩) | (go_at_call 64; refine (sIsTrit _ _).mono ?_; rintro e w1 ⟨rfl, rfl⟩))
      refine (sAdd3 a n cap xs b m cap2 ys c _ H.out H2.out HX.out HY.out HL.out HC.out).mono ?_
      rintro e w1 ⟨v, u, rfl, hv, _, hb⟩
      rw [rowV_gen] at hv
      go_wp2
      go_ret3
      exact ret_own_nb hv hb (by omega)
    · simp only [Bool.not_eq_true] at hc
      have ho : Tm.addOk xs ys c = false := by simp [Tm.addOk, hc]
      rw [Tm.add, Tm.addC, ho]
      clear ho
      go_enter Try.func29, Try.ntmps29
      go_wp2_with (first | (go_at_call 63; refine (sFit a n cap xs b m cap2 ys _ H.out H2.out).mono ?_; rintro e w1 ⟨rfl, rfl⟩) | (go_at_call 64; refine (sIsTrit _ _).mono ?_; rintro e w1 ⟨rfl, rfl⟩))
      go_ret3
      exact ret_nil_nb (by (repeat' (first | (with_reducible exact Below.refl _ _) | (with_reducible assumption) | (with_reducible refine below_drewN ?_ _) | (with_reducible refine Below.drew ?_) | (with_reducible refine Below.alloc ?_ ?_ _) | (with_reducible refine Below.setCell ?_ ?_ _) | (with_reducible refine below_gw ?_ ?_ _) | (with_reducible refine below_via ?_ ‹Below _ _ _› ?_) | (with_reducible exact Nat.le_refl _) | (with_reducible refine le_gw ?_ _) | (with_reducible refine le_alloc ?_ _) | (with_reducible refine le_setCell ?_ _ _) | (with_reducible refine le_drew ?_) | (with_reducible refine le_drewN ?_ _) | go_size)))
  · simp only [Bool.not_eq_true] at hf
    have ho : Tm.addOk xs ys c = false := by simp [Tm.addOk, hf]
    rw [Tm.add, Tm.addC, ho]
    clear ho
    go_enter Try.func29, Try.ntmps29
    go_wp2_with (first | (go_at_call 63; refine (sFit a n cap xs b m cap2 ys _ H.out H2.out).mono ?_; rintro e w1 ⟨rfl, rfl⟩))
    go_ret3
    exact ret_nil_nb (by (repeat' (first | (with_reducible exact Below.refl _ _) | (with_reducible assumption) | (with_reducible refine below_drewN ?_ _) | (with_reducible refine Below.drew ?_) | (with_reducible refine Below.alloc ?_ ?_ _) | (with_reducible refine Below.setCell ?_ ?_ _) | (with_reducible refine below_gw ?_ ?_ _) | (with_reducible refine below_via ?_ ‹Below _ _ _› ?_) | (with_reducible exact Nat.le_refl _) | (with_reducible refine le_gw ?_ _) | (with_reducible refine le_alloc ?_ _) | (with_reducible refine le_setCell ?_ _ _) | (with_reducible refine le_drew ?_) | (with_reducible refine le_drewN ?_ _) | go_size)))
theorem sSubWords (a : Option Addr) (n cap : Nat) (xs : List Int) (b : Option Addr) (m cap2 : Nat) (ys : List Int) (w : World) (h : Ints w a n cap xs) (h2 : Ints w b m cap2 ys) : Calls Try.prog 35 #[.slice a n cap, .slice b m cap2] w (RetINB 3 w (Tm.add xs (Tm.negW ys) 0) (Tm.addC xs (Tm.negW ys) 0) (Tm.addOk xs (Tm.negW ys) 0)) := by
  go_enter Try.func35, Try.ntmps35
  go_wp2_with fail
  refine (sNegateWord b m cap2 ys _ h2).mono ?_
  rintro e w1 ⟨a1, c1, rfl, hown, hb, ln⟩
  go_wp2_with fail
  refine (sAddWords a n cap xs a1 _ c1 (Tm.negW ys) 0 _ (h.below hb) (Ints.of_own hown)).mono ?_
  rintro e w2 ⟨a2, c2, rfl, hown2, hb2, ln2⟩
  go_wp2
  go_ret3
  exact ⟨a2, c2, rfl, own_weak hown2 hb.size, hb.trans (hb2.mono hb.size), ln2⟩
theorem sCarriesOf (a : Option Addr) (n cap : Nat) (xs : List Int) (b : Option Addr) (m cap2 : Nat) (ys : List Int) (c : Int) (w : World) (h : Ints w a n cap xs) (h2 : Ints w b m cap2 ys) : Calls Try.prog 37 #[.slice a n cap, .slice b m cap2, .int .i64 c] w (RetIB 3 w (Tm.crs xs ys c) (Tm.addOk xs ys c)) := by
  have H := Lib.hid h
  have H2 := Lib.hid h2
  clear h h2
  by_cases hf : Tm.fit xs ys = true
  · by_cases hc : Tm.isT c = true
    · have ho : Tm.addOk xs ys c = true := by simp [Tm.addOk, hf, hc]
      rw [Tm.crs, if_pos ho, ho]
      obtain ⟨hx, hy, hl⟩ := (Tm.fit_iff xs ys).1 hf
      have l30 := Tm.isW_len hx
      have HX := Lib.hid hx
      have HY := Lib.hid hy
      have HL := Lib.hid hl
      have HC := Lib.hid ((Tm.isT_iff c).1 hc)
      clear ho hx hy hl
      go_enter Try.func37, Try.ntmps37
      go_wp2_with (first | (go_at_call 63; refine (sFit a n cap xs b m cap2 ys _ H.out H2.out).mono ?_; rintro e w1 ⟨rfl, rfl⟩) | (go_at_call 64; refine (sIsTrit _ _).mono ?_; rintro e w1 ⟨rfl, rfl⟩))
      refine (sAdd3 a n cap xs b m cap2 ys c _ H.out H2.out HX.out HY.out HL.out HC.out).mono ?_
      rintro e w1 ⟨v, u, rfl, _, hu, hb⟩
      rw [rowV_gen] at hu
      go_wp2
      go_ret2
      exact ret_own_b hu hb (by omega)
    · simp only [Bool.not_eq_true] at hc
      have ho : Tm.addOk xs ys c = false := by simp [Tm.addOk, hc]
      rw [Tm.crs, ho]
      clear ho
      go_enter Try.func37, Try.ntmps37
      go_wp2_with (first | (go_at_call 63; refine (sFit a n cap xs b m cap2 ys _ H.out H2.out).mono ?_; rintro e w1 ⟨rfl, rfl⟩) | (go_at_call 64; refine (sIsTrit _ _).mono ?_; rintro e w1 ⟨rfl, rfl⟩))
      go_ret2
      exact ret_nil_b (by (repeat' (first | (with_reducible exact Below.refl _ _) | (with_reducible assumption) | (with_reducible refine below_drewN ?_ _) | (with_reducible refine Below.drew ?_) | (with_reducible refine Below.alloc ?_ ?_ _) | (with_reducible refine Below.setCell ?_ ?_ _) | (with_reducible refine below_gw ?_ ?_ _) | (with_reducible refine below_via ?_ ‹Below _ _ _› ?_) | (with_reducible exact Nat.le_refl _) | (with_reducible refine le_gw ?_ _) | (with_reducible refine le_alloc ?_ _) | (with_reducible refine le_setCell ?_ _ _) | (with_reducible refine le_drew ?_) | (with_reducible refine le_drewN ?_ _) | go_size)))
  · simp only [Bool.not_eq_true] at hf
    have ho : Tm.addOk xs ys c = false := by simp [Tm.addOk, hf]
    rw [Tm.crs, ho]
    clear ho
    go_enter Try.func37, Try.ntmps37
    go_wp2_with (first | (go_at_call 63; refine (sFit a n cap xs b m cap2 ys _ H.out H2.out).mono ?_; rintro e w1 ⟨rfl, rfl⟩))
    go_ret2
    exact ret_nil_b (by (repeat' (first | (with_reducible exact Below.refl _ _) | (with_reducible assumption) | (with_reducible refine below_drewN ?_ _) | (with_reducible refine Below.drew ?_) | (with_reducible refine Below.alloc ?_ ?_ _) | (with_reducible refine Below.setCell ?_ ?_ _) | (with_reducible refine below_gw ?_ ?_ _) | (with_reducible refine below_via ?_ ‹Below _ _ _› ?_) | (with_reducible exact Nat.le_refl _) | (with_reducible refine le_gw ?_ _) | (with_reducible refine le_alloc ?_ _) | (with_reducible refine le_setCell ?_ _ _) | (with_reducible refine le_drew ?_) | (with_reducible refine le_drewN ?_ _) | go_size)))
theorem sIncrementWord (a : Option Addr) (n cap : Nat) (xs : List Int) (w : World) (h : Ints w a n cap xs) : Calls Try.prog 45 #[.slice a n cap] w (RetIB 3 w (Tm.inc xs) (Tm.incOk xs)) := by
  have H := Lib.hid h
  obtain rfl : n = xs.length := h.1.symm
  clear h
  by_cases hw : Tm.isW xs = true
  · rw [Tm.inc, if_pos hw, show Tm.incOk xs = Tm.wordOk (Tm.val xs + 1) xs.length by simp [Tm.incOk, hw]]
    have vb := Tm.val_bd_len hw 30 (Tm.isW_len hw)
    rw [show Tm.limN 30 = 102945566047324 by decide] at vb
    obtain ⟨v0, v1⟩ := vb
    have HW := Lib.hid hw
    go_enter Try.func45, Try.ntmps45
    go_wp2_with (first | (go_at_call 61; refine (sIsWord _ _ _ xs _ H.out).mono ?_; rintro e w1 ⟨rfl, rfl⟩) | (go_at_call 58; refine (sValue2 a _ cap xs _ H.out HW.out).mono ?_; rintro e w1 ⟨rfl, rfl⟩))
    refine (sWordOf _ _ _).mono ?_
    rintro e w1 ⟨a2, c2, rfl, hown, hb, ln⟩
    go_wp2
    go_ret2
    exact ⟨a2, c2, rfl, hown, hb, ln⟩
  · simp only [Bool.not_eq_true] at hw
    have ho : Tm.incOk xs = false := by simp [Tm.incOk, hw]
    rw [Tm.inc, hw, ho]
    clear ho
    go_enter Try.func45, Try.ntmps45
    go_wp2_with ((go_at_call 61; refine (sIsWord _ _ _ xs _ H.out).mono ?_; rintro e w1 ⟨rfl, rfl⟩))
    go_ret2
    exact ret_nil_b (by (repeat' (first | (with_reducible exact Below.refl _ _) | (with_reducible assumption) | (with_reducible refine below_drewN ?_ _) | (with_reducible refine Below.drew ?_) | (with_reducible refine Below.alloc ?_ ?_ _) | (with_reducible refine Below.setCell ?_ ?_ _) | (with_reducible refine below_gw ?_ ?_ _) | (with_reducible refine below_via ?_ ‹Below _ _ _› ?_) | (with_reducible exact Nat.le_refl _) | (with_reducible refine le_gw ?_ _) | (with_reducible refine le_alloc ?_ _) | (with_reducible refine le_setCell ?_ _ _) | (with_reducible refine le_drew ?_) | (with_reducible refine le_drewN ?_ _) | go_size)))
def AllD (xs : List Int) (k : Nat) : Prop := ∀ j, j < k → Tm.isD (xs.getD j 0) = true
theorem AllD_zero (xs : List Int) : AllD xs 0 := fun j h => by omega
theorem AllD_succ {xs : List Int} {k : Nat} (h : AllD xs k) (ht : Tm.isD (xs.getD k 0) = true) : AllD xs (k + 1) := fun j hj => by
  by_cases e : j = k
  · subst e; exact ht
  · exact h j (by omega)
theorem isR_no {xs : List Int} {k : Nat} (hk : k < xs.length) (ht : Tm.isD (xs.getD k 0) = false) : Tm.isR xs = false := by
  rw [Tm.isR, Bool.and_eq_false_iff]
  refine .inl ?_
  rw [List.all_eq_false]
  refine ⟨xs[k], List.getElem_mem hk, ?_⟩
  rw [List.getD_eq_getElem?_getD, List.getElem?_eq_getElem hk] at ht
  simpa using ht
theorem isR_all {xs : List Int} (h : AllD xs xs.length) : Tm.isR xs = Tm.inB xs.length 1 30 := by
  have : xs.all Tm.isD = true := by
    rw [List.all_eq_true]
    intro x hx
    obtain ⟨i, hi, rfl⟩ := List.mem_iff_getElem.1 hx
    have := h i hi
    rwa [List.getD_eq_getElem?_getD, List.getElem?_eq_getElem hi] at this
  rw [Tm.isR, this, Bool.true_and, Tm.inB, decide_eq_decide]
  omega
theorem sIsRedundant (a : Option Addr) (n cap : Nat) (xs : List Int) (w : World) (h : Ints w a n cap xs) : Calls Try.prog 48 #[.slice a n cap] w fun e w' => e = .returned (.bool (Tm.isR xs)) ∧ w = w' := by
  obtain ⟨x1, x2, x3, x4⟩ := h
  unfold maxLen at x3
  go_enter Try.func48, Try.ntmps48
  go_wp2_with fail
  go_loop [7] (fun i => ∃ k : Nat, k ≤ n ∧ i = .int .i64 k ∧ AllD xs k) (fun i => n - (intOf i).toNat)
  case atStart => exact ⟨0, by omega, rfl, AllD_zero xs⟩
  case round =>
    obtain ⟨k, hk, rfl, ha⟩ := hrel
    by_cases hlt : k < n
    · rcases x4 with h0 | ⟨b, o, rfl, hbl, hc⟩
      · omega
      have c1 := hc k hlt
      clear hc
      obtain ⟨x, hx⟩ : ∃ x, x = xs.getD k 0 := ⟨_, rfl⟩
      rw [← hx] at c1
      have HX := Lib.hid hx
      clear hx
      by_cases hd : Tm.isD x = true
      · have HD := Lib.hid hd
        rw [HX.out] at HD
        have hd' : Tm.inB x (-2) 2 = true := hd
        clear hd
        go_wp2_with ((go_at_call 62; refine (sIn _ _ _ _).mono ?_; rintro e w1 ⟨rfl, rfl⟩))
        exact ⟨⟨k + 1, by omega, by go_num, AllD_succ ha HD.out⟩, by simp [intOf]; omega⟩
      · simp only [Bool.not_eq_true] at hd
        have HD := Lib.hid hd
        rw [HX.out] at HD
        have hd' : Tm.inB x (-2) 2 = false := hd
        clear hd
        go_wp2_with ((go_at_call 62; refine (sIn _ _ _ _).mono ?_; rintro e w1 ⟨rfl, rfl⟩))
        go_ret
        exact ⟨ret_bool (isR_no (k := k) (by omega) HD.out).symm, rfl⟩
    · obtain rfl : k = n := by omega
      have HA := Lib.hid ha
      clear ha
      go_wp2_with ((go_at_call 62; refine (sIn _ _ _ _).mono ?_; rintro e w1 ⟨rfl, rfl⟩))
      go_ret
      exact ⟨ret_bool (by rw [isR_all (by rw [x1]; exact HA.out), x1]), rfl⟩
/-- The value of redundant digits. -/
theorem sValueD (a : Option Addr) (n cap : Nat) (xs : List Int) (w : World) (h : Ints w a n cap xs) (hw : Tm.isR xs = true) : Calls Try.prog 58 #[.slice a n cap] w fun e w' => e = .returned (.int .i64 (Tm.val xs)) ∧ w = w' := by
  obtain ⟨x1, x2, x3, x4⟩ := h
  unfold maxLen at x3
  have HW := Lib.hid ((Tm.isR_iff xs).1 hw)
  clear hw
  go_enter Try.func58, Try.ntmps58
  go_wp2
  go_loop [3, 4] (fun v i => ∃ k : Nat, k ≤ n ∧ i = .int .i64 ((k : Int) - 1) ∧ v = .int .i64 (Tm.val (xs.drop k))) (fun _ i => (intOf i + 1).toNat)
  case atStart => exact ⟨n, by omega, rfl, by rw [List.drop_of_length_le (by omega)]; rfl⟩
  case round =>
    obtain ⟨k, hk, rfl, rfl⟩ := hrel
    have vb := Tm.valD_drop HW.out.1 HW.out.2.2 k
    obtain ⟨v1, v2⟩ := vb
    rcases Nat.eq_zero_or_pos k with h0 | h0
    · subst h0
      go_wp2
      go_ret
      exact ⟨rfl, rfl⟩
    · obtain ⟨j, rfl⟩ : ∃ j, k = j + 1 := ⟨k - 1, by omega⟩
      rw [show (((j + 1 : Nat) : Int) - 1) = (j : Int) from by omega]
      rcases x4 with h1 | ⟨b, o, rfl, hbl, hc⟩
      · omega
      have c1 := hc j (by omega)
      have tb := Tm.dig_at HW.out.1 j
      obtain ⟨t1, t2⟩ := tb
      have vd := Tm.val_drop xs j (by omega)
      have ex := getD_at xs j (by omega)
      rw [← ex] at c1 t1 t2 vd
      have VD := Lib.hid vd
      clear hc vd ex
      go_wp2
      exact ⟨⟨j, by omega, rfl, val_int (by rw [VD.out]; omega)⟩, by simp [intOf] <;> omega⟩
theorem sValueRedundant (a : Option Addr) (n cap : Nat) (xs : List Int) (w : World) (h : Ints w a n cap xs) : Calls Try.prog 49 #[.slice a n cap] w fun e w' => e = .returned (.int .i64 (Tm.valR xs)) ∧ w = w' := by
  by_cases hw : Tm.isR xs = true
  · rw [Tm.valR, if_pos hw]
    have HW := Lib.hid hw
    go_enter Try.func49, Try.ntmps49
    go_wp2_with (first | (go_at_call 48; refine (sIsRedundant _ _ _ xs _ h).mono ?_; rintro e w1 ⟨rfl, rfl⟩) | (go_at_call 58; refine (sValueD _ _ _ xs _ h HW.out).mono ?_; rintro e w1 ⟨rfl, rfl⟩))
    go_ret
    exact ⟨rfl, rfl⟩
  · simp only [Bool.not_eq_true] at hw
    rw [Tm.valR, hw]
    go_enter Try.func49, Try.ntmps49
    go_wp2_with (first | (go_at_call 48; refine (sIsRedundant _ _ _ xs _ h).mono ?_; rintro e w1 ⟨rfl, rfl⟩))
    go_ret
    exact ⟨rfl, rfl⟩
theorem sNormalRedundant (a : Option Addr) (n cap : Nat) (xs : List Int) (w : World) (h : Ints w a n cap xs) : Calls Try.prog 23 #[.slice a n cap] w (RetIB 3 w (Tm.nrm xs) (Tm.nrmOk xs)) := by
  have H := Lib.hid h
  obtain rfl : n = xs.length := h.1.symm
  clear h
  by_cases hw : Tm.isR xs = true
  · rw [Tm.nrm, if_pos hw, show Tm.nrmOk xs = Tm.wordOk (Tm.val xs) xs.length by simp [Tm.nrmOk, hw]]
    have HW := Lib.hid hw
    go_enter Try.func23, Try.ntmps23
    go_wp2_with (first | (go_at_call 48; refine (sIsRedundant _ _ _ xs _ H.out).mono ?_; rintro e w1 ⟨rfl, rfl⟩) | (go_at_call 58; refine (sValueD a _ cap xs _ H.out HW.out).mono ?_; rintro e w1 ⟨rfl, rfl⟩))
    refine (sWordOf _ _ _).mono ?_
    rintro e w1 ⟨a2, c2, rfl, hown, hb, ln⟩
    go_wp2
    go_ret2
    exact ⟨a2, c2, rfl, hown, hb, ln⟩
  · simp only [Bool.not_eq_true] at hw
    have ho : Tm.nrmOk xs = false := by simp [Tm.nrmOk, hw]
    rw [Tm.nrm, hw, ho]
    clear ho
    go_enter Try.func23, Try.ntmps23
    go_wp2_with ((go_at_call 48; refine (sIsRedundant _ _ _ xs _ H.out).mono ?_; rintro e w1 ⟨rfl, rfl⟩))
    go_ret2
    exact ret_nil_b (by (repeat' (first | (with_reducible exact Below.refl _ _) | (with_reducible assumption) | (with_reducible refine below_drewN ?_ _) | (with_reducible refine Below.drew ?_) | (with_reducible refine Below.alloc ?_ ?_ _) | (with_reducible refine Below.setCell ?_ ?_ _) | (with_reducible refine below_gw ?_ ?_ _) | (with_reducible refine below_via ?_ ‹Below _ _ _› ?_) | (with_reducible exact Nat.le_refl _) | (with_reducible refine le_gw ?_ _) | (with_reducible refine le_alloc ?_ _) | (with_reducible refine le_setCell ?_ _ _) | (with_reducible refine le_drew ?_) | (with_reducible refine le_drewN ?_ _) | go_size)))
set_option maxHeartbeats 1000000 in
theorem sAddRedundant (a : Option Addr) (n cap : Nat) (xs : List Int) (b : Option Addr) (m cap2 : Nat) (ys : List Int) (w : World) (h : Ints w a n cap xs) (h2 : Ints w b m cap2 ys) : Calls Try.prog 50 #[.slice a n cap, .slice b m cap2] w (RetIB 3 w (Tm.rad xs ys) (Tm.radOk xs ys)) := by
  obtain ⟨i0, hi, hz0, hz1, hz2⟩ := info_parts infoInt
  have H := Lib.hid h
  have H2 := Lib.hid h2
  have c1 := h.2.2.1
  have c2 := h.2.1
  have d1 := h2.2.2.1
  have d2 := h2.2.1
  unfold maxLen at c1 d1
  obtain rfl : n = xs.length := h.1.symm
  obtain rfl : m = ys.length := h2.1.symm
  clear h h2
  by_cases hx : Tm.isR xs = true
  · by_cases hy : Tm.isR ys = true
    · by_cases hl : xs.length = ys.length
      · by_cases h30 : xs.length = 30
        · have ho : Tm.radOk xs ys = false := by simp [Tm.radOk, h30]
          rw [Tm.rad, ho]
          have z1 : ((xs.length : Int) != (ys.length : Int)) = false := by simp [hl]
          have z2 : ((xs.length : Int) == 30) = true := by simp [h30]
          clear ho hl h30
          go_enter Try.func50, Try.ntmps50
          go_wp2_with fail
          refine (sIsRedundant a _ cap xs _ H.out).mono ?_
          rintro e w' ⟨rfl, rfl⟩
          go_wp2_with fail
          refine (sIsRedundant b _ cap2 ys _ H2.out).mono ?_
          rintro e w' ⟨rfl, rfl⟩
          go_wp2_with fail
          go_ret2
          exact ret_nil_b (by (repeat' (first | (with_reducible exact Below.refl _ _) | (with_reducible assumption) | (with_reducible refine below_drewN ?_ _) | (with_reducible refine Below.drew ?_) | (with_reducible refine Below.alloc ?_ ?_ _) | (with_reducible refine Below.setCell ?_ ?_ _) | (with_reducible refine below_gw ?_ ?_ _) | (with_reducible refine below_via ?_ ‹Below _ _ _› ?_) | (with_reducible exact Nat.le_refl _) | (with_reducible refine le_gw ?_ _) | (with_reducible refine le_alloc ?_ _) | (with_reducible refine le_setCell ?_ _ _) | (with_reducible refine le_drew ?_) | (with_reducible refine le_drewN ?_ _) | go_size)))
        · have l30 := ((Tm.isR_iff xs).1 hx).2.2
          have ho : Tm.radOk xs ys = true := by simp [Tm.radOk, hx, hy]; omega
          rw [Tm.rad, if_pos ho, ho]
          have z1 : ((xs.length : Int) != (ys.length : Int)) = false := by simp [hl]
          have z2 : ((xs.length : Int) == 30) = false := by simp; omega
          have RX := Lib.hid ((Tm.isR_iff xs).1 hx).1
          have RY := Lib.hid ((Tm.isR_iff ys).1 hy).1
          have ly : xs.length ≤ ys.length := by omega
          have lx : xs.length < 30 := by omega
          clear ho hl h30
          go_enter Try.func50, Try.ntmps50
          go_wp2_with fail
          refine (sIsRedundant a _ cap xs _ H.out).mono ?_
          rintro e w' ⟨rfl, rfl⟩
          go_wp2_with fail
          refine (sIsRedundant b _ cap2 ys _ H2.out).mono ?_
          rintro e w' ⟨rfl, rfl⟩
          go_wp2_with fail
          go_loopw [6, 7, 35] (fun v t i wr => ∃ k : Nat, k ≤ xs.length ∧ i = .int .i64 k ∧ t = .int .i64 (Tm.blw xs ys k) ∧ wr.ownsRow w.heap.size 3 1 v k (rowV k (Tm.dgt xs ys)) ∧ Below w.heap.size w wr) (fun _ _ i _ => xs.length - (intOf i).toNat)
          case atStart => exact ⟨0, by omega, rfl, rfl, own_empty w _ _ (Nat.le_refl _), by (repeat' (first | (with_reducible exact Below.refl _ _) | (with_reducible assumption) | (with_reducible refine below_drewN ?_ _) | (with_reducible refine Below.drew ?_) | (with_reducible refine Below.alloc ?_ ?_ _) | (with_reducible refine Below.setCell ?_ ?_ _) | (with_reducible refine below_gw ?_ ?_ _) | (with_reducible refine below_via ?_ ‹Below _ _ _› ?_) | (with_reducible exact Nat.le_refl _) | (with_reducible refine le_gw ?_ _) | (with_reducible refine le_alloc ?_ _) | (with_reducible refine le_setCell ?_ _ _) | (with_reducible refine le_drew ?_) | (with_reducible refine le_drewN ?_ _) | go_size))⟩
          case round =>
            obtain ⟨k, hk, rfl, rfl, hown, hnx⟩ := hrel
            have hs := hnx.size
            have B := Tm.blw_bd RX.out RY.out k
            by_cases hlt : k < xs.length
            · rcases (H.out.below hnx).2.2.2 with h0 | ⟨b1, o1, e1, _, hca⟩
              · omega
              have ca := hca k hlt
              clear hca
              rcases (H2.out.below hnx).2.2.2 with h0 | ⟨b2, o2, e2, _, hcb⟩
              · omega
              have cb := hcb k (by omega)
              clear hcb
              subst e1 e2
              have xb := Tm.dig_at RX.out k
              have yb := Tm.dig_at RY.out k
              have e1 : Tm.dgt xs ys k = xs.getD k 0 + ys.getD k 0 - 3 * Tm.trs xs ys k + Tm.blw xs ys k := rfl
              have e2 : Tm.blw xs ys (k + 1) = Tm.trs xs ys k := rfl
              have e3 : Tm.trs xs ys k = if 2 ≤ xs.getD k 0 + ys.getD k 0 then 1 else if xs.getD k 0 + ys.getD k 0 ≤ -2 then -1 else 0 := rfl
              have sc := rowV_succ k (Tm.dgt xs ys)
              rw [e1] at sc
              clear e1
              obtain ⟨t, ht⟩ : ∃ t, t = Tm.trs xs ys k := ⟨_, rfl⟩
              rw [← ht] at e2 e3 sc
              obtain ⟨x, hxx⟩ : ∃ x, x = xs.getD k 0 := ⟨_, rfl⟩
              obtain ⟨y, hyy⟩ : ∃ y, y = ys.getD k 0 := ⟨_, rfl⟩
              rw [← hxx] at ca xb e3 sc
              rw [← hyy] at cb yb e3 sc
              obtain ⟨z, hz⟩ : ∃ z, z = Tm.blw xs ys k := ⟨_, rfl⟩
              rw [← hz] at B sc ⊢
              obtain ⟨z0, z1'⟩ := B
              obtain ⟨x0, x1⟩ := xb
              obtain ⟨y0, y1⟩ := yb
              have E2 := Lib.hid e2
              clear e2 ht hxx hyy hz
              rcases (show 2 ≤ x + y ∨ x + y ≤ -2 ∨ (-2 < x + y ∧ x + y < 2) by omega) with g | g | g
              · have et : t = 1 := by rw [e3, if_pos g]
                subst et
                have SC := Lib.hid sc
                clear e3 sc
                go_wp2_with (at_builtin; refine wpList_append_own_at _ rfl _ _ 24 rfl (w.heap.size) 3 i0 (.int .i64 0) 1 8 Try.underlying24 hi hz0 hz1 hz2 rfl (by decide) _ _ _ rfl (World.ownsRow.alloc hown _) ⟨wr.heap.size, 0, none⟩ 1 1 [.int .i64 (x + y - 3 + z)] rfl rfl (app_c1 _ _ _) (app_c2 _) (by unfold maxLen; omega) (by omega) (by simp; omega) ?_)
                intro v' w1 hown' hgrow _ _
                have hnx1 : Below w.heap.size w w1 := (hnx.alloc hs _).grown hgrow (by simp; omega) (fun k hk => (hown.lt k hk).1)
                rw [show x + y - 3 + z = x + y - 3 * 1 + z from by omega, SC.out] at hown'
                clear hown hgrow hnx
                go_wp2
                exact ⟨⟨k + 1, by omega, by go_num, val_int E2.out.symm, hown', hnx1⟩, by simp [intOf]; omega⟩
              · have et : t = -1 := by rw [e3, if_neg (by omega), if_pos g]
                subst et
                have SC := Lib.hid sc
                clear e3 sc
                go_wp2_with (at_builtin; refine wpList_append_own_at _ rfl _ _ 24 rfl (w.heap.size) 3 i0 (.int .i64 0) 1 8 Try.underlying24 hi hz0 hz1 hz2 rfl (by decide) _ _ _ rfl (World.ownsRow.alloc hown _) ⟨wr.heap.size, 0, none⟩ 1 1 [.int .i64 (x + y + 3 + z)] rfl rfl (app_c1 _ _ _) (app_c2 _) (by unfold maxLen; omega) (by omega) (by simp; omega) ?_)
                intro v' w1 hown' hgrow _ _
                have hnx1 : Below w.heap.size w w1 := (hnx.alloc hs _).grown hgrow (by simp; omega) (fun k hk => (hown.lt k hk).1)
                rw [show x + y + 3 + z = x + y - 3 * -1 + z from by omega, SC.out] at hown'
                clear hown hgrow hnx
                go_wp2
                exact ⟨⟨k + 1, by omega, by go_num, val_int E2.out.symm, hown', hnx1⟩, by simp [intOf]; omega⟩
              · have et : t = 0 := by rw [e3, if_neg (by omega), if_neg (by omega)]
                subst et
                have SC := Lib.hid sc
                clear e3 sc
                obtain ⟨g0, g1⟩ := g
                go_wp2_with (at_builtin; refine wpList_append_own_at _ rfl _ _ 24 rfl (w.heap.size) 3 i0 (.int .i64 0) 1 8 Try.underlying24 hi hz0 hz1 hz2 rfl (by decide) _ _ _ rfl (World.ownsRow.alloc hown _) ⟨wr.heap.size, 0, none⟩ 1 1 [.int .i64 (x + y + z)] rfl rfl (app_c1 _ _ _) (app_c2 _) (by unfold maxLen; omega) (by omega) (by simp; omega) ?_)
                intro v' w1 hown' hgrow _ _
                have hnx1 : Below w.heap.size w w1 := (hnx.alloc hs _).grown hgrow (by simp; omega) (fun k hk => (hown.lt k hk).1)
                rw [show x + y + z = x + y - 3 * 0 + z from by omega, SC.out] at hown'
                clear hown hgrow hnx
                go_wp2
                exact ⟨⟨k + 1, by omega, by go_num, val_int E2.out.symm, hown', hnx1⟩, by simp [intOf]; omega⟩
            · obtain rfl : k = xs.length := by omega
              have ed : Tm.dgt xs ys xs.length = Tm.blw xs ys xs.length := by
                have z : Tm.trs xs ys xs.length = 0 := by
                  have : ys.length ≤ xs.length := by simp at z1; omega
                  simp [Tm.trs, this]
                rw [Tm.dgt, z]
                have : ys.length ≤ xs.length := by simp at z1; omega
                simp [this]
              have sc := rowV_succ xs.length (Tm.dgt xs ys)
              rw [ed] at sc
              obtain ⟨z, hz⟩ : ∃ z, z = Tm.blw xs ys xs.length := ⟨_, rfl⟩
              rw [← hz] at B sc ⊢
              have SC := Lib.hid sc
              clear sc ed hz
              go_wp2_with (at_builtin; refine wpList_append_own_at _ rfl _ _ 24 rfl (w.heap.size) 3 i0 (.int .i64 0) 1 8 Try.underlying24 hi hz0 hz1 hz2 rfl (by decide) _ _ _ rfl (World.ownsRow.alloc hown _) ⟨wr.heap.size, 0, none⟩ 1 1 [.int .i64 (z)] rfl rfl (app_c1 _ _ _) (app_c2 _) (by unfold maxLen; omega) (by omega) (by simp; omega) ?_)
              intro v' w1 hown' hgrow _ _
              have hnx1 : Below w.heap.size w w1 := (hnx.alloc hs _).grown hgrow (by simp; omega) (fun k hk => (hown.lt k hk).1)
              rw [SC.out, rowV_gen] at hown'
              clear hown hgrow hnx
              go_wp2
              go_ret2
              exact ret_own_b hown' hnx1 (by omega)
      · have ho : Tm.radOk xs ys = false := by simp [Tm.radOk, hl]
        rw [Tm.rad, ho]
        have z1 : ((xs.length : Int) != (ys.length : Int)) = true := by simp; omega
        clear ho hl
        go_enter Try.func50, Try.ntmps50
        go_wp2_with fail
        refine (sIsRedundant a _ cap xs _ H.out).mono ?_
        rintro e w' ⟨rfl, rfl⟩
        go_wp2_with fail
        refine (sIsRedundant b _ cap2 ys _ H2.out).mono ?_
        rintro e w' ⟨rfl, rfl⟩
        go_wp2_with fail
        go_ret2
        exact ret_nil_b (by (repeat' (first | (with_reducible exact Below.refl _ _) | (with_reducible assumption) | (with_reducible refine below_drewN ?_ _) | (with_reducible refine Below.drew ?_) | (with_reducible refine Below.alloc ?_ ?_ _) | (with_reducible refine Below.setCell ?_ ?_ _) | (with_reducible refine below_gw ?_ ?_ _) | (with_reducible refine below_via ?_ ‹Below _ _ _› ?_) | (with_reducible exact Nat.le_refl _) | (with_reducible refine le_gw ?_ _) | (with_reducible refine le_alloc ?_ _) | (with_reducible refine le_setCell ?_ _ _) | (with_reducible refine le_drew ?_) | (with_reducible refine le_drewN ?_ _) | go_size)))
    · simp only [Bool.not_eq_true] at hy
      have ho : Tm.radOk xs ys = false := by simp [Tm.radOk, hy]
      rw [Tm.rad, ho]
      clear ho
      go_enter Try.func50, Try.ntmps50
      go_wp2_with fail
      refine (sIsRedundant a _ cap xs _ H.out).mono ?_
      rintro e w' ⟨rfl, rfl⟩
      go_wp2_with fail
      refine (sIsRedundant b _ cap2 ys _ H2.out).mono ?_
      rintro e w' ⟨rfl, rfl⟩
      go_wp2_with fail
      go_ret2
      exact ret_nil_b (by (repeat' (first | (with_reducible exact Below.refl _ _) | (with_reducible assumption) | (with_reducible refine below_drewN ?_ _) | (with_reducible refine Below.drew ?_) | (with_reducible refine Below.alloc ?_ ?_ _) | (with_reducible refine Below.setCell ?_ ?_ _) | (with_reducible refine below_gw ?_ ?_ _) | (with_reducible refine below_via ?_ ‹Below _ _ _› ?_) | (with_reducible exact Nat.le_refl _) | (with_reducible refine le_gw ?_ _) | (with_reducible refine le_alloc ?_ _) | (with_reducible refine le_setCell ?_ _ _) | (with_reducible refine le_drew ?_) | (with_reducible refine le_drewN ?_ _) | go_size)))
  · simp only [Bool.not_eq_true] at hx
    have ho : Tm.radOk xs ys = false := by simp [Tm.radOk, hx]
    rw [Tm.rad, ho]
    clear ho
    go_enter Try.func50, Try.ntmps50
    go_wp2_with fail
    refine (sIsRedundant a _ cap xs _ H.out).mono ?_
    rintro e w' ⟨rfl, rfl⟩
    go_wp2_with fail
    go_ret2
    exact ret_nil_b (by (repeat' (first | (with_reducible exact Below.refl _ _) | (with_reducible assumption) | (with_reducible refine below_drewN ?_ _) | (with_reducible refine Below.drew ?_) | (with_reducible refine Below.alloc ?_ ?_ _) | (with_reducible refine Below.setCell ?_ ?_ _) | (with_reducible refine below_gw ?_ ?_ _) | (with_reducible refine below_via ?_ ‹Below _ _ _› ?_) | (with_reducible exact Nat.le_refl _) | (with_reducible refine le_gw ?_ _) | (with_reducible refine le_alloc ?_ _) | (with_reducible refine le_setCell ?_ _ _) | (with_reducible refine le_drew ?_) | (with_reducible refine le_drewN ?_ _) | go_size)))
end Go.Proofs.Yteonnaagpjmgeaa

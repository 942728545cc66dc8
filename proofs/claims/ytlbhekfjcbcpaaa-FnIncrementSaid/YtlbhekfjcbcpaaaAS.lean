/- The model's adders. The model's adders, on. The model's adders, on: three words saved as two, carry maps. -/
import Derived.Test.YtlbhekfjcbcpaaaAMath
import Derived.Test.YtlbhekfjcbcpaaaWS4
import Derived.Test.YtlbhekfjcbcpaaaDraw
namespace Go.Proofs.Ytlbhekfjcbcpaaa
set_option maxRecDepth 20000
open Go.RowKit
theorem own_shape {w : World} {B e n : Nat} {v : Value} {xs : List Value} (h : w.ownsRow B e 1 v (n + 1) xs) : ∃ g cap, v = .slice (some ⟨g, 0, none⟩) (n + 1) cap ∧ n + 1 ≤ cap ∧ cap ≤ maxLen := by
  rcases h.2 with ⟨_, e2⟩ | ⟨g, cap, cur, e1, _, _, h4, h5, _⟩
  · omega
  · exact ⟨g, cap, e1, h4, h5⟩
def AllD (xs : List Int) (k : Nat) : Prop := ∀ j, j < k → Tm.isD (xs.getD j 0) = true
theorem AllD_zero (xs : List Int) : AllD xs 0 := fun j h => by omega
theorem AllD_succ {xs : List Int} {k : Nat} (h : AllD xs k) (ht : Tm.isD (xs.getD k 0) = true) : AllD xs (k + 1) := fun j hj => by
  by_cases e : j = k
  · subst e; exact ht
  · exact h j (by omega)
theorem isR_no {xs : List Int} {k : Nat} (hk : k < xs.length) (ht : Tm.isD (xs.getD k 0) = false) : Tm.isR xs = false := by
  rw [Tm.isR, Bool.and_eq_false_iff]
  refine .inl ?_
  rw [List.all_eq_false]
  refine ⟨xs[k], List.getElem_mem hk, ?_⟩
  rw [List.getD_eq_getElem?_getD, List.getElem?_eq_getElem hk] at ht
  simpa using ht
theorem isR_all {xs : List Int} (h : AllD xs xs.length) : Tm.isR xs = Tm.inB xs.length 1 30 := by
  have : xs.all Tm.isD = true := by
    rw [List.all_eq_true]
    intro x hx
    obtain ⟨i, hi, rfl⟩ := List.mem_iff_getElem.1 hx
    have := h i hi
    rwa [List.getD_eq_getElem?_getD, List.getElem?_eq_getElem hi] at this
  rw [Tm.isR, this, Bool.true_and, Tm.inB, decide_eq_decide]
  omega
theorem sIsRedundant (a : Option Addr) (n cap : Nat) (xs : List Int) (w : World) (h : Ints w a n cap xs) : Calls Try.prog 75 #[.slice a n cap] w fun e w' => e = .returned (.bool (Tm.isR xs)) ∧ w = w' := by
  obtain ⟨x1, x2, x3, x4⟩ := h
  unfold maxLen at x3
  go_enter Try.func75, Try.ntmps75
  go_wp2_with fail
  go_loop [7] (fun i => ∃ k : Nat, k ≤ n ∧ i = .int .i64 k ∧ AllD xs k) (fun i => n - (intOf i).toNat)
  case atStart => exact ⟨0, by omega, rfl, AllD_zero xs⟩
  case round =>
    obtain ⟨k, hk, rfl, ha⟩ := hrel
    by_cases hlt : k < n
    · rcases x4 with h0 | ⟨b, o, rfl, hbl, hc⟩
      · omega
      have c1 := hc k hlt
      clear hc
      obtain ⟨x, hx⟩ : ∃ x, x = xs.getD k 0 := ⟨_, rfl⟩
      rw [← hx] at c1
      have HX := Lib.hid hx
      clear hx
      by_cases hd : Tm.isD x = true
      · have HD := Lib.hid hd
        rw [HX.out] at HD
        have hd' : Tm.inB x (-2) 2 = true := hd
        clear hd
        go_wp2_with ((go_at_call 70; refine (sIn _ _ _ _).mono ?_; rintro e w1 ⟨rfl, rfl⟩))
        exact ⟨⟨k + 1, by omega, by go_num, AllD_succ ha HD.out⟩, by simp [intOf]; omega⟩
      · simp only [Bool.not_eq_true] at hd
        have HD := Lib.hid hd
        rw [HX.out] at HD
        have hd' : Tm.inB x (-2) 2 = false := hd
        clear hd
        go_wp2_with ((go_at_call 70; refine (sIn _ _ _ _).mono ?_; rintro e w1 ⟨rfl, rfl⟩))
        go_ret
        exact ⟨ret_bool (isR_no (k := k) (by omega) HD.out).symm, rfl⟩
    · obtain rfl : k = n := by omega
      have HA := Lib.hid ha
      clear ha
      go_wp2_with ((go_at_call 70; refine (sIn _ _ _ _).mono ?_; rintro e w1 ⟨rfl, rfl⟩))
      go_ret
      exact ⟨ret_bool (by rw [isR_all (by rw [x1]; exact HA.out), x1]), rfl⟩
/-- The value of redundant digits. -/
theorem sValueD (a : Option Addr) (n cap : Nat) (xs : List Int) (w : World) (h : Ints w a n cap xs) (hw : Tm.isR xs = true) : Calls Try.prog 69 #[.slice a n cap] w fun e w' => e = .returned (.int .i64 (Tm.val xs)) ∧ w = w' := by
  obtain ⟨x1, x2, x3, x4⟩ := h
  unfold maxLen at x3
  have HW := Lib.hid ((Tm.isR_iff xs).1 hw)
  clear hw
  go_enter Try.func69, Try.ntmps69
  go_wp2
  go_loop [3, 4] (fun v i => ∃ k : Nat, k ≤ n ∧ i = .int .i64 ((k : Int) - 1) ∧ v = .int .i64 (Tm.val (xs.drop k))) (fun _ i => (intOf i + 1).toNat)
  case atStart => exact ⟨n, by omega, rfl, by rw [List.drop_of_length_le (by omega)]; rfl⟩
  case round =>
    obtain ⟨k, hk, rfl, rfl⟩ := hrel
    have vb := Tm.valD_drop HW.out.1 HW.out.2.2 k
    obtain ⟨v1, v2⟩ := vb
    rcases Nat.eq_zero_or_pos k with h0 | h0
    · subst h0
      go_wp2
      go_ret
      exact ⟨rfl, rfl⟩
    · obtain ⟨j, rfl⟩ : ∃ j, k = j + 1 := ⟨k - 1, by omega⟩
      rw [show (((j + 1 : Nat) : Int) - 1) = (j : Int) from by omega]
      rcases x4 with h1 | ⟨b, o, rfl, hbl, hc⟩
      · omega
      have c1 := hc j (by omega)
      have tb := Tm.dig_at HW.out.1 j
      obtain ⟨t1, t2⟩ := tb
      have vd := Tm.val_drop xs j (by omega)
      have ex := getD_at xs j (by omega)
      rw [← ex] at c1 t1 t2 vd
      have VD := Lib.hid vd
      clear hc vd ex
      go_wp2
      exact ⟨⟨j, by omega, rfl, val_int (by rw [VD.out]; omega)⟩, by simp [intOf] <;> omega⟩
theorem sNormalRedundant (a : Option Addr) (n cap : Nat) (xs : List Int) (w : World) (h : Ints w a n cap xs) : Calls Try.prog 47 #[.slice a n cap] w (RetIB 3 w (Tm.nrm xs) (Tm.nrmOk xs)) := by
  have H := Lib.hid h
  obtain rfl : n = xs.length := h.1.symm
  clear h
  by_cases hw : Tm.isR xs = true
  · rw [Tm.nrm, if_pos hw, show Tm.nrmOk xs = Tm.wordOk (Tm.val xs) xs.length by simp [Tm.nrmOk, hw]]
    have HW := Lib.hid hw
    go_enter Try.func47, Try.ntmps47
    go_wp2_with (first | (go_at_call 75; refine (sIsRedundant _ _ _ xs _ H.out).mono ?_; rintro e w1 ⟨rfl, rfl⟩) | (go_at_call 69; refine (sValueD a _ cap xs _ H.out HW.out).mono ?_; rintro e w1 ⟨rfl, rfl⟩))
    refine (sWordOf _ _ _).mono ?_
    rintro e w1 ⟨a2, c2, rfl, hown, hb, ln⟩
    go_wp2
    go_ret2
    exact ⟨a2, c2, rfl, hown, hb, ln⟩
  · simp only [Bool.not_eq_true] at hw
    have ho : Tm.nrmOk xs = false := by simp [Tm.nrmOk, hw]
    rw [Tm.nrm, hw, ho]
    clear ho
    go_enter Try.func47, Try.ntmps47
    go_wp2_with ((go_at_call 75; refine (sIsRedundant _ _ _ xs _ H.out).mono ?_; rintro e w1 ⟨rfl, rfl⟩))
    go_ret2
    exact ret_nil_b (by (repeat' (first | (with_reducible exact Below.refl _ _) | (with_reducible assumption) | (with_reducible refine below_drewN ?_ _) | (with_reducible refine Below.drew ?_) | (with_reducible refine Below.alloc ?_ ?_ _) | (with_reducible refine Below.setCell ?_ ?_ _) | (with_reducible refine below_gw ?_ ?_ _) | (with_reducible refine below_via ?_ ‹Below _ _ _› ?_) | (with_reducible exact Nat.le_refl _) | (with_reducible refine le_gw ?_ _) | (with_reducible refine le_alloc ?_ _) | (with_reducible refine le_setCell ?_ _ _) | (with_reducible refine le_drew ?_) | (with_reducible refine le_drewN ?_ _) | go_size)))
theorem quiet_same {P : Program} {f : FuncId} {args : Array Value} {w : World} {n : Nat} {v : Value}
    (h : ∀ W, Calls P f args W fun e w' => e = .returned v ∧ W = w') : Calls P f args (w.drewN n) fun e w'' => e = .returned v ∧ ∃ m, w'' = w.drewN m :=
  (h _).mono fun _ _ ⟨he, hm⟩ => ⟨he, n, hm.symm⟩
end Go.Proofs.Ytlbhekfjcbcpaaa

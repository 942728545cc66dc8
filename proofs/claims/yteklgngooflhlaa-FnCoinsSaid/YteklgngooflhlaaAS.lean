/- The model's adders. The model's adders, on. The model's adders, on: three words saved as two, carry maps. -/
import Derived.Test.YteklgngooflhlaaAMath
import Derived.Test.YteklgngooflhlaaWS4
import Derived.Test.YteklgngooflhlaaDraw
namespace Go.Proofs.Yteklgngooflhlaa
set_option maxRecDepth 20000
open Go.RowKit
theorem sFit (a : Option Addr) (n cap : Nat) (xs : List Int) (b : Option Addr) (m cap2 : Nat) (ys : List Int) (w : World) (h : Ints w a n cap xs) (h2 : Ints w b m cap2 ys) : Calls Try.prog 106 #[.slice a n cap, .slice b m cap2] w fun e w' => e = .returned (.bool (Tm.fit xs ys)) ∧ w = w' := by
  have H := Lib.hid h
  have H2 := Lib.hid h2
  obtain rfl : n = xs.length := h.1.symm
  obtain rfl : m = ys.length := h2.1.symm
  have c1 := h.2.2.1
  have c2 := h.2.2.1
  have d1 := h.2.1
  have d2 := h2.2.1
  have c3 := h2.2.2.1
  unfold maxLen at c1 c3
  clear h h2 c2
  by_cases hx : Tm.isW xs = true
  · by_cases hy : Tm.isW ys = true
    · go_enter Try.func106, Try.ntmps106
      go_wp2_with fail
      refine (sIsWord a _ cap xs _ H.out).mono ?_
      rintro e w' ⟨rfl, rfl⟩
      go_wp2_with fail
      refine (sIsWord b _ cap2 ys _ H2.out).mono ?_
      rintro e w' ⟨rfl, rfl⟩
      go_wp2
      go_ret
      exact ⟨ret_bool (by rw [Tm.fit, hx, hy, Bool.eq_iff_iff]; simp; try omega), rfl⟩
    · simp only [Bool.not_eq_true] at hy
      go_enter Try.func106, Try.ntmps106
      go_wp2_with fail
      refine (sIsWord a _ cap xs _ H.out).mono ?_
      rintro e w' ⟨rfl, rfl⟩
      go_wp2_with fail
      refine (sIsWord b _ cap2 ys _ H2.out).mono ?_
      rintro e w' ⟨rfl, rfl⟩
      go_wp2
      go_ret
      exact ⟨ret_bool (by simp [Tm.fit, hy]), rfl⟩
  · simp only [Bool.not_eq_true] at hx
    go_enter Try.func106, Try.ntmps106
    go_wp2_with fail
    refine (sIsWord a _ cap xs _ H.out).mono ?_
    rintro e w' ⟨rfl, rfl⟩
    go_wp2
    go_ret
    exact ⟨ret_bool (by simp [Tm.fit, hx]), rfl⟩
theorem own_shape {w : World} {B e n : Nat} {v : Value} {xs : List Value} (h : w.ownsRow B e 1 v (n + 1) xs) : ∃ g cap, v = .slice (some ⟨g, 0, none⟩) (n + 1) cap ∧ n + 1 ≤ cap ∧ cap ≤ maxLen := by
  rcases h.2 with ⟨_, e2⟩ | ⟨g, cap, cur, e1, _, _, h4, h5, _⟩
  · omega
  · exact ⟨g, cap, e1, h4, h5⟩
/-- The value of redundant digits. -/
theorem sValueD (a : Option Addr) (n cap : Nat) (xs : List Int) (w : World) (h : Ints w a n cap xs) (hw : Tm.isR xs = true) : Calls Try.prog 63 #[.slice a n cap] w fun e w' => e = .returned (.int .i64 (Tm.val xs)) ∧ w = w' := by
  obtain ⟨x1, x2, x3, x4⟩ := h
  unfold maxLen at x3
  have HW := Lib.hid ((Tm.isR_iff xs).1 hw)
  clear hw
  go_enter Try.func63, Try.ntmps63
  go_wp2
  go_loop [3, 4] (fun v i => ∃ k : Nat, k ≤ n ∧ i = .int .i64 ((k : Int) - 1) ∧ v = .int .i64 (Tm.val (xs.drop k))) (fun _ i => (intOf i + 1).toNat)
  case atStart => exact ⟨n, by omega, rfl, by rw [List.drop_of_length_le (by omega)]; rfl⟩
  case round =>
    obtain ⟨k, hk, rfl, rfl⟩ := hrel
    have vb := Tm.valD_drop HW.out.1 HW.out.2.2 k
    obtain ⟨v1, v2⟩ := vb
    rcases Nat.eq_zero_or_pos k with h0 | h0
    · subst h0
      go_wp2
      go_ret
      exact ⟨rfl, rfl⟩
    · obtain ⟨j, rfl⟩ : ∃ j, k = j + 1 := ⟨k - 1, by omega⟩
      rw [show (((j + 1 : Nat) : Int) - 1) = (j : Int) from by omega]
      rcases x4 with h1 | ⟨b, o, rfl, hbl, hc⟩
      · omega
      have c1 := hc j (by omega)
      have tb := Tm.dig_at HW.out.1 j
      obtain ⟨t1, t2⟩ := tb
      have vd := Tm.val_drop xs j (by omega)
      have ex := getD_at xs j (by omega)
      rw [← ex] at c1 t1 t2 vd
      have VD := Lib.hid vd
      clear hc vd ex
      go_wp2
      exact ⟨⟨j, by omega, rfl, val_int (by rw [VD.out]; omega)⟩, by simp [intOf] <;> omega⟩
theorem quiet_same {P : Program} {f : FuncId} {args : Array Value} {w : World} {n : Nat} {v : Value}
    (h : ∀ W, Calls P f args W fun e w' => e = .returned v ∧ W = w') : Calls P f args (w.drewN n) fun e w'' => e = .returned v ∧ ∃ m, w'' = w.drewN m :=
  (h _).mono fun _ _ ⟨he, hm⟩ => ⟨he, n, hm.symm⟩
end Go.Proofs.Yteklgngooflhlaa

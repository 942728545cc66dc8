/- Plain facts: numbers of single precision, made by repeated multiplication or division by 3 in double precision. Plain facts: all numbers of single precision that floats are made to. -/
import Derived.Laws.FloatArith
import Derived.Test.YtgkljlmfflbejaaFMath
namespace Go.Proofs.Ytgkljlmfflbejaa
set_option maxRecDepth 20000
open Go.RowKit
namespace Tm
def three : Nat := 4613937818241073152
def mulT (x : Nat) : Option Nat := floatBits .mul .f64 x three
def divT (x : Nat) : Option Nat := floatBits .quo .f64 x three
def toS (x : Nat) : Option Nat := floatToFloatBits .f64 x .f32
def iter (f : Nat → Option Nat) (x : Nat) : Nat → Nat
  | 0 => x
  | k + 1 => (f (iter f x k)).getD 0
/-- The number of double precision, and of single precision, of a value and an exponent. -/
def dbl (v e : Int) : Nat := if 0 ≤ e then iter mulT (floatOfInt .f64 v) e.toNat else iter divT (floatOfInt .f64 v) (-e).toNat
def sgl (v e : Int) : Nat := (toS (dbl v e)).getD 0
def snV (xs : List Int) (e : Int) : Nat := if isF xs e then sgl (val xs) e else 0
/-- Each step gives a number, and each is within single precision. -/
def chk (f : Nat → Option Nat) : Nat → Nat → Bool
  | 0, x => (toS x).isSome
  | k + 1, x => (toS x).isSome && match f x with | none => false | some y => chk f k y
theorem iter_from (f : Nat → Option Nat) (x y : Nat) (h : f x = some y) (k : Nat) : iter f y k = iter f x (k + 1) := by
  induction k with
  | zero => rw [iter, iter, iter, h]; rfl
  | succ k ih =>
    show (f (iter f y k)).getD 0 = (f (iter f x (k + 1))).getD 0
    rw [ih]
theorem chk_spec {f : Nat → Option Nat} (k : Nat) {x : Nat} (h : chk f k x = true) : (∀ j, j < k → f (iter f x j) = some (iter f x (j + 1))) ∧ ∀ j, j ≤ k → toS (iter f x j) = some ((toS (iter f x j)).getD 0) := by
  have some_of : ∀ o : Option Nat, o.isSome = true → o = some (o.getD 0) := fun o ho => by cases o with
    | none => simp at ho
    | some y => rfl
  induction k generalizing x with
  | zero =>
    refine ⟨fun j hj => absurd hj (Nat.not_lt_zero _), fun j hj => ?_⟩
    obtain rfl : j = 0 := by omega
    exact some_of _ h
  | succ k ih =>
    rw [chk, Bool.and_eq_true] at h
    obtain ⟨h1, h2⟩ := h
    cases hf : f x with
    | none => rw [hf] at h2; cases h2
    | some y =>
      rw [hf] at h2
      have ih := ih h2
      refine ⟨fun j hj => ?_, fun j hj => ?_⟩
      · cases j with
        | zero => rw [iter, iter, iter, hf]; rfl
        | succ j =>
          have := ih.1 j (by omega)
          rw [iter_from f x y hf, iter_from f x y hf] at this
          exact this
      · cases j with
        | zero => exact some_of _ h1
        | succ j =>
          have := ih.2 j (by omega)
          rw [iter_from f x y hf] at this
          exact this
/-! ### The sign. -/
open Ieee in
theorem read_neg (f : Format) {x : Nat} (h : x < f.signWeight) : f.read (f.signWeight + x) = (f.read x).opposite ∧ (f.read x).neg = false := by
  have d1 : (f.signWeight + x) / f.signWeight = 1 := by
    rw [Nat.add_comm, Nat.add_div_right _ (by omega), Nat.div_eq_of_lt h]
  have d2 : (f.signWeight + x) % f.signWeight = x := by rw [Nat.add_mod_left, Nat.mod_eq_of_lt h]
  have d3 : x / f.signWeight = 0 := Nat.div_eq_of_lt h
  have d4 : x % f.signWeight = x := Nat.mod_eq_of_lt h
  unfold Format.read
  rw [d1, d2, d3, d4]
  dsimp only
  repeat' split
  all_goals exact ⟨rfl, rfl⟩
open Ieee in
theorem nearest_neg (f : Format) (m : Nat) (p : Int) : f.nearest true m p = f.signWeight + f.nearest false m p ∧ f.nearest false m p < f.signWeight := by
  have hw : ∀ r, f.word true r = f.signWeight + f.word false r := fun r => rfl
  have hi : f.infRung < f.signWeight := Format.infRung_lt f
  unfold Format.nearest
  split
  · exact ⟨rfl, Nat.two_pow_pos _⟩
  · refine ⟨rfl, ?_⟩
    show min _ _ < _
    omega
open Ieee in
theorem write_opposite (f : Format) {d : Datum} (h : d.neg = false) (hn : d.isNaN = false) : f.write d.opposite = f.signWeight + f.write d ∧ f.write d < f.signWeight := by
  have hi : f.infRung < f.signWeight := Format.infRung_lt f
  cases d with
  | number s m p =>
    cases s
    · exact nearest_neg f m p
    · cases h
  | infinity s =>
    cases s
    · exact ⟨rfl, hi⟩
    · cases h
  | nan s t => cases hn
theorem read3 : Ieee.double.read three = .number false 6755399441055744 (-51) := by decide +kernel
open Ieee in
theorem mulT_neg {x : Nat} (h : x < 2 ^ 63) : mulT (2 ^ 63 + x) = (mulT x).map (2 ^ 63 + ·) ∧ ∀ y, mulT x = some y → y < 2 ^ 63 := by
  have r := read_neg double (x := x) h
  have e : ∀ z, mulT z = ((double.read z).product (.number false 6755399441055744 (-51))).map double.write := fun z => by
    show ((double.read z).product (double.read three)).map double.write = _
    rw [read3]
  have s63 : double.signWeight = 2 ^ 63 := rfl
  rw [e, e, ← s63, r.1]
  have hn := r.2
  generalize double.read x = d at hn ⊢
  cases d with
  | number s m p =>
    cases s
    · have n := nearest_neg double (m * 6755399441055744) (p + -51)
      refine ⟨?_, fun y hy => ?_⟩
      · show some (double.nearest true _ _) = some (_ + double.nearest false _ _)
        rw [n.1]
      · have : double.nearest false (m * 6755399441055744) (p + -51) = y := by simpa [Datum.product, Format.write] using hy
        rw [← this]; exact n.2
    · cases hn
  | infinity s =>
    cases s
    · refine ⟨rfl, fun y hy => ?_⟩
      have : double.word false double.infRung = y := by simpa [Datum.product, Format.write] using hy
      rw [← this]; exact Format.infRung_lt double
    · cases hn
  | nan s t => exact ⟨rfl, fun y hy => by cases hy⟩
open Ieee in
theorem divT_neg {x : Nat} (h : x < 2 ^ 63) : divT (2 ^ 63 + x) = (divT x).map (2 ^ 63 + ·) ∧ ∀ y, divT x = some y → y < 2 ^ 63 := by
  have r := read_neg double (x := x) h
  have e : ∀ z, divT z = ((double.read z).quotient 54 (.number false 6755399441055744 (-51))).map double.write := fun z => by
    show ((double.read z).quotient 54 (double.read three)).map double.write = _
    rw [read3]
  have s63 : double.signWeight = 2 ^ 63 := rfl
  rw [e, e, ← s63, r.1]
  have hn := r.2
  generalize double.read x = d at hn ⊢
  cases d with
  | number s m p =>
    cases s
    · obtain ⟨m', p', hq⟩ : ∃ m' p', ∀ s, (Datum.number s m p).quotient 54 (.number false 6755399441055744 (-51)) = some (.number s m' p') := ⟨_, _, fun s => by
        show some (Datum.number (s ^^ false) _ _) = _
        rw [Bool.xor_false]⟩
      have n := nearest_neg double m' p'
      refine ⟨?_, fun y hy => ?_⟩
      · show ((Datum.number true m p).quotient 54 _).map _ = _
        rw [hq, hq]
        show some (double.nearest true _ _) = some (_ + double.nearest false _ _)
        rw [n.1]
      · rw [hq] at hy
        have : double.nearest false m' p' = y := by simpa [Format.write] using hy
        rw [← this]; exact n.2
    · cases hn
  | infinity s =>
    cases s
    · refine ⟨rfl, fun y hy => ?_⟩
      have : double.word false double.infRung = y := by simpa [Datum.quotient, Format.write] using hy
      rw [← this]; exact Format.infRung_lt double
    · cases hn
  | nan s t => exact ⟨rfl, fun y hy => by cases hy⟩
open Ieee in
theorem toS_neg {x : Nat} (h : x < 2 ^ 63) : toS (2 ^ 63 + x) = (toS x).map (2 ^ 31 + ·) ∧ ∀ y, toS x = some y → y < 2 ^ 31 := by
  have r := read_neg double (x := x) h
  have s63 : double.signWeight = 2 ^ 63 := rfl
  have s31 : single.signWeight = 2 ^ 31 := rfl
  have e : ∀ z, toS z = match double.read z with
    | .nan _ _ => none
    | .infinity s => some (single.write (.infinity s))
    | .number s m e => if (single.read (single.write (.number s m e))).isInfinity then none else some (single.write (.number s m e)) := fun z => rfl
  rw [e, e, ← s63, r.1]
  have hn := r.2
  generalize double.read x = d at hn ⊢
  cases d with
  | number s m p =>
    cases s
    · have n := nearest_neg single m p
      have q := read_neg single n.2
      have ei : (single.read (single.write (.number true m p))).isInfinity = (single.read (single.write (.number false m p))).isInfinity := by
        show (single.read (single.nearest true m p)).isInfinity = (single.read (single.nearest false m p)).isInfinity
        rw [n.1, q.1]
        cases single.read (single.nearest false m p) <;> rfl
      refine ⟨?_, fun y hy => ?_⟩
      · show (if (single.read (single.write (.number true m p))).isInfinity then none else some (single.write (.number true m p))) = Option.map _ (if (single.read (single.write (.number false m p))).isInfinity then none else some (single.write (.number false m p)))
        rw [ei]
        split
        · rfl
        · show some (single.nearest true m p) = some (_ + single.nearest false m p)
          rw [n.1, s31]
      · have hy' : (if (single.read (single.write (.number false m p))).isInfinity then none else some (single.write (.number false m p))) = some y := hy
        split at hy'
        · cases hy'
        · have : single.nearest false m p = y := by simpa [Format.write] using hy'
          rw [← this]; exact n.2
    · cases hn
  | infinity s =>
    cases s
    · refine ⟨rfl, fun y hy => ?_⟩
      have : single.word false single.infRung = y := by simpa [Format.write] using hy
      rw [← this]; exact Format.infRung_lt single
    · cases hn
  | nan s t => exact ⟨rfl, fun y hy => by cases hy⟩
theorem int_neg {n : Nat} (h : 0 < n) : floatOfInt .f64 (-(n : Int)) = 2 ^ 63 + floatOfInt .f64 n ∧ floatOfInt .f64 n < 2 ^ 63 := by
  have q := nearest_neg Ieee.double n 0
  have a : floatOfInt .f64 (-(n : Int)) = Ieee.double.nearest true n 0 := by
    show Ieee.double.nearest (decide (-(n : Int) < 0)) (-(n : Int)).natAbs 0 = _
    rw [decide_eq_true (show -(n : Int) < 0 by omega), Int.natAbs_neg, Int.natAbs_natCast]
  have b : floatOfInt .f64 (n : Int) = Ieee.double.nearest false n 0 := by
    show Ieee.double.nearest (decide ((n : Int) < 0)) (n : Int).natAbs 0 = _
    rw [decide_eq_false (show ¬ (n : Int) < 0 by omega), Int.natAbs_natCast]
  rw [a, b]
  exact q
/-- A step that minds no sign. -/
def Odd (f : Nat → Option Nat) : Prop := ∀ x, x < 2 ^ 63 → f (2 ^ 63 + x) = (f x).map (2 ^ 63 + ·) ∧ ∀ y, f x = some y → y < 2 ^ 63
theorem chk_neg {f : Nat → Option Nat} (hf : Odd f) (k : Nat) {x : Nat} (hx : x < 2 ^ 63) (h : chk f k x = true) : chk f k (2 ^ 63 + x) = true ∧ ∀ j, j ≤ k → iter f (2 ^ 63 + x) j = 2 ^ 63 + iter f x j ∧ iter f x j < 2 ^ 63 := by
  have ts : ∀ {z}, z < 2 ^ 63 → (toS z).isSome = true → (toS (2 ^ 63 + z)).isSome = true := fun {z} hz h => by
    rw [(toS_neg hz).1]; simpa using h
  induction k generalizing x with
  | zero => exact ⟨ts hx h, fun j hj => by obtain rfl : j = 0 := by omega
                                           exact ⟨rfl, hx⟩⟩
  | succ k ih =>
    rw [chk, Bool.and_eq_true] at h
    obtain ⟨h1, h2⟩ := h
    have o := hf x hx
    cases e : f x with
    | none => rw [e] at h2; cases h2
    | some y =>
      rw [e] at h2 o
      have ly := o.2 y rfl
      have i := ih ly h2
      have e' : f (2 ^ 63 + x) = some (2 ^ 63 + y) := o.1
      refine ⟨?_, fun j hj => ?_⟩
      · rw [chk, Bool.and_eq_true, e']
        exact ⟨ts hx h1, i.1⟩
      · cases j with
        | zero => exact ⟨rfl, hx⟩
        | succ j =>
          rw [← iter_from f _ _ e', ← iter_from f _ _ e]
          exact i.2 j (by omega)
theorem odd_mul : Odd mulT := fun _ h => mulT_neg h
theorem odd_div : Odd divT := fun _ h => divT_neg h
end Tm
namespace Tm
def posOk (i : Nat) : Bool := chk mulT 20 (floatOfInt .f64 ((122 + i : Nat) : Int)) && chk divT 20 (floatOfInt .f64 ((122 + i : Nat) : Int))
set_option maxRecDepth 100000 in
theorem pos_all : (List.range 243).all posOk = true := by decide +kernel
theorem pos_ok {n : Nat} (h1 : 122 ≤ n) (h2 : n ≤ 364) : chk mulT 20 (floatOfInt .f64 (n : Int)) = true ∧ chk divT 20 (floatOfInt .f64 (n : Int)) = true := by
  have := List.all_eq_true.1 pos_all (n - 122) (by simp; omega)
  rw [posOk, show 122 + (n - 122) = n by omega, Bool.and_eq_true] at this
  exact this
theorem zero_ok : chk mulT 0 (floatOfInt .f64 0) = true ∧ chk divT 0 (floatOfInt .f64 0) = true := by decide +kernel
theorem chk_less {f : Nat → Option Nat} {k x : Nat} (h : chk f k x = true) (j : Nat) (hj : j ≤ k) : chk f j x = true := by
  induction k generalizing x j with
  | zero => obtain rfl : j = 0 := by omega
            exact h
  | succ k ih =>
    rw [chk, Bool.and_eq_true] at h
    cases j with
    | zero => exact h.1
    | succ j =>
      rw [chk, Bool.and_eq_true]
      refine ⟨h.1, ?_⟩
      have h2 := h.2
      split at h2
      · cases h2
      · exact ih h2 j (by omega)
/-- Of each valid float. -/
theorem float_ok {xs : List Int} {e : Int} (h : isF xs e = true) : (0 ≤ e → chk mulT e.toNat (floatOfInt .f64 (val xs)) = true) ∧ (e ≤ 0 → chk divT (-e).toNat (floatOfInt .f64 (val xs)) = true) := by
  have hb := ((isF_iff _ _).1 h).2.2.1
  rcases isF_big h with ⟨v0, -, e0⟩ | ⟨-, v1, v2⟩
  · subst e0
    rw [v0]
    exact ⟨fun _ => zero_ok.1, fun _ => zero_ok.2⟩
  · have a := absI_abs (val xs)
    obtain ⟨n, hn⟩ : ∃ n : Nat, absI (val xs) = n := ⟨(absI (val xs)).toNat, by omega⟩
    have p := pos_ok (n := n) (by omega) (by omega)
    rcases a.1 with c | c
    · rw [show val xs = (n : Int) by omega]
      exact ⟨fun _ => chk_less p.1 _ (by omega), fun _ => chk_less p.2 _ (by omega)⟩
    · have q := int_neg (n := n) (by omega)
      rw [show val xs = -(n : Int) by omega, q.1]
      exact ⟨fun _ => chk_less (chk_neg odd_mul 20 q.2 p.1).1 _ (by omega), fun _ => chk_less (chk_neg odd_div 20 q.2 p.2).1 _ (by omega)⟩
end Tm
end Go.Proofs.Ytgkljlmfflbejaa

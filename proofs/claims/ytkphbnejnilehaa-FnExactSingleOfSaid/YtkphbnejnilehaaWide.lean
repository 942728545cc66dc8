/- Plain facts: a number of single precision made double; it is the same as itself. -/
import Derived.Test.YtkphbnejnilehaaFSing
namespace Go.Proofs.Ytkphbnejnilehaa
open Go.RowKit
namespace Tm
open Ieee
theorem write_word (f : Format) {d : Datum} (hn : d.isNaN = false) : ∃ s r, f.write d = f.word s r ∧ r ≤ f.infRung := by
  cases d with
  | number s m p =>
    show ∃ s' r, f.nearest s m p = _ ∧ _
    unfold Format.nearest
    split
    · exact ⟨s, 0, rfl, Nat.zero_le _⟩
    · exact ⟨s, _, rfl, Nat.min_le_right _ _⟩
  | infinity s => exact ⟨s, _, rfl, Nat.le_refl _⟩
  | nan s t => cases hn
theorem read_word (f : Format) (s : Bool) {r : Nat} (h : r ≤ f.infRung) : f.read (f.word s r) = if r < f.binade then .number s r f.leastPlace else if r < f.infRung then .number s (f.binade + r % f.binade) (f.leastPlace + (r / f.binade - 1 : Nat)) else .infinity s := by
  have hi : f.infRung < f.signWeight := Format.infRung_lt f
  have hr : r < f.signWeight := by omega
  have d3 : r / f.signWeight = 0 := Nat.div_eq_of_lt hr
  have d4 : r % f.signWeight = r := Nat.mod_eq_of_lt hr
  have d1 : (f.signWeight + r) / f.signWeight = 1 := by
    rw [Nat.add_comm, Nat.add_div_right _ (by omega), d3]
  have d2 : (f.signWeight + r) % f.signWeight = r := by rw [Nat.add_mod_left, d4]
  have e : (f.word s r / f.signWeight % 2 == 1) = s ∧ f.word s r % f.signWeight = r := by
    cases s
    · exact ⟨by show (r / f.signWeight % 2 == 1) = _; rw [d3]; rfl, d4⟩
    · exact ⟨by show ((f.signWeight + r) / f.signWeight % 2 == 1) = _; rw [d1]; rfl, d2⟩
  unfold Format.read
  rw [e.1, e.2]
  dsimp only
  split
  · rfl
  · split
    · rfl
    · rw [if_pos (by omega)]
theorem read_clean (f : Format) (s : Bool) {r : Nat} (h : r ≤ f.infRung) : (f.read (f.word s r)).isNaN = false := by
  rw [read_word f s h]; split
  · rfl
  · split <;> rfl
theorem order_self {d : Datum} (h : d.isNaN = false) : d.order d = some .eq := by
  cases d with
  | number s m p => simp [Datum.order]
  | infinity s => simp [Datum.order]
  | nan s t => cases h
theorem signed_zero {s : Bool} {m k : Nat} (h : signed s m k = 0) : m = 0 := by
  have e : m <<< k = 0 := by
    unfold signed at h
    generalize m <<< k = q at h ⊢
    split at h <;> omega
  rw [Nat.shiftLeft_eq] at e
  rcases Nat.mul_eq_zero.1 e with e | e
  · exact e
  · have := Nat.two_pow_pos k; omega
theorem order_zero (f : Format) (s : Bool) {r : Nat} (h : r ≤ f.infRung) (h0 : f.read 0 = .number false 0 f.leastPlace) (ho : f.order (f.word s r) 0 = some .eq) (hb : 0 < f.binade) : r = 0 := by
  unfold Format.order at ho
  rw [h0, read_word f s h] at ho
  have z : ∀ k, signed false 0 k = 0 := fun k => by simp [signed]
  split at ho
  · simp only [Datum.order, Option.some.injEq] at ho
    have := Std.LawfulEqCmp.eq_of_compare ho
    rw [z] at this
    exact signed_zero this
  · split at ho
    · simp only [Datum.order, Option.some.injEq] at ho
      have := Std.LawfulEqCmp.eq_of_compare ho
      rw [z] at this
      have := signed_zero this
      omega
    · cases s <;> simp [Datum.order] at ho
/-- A datum of single precision, made double, is no infinity. -/
theorem wide_fin (s : Bool) (m : Nat) (p : Int) (hm : m < 2 ^ 24) (h1 : -149 ≤ p) (h2 : p ≤ 104) : ∃ r, Ieee.double.nearest s m p = Ieee.double.word s r ∧ r < Ieee.double.infRung := by
  have hb : Ieee.double.binade = 2 ^ 52 := rfl
  have hi : Ieee.double.infRung = 2047 * 2 ^ 52 := rfl
  have hl : Ieee.double.leastPlace = -1074 := by decide
  have hf : Ieee.double.fractionBits = 52 := rfl
  unfold Format.nearest
  split
  · exact ⟨0, rfl, by rw [hi]; omega⟩
  · rename_i m0
    rw [hb, hi, hl, hf]
    dsimp only
    have hk : m.log2 < 24 := (Nat.log2_lt (by omega)).2 hm
    obtain ⟨k, ek⟩ : ∃ k, k = m.log2 := ⟨_, rfl⟩
    have hmk : m < 2 ^ (k + 1) := by rw [ek]; exact Nat.lt_log2_self
    rw [← ek] at hk ⊢
    have hmax : max (p + (k : Int) - ((52 : Nat) : Int)) (-1074) = p + k - 52 := by omega
    rw [hmax]
    have e1 : (p - (p + (k : Int) - 52)).toNat = 52 - k := by omega
    have e2 : (p + (k : Int) - 52 - p).toNat = 0 := by omega
    rw [e1, e2]
    have hc : ∀ n, Toward.even.cut s n 0 = n := by
      intro n; unfold Toward.cut; simp [Nat.mod_one]
    rw [hc, Nat.shiftLeft_eq]
    have hp : m * 2 ^ (52 - k) < 2 * 2 ^ 52 := by
      calc m * 2 ^ (52 - k) < 2 ^ (k + 1) * 2 ^ (52 - k) := Nat.mul_lt_mul_of_pos_right hmk (Nat.two_pow_pos _)
        _ = 2 * 2 ^ 52 := by rw [← Nat.pow_add, show k + 1 + (52 - k) = 52 + 1 by omega, Nat.pow_succ, Nat.mul_comm]
    refine ⟨_, rfl, ?_⟩
    have hq : (p + (k : Int) - 52 - -1074).toNat ≤ 1149 := by omega
    generalize (p + (k : Int) - 52 - -1074).toNat = q at hq ⊢
    generalize m * 2 ^ (52 - k) = y at hp ⊢
    have hB : 0 < 2 ^ 52 := Nat.two_pow_pos 52
    generalize 2 ^ 52 = B at hp hB ⊢
    have := Nat.mul_le_mul_right B hq
    generalize q * B = z at this ⊢
    omega
theorem ff_num {b : Nat} {s : Bool} {m : Nat} {p : Int} (hd : FloatKind.decode .f32 b = .number s m p) (hw : (FloatKind.decode .f64 (FloatKind.encode .f64 (.number s m p))).isInfinity = false) : floatToFloatBits .f32 b .f64 = some (FloatKind.encode .f64 (.number s m p)) := by
  unfold floatToFloatBits
  rw [if_neg (by decide), hd]
  simp only [hw, Bool.false_eq_true, if_false]
theorem ff_inf {b : Nat} {s : Bool} (hd : FloatKind.decode .f32 b = .infinity s) : floatToFloatBits .f32 b .f64 = some (FloatKind.encode .f64 (.infinity s)) := by
  unfold floatToFloatBits
  rw [if_neg (by decide), hd]
def Good (d : Nat) : Prop := FloatKind.f64.format.order d d = some Ordering.eq ∧ (FloatKind.f64.format.order d 0 = some Ordering.eq → d = 0 ∨ d = 9223372036854775808)
theorem good_word (s : Bool) {r : Nat} (h : r ≤ Ieee.double.infRung) : Good (Ieee.double.word s r) := by
  refine ⟨order_self (read_clean Ieee.double s h), fun ho => ?_⟩
  obtain rfl := order_zero Ieee.double s h (by decide) ho (by decide)
  cases s
  · exact .inl rfl
  · exact .inr (by decide)
theorem widen (s : Bool) {r : Nat} (h : r ≤ Ieee.single.infRung) : ∃ d, floatToFloatBits .f32 (Ieee.single.word s r) .f64 = some d ∧ Good d := by
  have hb : Ieee.single.binade = 8388608 := rfl
  have hi : Ieee.single.infRung = 2139095040 := by decide
  have hl : Ieee.single.leastPlace = -149 := by decide
  have num : ∀ m p, FloatKind.decode .f32 (Ieee.single.word s r) = .number s m p → m < 2 ^ 24 → -149 ≤ p → p ≤ 104 → ∃ d, floatToFloatBits .f32 (Ieee.single.word s r) .f64 = some d ∧ Good d := by
    intro m p hd hm h1 h2
    obtain ⟨q, e, hq⟩ := wide_fin s m p hm h1 h2
    have e : FloatKind.encode .f64 (.number s m p) = Ieee.double.word s q := e
    refine ⟨Ieee.double.word s q, ?_, good_word s (by omega)⟩
    rw [← e]
    refine ff_num hd ?_
    rw [e]
    show (Ieee.double.read (Ieee.double.word s q)).isInfinity = false
    rw [read_word Ieee.double s (by omega)]
    split
    · rfl
    · first | rfl | (rw [if_pos hq]; rfl)
  have rd := read_word Ieee.single s h
  rw [hb, hl] at rd
  split at rd
  · exact num r (-149) rd (by omega) (by omega) (by omega)
  · split at rd
    · rename_i c1 c2
      rw [hi] at c2
      exact num _ _ rd (by omega) (by omega) (by omega)
    · exact ⟨Ieee.double.word s Ieee.double.infRung, ff_inf rd, good_word s (Nat.le_refl _)⟩
theorem toS_word {x y : Nat} (h : toS x = some y) : ∃ s r, y = Ieee.single.word s r ∧ r ≤ Ieee.single.infRung := by
  unfold toS floatToFloatBits at h
  rw [if_neg (by decide)] at h
  split at h
  · cases h
  · rename_i s _
    cases h
    exact write_word Ieee.single (d := .infinity s) rfl
  · rename_i s m p _
    split at h
    · cases h
    · cases h
      exact write_word Ieee.single (d := .number s m p) rfl
theorem wid_ok (xs : List Int) (e : Int) : ∃ d, floatToFloatBits .f32 (snV xs e) .f64 = some d ∧ Good d := by
  have z : ∃ s r, snV xs e = Ieee.single.word s r ∧ r ≤ Ieee.single.infRung := by
    unfold snV
    split
    · unfold sgl
      rcases ht : toS (dbl (val xs) e) with _ | y
      · exact ⟨false, 0, rfl, Nat.zero_le _⟩
      · exact toS_word ht
    · exact ⟨false, 0, rfl, Nat.zero_le _⟩
  obtain ⟨s, r, e, h⟩ := z
  rw [e]
  exact widen s h
end Tm
end Go.Proofs.Ytkphbnejnilehaa

/- Slices of slices of integers: what is told of one that is read; the program's test that words are alike. -/
import Derived.Test.YteklgngooflhlaaWI
import Derived.Test.YteklgngooflhlaaRow2
namespace Go.Proofs.Yteklgngooflhlaa
set_option maxRecDepth 20000
open Go.RowKit
/-- The slice value '.slice a n cap' reads as the lists L. -/
def Rows (w : World) (a : Option Addr) (n cap : Nat) (L : List (List Int)) : Prop :=
  L.length = n ∧ n ≤ cap ∧ cap ≤ maxLen ∧ (n = 0 ∨ ∃ b o, a = some ⟨b, o, none⟩ ∧ b < w.heap.size ∧ ∀ i, i < n → ∃ a' m c, w.cell? ⟨b, o + i, none⟩ = some (.slice a' m c) ∧ Ints w a' m c (L.getD i []))
theorem Rows.below {w w' : World} {a : Option Addr} {n cap : Nat} {L : List (List Int)} (h : Rows w a n cap L) (hb : Below w.heap.size w w') : Rows w' a n cap L := by
  obtain ⟨h1, h2, h3, h4⟩ := h
  refine ⟨h1, h2, h3, ?_⟩
  rcases h4 with h4 | ⟨b, o, ha, hlt, hc⟩
  · exact .inl h4
  · refine .inr ⟨b, o, ha, by have := hb.size; omega, fun i hi => ?_⟩
    obtain ⟨a', m, c, hcell, hi'⟩ := hc i hi
    exact ⟨a', m, c, by rw [← hcell]; exact World.cell?_of_block (a := ⟨b, o + i, none⟩) (hb.block b hlt), hi'.below hb⟩
theorem Rows.nil (w : World) (a : Option Addr) (cap : Nat) (hc : cap ≤ maxLen) : Rows w a 0 cap [] := ⟨rfl, Nat.zero_le _, hc, .inl rfl⟩
/-- A part of it, from place k on. -/
theorem Rows.tail {w : World} {b o n cap : Nat} {L : List (List Int)} (h : Rows w (some ⟨b, o, none⟩) n cap L) (k : Nat) (hk : k ≤ n) : Rows w (some ⟨b, o + k, none⟩) (n - k) (cap - k) (L.drop k) := by
  obtain ⟨h1, h2, h3, h4⟩ := h
  refine ⟨by simp; omega, by omega, by omega, ?_⟩
  rcases h4 with h4 | ⟨b', o', ha, hlt, hc⟩
  · exact .inl (by omega)
  · cases ha
    refine .inr ⟨b, o + k, rfl, hlt, fun i hi => ?_⟩
    obtain ⟨a', m, c, hcell, hi'⟩ := hc (k + i) (by omega)
    refine ⟨a', m, c, by rw [Nat.add_assoc]; exact hcell, ?_⟩
    rw [show (L.drop k).getD i [] = L.getD (k + i) [] from by simp [List.getD_eq_getElem?_getD]]
    exact hi'
theorem rows_one {w : World} {a : Option Addr} {n cap : Nat} {xs : List Int} (h : Ints w a n cap xs) (t : TypeId) : Rows (w.alloc (.cells #[.slice a n cap] t)) (some ⟨w.heap.size, 0, none⟩) 1 1 [xs] := by
  refine ⟨rfl, Nat.le_refl _, by unfold maxLen; omega, .inr ⟨_, _, rfl, by rw [World.size_alloc]; omega, fun i hi => ?_⟩⟩
  match i, hi with
  | 0, _ => exact ⟨a, n, cap, by simp, h.alloc _⟩
theorem rows_two {w : World} {a b : Option Addr} {n m cap cap2 : Nat} {xs ys : List Int} (h : Ints w a n cap xs) (h2 : Ints w b m cap2 ys) (t : TypeId) : Rows (w.alloc (.cells #[.slice a n cap, .slice b m cap2] t)) (some ⟨w.heap.size, 0, none⟩) 2 2 [xs, ys] := by
  refine ⟨rfl, Nat.le_refl _, by unfold maxLen; omega, .inr ⟨_, _, rfl, by rw [World.size_alloc]; omega, fun i hi => ?_⟩⟩
  match i, hi with
  | 0, _ => exact ⟨a, n, cap, by simp, h.alloc _⟩
  | 1, _ => exact ⟨b, m, cap2, by simp, h2.alloc _⟩
theorem rows_three {w : World} {a b c : Option Addr} {n m l cap cap2 cap3 : Nat} {xs ys zs : List Int} (h : Ints w a n cap xs) (h2 : Ints w b m cap2 ys) (h3 : Ints w c l cap3 zs) (t : TypeId) : Rows (w.alloc (.cells #[.slice a n cap, .slice b m cap2, .slice c l cap3] t)) (some ⟨w.heap.size, 0, none⟩) 3 3 [xs, ys, zs] := by
  refine ⟨rfl, Nat.le_refl _, by unfold maxLen; omega, .inr ⟨_, _, rfl, by rw [World.size_alloc]; omega, fun i hi => ?_⟩⟩
  match i, hi with
  | 0, _ => exact ⟨a, n, cap, by simp, h.alloc _⟩
  | 1, _ => exact ⟨b, m, cap2, by simp, h2.alloc _⟩
  | 2, _ => exact ⟨c, l, cap3, by simp, h3.alloc _⟩
namespace Tm
def alike (L : List (List Int)) : Bool := L.all fun x => isW x && decide (x.length = (L.getD 0 []).length)
def AllA (L : List (List Int)) (k : Nat) : Prop := ∀ j, j < k → isW (L.getD j []) = true ∧ (L.getD j []).length = (L.getD 0 []).length
theorem AllA_zero (L : List (List Int)) : AllA L 0 := fun j h => by omega
theorem AllA_succ {L : List (List Int)} {k : Nat} (h : AllA L k) (h1 : isW (L.getD k []) = true) (h2 : (L.getD k []).length = (L.getD 0 []).length) : AllA L (k + 1) := fun j hj => by
  by_cases e : j = k
  · subst e; exact ⟨h1, h2⟩
  · exact h j (by omega)
theorem alike_all {L : List (List Int)} (h : AllA L L.length) : alike L = true := by
  rw [alike, List.all_eq_true]
  intro x hx
  obtain ⟨i, hi, rfl⟩ := List.mem_iff_getElem.1 hx
  have := h i hi
  rw [List.getD_eq_getElem?_getD, List.getElem?_eq_getElem hi] at this
  simp only [Option.getD_some] at this
  rw [this.1, this.2]; simp
theorem alike_no {L : List (List Int)} {k : Nat} (hk : k < L.length) (h : isW (L.getD k []) = false ∨ (L.getD k []).length ≠ (L.getD 0 []).length) : alike L = false := by
  rw [alike, List.all_eq_false]
  refine ⟨L[k], List.getElem_mem hk, ?_⟩
  rw [List.getD_eq_getElem?_getD, List.getElem?_eq_getElem hk] at h
  simp only [Option.getD_some] at h
  rcases h with h | h
  · rw [h]; simp
  · rw [decide_eq_false h]; simp
end Tm
theorem iAreAlike (a : Option Addr) (n cap : Nat) (L : List (List Int)) (w : World) (h : Rows w a n cap L) : Calls Try.prog 85 #[.slice a n cap] w fun e w' => e = .returned (.bool (Tm.alike L)) ∧ w = w' := by
  obtain ⟨x1, x2, x3, x4⟩ := h
  subst x1
  unfold maxLen at x3
  have X4 := Lib.hid x4
  clear x4
  go_enter Try.func85, Try.ntmps85
  go_wp2_with fail
  go_loop [7] (fun i => ∃ k : Nat, k ≤ L.length ∧ i = .int .i64 k ∧ Hid (Tm.AllA L k)) (fun i => L.length - (intOf i).toNat)
  case atStart => exact ⟨0, by omega, rfl, Lib.hid (Tm.AllA_zero L)⟩
  case round =>
    obtain ⟨k, hk, rfl, ha⟩ := hrel
    by_cases hlt : k < L.length
    · rcases X4.out with h0 | ⟨b, o, rfl, hbl, hc⟩
      · omega
      obtain ⟨a0, m0, c0, z1, i0⟩ := hc 0 (by omega)
      obtain ⟨a1, m1, c1, z2, i1⟩ := hc k hlt
      rw [Nat.add_zero] at z1
      have I1 := Lib.hid i1
      have E0 := Lib.hid i0.1
      have E1 := Lib.hid i1.1
      have q0 : m0 ≤ 9223372036854775807 := by have := i0.2.1; have := i0.2.2.1; unfold maxLen at this; omega
      have q1 : m1 ≤ 9223372036854775807 := by have := i1.2.1; have := i1.2.2.1; unfold maxLen at this; omega
      have hl0 : (0 : Int) < (L.length : Int) := by omega
      have hn0 : L ≠ [] := by intro e; subst e; simp at hlt
      clear hc i0 i1
      have AS := Lib.hid (fun h1 h2 => Tm.AllA_succ (k := k) ha.out h1 h2)
      have NW := Lib.hid (fun h => Tm.alike_no hlt h)
      obtain ⟨xk, hxk⟩ : ∃ xk, xk = L.getD k [] := ⟨_, rfl⟩
      rw [← hxk] at I1 E1 AS NW
      clear hxk
      by_cases hw : Tm.isW xk = true
      · by_cases hm : m1 = m0
        · have AA := Lib.hid (AS.out hw (by rw [E1.out, E0.out, hm]))
          have zm : ((m1 : Int) != (m0 : Int)) = false := by simp [hm]
          clear hm
          go_wp2_with ((go_at_call 88; refine (iIsWord _ _ _ xk _ I1.out).mono ?_; rintro e w1 ⟨rfl, rfl⟩))
          exact ⟨⟨k + 1, by omega, by go_num, AA⟩, by simp [intOf]; omega⟩
        · have zm : ((m1 : Int) != (m0 : Int)) = true := by simp; omega
          have NO := Lib.hid (NW.out (.inr (by rw [E1.out, E0.out]; exact hm)))
          clear hm
          go_wp2_with ((go_at_call 88; refine (iIsWord _ _ _ xk _ I1.out).mono ?_; rintro e w1 ⟨rfl, rfl⟩))
          go_ret
          exact ⟨ret_bool NO.out.symm, rfl⟩
      · simp only [Bool.not_eq_true] at hw
        have NO := Lib.hid (NW.out (.inl hw))
        go_wp2_with ((go_at_call 88; refine (iIsWord _ _ _ xk _ I1.out).mono ?_; rintro e w1 ⟨rfl, rfl⟩))
        go_ret
        exact ⟨ret_bool NO.out.symm, rfl⟩
    · obtain rfl : k = L.length := by omega
      go_wp2
      go_ret
      exact ⟨ret_bool (Tm.alike_all ha.out).symm, rfl⟩
end Go.Proofs.Yteklgngooflhlaa

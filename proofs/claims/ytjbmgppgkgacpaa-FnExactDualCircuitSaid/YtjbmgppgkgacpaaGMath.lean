/- Plain facts on circuits: no program, no world. A gate is its eleven numbers: 0 to 8 its table, 9 and 10 its lines. -/
import Derived.Test.YtjbmgppgkgacpaaTab2
namespace Go.Proofs.Ytjbmgppgkgacpaa
set_option maxRecDepth 20000
open Go.RowKit
namespace Tm
/-- No gate. -/
def g0 : Nat → Int := fun _ => 0
def gateOk (n : Int) (g : Nat → Int) : Bool := isTab g && inB (g 9) 0 (n - 1) && inB (g 10) 0 (n - 1)
/-- The gates from n on are valid. -/
def gatesOk : Int → List (Nat → Int) → Bool
  | _, [] => true
  | n, g :: L => gateOk n g && gatesOk (n + 1) L
def linesOk (n : Int) (o : List Int) : Bool := o.all fun x => inB x 0 (n - 1)
def isCirc (k : Int) (L : List (Nat → Int)) (o : List Int) : Bool := inB k 0 8 && decide (L.length ≤ 60) && decide (o.length ≤ 60) && gatesOk (3 + k) L && linesOk (3 + k + (L.length : Int)) o
theorem gatesOk_at {n : Int} {L : List (Nat → Int)} (h : gatesOk n L = true) : ∀ i, i < L.length → gateOk (n + (i : Int)) (L.getD i g0) = true := by
  induction L generalizing n with
  | nil => intro i hi; simp at hi
  | cons g L ih =>
    rw [gatesOk, Bool.and_eq_true] at h
    intro i hi
    match i with
    | 0 => simpa using h.1
    | i + 1 =>
      have := ih h.2 i (by simpa using hi)
      rw [show n + ((i + 1 : Nat) : Int) = n + 1 + (i : Int) by omega]
      simpa using this
theorem gatesOk_of {n : Int} {L : List (Nat → Int)} (h : ∀ i, i < L.length → gateOk (n + (i : Int)) (L.getD i g0) = true) : gatesOk n L = true := by
  induction L generalizing n with
  | nil => rfl
  | cons g L ih =>
    rw [gatesOk, Bool.and_eq_true]
    refine ⟨by simpa using h 0 (by simp), ih fun i hi => ?_⟩
    have := h (i + 1) (by simpa using hi)
    rw [show n + ((i + 1 : Nat) : Int) = n + 1 + (i : Int) by omega] at this
    simpa using this
theorem gatesOk_no {n : Int} {L : List (Nat → Int)} {i : Nat} (hi : i < L.length) (h : gateOk (n + (i : Int)) (L.getD i g0) = false) : gatesOk n L = false := by
  cases e : gatesOk n L with
  | false => rfl
  | true => rw [gatesOk_at e i hi] at h; cases h
theorem gateOk_iff (n : Int) (g : Nat → Int) : gateOk n g = true ↔ isTab g = true ∧ (0 ≤ g 9 ∧ g 9 < n) ∧ 0 ≤ g 10 ∧ g 10 < n := by
  simp only [gateOk, Bool.and_eq_true, inB_iff]; constructor
  · rintro ⟨⟨h1, h2⟩, h3⟩; exact ⟨h1, by omega, by omega⟩
  · rintro ⟨h1, h2, h3⟩; exact ⟨⟨h1, by omega⟩, by omega⟩
theorem linesOk_at {n : Int} {o : List Int} (h : linesOk n o = true) : ∀ i, i < o.length → 0 ≤ o.getD i 0 ∧ o.getD i 0 < n := by
  intro i hi
  rw [linesOk, List.all_eq_true] at h
  have := (inB_iff _ _ _).1 (h (o.getD i 0) (by rw [List.getD_eq_getElem?_getD, List.getElem?_eq_getElem hi]; exact List.getElem_mem hi))
  omega
theorem linesOk_of {n : Int} {o : List Int} (h : ∀ i, i < o.length → 0 ≤ o.getD i 0 ∧ o.getD i 0 < n) : linesOk n o = true := by
  rw [linesOk, List.all_eq_true]
  intro x hx
  obtain ⟨i, hi, rfl⟩ := List.getElem_of_mem hx
  have := h i hi
  rw [List.getD_eq_getElem?_getD, List.getElem?_eq_getElem hi] at this
  simp only [Option.getD_some] at this
  exact (inB_iff _ _ _).2 (by omega)
theorem linesOk_no {n : Int} {o : List Int} {i : Nat} (hi : i < o.length) (h : ¬ (0 ≤ o.getD i 0 ∧ o.getD i 0 < n)) : linesOk n o = false := by
  cases e : linesOk n o with
  | false => rfl
  | true => exact absurd (linesOk_at e i hi) h
theorem isCirc_iff (k : Int) (L : List (Nat → Int)) (o : List Int) : isCirc k L o = true ↔ (0 ≤ k ∧ k ≤ 8) ∧ L.length ≤ 60 ∧ o.length ≤ 60 ∧ gatesOk (3 + k) L = true ∧ linesOk (3 + k + (L.length : Int)) o = true := by
  simp only [isCirc, Bool.and_eq_true, inB_iff, decide_eq_true_eq, and_assoc]
/-- Numbers of lines, each of which follows from those before it. -/
def readL (f : (Nat → Int) → Int → Int → Int) : List Int → List (Nat → Int) → List Int
  | o, [] => o
  | o, g :: L => readL f (o ++ [f g (o.getD (g 9).toNat 0) (o.getD (g 10).toNat 0)]) L
theorem readL_length (f : (Nat → Int) → Int → Int → Int) (o : List Int) (L : List (Nat → Int)) : (readL f o L).length = o.length + L.length := by
  induction L generalizing o with
  | nil => rfl
  | cons g L ih => rw [readL, ih]; simp; omega
theorem readL_snoc (f : (Nat → Int) → Int → Int → Int) (o : List Int) (L : List (Nat → Int)) (g : Nat → Int) : readL f o (L ++ [g]) = readL f o L ++ [f g ((readL f o L).getD (g 9).toNat 0) ((readL f o L).getD (g 10).toNat 0)] := by
  induction L generalizing o with
  | nil => rfl
  | cons x L ih => rw [List.cons_append, readL, ih, readL]
theorem take_snoc' {α : Type} (L : List α) (d : α) {k : Nat} (h : k < L.length) : L.take (k + 1) = L.take k ++ [L.getD k d] := by
  rw [List.take_add_one, List.getElem?_eq_getElem h, List.getD_eq_getElem?_getD, List.getElem?_eq_getElem h]; rfl
theorem readL_step (f : (Nat → Int) → Int → Int → Int) (o : List Int) (L : List (Nat → Int)) {k : Nat} (h : k < L.length) : readL f o (L.take (k + 1)) = readL f o (L.take k) ++ [f (L.getD k g0) ((readL f o (L.take k)).getD ((L.getD k g0) 9).toNat 0) ((readL f o (L.take k)).getD ((L.getD k g0) 10).toNat 0)] := by
  rw [take_snoc' L g0 h, readL_snoc]
/-- How deep the lines are. -/
def dp (_ : Nat → Int) (x y : Int) : Int := 1 + max x y
def deeps (K : Nat) (L : List (Nat → Int)) : List Int := readL dp (List.replicate K 0) L
def mxl (xs : List Int) : Int := xs.foldl max 0
theorem mxl_snoc (xs : List Int) (x : Int) : mxl (xs ++ [x]) = max (mxl xs) x := by rw [mxl, List.foldl_append]; rfl
def depth (k : Int) (L : List (Nat → Int)) (o : List Int) : Int := if isCirc k L o then mxl (deeps (3 + k).toNat L) else 0
theorem mxl_zeros (K : Nat) : mxl (List.replicate K 0) = 0 := by
  induction K with
  | zero => rfl
  | succ K ih => rw [List.replicate_succ', mxl_snoc, ih]; rfl
theorem fold_max {xs : List Int} {a b : Int} (h0 : a ≤ b) (h : ∀ x ∈ xs, x ≤ b) : a ≤ xs.foldl max a ∧ xs.foldl max a ≤ b := by
  induction xs generalizing a with
  | nil => exact ⟨Int.le_refl _, h0⟩
  | cons x xs ih =>
    have h1 := h x (by simp)
    have := ih (a := max a x) (by omega) (fun y hy => h y (by simp [hy]))
    rw [List.foldl_cons]; omega
theorem mxl_le {xs : List Int} {b : Int} (h0 : 0 ≤ b) (h : ∀ x ∈ xs, x ≤ b) : 0 ≤ mxl xs ∧ mxl xs ≤ b := fold_max h0 h
/-- Lines that are there. -/
theorem getD_mem {xs : List Int} {i : Nat} (h : i < xs.length) : xs.getD i 0 ∈ xs := by
  rw [List.getD_eq_getElem?_getD, List.getElem?_eq_getElem h]; exact List.getElem_mem h
theorem deeps_length (K : Nat) (L : List (Nat → Int)) : (deeps K L).length = K + L.length := by rw [deeps, readL_length, List.length_replicate]
theorem deeps_step (K : Nat) (L : List (Nat → Int)) {j : Nat} (h : j < L.length) : deeps K (L.take (j + 1)) = deeps K (L.take j) ++ [1 + max ((deeps K (L.take j)).getD ((L.getD j g0) 9).toNat 0) ((deeps K (L.take j)).getD ((L.getD j g0) 10).toNat 0)] := by
  rw [deeps, readL_step _ _ _ h]; rfl
theorem deeps_zero (K : Nat) (L : List (Nat → Int)) : deeps K (L.take 0) = List.replicate K 0 := rfl
theorem deeps_all (K : Nat) (L : List (Nat → Int)) : deeps K (L.take L.length) = deeps K L := by rw [List.take_length]
theorem gate_lines {k : Int} {L : List (Nat → Int)} {o : List Int} (h : isCirc k L o = true) {j : Nat} (hj : j < L.length) {g : Nat → Int} (hg : g = L.getD j g0) : ∃ A B : Nat, g 9 = (A : Int) ∧ g 10 = (B : Int) ∧ A < (3 + k).toNat + j ∧ B < (3 + k).toNat + j ∧ isTab g = true := by
  obtain ⟨hk, -, -, hG, -⟩ := (isCirc_iff _ _ _).1 h
  have := (gateOk_iff _ _).1 (gatesOk_at hG j hj)
  rw [← hg] at this
  obtain ⟨h1, h2, h3⟩ := this
  exact ⟨(g 9).toNat, (g 10).toNat, by omega, by omega, by omega, by omega, h1⟩
theorem dp_bound {xs : List Int} {L : List (Nat → Int)} (hx : ∀ x ∈ xs, x = 0) (hg : ∀ j, j < L.length → ∃ A B : Nat, (L.getD j g0) 9 = (A : Int) ∧ (L.getD j g0) 10 = (B : Int) ∧ A < xs.length + j ∧ B < xs.length + j) : ∀ j, j ≤ L.length → ∀ x ∈ readL dp xs (L.take j), 0 ≤ x ∧ x ≤ (j : Int) := by
  intro j
  induction j with
  | zero => intro _ x h; have := hx x h; omega
  | succ j ih =>
    intro hj x h
    have ihj := ih (by omega)
    obtain ⟨A, B, hA, hB, lA, lB⟩ := hg j (by omega)
    have DL : (readL dp xs (L.take j)).length = xs.length + j := by rw [readL_length, List.length_take]; omega
    have bA := ihj _ (getD_mem (i := A) (by omega))
    have bB := ihj _ (getD_mem (i := B) (by omega))
    rw [readL_step _ _ _ (show j < L.length by omega), hA, hB, Int.toNat_natCast, Int.toNat_natCast] at h
    rcases List.mem_append.1 h with h | h
    · have := ihj x h; omega
    · simp only [List.mem_singleton, dp] at h; omega
/-! ### What runs through the lines. -/
def lk (g : Nat → Int) (x y : Int) : Int := look g x y
def lines (i : List Int) (L : List (Nat → Int)) : List Int := readL lk ([-1, 0, 1] ++ i) L
def inOk (k : Int) (i : List Int) : Bool := decide ((i.length : Int) = k) && i.all isT
def linesOn (k : Int) (L : List (Nat → Int)) (o i : List Int) : Bool := isCirc k L o && inOk k i
def linesX (k : Int) (L : List (Nat → Int)) (o i : List Int) : List Int := if linesOn k L o i then lines i L else []
def outsX (k : Int) (L : List (Nat → Int)) (o i : List Int) : List Int := if linesOn k L o i then o.map fun x => (lines i L).getD x.toNat 0 else []
theorem lines_length (i : List Int) (L : List (Nat → Int)) : (lines i L).length = 3 + i.length + L.length := by rw [lines, readL_length, List.length_append]; rfl
theorem lines_trits {i : List Int} (L : List (Nat → Int)) (hi : i.all isT = true) : ∀ x ∈ lines i L, -1 ≤ x ∧ x ≤ 1 := by
  have key : ∀ (L : List (Nat → Int)) (o : List Int), (∀ x ∈ o, -1 ≤ x ∧ x ≤ 1) → ∀ x ∈ readL lk o L, -1 ≤ x ∧ x ≤ 1 := by
    intro L
    induction L with
    | nil => intro o h; exact h
    | cons g L ih =>
      intro o h
      rw [readL]
      refine ih _ fun x hx => ?_
      rcases List.mem_append.1 hx with hx | hx
      · exact h x hx
      · simp only [List.mem_singleton] at hx
        subst hx
        exact look_tt _ _ _
  refine key L _ fun x hx => ?_
  rcases List.mem_append.1 hx with hx | hx
  · simp at hx; omega
  · exact (isT_iff x).1 (List.all_eq_true.1 hi x hx)
theorem look_ix {g : Nat → Int} {x y : Int} (ht : isTab g = true) (hx : -1 ≤ x ∧ x ≤ 1) (hy : -1 ≤ y ∧ y ≤ 1) : look g x y = g (ix x y) := by
  rw [look, ht, (isT_iff x).2 hx, (isT_iff y).2 hy]; rfl
theorem linesOn_no {k : Int} {L : List (Nat → Int)} {o i : List Int} (h : linesOn k L o i = false) : linesX k L o i = [] ∧ outsX k L o i = [] := by rw [linesX, outsX, h]; exact ⟨rfl, rfl⟩
theorem linesOn_yes {k : Int} {L : List (Nat → Int)} {o i : List Int} (h : linesOn k L o i = true) : linesX k L o i = lines i L ∧ outsX k L o i = o.map fun x => (lines i L).getD x.toNat 0 := by rw [linesX, outsX, h]; exact ⟨rfl, rfl⟩
/-- The first outputs. -/
def outsTo (i : List Int) (L : List (Nat → Int)) (o : List Int) (j : Nat) : List Int := (o.take j).map fun x => (lines i L).getD x.toNat 0
theorem outsTo_length (i : List Int) (L : List (Nat → Int)) (o : List Int) {j : Nat} (h : j ≤ o.length) : (outsTo i L o j).length = j := by rw [outsTo, List.length_map, List.length_take]; omega
theorem outsTo_succ (i : List Int) (L : List (Nat → Int)) (o : List Int) {j : Nat} (h : j < o.length) : outsTo i L o (j + 1) = outsTo i L o j ++ [(lines i L).getD (o.getD j 0).toNat 0] := by
  rw [outsTo, take_snoc' o 0 h, List.map_append]; rfl
theorem outs_lines {k : Int} {L : List (Nat → Int)} {o : List Int} (h : isCirc k L o = true) {j : Nat} (hj : j < o.length) : ∃ A : Nat, o.getD j 0 = (A : Int) ∧ A < (3 + k).toNat + L.length := by
  obtain ⟨hk, -, -, -, hO⟩ := (isCirc_iff _ _ _).1 h
  have := linesOk_at hO j hj
  exact ⟨(o.getD j 0).toNat, by omega, by omega⟩
end Tm
end Go.Proofs.Ytjbmgppgkgacpaa

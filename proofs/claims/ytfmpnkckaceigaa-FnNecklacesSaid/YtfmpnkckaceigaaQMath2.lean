/- Plain facts of chapter 10: rotations, necklaces, Lyndon words, the sequence without squares. -/
import Derived.Test.YtfmpnkckaceigaaQMath
namespace Go.Proofs.Ytfmpnkckaceigaa
set_option maxRecDepth 20000
open Go.RowKit
namespace Tm
theorem tmod_rot (b k : Int) (hk : 0 < k) : (if b.tmod k < 0 then b.tmod k + k else b.tmod k) = b % k ∧ (b.tmod k + k).tmod k = b % k ∧ -k < b.tmod k ∧ b.tmod k < k := by
  have h1 := Int.emod_nonneg b (show k ≠ 0 by omega)
  have h2 := Int.emod_lt_of_pos b hk
  have e : b.tmod k = if 0 ≤ b ∨ k ∣ b then b % k else b % k - k := by
    rw [Int.tmod_eq_emod]; split <;> simp_all <;> omega
  rw [e]
  split
  · refine ⟨by rw [if_neg (by omega)], ?_, by omega, by omega⟩
    rw [Int.tmod_eq_emod_of_nonneg (by omega), Int.add_emod_right, Int.emod_eq_of_lt h1 h2]
  · rename_i hn
    have : 0 < b % k := by
      rcases Int.lt_or_le 0 (b % k) with h | h
      · exact h
      · exact absurd (Or.inr (Int.dvd_of_emod_eq_zero (by omega))) hn
    refine ⟨by rw [if_pos (by omega)]; omega, ?_, by omega, by omega⟩
    rw [show b % k - k + k = b % k from by omega, Int.tmod_eq_emod_of_nonneg h1, Int.emod_eq_of_lt h1 h2]
def rot (xs : List Int) (m : Nat) : List Int := xs.drop m ++ xs.take m
def rotM (xs : List Int) (b : Int) : Nat := (b % (xs.length : Int)).toNat
def rotW (xs : List Int) (b : Int) : List Int := if isW xs then rot xs (rotM xs b) else []
theorem rot_length (xs : List Int) (m : Nat) : (rot xs m).length = xs.length := by simp [rot]; omega
theorem rot_zero (xs : List Int) : rot xs 0 = xs := by simp [rot]
/-- slices.Compare. -/
def lexC : List Int → List Int → Int
  | [], [] => 0
  | [], _ :: _ => -1
  | _ :: _, [] => 1
  | a :: l, b :: m => if a < b then -1 else if b < a then 1 else lexC l m
theorem lexC_same (xs : List Int) : lexC xs xs = 0 := by
  induction xs with
  | nil => rfl
  | cons a l ih => rw [lexC, if_neg (by omega), if_neg (by omega), ih]
theorem lexC_bd (xs ys : List Int) : -1 ≤ lexC xs ys ∧ lexC xs ys ≤ 1 := by
  induction xs generalizing ys with
  | nil => cases ys <;> simp [lexC]
  | cons a l ih =>
    cases ys with
    | nil => simp [lexC]
    | cons b m =>
      rw [lexC]
      split
      · omega
      · split
        · omega
        · exact ih m
theorem lexC_at {xs ys : List Int} {k : Nat} (h1 : k < xs.length) (h2 : k < ys.length) : lexC (xs.drop k) (ys.drop k) = if xs.getD k 0 < ys.getD k 0 then -1 else if ys.getD k 0 < xs.getD k 0 then 1 else lexC (xs.drop (k + 1)) (ys.drop (k + 1)) := by
  rw [List.drop_eq_getElem_cons h1, List.drop_eq_getElem_cons h2, lexC]
  simp [List.getD_eq_getElem?_getD, List.getElem?_eq_getElem h1, List.getElem?_eq_getElem h2]
theorem lexC_out {xs ys : List Int} {k : Nat} (h1 : k < xs.length) (h2 : ys.length ≤ k) : lexC (xs.drop k) (ys.drop k) = 1 := by
  rw [List.drop_eq_getElem_cons h1, List.drop_of_length_le h2]; rfl
theorem lexC_end {xs ys : List Int} {k : Nat} (h1 : xs.length ≤ k) : lexC (xs.drop k) (ys.drop k) = if k < ys.length then -1 else 0 := by
  rw [List.drop_of_length_le h1]
  by_cases h2 : k < ys.length
  · rw [List.drop_eq_getElem_cons h2, if_pos h2]; rfl
  · rw [List.drop_of_length_le (by omega), if_neg h2]; rfl
/-- The least of the first m rotations. -/
def nkN (xs : List Int) : Nat → List Int
  | 0 => xs
  | m + 1 => if lexC (rot xs m) (nkN xs m) < 0 then rot xs m else nkN xs m
def nk (xs : List Int) : List Int := if isW xs then nkN xs xs.length else []
theorem nkN_length (xs : List Int) (m : Nat) : (nkN xs m).length = xs.length := by
  induction m with
  | zero => rfl
  | succ m ih => rw [nkN]; split <;> simp [rot_length, ih]
theorem nkN_one (xs : List Int) : nkN xs 1 = xs := by rw [nkN, rot_zero, nkN, lexC_same, if_neg (by omega)]
/-- Less than the rotations by 1 to m - 1. -/
def lynN (xs : List Int) : Nat → Bool
  | 0 => true
  | m + 1 => lynN xs m && (m == 0 || decide (lexC xs (rot xs m) < 0))
def lyn (xs : List Int) : Bool := isW xs && lynN xs xs.length
theorem lynN_one (xs : List Int) : lynN xs 1 = true := rfl
theorem lynN_no {xs : List Int} {m n : Nat} (h : lynN xs m = false) (hm : m ≤ n) : lynN xs n = false := by
  induction n with
  | zero => have : m = 0 := by omega
            subst this; exact h
  | succ n ih =>
    by_cases e : m = n + 1
    · subst e; exact h
    · rw [lynN, ih (by omega)]; rfl
theorem lynN_step {xs : List Int} {m : Nat} (h : 1 ≤ m) (hl : lynN xs m = true) : lynN xs (m + 1) = decide (lexC xs (rot xs m) < 0) := by
  rw [lynN, hl]; simp; omega
/-! Lyndon words -/
def cyc (xs : List Int) (k : Nat) : List Int := (List.range k).map fun i => xs.getD (i % xs.length) 0
def endN (xs : List Int) : Nat → Nat
  | 0 => 0
  | e + 1 => if xs.getD e 0 = 1 then endN xs e else e + 1
def up (xs : List Int) (e : Nat) : List Int := if e = 0 then [] else xs.take (e - 1) ++ [xs.getD (e - 1) 0 + 1]
def nx (xs : List Int) (k : Nat) : List Int := up (cyc xs k) (endN (cyc xs k) k)
theorem cyc_length (xs : List Int) (k : Nat) : (cyc xs k).length = k := by simp [cyc]
theorem cyc_at (xs : List Int) {k i : Nat} (h : i < k) : (cyc xs k).getD i 0 = xs.getD (i % xs.length) 0 := by
  simp [cyc, List.getD_eq_getElem?_getD, h]
theorem cyc_take (xs : List Int) {k i : Nat} (h : i ≤ k) : (cyc xs k).take i = cyc xs i := by
  apply List.ext_getElem?
  intro j
  simp only [cyc, List.getElem?_take, List.getElem?_map]
  by_cases hj : j < i
  · simp [hj, show j < k by omega]
  · rw [if_neg hj, List.getElem?_eq_none (by simp; omega)]; rfl
theorem cyc_succ (xs : List Int) (k : Nat) : cyc xs (k + 1) = cyc xs k ++ [xs.getD (k % xs.length) 0] := by simp [cyc, List.range_succ]
theorem endN_le (xs : List Int) (e : Nat) : endN xs e ≤ e := by
  induction e with
  | zero => exact Nat.le_refl _
  | succ e ih => rw [endN]; split <;> omega
theorem up_length (xs : List Int) (e : Nat) (h : e ≤ xs.length) : (up xs e).length = e := by
  unfold up; split
  · simp_all
  · simp; omega
theorem nx_length (xs : List Int) (k : Nat) : (nx xs k).length ≤ k := by
  rw [nx, up_length _ _ (by rw [cyc_length]; exact endN_le _ _)]; exact endN_le _ _
def lyw (k : Nat) : Nat → List Int
  | 0 => [-1]
  | j + 1 => nx (lyw k j) k
def lyT (k : Nat) : Nat → List (List Int)
  | 0 => []
  | j + 1 => lyT k j ++ (if k % (lyw k j).length = 0 then [lyw k j] else [])
def lyJ (k : Nat) : Nat := if k = 1 then 3 else if k = 2 then 6 else if k = 3 then 14 else if k = 4 then 32 else if k = 5 then 80 else if k = 6 then 196 else 508
def lyRun (k : Nat) : Nat → List Int → Bool
  | 0, xs => xs.length == 0
  | n + 1, xs => decide (1 ≤ xs.length) && decide (xs.length ≤ k) && xs.all isT && lyRun k n (nx xs k)
theorem lyRun_all : ∀ k : Fin 8, 1 ≤ k.1 → lyRun k.1 (lyJ k.1) [-1] = true := by decide +kernel
theorem lyRun_at {k J : Nat} {xs : List Int} (f : Nat → List Int) (h0 : f 0 = xs) (hs : ∀ j, f (j + 1) = nx (f j) k) (h : lyRun k J xs = true) : (f J).length = 0 ∧ ∀ j, j < J → 1 ≤ (f j).length ∧ (f j).length ≤ k ∧ (f j).all isT = true := by
  induction J generalizing xs f with
  | zero => subst h0; exact ⟨by simpa [lyRun] using h, fun j hj => by omega⟩
  | succ J ih =>
    simp only [lyRun, Bool.and_eq_true, decide_eq_true_eq] at h
    obtain ⟨⟨⟨h1, h2⟩, h3⟩, h4⟩ := h
    obtain ⟨e1, e2⟩ := ih (xs := nx xs k) (fun j => f (j + 1)) (by rw [hs, h0]) (fun j => hs (j + 1)) h4
    refine ⟨e1, fun j hj => ?_⟩
    cases j with
    | zero => rw [h0]; exact ⟨h1, h2, h3⟩
    | succ j => exact e2 j (by omega)
theorem lyw_at {k : Nat} (h1 : 1 ≤ k) (h7 : k ≤ 7) : (lyw k (lyJ k)).length = 0 ∧ ∀ j, j < lyJ k → 1 ≤ (lyw k j).length ∧ (lyw k j).length ≤ k ∧ (lyw k j).all isT = true :=
  lyRun_at (lyw k) rfl (fun _ => rfl) (lyRun_all ⟨k, by omega⟩ h1)
def lyOk (k : Int) : Bool := inB k 1 7
def lyW (k : Int) : List (List Int) := if lyOk k then lyT k.toNat (lyJ k.toNat) else []
theorem lyT_length (k j : Nat) : (lyT k j).length ≤ j := by
  induction j with
  | zero => exact Nat.le_refl _
  | succ j ih => rw [lyT, List.length_append]; split <;> simp <;> omega
theorem lyJ_bd (k : Nat) : lyJ k ≤ 508 := by unfold lyJ; (repeat' split) <;> omega
theorem lyW_length (k : Int) : (lyW k).length ≤ 508 := by
  unfold lyW; split
  · exact Nat.le_trans (lyT_length _ _) (lyJ_bd _)
  · simp
theorem lyT_mem {k J : Nat} {xs : List Int} (h : xs ∈ lyT k J) : ∃ j, j < J ∧ xs = lyw k j := by
  induction J with
  | zero => cases h
  | succ J ih =>
    rw [lyT, List.mem_append] at h
    rcases h with h | h
    · obtain ⟨j, hj, e⟩ := ih h; exact ⟨j, by omega, e⟩
    · split at h
      · exact ⟨J, by omega, by simpa using h⟩
      · cases h
theorem lyW_mem {k : Int} {xs : List Int} (h : xs ∈ lyW k) : 1 ≤ xs.length ∧ xs.length ≤ 7 ∧ xs.all isT = true := by
  unfold lyW at h
  split at h
  · rename_i ho
    have := (inB_iff _ _ _).1 ho
    obtain ⟨j, hj, rfl⟩ := lyT_mem h
    obtain ⟨a, b, c⟩ := (lyw_at (k := k.toNat) (by omega) (by omega)).2 j hj
    exact ⟨a, by omega, c⟩
  · cases h
def circle (k : Int) : List Int := (lyW k).flatten
/-! The sequence without squares -/
def part3 (t : Int) : List Int := if t = 1 then [1, 0, -1] else if t = 0 then [1, -1] else [0]
def thH : Nat → List Int
  | 0 => [1]
  | m + 1 => (thH m).flatMap part3
theorem flatMap_prefix {xs ys : List Int} (h : xs <+: ys) : xs.flatMap part3 <+: ys.flatMap part3 := by
  obtain ⟨u, rfl⟩ := h; rw [List.flatMap_append]; exact List.prefix_append _ _
theorem thH_more (m : Nat) : thH m <+: thH (m + 1) := by
  induction m with
  | zero => exact ⟨[0, -1], by decide⟩
  | succ m ih => exact flatMap_prefix ih
theorem thH_le {a b : Nat} (h : a ≤ b) : thH a <+: thH b := by
  induction b with
  | zero => have : a = 0 := by omega
            subst this; exact List.prefix_refl _
  | succ b ih =>
    by_cases e : a = b + 1
    · subst e; exact List.prefix_refl _
    · exact (ih (by omega)).trans (thH_more b)
theorem thH_len : (thH 9).length = 768 := by decide +kernel
def thT : List Int := thH 9
def thOk (n : Int) : Bool := inB n 0 500
def thue (n : Int) : List Int := if thOk n then thT.take n.toNat else []
theorem part3_len (t : Int) : 1 ≤ (part3 t).length ∧ (part3 t).length ≤ 3 := by unfold part3; split <;> (try split) <;> simp
theorem len_part3 (xs : List Int) : xs.length ≤ (xs.flatMap part3).length ∧ (xs.flatMap part3).length ≤ 3 * xs.length := by
  induction xs with
  | nil => simp
  | cons a l ih => have := part3_len a; simp only [List.flatMap_cons, List.length_append, List.length_cons]; omega
theorem take_of_prefix {xs ys : List Int} {n : Nat} (h : xs <+: ys) (hn : n ≤ xs.length) : xs.take n = ys.take n := by
  obtain ⟨u, rfl⟩ := h; rw [List.take_append_of_le_length hn]
theorem thT_isT : thT.all isT = true := by decide +kernel
theorem thH_isT {m : Nat} (h : m ≤ 9) : ∀ x ∈ thH m, isT x = true := by
  intro x hx
  obtain ⟨u, e⟩ := thH_le h
  have : x ∈ thT := by rw [thT, ← e]; exact List.mem_append_left _ hx
  exact List.all_eq_true.1 thT_isT x this
/-- The program's way: what the first i trits are replaced by. -/
def thF (i : Nat) : List Int := (thT.take i).flatMap part3
theorem thT_len : thT.length = 768 := thH_len
theorem thF_succ {i : Nat} (h : i < 768) : thF (i + 1) = thF i ++ part3 (thT.getD i 0) := by
  rw [thF, List.take_succ_eq_append_getElem (by rw [thT_len]; exact h), List.flatMap_append, thF]
  simp [List.getD_eq_getElem?_getD, List.getElem?_eq_getElem (show i < thT.length by rw [thT_len]; exact h)]
theorem prefix_both {xs ys zs : List Int} (h1 : xs <+: zs) (h2 : ys <+: zs) (h : xs.length ≤ ys.length) : xs <+: ys := List.prefix_of_prefix_length_le h1 h2 h
theorem thF_prefix {i : Nat} (h : (thF i).length ≤ 768) : thF i <+: thT :=
  prefix_both (flatMap_prefix (List.take_prefix i thT)) (thH_more 9) (by rw [thT_len]; exact h)
theorem thF_len {i : Nat} (h : i ≤ 768) : i ≤ (thF i).length := by
  have := (len_part3 (thT.take i)).1
  rw [List.length_take, thT_len] at this
  rw [thF]; omega
theorem thF_one : thF 1 = [1, 0, -1] := by decide +kernel
theorem thF_more {i : Nat} (h1 : 1 ≤ i) (h : i ≤ 768) : i + 1 ≤ (thF i).length := by
  obtain ⟨j, rfl⟩ : ∃ j, i = j + 1 := ⟨i - 1, by omega⟩
  clear h1
  induction j with
  | zero => rw [thF_one]; decide
  | succ j ih =>
    have := ih (by omega)
    have p := part3_len (thT.getD (j + 1) 0)
    rw [thF_succ (by omega), List.length_append]; omega
theorem thF_at {i j : Nat} (hl : (thF i).length ≤ 768) (hj : j < (thF i).length) : (thF i).getD j 0 = thT.getD j 0 := by
  obtain ⟨u, e⟩ := thF_prefix hl
  rw [← e, List.getD_eq_getElem?_getD, List.getD_eq_getElem?_getD, List.getElem?_append_left hj]
/-! Squares -/
/-- The part from 'f' of 's' elements is followed by an equal one. -/
def SqAt (xs : List Int) (f s : Nat) : Prop := f + 2 * s ≤ xs.length ∧ ∀ j, j < s → xs.getD (f + j) 0 = xs.getD (f + s + j) 0
def HasSq (xs : List Int) : Prop := ∃ f s, 1 ≤ s ∧ SqAt xs f s
noncomputable def hsq (xs : List Int) : Bool := @decide (HasSq xs) (Classical.propDecidable _)
noncomputable def hsqOf (xs : List Int) (s : Nat) : Bool := @decide (∃ f, SqAt xs f s) (Classical.propDecidable _)
theorem hsq_iff (xs : List Int) : hsq xs = true ↔ HasSq xs := @decide_eq_true_iff _ (Classical.propDecidable _)
theorem hsq_iffn (xs : List Int) : hsq xs = false ↔ ¬ HasSq xs := by rw [← hsq_iff]; simp
theorem hsqOf_iff (xs : List Int) (s : Nat) : hsqOf xs s = true ↔ ∃ f, SqAt xs f s := @decide_eq_true_iff _ (Classical.propDecidable _)
theorem hsqOf_iffn (xs : List Int) (s : Nat) : hsqOf xs s = false ↔ ¬ ∃ f, SqAt xs f s := by rw [← hsqOf_iff]; simp
/-- How many in a row are equal to those s places behind them, up to place i. -/
def rowN (xs : List Int) (s : Nat) : Nat → Nat
  | 0 => 0
  | i + 1 => if xs.getD (s + i) 0 = xs.getD i 0 then rowN xs s i + 1 else 0
theorem rowN_le (xs : List Int) (s i : Nat) : rowN xs s i ≤ i := by
  induction i with
  | zero => exact Nat.le_refl _
  | succ i ih => rw [rowN]; split <;> omega
theorem rowN_eq (xs : List Int) (s i j : Nat) (h : j < rowN xs s i) : xs.getD (s + (i - 1 - j)) 0 = xs.getD (i - 1 - j) 0 := by
  induction i generalizing j with
  | zero => simp [rowN] at h
  | succ i ih =>
    rw [rowN] at h
    split at h
    · cases j with
      | zero => assumption
      | succ j => have := ih j (by omega); rwa [show i + 1 - 1 - (j + 1) = i - 1 - j from by omega]
    · omega
theorem rowN_ge (xs : List Int) (s i d : Nat) (h : ∀ j, j < d → xs.getD (s + (i - 1 - j)) 0 = xs.getD (i - 1 - j) 0) (hd : d ≤ i) : d ≤ rowN xs s i := by
  induction i generalizing d with
  | zero => omega
  | succ i ih =>
    cases d with
    | zero => omega
    | succ d =>
      have h0 : xs.getD (s + i) 0 = xs.getD i 0 := h 0 (by omega)
      rw [rowN, if_pos h0]
      have := ih d (fun j hj => by have := h (j + 1) (by omega); rwa [show i + 1 - 1 - (j + 1) = i - 1 - j from by omega] at this) (by omega)
      omega
theorem hsqOf_yes {xs : List Int} {s i : Nat} (h : s ≤ rowN xs s i) (hi : s + i ≤ xs.length) : hsqOf xs s = true := by
  have hr := rowN_le xs s i
  refine (hsqOf_iff _ _).2 ⟨i - s, by omega, fun j hj => ?_⟩
  have := rowN_eq xs s i (s - 1 - j) (by omega)
  rw [show i - 1 - (s - 1 - j) = i - s + j from by omega] at this
  rw [← this]; congr 1; omega
theorem hsqOf_no {xs : List Int} {s : Nat} (h : ∀ i, s + i ≤ xs.length → rowN xs s i < s) : hsqOf xs s = false := by
  refine (hsqOf_iffn _ _).2 ?_
  rintro ⟨f, hf, he⟩
  have := h (f + s) (by omega)
  have g := rowN_ge xs s (f + s) s (fun j hj => by
    have := he (s - 1 - j) (by omega)
    rw [show f + s - 1 - j = f + (s - 1 - j) from by omega, this]; congr 1; omega) (by omega)
  omega
theorem hsq_yes {xs : List Int} {s : Nat} (h1 : 1 ≤ s) (h : hsqOf xs s = true) : hsq xs = true := by
  obtain ⟨f, hf⟩ := (hsqOf_iff _ _).1 h
  exact (hsq_iff _).2 ⟨f, s, h1, hf⟩
theorem hsq_no {xs : List Int} (h : ∀ s, 1 ≤ s → s ≤ xs.length / 2 → hsqOf xs s = false) : hsq xs = false := by
  refine (hsq_iffn _).2 ?_
  rintro ⟨f, s, h1, hf⟩
  exact (hsqOf_iffn _ _).1 (h s h1 (by have := hf.1; omega)) ⟨f, hf⟩
theorem hsq_at {xs : List Int} {f s : Nat} (h1 : 1 ≤ s) (h : SqAt xs f s) : hsq xs = true := (hsq_iff _).2 ⟨f, s, h1, h⟩
theorem hsq_none {xs : List Int} (h : ∀ f s, 1 ≤ s → f + 2 * s ≤ xs.length → ¬ SqAt xs f s) : hsq xs = false := by
  refine (hsq_iffn _).2 ?_
  rintro ⟨f, s, h1, hf⟩
  exact h f s h1 hf.1 hf
end Tm
end Go.Proofs.Ytfmpnkckaceigaa

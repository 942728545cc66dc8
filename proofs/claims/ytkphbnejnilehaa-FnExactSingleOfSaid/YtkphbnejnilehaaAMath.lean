/- Plain facts on sums of words: no program, no world. -/
import Derived.Test.YtkphbnejnilehaaRow2
import Derived.Test.YtkphbnejnilehaaWVal
namespace Go.Proofs.Ytkphbnejnilehaa
namespace Tm
/-- The carry into the place i. -/
def crr (xs ys : List Int) (c : Int) : Nat → Int
  | 0 => c
  | i + 1 => full2 (xs.getD i 0) (ys.getD i 0) (crr xs ys c i)
def sumF (xs ys : List Int) (c : Int) (i : Nat) : Int := full1 (xs.getD i 0) (ys.getD i 0) (crr xs ys c i)
def fit (xs ys : List Int) : Bool := isW xs && isW ys && decide (xs.length = ys.length)
def addOk (xs ys : List Int) (c : Int) : Bool := fit xs ys && isT c
def addL (xs ys : List Int) (c : Int) : List Int := genL xs.length (sumF xs ys c)
def crsL (xs ys : List Int) (c : Int) : List Int := genL xs.length (crr xs ys c)
def add (xs ys : List Int) (c : Int) : List Int := if addOk xs ys c then addL xs ys c else []
def addC (xs ys : List Int) (c : Int) : Int := if addOk xs ys c then crr xs ys c xs.length else 0
def crs (xs ys : List Int) (c : Int) : List Int := if addOk xs ys c then crsL xs ys c else []
theorem fit_iff (xs ys : List Int) : fit xs ys = true ↔ isW xs = true ∧ isW ys = true ∧ xs.length = ys.length := by simp [fit, and_assoc]
theorem full_spec {a b c : Int} (ha : -1 ≤ a ∧ a ≤ 1) (hb : -1 ≤ b ∧ b ≤ 1) (hc : -1 ≤ c ∧ c ≤ 1) :
    -1 ≤ full1 a b c ∧ full1 a b c ≤ 1 ∧ -1 ≤ full2 a b c ∧ full2 a b c ≤ 1 ∧ full1 a b c + 3 * full2 a b c = a + b + c := by
  have h1 : (isT a && isT b && isT c) = true := by simp [isT]; omega
  rw [full1, full2, if_pos h1, if_pos h1, sp1, sp2]
  (repeat' split) <;> refine ⟨?_, ?_, ?_, ?_, ?_⟩ <;> omega
theorem full_swap (a b c : Int) : full1 a b c = full1 b a c ∧ full2 a b c = full2 b a c := by
  rw [full1, full2, full1, full2, Bool.and_comm (isT a), Int.add_comm a b]; exact ⟨rfl, rfl⟩
theorem crr_bd {xs ys : List Int} (hx : isW xs = true) (hy : isW ys = true) {c : Int} (hc : -1 ≤ c ∧ c ≤ 1) (i : Nat) : -1 ≤ crr xs ys c i ∧ crr xs ys c i ≤ 1 := by
  induction i with
  | zero => exact hc
  | succ i ih =>
    have := full_spec (isW_at hx i) (isW_at hy i) ih
    exact ⟨this.2.2.1, this.2.2.2.1⟩
theorem sumF_bd {xs ys : List Int} (hx : isW xs = true) (hy : isW ys = true) {c : Int} (hc : -1 ≤ c ∧ c ≤ 1) (i : Nat) : -1 ≤ sumF xs ys c i ∧ sumF xs ys c i ≤ 1 := by
  have := full_spec (isW_at hx i) (isW_at hy i) (crr_bd hx hy hc i)
  exact ⟨this.1, this.2.1⟩
theorem val_gen (n : Nat) (g : Nat → Int) : val (genL (n + 1) g) = val (genL n g) + pow3 n * g n := by
  rw [genL_succ, val_append, genL_length]; simp [val]
theorem val_gen0 (g : Nat → Int) : val (genL 0 g) = 0 := rfl
theorem genL_self (xs : List Int) : genL xs.length (fun i => xs.getD i 0) = xs := by
  apply List.ext_getElem (by simp [genL])
  intro i h1 h2
  simp [genL, h2]
theorem crr_swap (xs ys : List Int) (c : Int) (i : Nat) : crr xs ys c i = crr ys xs c i := by
  induction i with
  | zero => rfl
  | succ i ih => rw [crr, crr, ih, (full_swap _ _ _).2]
theorem addL_swap {xs ys : List Int} (h : xs.length = ys.length) (c : Int) : addL xs ys c = addL ys xs c := by
  rw [addL, addL, h]
  congr 1
  funext i
  rw [sumF, sumF, crr_swap, (full_swap _ _ _).1]
theorem fit_swap (xs ys : List Int) : fit xs ys = fit ys xs := by
  have : fit xs ys = true ↔ fit ys xs = true := by rw [fit_iff, fit_iff]; exact ⟨fun ⟨a, b, c⟩ => ⟨b, a, c.symm⟩, fun ⟨a, b, c⟩ => ⟨b, a, c.symm⟩⟩
  cases e : fit xs ys <;> cases e2 : fit ys xs <;> simp_all
/-- The value of the lower i places of a sum, with the carry out of them. -/
theorem add_val_at {xs ys : List Int} (hx : isW xs = true) (hy : isW ys = true) {c : Int} (hc : -1 ≤ c ∧ c ≤ 1) (i : Nat) :
    val (genL i (sumF xs ys c)) + pow3 i * crr xs ys c i = val (genL i (fun j => xs.getD j 0)) + val (genL i (fun j => ys.getD j 0)) + c := by
  induction i with
  | zero => simp [val_gen0, crr, pow3]
  | succ i ih =>
    have s := (full_spec (isW_at hx i) (isW_at hy i) (crr_bd hx hy hc i)).2.2.2.2
    rw [val_gen, val_gen, val_gen, pow3_succ, crr, sumF]
    have e : pow3 i * full1 (xs.getD i 0) (ys.getD i 0) (crr xs ys c i) + 3 * pow3 i * full2 (xs.getD i 0) (ys.getD i 0) (crr xs ys c i) = pow3 i * (xs.getD i 0) + pow3 i * (ys.getD i 0) + pow3 i * crr xs ys c i := by
      rw [← Int.mul_add, ← Int.mul_add, ← s, Int.mul_add, Int.mul_comm 3 (pow3 i), Int.mul_assoc]
    omega
theorem add_val {xs ys : List Int} {c : Int} (h : addOk xs ys c = true) : val (addL xs ys c) + pow3 xs.length * crr xs ys c xs.length = val xs + val ys + c := by
  rw [addOk, Bool.and_eq_true, fit_iff] at h
  obtain ⟨⟨hx, hy, hl⟩, hc⟩ := h
  have := add_val_at hx hy ((isT_iff c).1 hc) xs.length
  rwa [genL_self, hl, genL_self, ← hl] at this
theorem isW_gen {n : Nat} {g : Nat → Int} (h1 : 1 ≤ n) (h2 : n ≤ 30) (h : ∀ i, -1 ≤ g i ∧ g i ≤ 1) : isW (genL n g) = true := by
  refine isW_mk (fun x hx => ?_) (by rw [genL_length]; exact h1) (by rw [genL_length]; exact h2)
  obtain ⟨i, _, rfl⟩ := List.mem_map.1 hx
  exact h i
theorem isW_add {xs ys : List Int} {c : Int} (h : addOk xs ys c = true) : isW (addL xs ys c) = true := by
  rw [addOk, Bool.and_eq_true, fit_iff] at h
  obtain ⟨⟨hx, hy, hl⟩, hc⟩ := h
  obtain ⟨_, h1, h2⟩ := (isW_iff xs).1 hx
  exact isW_gen h1 h2 (sumF_bd hx hy ((isT_iff c).1 hc))
/-- Three words saved as two. -/
def sav1 (xs ys zs : List Int) (i : Nat) : Int := full1 (xs.getD i 0) (ys.getD i 0) (zs.getD i 0)
def sav2 (xs ys zs : List Int) : Nat → Int
  | 0 => 0
  | i + 1 => full2 (xs.getD i 0) (ys.getD i 0) (zs.getD i 0)
def savOk (xs ys zs : List Int) : Bool := fit xs ys && fit xs zs
def sv1 (xs ys zs : List Int) : List Int := if savOk xs ys zs then genL xs.length (sav1 xs ys zs) else []
def sv2 (xs ys zs : List Int) : List Int := if savOk xs ys zs then genL xs.length (sav2 xs ys zs) else []
/-- Redundant numbers. -/
def isD (x : Int) : Bool := inB x (-2) 2
def isR (xs : List Int) : Bool := xs.all isD && decide (1 ≤ xs.length ∧ xs.length ≤ 30)
def valR (xs : List Int) : Int := if isR xs then val xs else 0
def trs (xs ys : List Int) (i : Nat) : Int := if 2 ≤ xs.getD i 0 + ys.getD i 0 then 1 else if xs.getD i 0 + ys.getD i 0 ≤ -2 then -1 else 0
def blw (xs ys : List Int) : Nat → Int
  | 0 => 0
  | i + 1 => trs xs ys i
def dgt (xs ys : List Int) (i : Nat) : Int := xs.getD i 0 + ys.getD i 0 - 3 * trs xs ys i + blw xs ys i
def radOk (xs ys : List Int) : Bool := isR xs && isR ys && decide (xs.length = ys.length ∧ xs.length < 30)
def rad (xs ys : List Int) : List Int := if radOk xs ys then genL (xs.length + 1) (dgt xs ys) else []
def nrmOk (xs : List Int) : Bool := isR xs && wordOk (val xs) xs.length
def nrm (xs : List Int) : List Int := if isR xs then word (val xs) xs.length else []
def incOk (xs : List Int) : Bool := isW xs && wordOk (val xs + 1) xs.length
def inc (xs : List Int) : List Int := if isW xs then word (val xs + 1) xs.length else []
theorem isR_iff (xs : List Int) : isR xs = true ↔ (∀ x ∈ xs, -2 ≤ x ∧ x ≤ 2) ∧ 1 ≤ xs.length ∧ xs.length ≤ 30 := by
  simp [isR, List.all_eq_true, isD, inB]
theorem dig_at {xs : List Int} (h : ∀ x ∈ xs, -2 ≤ x ∧ x ≤ 2) (i : Nat) : -2 ≤ xs.getD i 0 ∧ xs.getD i 0 ≤ 2 := by
  rw [List.getD_eq_getElem?_getD]
  by_cases hi : i < xs.length
  · rw [List.getElem?_eq_getElem hi]; exact h _ (List.getElem_mem hi)
  · rw [List.getElem?_eq_none (by omega)]; simp
theorem valD_bd (xs : List Int) (h : ∀ x ∈ xs, -2 ≤ x ∧ x ≤ 2) : -(2 * limN xs.length) ≤ val xs ∧ val xs ≤ 2 * limN xs.length := by
  induction xs with
  | nil => simp [val, limN]
  | cons a l ih =>
    have h1 := h a (by simp)
    have h2 := ih (fun x hx => h x (by simp [hx]))
    simp only [val, List.length_cons, limN]
    omega
theorem valD_drop {xs : List Int} (h : ∀ x ∈ xs, -2 ≤ x ∧ x ≤ 2) (hl : xs.length ≤ 30) (k : Nat) : -205891132094648 ≤ val (xs.drop k) ∧ val (xs.drop k) ≤ 205891132094648 := by
  have hb := valD_bd (xs.drop k) (fun x hx => h x (List.mem_of_mem_drop hx))
  have hl : limN (xs.drop k).length ≤ 102945566047324 := limN_le (by simp; omega)
  omega
theorem isW_isR {xs : List Int} (h : isW xs = true) : (∀ x ∈ xs, -2 ≤ x ∧ x ≤ 2) ∧ xs.length ≤ 30 := by
  obtain ⟨h1, _, h3⟩ := (isW_iff xs).1 h
  exact ⟨fun x hx => by have := h1 x hx; omega, h3⟩
end Tm
end Go.Proofs.Ytkphbnejnilehaa

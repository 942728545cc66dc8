/- Plain facts on sums of words: no program, no world. Plain facts on carry maps and redundant sums: no program, no world. Plain facts on sums of many words: no program, no world. Plain facts on sums of many words, on: the sum is a word, and does not hang on the order. -/
import Derived.Test.YtfmpnkckaceigaaRow2
import Derived.Test.YtfmpnkckaceigaaWVal
namespace Go.Proofs.Ytfmpnkckaceigaa
set_option maxRecDepth 20000
open Go.RowKit
namespace Tm
/-- The carry into the place i. -/
def crr (xs ys : List Int) (c : Int) : Nat → Int
  | 0 => c
  | i + 1 => full2 (xs.getD i 0) (ys.getD i 0) (crr xs ys c i)
def sumF (xs ys : List Int) (c : Int) (i : Nat) : Int := full1 (xs.getD i 0) (ys.getD i 0) (crr xs ys c i)
def fit (xs ys : List Int) : Bool := isW xs && isW ys && decide (xs.length = ys.length)
def addOk (xs ys : List Int) (c : Int) : Bool := fit xs ys && isT c
def addL (xs ys : List Int) (c : Int) : List Int := genL xs.length (sumF xs ys c)
def crsL (xs ys : List Int) (c : Int) : List Int := genL xs.length (crr xs ys c)
def add (xs ys : List Int) (c : Int) : List Int := if addOk xs ys c then addL xs ys c else []
def addC (xs ys : List Int) (c : Int) : Int := if addOk xs ys c then crr xs ys c xs.length else 0
def crs (xs ys : List Int) (c : Int) : List Int := if addOk xs ys c then crsL xs ys c else []
theorem fit_iff (xs ys : List Int) : fit xs ys = true ↔ isW xs = true ∧ isW ys = true ∧ xs.length = ys.length := by simp [fit, and_assoc]
theorem full_spec {a b c : Int} (ha : -1 ≤ a ∧ a ≤ 1) (hb : -1 ≤ b ∧ b ≤ 1) (hc : -1 ≤ c ∧ c ≤ 1) :
    -1 ≤ full1 a b c ∧ full1 a b c ≤ 1 ∧ -1 ≤ full2 a b c ∧ full2 a b c ≤ 1 ∧ full1 a b c + 3 * full2 a b c = a + b + c := by
  have h1 : (isT a && isT b && isT c) = true := by simp [isT]; omega
  rw [full1, full2, if_pos h1, if_pos h1, sp1, sp2]
  (repeat' split) <;> refine ⟨?_, ?_, ?_, ?_, ?_⟩ <;> omega
theorem full_swap (a b c : Int) : full1 a b c = full1 b a c ∧ full2 a b c = full2 b a c := by
  rw [full1, full2, full1, full2, Bool.and_comm (isT a), Int.add_comm a b]; exact ⟨rfl, rfl⟩
theorem crr_bd {xs ys : List Int} (hx : isW xs = true) (hy : isW ys = true) {c : Int} (hc : -1 ≤ c ∧ c ≤ 1) (i : Nat) : -1 ≤ crr xs ys c i ∧ crr xs ys c i ≤ 1 := by
  induction i with
  | zero => exact hc
  | succ i ih =>
    have := full_spec (isW_at hx i) (isW_at hy i) ih
    exact ⟨this.2.2.1, this.2.2.2.1⟩
theorem sumF_bd {xs ys : List Int} (hx : isW xs = true) (hy : isW ys = true) {c : Int} (hc : -1 ≤ c ∧ c ≤ 1) (i : Nat) : -1 ≤ sumF xs ys c i ∧ sumF xs ys c i ≤ 1 := by
  have := full_spec (isW_at hx i) (isW_at hy i) (crr_bd hx hy hc i)
  exact ⟨this.1, this.2.1⟩
theorem val_gen (n : Nat) (g : Nat → Int) : val (genL (n + 1) g) = val (genL n g) + pow3 n * g n := by
  rw [genL_succ, val_append, genL_length]; simp [val]
theorem val_gen0 (g : Nat → Int) : val (genL 0 g) = 0 := rfl
theorem genL_self (xs : List Int) : genL xs.length (fun i => xs.getD i 0) = xs := by
  apply List.ext_getElem (by simp [genL])
  intro i h1 h2
  simp [genL, h2]
theorem crr_swap (xs ys : List Int) (c : Int) (i : Nat) : crr xs ys c i = crr ys xs c i := by
  induction i with
  | zero => rfl
  | succ i ih => rw [crr, crr, ih, (full_swap _ _ _).2]
theorem addL_swap {xs ys : List Int} (h : xs.length = ys.length) (c : Int) : addL xs ys c = addL ys xs c := by
  rw [addL, addL, h]
  congr 1
  funext i
  rw [sumF, sumF, crr_swap, (full_swap _ _ _).1]
theorem fit_swap (xs ys : List Int) : fit xs ys = fit ys xs := by
  have : fit xs ys = true ↔ fit ys xs = true := by rw [fit_iff, fit_iff]; exact ⟨fun ⟨a, b, c⟩ => ⟨b, a, c.symm⟩, fun ⟨a, b, c⟩ => ⟨b, a, c.symm⟩⟩
  cases e : fit xs ys <;> cases e2 : fit ys xs <;> simp_all
/-- The value of the lower i places of a sum, with the carry out of them. -/
theorem add_val_at {xs ys : List Int} (hx : isW xs = true) (hy : isW ys = true) {c : Int} (hc : -1 ≤ c ∧ c ≤ 1) (i : Nat) :
    val (genL i (sumF xs ys c)) + pow3 i * crr xs ys c i = val (genL i (fun j => xs.getD j 0)) + val (genL i (fun j => ys.getD j 0)) + c := by
  induction i with
  | zero => simp [val_gen0, crr, pow3]
  | succ i ih =>
    have s := (full_spec (isW_at hx i) (isW_at hy i) (crr_bd hx hy hc i)).2.2.2.2
    rw [val_gen, val_gen, val_gen, pow3_succ, crr, sumF]
    have e : pow3 i * full1 (xs.getD i 0) (ys.getD i 0) (crr xs ys c i) + 3 * pow3 i * full2 (xs.getD i 0) (ys.getD i 0) (crr xs ys c i) = pow3 i * (xs.getD i 0) + pow3 i * (ys.getD i 0) + pow3 i * crr xs ys c i := by
      rw [← Int.mul_add, ← Int.mul_add, ← s, Int.mul_add, Int.mul_comm 3 (pow3 i), Int.mul_assoc]
    omega
theorem add_val {xs ys : List Int} {c : Int} (h : addOk xs ys c = true) : val (addL xs ys c) + pow3 xs.length * crr xs ys c xs.length = val xs + val ys + c := by
  rw [addOk, Bool.and_eq_true, fit_iff] at h
  obtain ⟨⟨hx, hy, hl⟩, hc⟩ := h
  have := add_val_at hx hy ((isT_iff c).1 hc) xs.length
  rwa [genL_self, hl, genL_self, ← hl] at this
theorem isW_gen {n : Nat} {g : Nat → Int} (h1 : 1 ≤ n) (h2 : n ≤ 30) (h : ∀ i, -1 ≤ g i ∧ g i ≤ 1) : isW (genL n g) = true := by
  refine isW_mk (fun x hx => ?_) (by rw [genL_length]; exact h1) (by rw [genL_length]; exact h2)
  obtain ⟨i, _, rfl⟩ := List.mem_map.1 hx
  exact h i
theorem isW_add {xs ys : List Int} {c : Int} (h : addOk xs ys c = true) : isW (addL xs ys c) = true := by
  rw [addOk, Bool.and_eq_true, fit_iff] at h
  obtain ⟨⟨hx, hy, hl⟩, hc⟩ := h
  obtain ⟨_, h1, h2⟩ := (isW_iff xs).1 hx
  exact isW_gen h1 h2 (sumF_bd hx hy ((isT_iff c).1 hc))
/-- Three words saved as two. -/
def sav1 (xs ys zs : List Int) (i : Nat) : Int := full1 (xs.getD i 0) (ys.getD i 0) (zs.getD i 0)
def sav2 (xs ys zs : List Int) : Nat → Int
  | 0 => 0
  | i + 1 => full2 (xs.getD i 0) (ys.getD i 0) (zs.getD i 0)
def savOk (xs ys zs : List Int) : Bool := fit xs ys && fit xs zs
def sv1 (xs ys zs : List Int) : List Int := if savOk xs ys zs then genL xs.length (sav1 xs ys zs) else []
def sv2 (xs ys zs : List Int) : List Int := if savOk xs ys zs then genL xs.length (sav2 xs ys zs) else []
/-- Redundant numbers. -/
def isD (x : Int) : Bool := inB x (-2) 2
def isR (xs : List Int) : Bool := xs.all isD && decide (1 ≤ xs.length ∧ xs.length ≤ 30)
def valR (xs : List Int) : Int := if isR xs then val xs else 0
def trs (xs ys : List Int) (i : Nat) : Int := if 2 ≤ xs.getD i 0 + ys.getD i 0 then 1 else if xs.getD i 0 + ys.getD i 0 ≤ -2 then -1 else 0
def blw (xs ys : List Int) : Nat → Int
  | 0 => 0
  | i + 1 => trs xs ys i
def dgt (xs ys : List Int) (i : Nat) : Int := xs.getD i 0 + ys.getD i 0 - 3 * trs xs ys i + blw xs ys i
def radOk (xs ys : List Int) : Bool := isR xs && isR ys && decide (xs.length = ys.length ∧ xs.length < 30)
def rad (xs ys : List Int) : List Int := if radOk xs ys then genL (xs.length + 1) (dgt xs ys) else []
def nrmOk (xs : List Int) : Bool := isR xs && wordOk (val xs) xs.length
def nrm (xs : List Int) : List Int := if isR xs then word (val xs) xs.length else []
def incOk (xs : List Int) : Bool := isW xs && wordOk (val xs + 1) xs.length
def inc (xs : List Int) : List Int := if isW xs then word (val xs + 1) xs.length else []
theorem isR_iff (xs : List Int) : isR xs = true ↔ (∀ x ∈ xs, -2 ≤ x ∧ x ≤ 2) ∧ 1 ≤ xs.length ∧ xs.length ≤ 30 := by
  simp [isR, List.all_eq_true, isD, inB]
theorem dig_at {xs : List Int} (h : ∀ x ∈ xs, -2 ≤ x ∧ x ≤ 2) (i : Nat) : -2 ≤ xs.getD i 0 ∧ xs.getD i 0 ≤ 2 := by
  rw [List.getD_eq_getElem?_getD]
  by_cases hi : i < xs.length
  · rw [List.getElem?_eq_getElem hi]; exact h _ (List.getElem_mem hi)
  · rw [List.getElem?_eq_none (by omega)]; simp
theorem valD_bd (xs : List Int) (h : ∀ x ∈ xs, -2 ≤ x ∧ x ≤ 2) : -(2 * limN xs.length) ≤ val xs ∧ val xs ≤ 2 * limN xs.length := by
  induction xs with
  | nil => simp [val, limN]
  | cons a l ih =>
    have h1 := h a (by simp)
    have h2 := ih (fun x hx => h x (by simp [hx]))
    simp only [val, List.length_cons, limN]
    omega
theorem valD_drop {xs : List Int} (h : ∀ x ∈ xs, -2 ≤ x ∧ x ≤ 2) (hl : xs.length ≤ 30) (k : Nat) : -205891132094648 ≤ val (xs.drop k) ∧ val (xs.drop k) ≤ 205891132094648 := by
  have hb := valD_bd (xs.drop k) (fun x hx => h x (List.mem_of_mem_drop hx))
  have hl : limN (xs.drop k).length ≤ 102945566047324 := limN_le (by simp; omega)
  omega
theorem isW_isR {xs : List Int} (h : isW xs = true) : (∀ x ∈ xs, -2 ≤ x ∧ x ≤ 2) ∧ xs.length ≤ 30 := by
  obtain ⟨h1, _, h3⟩ := (isW_iff xs).1 h
  exact ⟨fun x hx => by have := h1 x hx; omega, h3⟩
end Tm
abbrev mapV (f : Nat → Int) : Value := .agg #[.int .i64 (f 0), .int .i64 (f 1), .int .i64 (f 2)]
theorem mapV_eq {f g : Nat → Int} (h0 : f 0 = g 0) (h1 : f 1 = g 1) (h2 : f 2 = g 2) : mapV f = mapV g := by rw [mapV, mapV, h0, h1, h2]
namespace Tm
def t3 (f : Nat → Int) : Bool := isT (f 0) && isT (f 1) && isT (f 2)
def mp (a b : Int) (i : Nat) : Int := full2 a b ((i : Int) - 1)
def thn (f g : Nat → Int) (i : Nat) : Int := if t3 f && t3 g then g (f i + 1).toNat else 0
theorem t3_iff (f : Nat → Int) : t3 f = true ↔ (-1 ≤ f 0 ∧ f 0 ≤ 1) ∧ (-1 ≤ f 1 ∧ f 1 ≤ 1) ∧ (-1 ≤ f 2 ∧ f 2 ≤ 1) := by simp [t3, isT, and_assoc]
theorem t3_at {f : Nat → Int} (h : t3 f = true) {i : Nat} (hi : i < 3) : -1 ≤ f i ∧ f i ≤ 1 := by
  obtain ⟨h0, h1, h2⟩ := (t3_iff f).1 h
  match i, hi with
  | 0, _ => exact h0
  | 1, _ => exact h1
  | 2, _ => exact h2
theorem mp_t3 (a b : Int) : t3 (mp a b) = true := by
  have h : ∀ c, -1 ≤ full2 a b c ∧ full2 a b c ≤ 1 := by
    intro c
    rw [full2]
    split
    · unfold sp2; repeat' split
      all_goals omega
    · omega
  rw [t3_iff]
  exact ⟨h _, h _, h _⟩
theorem mp_at (a b c : Int) (hc : -1 ≤ c) : mp a b (c + 1).toNat = full2 a b c := by
  rw [mp]; congr 1; omega
theorem thn_t3 {f g : Nat → Int} (hf : t3 f = true) (hg : t3 g = true) : t3 (thn f g) = true := by
  rw [t3_iff]
  have h : ∀ i, i < 3 → -1 ≤ thn f g i ∧ thn f g i ≤ 1 := by
    intro i hi
    have b := t3_at hf hi
    rw [thn, hf, hg]
    exact t3_at hg (by omega)
  exact ⟨h 0 (by omega), h 1 (by omega), h 2 (by omega)⟩
theorem thn_at {f g : Nat → Int} (hf : t3 f = true) (hg : t3 g = true) (i : Nat) : thn f g i = g (f i + 1).toNat := by rw [thn, hf, hg]; rfl
theorem thn_assoc {f g h : Nat → Int} (hf : t3 f = true) (hg : t3 g = true) (hh : t3 h = true) (i : Nat) : thn (thn f g) h i = thn f (thn g h) i := by
  rw [thn_at (thn_t3 hf hg) hh, thn_at hf (thn_t3 hg hh), thn_at hf hg, thn_at hg hh]
/-- The map of the lower i + 1 places. -/
def maps (xs ys : List Int) : Nat → Nat → Int
  | 0 => mp (xs.getD 0 0) (ys.getD 0 0)
  | i + 1 => thn (maps xs ys i) (mp (xs.getD (i + 1) 0) (ys.getD (i + 1) 0))
theorem maps_t3 (xs ys : List Int) (i : Nat) : t3 (maps xs ys i) = true := by
  induction i with
  | zero => exact mp_t3 _ _
  | succ i ih => exact thn_t3 ih (mp_t3 _ _)
theorem maps_crr {xs ys : List Int} (hx : isW xs = true) (hy : isW ys = true) {c : Int} (hc : -1 ≤ c ∧ c ≤ 1) (i : Nat) : maps xs ys i (c + 1).toNat = crr xs ys c (i + 1) := by
  induction i with
  | zero => rw [maps, mp_at _ _ _ hc.1]; rfl
  | succ i ih => rw [maps, thn_at (maps_t3 xs ys i) (mp_t3 _ _), ih, mp_at _ _ _ (crr_bd hx hy hc (i + 1)).1]; rfl
/-- Redundant sums. -/
theorem trs_bd {xs ys : List Int} (hx : ∀ x ∈ xs, -2 ≤ x ∧ x ≤ 2) (hy : ∀ x ∈ ys, -2 ≤ x ∧ x ≤ 2) (i : Nat) : -1 ≤ trs xs ys i ∧ trs xs ys i ≤ 1 ∧ -1 ≤ xs.getD i 0 + ys.getD i 0 - 3 * trs xs ys i ∧ xs.getD i 0 + ys.getD i 0 - 3 * trs xs ys i ≤ 1 := by
  have a := dig_at hx i
  have b := dig_at hy i
  unfold trs
  repeat' split
  all_goals omega
theorem blw_bd {xs ys : List Int} (hx : ∀ x ∈ xs, -2 ≤ x ∧ x ≤ 2) (hy : ∀ x ∈ ys, -2 ≤ x ∧ x ≤ 2) (i : Nat) : -1 ≤ blw xs ys i ∧ blw xs ys i ≤ 1 := by
  cases i with
  | zero => simp [blw]
  | succ i => have := trs_bd hx hy i; exact ⟨this.1, this.2.1⟩
theorem dgt_bd {xs ys : List Int} (hx : ∀ x ∈ xs, -2 ≤ x ∧ x ≤ 2) (hy : ∀ x ∈ ys, -2 ≤ x ∧ x ≤ 2) (i : Nat) : -2 ≤ dgt xs ys i ∧ dgt xs ys i ≤ 2 := by
  have a := trs_bd hx hy i
  have b := blw_bd hx hy i
  unfold dgt
  omega
theorem dgt_val (xs ys : List Int) (i : Nat) : val (genL i (dgt xs ys)) + pow3 i * blw xs ys i = val (genL i fun j => xs.getD j 0) + val (genL i fun j => ys.getD j 0) := by
  induction i with
  | zero => simp [val_gen0, blw]
  | succ i ih =>
    rw [val_gen, val_gen, val_gen, pow3_succ, blw, dgt]
    have e : pow3 i * (xs.getD i 0 + ys.getD i 0 - 3 * trs xs ys i + blw xs ys i) = pow3 i * xs.getD i 0 + pow3 i * ys.getD i 0 - 3 * pow3 i * trs xs ys i + pow3 i * blw xs ys i := by
      rw [Int.mul_add, Int.mul_sub, Int.mul_add, Int.mul_comm 3 (pow3 i), Int.mul_assoc]
    omega
theorem rad_val {xs ys : List Int} (h : xs.length = ys.length) : val (genL (xs.length + 1) (dgt xs ys)) = val xs + val ys := by
  have := dgt_val xs ys (xs.length + 1)
  have z : blw xs ys (xs.length + 1) = 0 := by simp [blw, trs, h]
  have ex : ∀ zs : List Int, val (genL (zs.length + 1) fun j => zs.getD j 0) = val zs := by
    intro zs
    rw [val_gen, genL_self]; simp
  have ex1 := ex xs
  have ex2 := ex ys
  rw [← h] at ex2
  rw [z, ex1, ex2] at this
  omega
theorem isR_gen {n : Nat} {g : Nat → Int} (h1 : 1 ≤ n) (h2 : n ≤ 30) (h : ∀ i, -2 ≤ g i ∧ g i ≤ 2) : isR (genL n g) = true := by
  rw [isR_iff]
  refine ⟨fun x hx => ?_, by rw [genL_length]; exact h1, by rw [genL_length]; exact h2⟩
  obtain ⟨i, _, rfl⟩ := List.mem_map.1 hx
  exact h i
theorem isR_rad {xs ys : List Int} (h : radOk xs ys = true) : isR (rad xs ys) = true ∧ (rad xs ys).length = xs.length + 1 := by
  rw [rad, if_pos h]
  rw [radOk, Bool.and_eq_true, Bool.and_eq_true, isR_iff, isR_iff, decide_eq_true_eq] at h
  exact ⟨isR_gen (by omega) (by omega) (dgt_bd h.1.1.1 h.1.2.1), genL_length _ _⟩
/-- A digit depends on two places alone. -/
theorem dgt_local {xs zs ys : List Int} {j : Nat} (h1 : xs.getD j 0 = zs.getD j 0) (h2 : ∀ i, j = i + 1 → xs.getD i 0 = zs.getD i 0) : dgt xs ys j = dgt zs ys j := by
  rw [dgt, dgt, h1, trs, trs, h1]
  cases j with
  | zero => rfl
  | succ i => rw [blw, blw, trs, trs, h2 i rfl]
end Tm
namespace Tm
/-- A round: each three words become two. -/
def rnd1 : List (List Int) → List (List Int)
  | a :: b :: c :: r => genL a.length (sav1 a b c) :: genL a.length (sav2 a b c) :: rnd1 r
  | l => l
def trL : Nat → List (List Int) → List (List Int)
  | 0, l => l
  | f + 1, l => if 2 < l.length then trL f (rnd1 l) else l
def trN : Nat → List (List Int) → Nat
  | 0, _ => 0
  | f + 1, l => if 2 < l.length then trN f (rnd1 l) + 1 else 0
/-- Words of k trits. -/
def allW (k : Nat) (l : List (List Int)) : Prop := ∀ x ∈ l, isW x = true ∧ x.length = k
def treeOk (l : List (List Int)) : Bool := decide (1 ≤ l.length ∧ l.length ≤ 40) && l.all (fun x => fit (l.headD []) x)
def lastW : List (List Int) → List Int
  | [] => []
  | [a] => a
  | a :: b :: _ => addL a b 0
def tree (l : List (List Int)) : List Int := if treeOk l then lastW (trL 40 l) else []
def treeN (l : List (List Int)) : Int := if treeOk l then trN 40 l else 0
theorem rnd1_length (l : List (List Int)) : (rnd1 l).length = 2 * (l.length / 3) + l.length % 3 := by
  fun_induction rnd1 l with
  | case1 a b c r ih => simp only [List.length_cons, ih]; omega
  | case2 l h =>
    match l, h with
    | [], _ => rfl
    | [_], _ => simp
    | [_, _], _ => simp
    | a :: b :: c :: r, h => exact absurd rfl (h a b c r)
theorem sav2_bd {xs ys zs : List Int} (hx : isW xs = true) (hy : isW ys = true) (hz : isW zs = true) (i : Nat) : -1 ≤ sav2 xs ys zs i ∧ sav2 xs ys zs i ≤ 1 := by
  cases i with
  | zero => simp [sav2]
  | succ i => have := full_spec (isW_at hx i) (isW_at hy i) (isW_at hz i); exact ⟨this.2.2.1, this.2.2.2.1⟩
theorem rnd1_word {k : Nat} {l : List (List Int)} (h : allW k l) : allW k (rnd1 l) := by
  fun_induction rnd1 l with
  | case1 a b c r ih =>
    have ha := h a (by simp)
    have hb := h b (by simp)
    have hc := h c (by simp)
    have l1 := isW_pos ha.1
    have l2 := isW_len ha.1
    intro x hx
    simp only [List.mem_cons] at hx
    rcases hx with rfl | rfl | hx
    · exact ⟨isW_gen l1 l2 (fun i => by have := full_spec (isW_at ha.1 i) (isW_at hb.1 i) (isW_at hc.1 i); exact ⟨this.1, this.2.1⟩), by rw [genL_length, ha.2]⟩
    · exact ⟨isW_gen l1 l2 (sav2_bd ha.1 hb.1 hc.1), by rw [genL_length, ha.2]⟩
    · exact ih (fun y hy => h y (by simp [hy])) x hx
  | case2 l h' => exact h
/-- The sum of the values. -/
def sumV (l : List (List Int)) : Int := (l.map val).sum
/-- What two words of a saved sum are worth, up to what goes beyond the highest place. -/
theorem sav_val (xs ys zs : List Int) (hx : isW xs = true) (hy : isW ys = true) (hz : isW zs = true) (n : Nat) :
    val (genL n (sav1 xs ys zs)) + val (genL (n + 1) (sav2 xs ys zs)) = val (genL n fun j => xs.getD j 0) + val (genL n fun j => ys.getD j 0) + val (genL n fun j => zs.getD j 0) := by
  induction n with
  | zero => simp [val_gen, val_gen0, sav2]
  | succ n ih =>
    have s := (full_spec (isW_at hx n) (isW_at hy n) (isW_at hz n)).2.2.2.2
    rw [val_gen (n + 1), val_gen n, val_gen n, val_gen n, val_gen n, pow3_succ, sav2, sav1]
    have e : pow3 n * full1 (xs.getD n 0) (ys.getD n 0) (zs.getD n 0) + 3 * pow3 n * full2 (xs.getD n 0) (ys.getD n 0) (zs.getD n 0) = pow3 n * xs.getD n 0 + pow3 n * ys.getD n 0 + pow3 n * zs.getD n 0 := by
      rw [← Int.mul_add, ← Int.mul_add, ← s, Int.mul_add, Int.mul_comm 3 (pow3 n), Int.mul_assoc]
    rw [val_gen n] at ih
    rw [val_gen n]
    omega
theorem sav_mod {k : Nat} {xs ys zs : List Int} (hx : isW xs = true ∧ xs.length = k) (hy : isW ys = true ∧ ys.length = k) (hz : isW zs = true ∧ zs.length = k) :
    pow3 k ∣ val (genL k (sav1 xs ys zs)) + val (genL k (sav2 xs ys zs)) - (val xs + val ys + val zs) := by
  have h := sav_val xs ys zs hx.1 hy.1 hz.1 k
  have ex : ∀ us : List Int, us.length = k → val (genL k fun j => us.getD j 0) = val us := fun us e => by rw [← e, genL_self]
  rw [ex xs hx.2, ex ys hy.2, ex zs hz.2, val_gen] at h
  exact ⟨-sav2 xs ys zs k, by rw [Int.mul_neg]; omega⟩
theorem rnd1_mod {k : Nat} {l : List (List Int)} (h : allW k l) : pow3 k ∣ sumV (rnd1 l) - sumV l := by
  fun_induction rnd1 l with
  | case1 a b c r ih =>
    have ha := h a (by simp)
    have hb := h b (by simp)
    have hc := h c (by simp)
    obtain ⟨u, hu⟩ := sav_mod ha hb hc
    obtain ⟨v, hv⟩ := ih (fun y hy => h y (by simp [hy]))
    refine ⟨u + v, ?_⟩
    rw [ha.2]
    simp only [sumV, List.map_cons, List.sum_cons] at *
    rw [Int.mul_add, ← hu, ← hv]
    omega
  | case2 l h' => exact ⟨0, by omega⟩
theorem trL_facts {k : Nat} (f : Nat) {l : List (List Int)} (h : allW k l) (hl : 1 ≤ l.length) (hf : l.length ≤ f + 2) :
    allW k (trL f l) ∧ pow3 k ∣ sumV (trL f l) - sumV l ∧ 1 ≤ (trL f l).length ∧ (trL f l).length ≤ 2 := by
  induction f generalizing l with
  | zero => exact ⟨h, ⟨0, by simp [trL]⟩, hl, by rw [trL]; omega⟩
  | succ f ih =>
    rw [trL]
    split
    · have hr := rnd1_length l
      have := ih (rnd1_word h) (by omega) (by omega)
      refine ⟨this.1, ?_, this.2.2⟩
      obtain ⟨u, hu⟩ := this.2.1
      obtain ⟨v, hv⟩ := rnd1_mod h
      exact ⟨u + v, by rw [Int.mul_add, ← hu, ← hv]; omega⟩
    · exact ⟨h, ⟨0, by simp⟩, hl, by omega⟩
theorem trN_le {f : Nat} {l : List (List Int)} (h : l.length ≤ 12) : trN f l ≤ 6 := by
  have one : ∀ f (l : List (List Int)), l.length ≤ 2 → trN f l = 0 := fun f l h => by cases f <;> simp [trN]; omega
  have step : ∀ f (l : List (List Int)) n, (∀ f l', List.length l' = 2 * (l.length / 3) + l.length % 3 → trN f l' ≤ n) → trN f l ≤ n + 1 := fun f l n hn => by
    cases f with
    | zero => simp [trN]
    | succ f =>
      rw [trN]
      split
      · have := hn f (rnd1 l) (rnd1_length l); omega
      · omega
  have s3 : ∀ f (l : List (List Int)), l.length ≤ 3 → trN f l ≤ 1 := fun f l h => step f l 0 (fun f l' e => by rw [one f l' (by omega)]; exact Nat.le_refl 0)
  have s4 : ∀ f (l : List (List Int)), l.length ≤ 4 → trN f l ≤ 2 := fun f l h => step f l 1 (fun f l' e => s3 f l' (by omega))
  have s6 : ∀ f (l : List (List Int)), l.length ≤ 6 → trN f l ≤ 3 := fun f l h => step f l 2 (fun f l' e => s4 f l' (by omega))
  have s8 : ∀ f (l : List (List Int)), l.length ≤ 8 → trN f l ≤ 4 := fun f l h => step f l 3 (fun f l' e => s6 f l' (by omega))
  have s12 : trN f l ≤ 5 := step f l 4 (fun f l' e => s8 f l' (by omega))
  omega
end Tm
namespace Tm
theorem word_inj {xs ys : List Int} (hx : isW xs = true) (hy : isW ys = true) (hl : xs.length = ys.length) (hm : pow3 xs.length ∣ val xs - val ys) : xs = ys := by
  have bx := val_bd_len hx xs.length (Nat.le_refl _)
  have bY := val_bd_len hy xs.length (by omega)
  have pl := pow3_limN xs.length
  obtain ⟨q, hq⟩ := hm
  have h0 := limN_nonneg xs.length
  have hv : val xs = val ys := by
    have : q = 0 := by
      rcases Int.lt_trichotomy q 0 with h | h | h
      · have : pow3 xs.length * q ≤ pow3 xs.length * (-1) := Int.mul_le_mul_of_nonneg_left (by omega) (by omega)
        omega
      · exact h
      · have : pow3 xs.length * 1 ≤ pow3 xs.length * q := Int.mul_le_mul_of_nonneg_left (by omega) (by omega)
        omega
    subst this
    omega
  rw [← word_val hx, ← word_val hy, hv, hl]
theorem lastW_facts {k : Nat} {l : List (List Int)} (h : allW k l) (h1 : 1 ≤ l.length) (h2 : l.length ≤ 2) : isW (lastW l) = true ∧ (lastW l).length = k ∧ pow3 k ∣ val (lastW l) - sumV l := by
  match l, h1, h2 with
  | [a], _, _ =>
    have ha := h a (by simp)
    exact ⟨ha.1, ha.2, ⟨0, by simp [lastW, sumV]⟩⟩
  | [a, b], _, _ =>
    have ha := h a (by simp)
    have hb := h b (by simp)
    have ho : addOk a b 0 = true := by rw [addOk, Bool.and_eq_true, fit_iff]; exact ⟨⟨ha.1, hb.1, by rw [ha.2, hb.2]⟩, rfl⟩
    have v := add_val ho
    refine ⟨isW_add ho, by rw [lastW, addL, genL_length, ha.2], ⟨-crr a b 0 a.length, ?_⟩⟩
    rw [ha.2] at v ⊢
    simp only [lastW, sumV, List.map_cons, List.map_nil, List.sum_cons, List.sum_nil, Int.mul_neg]
    omega
theorem treeOk_iff (l : List (List Int)) : treeOk l = true ↔ 1 ≤ l.length ∧ l.length ≤ 40 ∧ allW (l.headD []).length l := by
  rw [treeOk, Bool.and_eq_true, decide_eq_true_eq, List.all_eq_true]
  constructor
  · rintro ⟨⟨h1, h2⟩, h3⟩
    exact ⟨h1, h2, fun x hx => by have := (fit_iff _ _).1 (h3 x hx); exact ⟨this.2.1, this.2.2.symm⟩⟩
  · rintro ⟨h1, h2, h3⟩
    refine ⟨⟨h1, h2⟩, fun x hx => ?_⟩
    have hh : l.headD [] ∈ l := by
      match l, h1 with
      | a :: r, _ => simp
    rw [fit_iff]
    exact ⟨(h3 _ hh).1, (h3 x hx).1, (h3 x hx).2.symm⟩
theorem tree_facts {l : List (List Int)} (h : treeOk l = true) : isW (tree l) = true ∧ (tree l).length = (l.headD []).length ∧ pow3 (l.headD []).length ∣ val (tree l) - sumV l := by
  obtain ⟨h1, h2, h3⟩ := (treeOk_iff l).1 h
  rw [tree, if_pos h]
  have f := trL_facts 40 h3 h1 (by omega)
  have g := lastW_facts f.1 f.2.2.1 f.2.2.2
  refine ⟨g.1, g.2.1, ?_⟩
  obtain ⟨u, hu⟩ := f.2.1
  obtain ⟨v, hv⟩ := g.2.2
  exact ⟨u + v, by rw [Int.mul_add, ← hu, ← hv]; omega⟩
theorem sumV_reverse (l : List (List Int)) : sumV l.reverse = sumV l := by
  have app : ∀ a b : List Int, (a ++ b).sum = a.sum + b.sum := fun a b => by
    induction a with
    | nil => simp
    | cons x a ih => simp only [List.cons_append, List.sum_cons, ih]; omega
  rw [sumV, sumV, List.map_reverse]
  induction l.map val with
  | nil => rfl
  | cons a r ih => rw [List.reverse_cons, app, ih, List.sum_cons, List.sum_cons, List.sum_nil]; omega
theorem treeOk_of {k : Nat} {l : List (List Int)} (h1 : 1 ≤ l.length) (h2 : l.length ≤ 40) (h : allW k l) : treeOk l = true ∧ (l.headD []).length = k := by
  have hh : l.headD [] ∈ l := by
    match l, h1 with
    | a :: r, _ => simp
  have e := (h _ hh).2
  exact ⟨(treeOk_iff l).2 ⟨h1, h2, by rw [e]; exact h⟩, e⟩
/-- The sum of words does not hang on their order. -/
theorem tree_reverse {k : Nat} {l : List (List Int)} (h1 : 1 ≤ l.length) (h2 : l.length ≤ 40) (h : allW k l) : treeOk l.reverse = true ∧ tree l.reverse = tree l := by
  have a := treeOk_of h1 h2 h
  have hr : allW k l.reverse := fun x hx => h x (List.mem_reverse.1 hx)
  have b := treeOk_of (l := l.reverse) (by simpa using h1) (by simpa using h2) hr
  have fa := tree_facts a.1
  have fb := tree_facts b.1
  rw [a.2] at fa
  rw [b.2] at fb
  refine ⟨b.1, word_inj fb.1 fa.1 (by rw [fb.2.1, fa.2.1]) ?_⟩
  rw [fb.2.1]
  obtain ⟨u, hu⟩ := fa.2.2
  obtain ⟨v, hv⟩ := fb.2.2
  rw [sumV_reverse] at hv
  exact ⟨v - u, by rw [Int.mul_sub, ← hu, ← hv]; omega⟩
end Tm
end Go.Proofs.Ytfmpnkckaceigaa

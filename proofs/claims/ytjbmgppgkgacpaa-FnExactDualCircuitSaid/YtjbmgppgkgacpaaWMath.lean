/- Plain facts on words: no program, no world. -/
import Derived.Test.YtjbmgppgkgacpaaMath
namespace Go.Proofs.Ytjbmgppgkgacpaa.Tm

def isW (xs : List Int) : Bool := xs.all isT && decide (1 ≤ xs.length ∧ xs.length ≤ 30)
def val : List Int → Int
  | [] => 0
  | a :: l => a + 3 * val l
def limN : Nat → Int
  | 0 => 0
  | k + 1 => 3 * limN k + 1
def lim (k : Int) : Int := if 1 ≤ k ∧ k ≤ 30 then limN k.toNat else 0
/-- The lowest trit of a number, and the word of k trits. -/
def low (n : Int) : Int := if n % 3 = 2 then -1 else n % 3
def wordL (n : Int) : Nat → List Int
  | 0 => []
  | k + 1 => low n :: wordL ((n - low n) / 3) k
def value (xs : List Int) : Int := if isW xs then val xs else 0
def wordOk (n k : Int) : Bool := decide (1 ≤ k ∧ k ≤ 30 ∧ -lim k ≤ n ∧ n ≤ lim k)
def word (n k : Int) : List Int := if wordOk n k then wordL n k.toNat else []

theorem isW_iff (xs : List Int) : isW xs = true ↔ (∀ x ∈ xs, -1 ≤ x ∧ x ≤ 1) ∧ 1 ≤ xs.length ∧ xs.length ≤ 30 := by
  simp [isW, List.all_eq_true, isT]
theorem isW_at {xs : List Int} (h : isW xs = true) (i : Nat) : -1 ≤ xs.getD i 0 ∧ xs.getD i 0 ≤ 1 := by
  obtain ⟨h1, _, _⟩ := (isW_iff xs).1 h
  rw [List.getD_eq_getElem?_getD]
  by_cases hi : i < xs.length
  · rw [List.getElem?_eq_getElem hi]; exact h1 _ (List.getElem_mem hi)
  · rw [List.getElem?_eq_none (by omega)]; simp
theorem limN_mono {a b : Nat} (h : a ≤ b) : limN a ≤ limN b := by
  induction b with
  | zero => have : a = 0 := by omega
            subst this; exact Int.le_refl _
  | succ b ih =>
    by_cases e : a = b + 1
    · subst e; exact Int.le_refl _
    · have := ih (by omega)
      have h0 : ∀ k, 0 ≤ limN k := by intro k; induction k with
        | zero => exact Int.le_refl _
        | succ k ih => simp only [limN]; omega
      have := h0 b
      simp only [limN]; omega
theorem limN_nonneg (k : Nat) : 0 ≤ limN k := limN_mono (Nat.zero_le k)
theorem limN_30 : limN 30 = 102945566047324 := by decide
theorem limN_le {k : Nat} (h : k ≤ 30) : limN k ≤ 102945566047324 := by rw [← limN_30]; exact limN_mono h
theorem val_bd (xs : List Int) (h : ∀ x ∈ xs, -1 ≤ x ∧ x ≤ 1) : -limN xs.length ≤ val xs ∧ val xs ≤ limN xs.length := by
  induction xs with
  | nil => simp [val, limN]
  | cons a l ih =>
    have h1 := h a (by simp)
    have h2 := ih (fun x hx => h x (by simp [hx]))
    simp only [val, List.length_cons, limN]
    omega
theorem val_drop (xs : List Int) (k : Nat) (h : k < xs.length) : val (xs.drop k) = xs.getD k 0 + 3 * val (xs.drop (k + 1)) := by
  rw [List.drop_eq_getElem_cons h, val, List.getD_eq_getElem?_getD, List.getElem?_eq_getElem h]; rfl
theorem val_drop_bd {xs : List Int} (h : isW xs = true) (k : Nat) : -102945566047324 ≤ val (xs.drop k) ∧ val (xs.drop k) ≤ 102945566047324 := by
  obtain ⟨h1, h2, h3⟩ := (isW_iff xs).1 h
  have hb := val_bd (xs.drop k) (fun x hx => h1 x (List.mem_of_mem_drop hx))
  have hl : limN (xs.drop k).length ≤ 102945566047324 := limN_le (by simp; omega)
  omega
theorem low_bd (n : Int) : -1 ≤ low n ∧ low n ≤ 1 := by unfold low; split <;> omega
theorem low_mod (n : Int) : (n - low n) % 3 = 0 := by unfold low; split <;> omega
theorem low_tmod (n : Int) : low n = if 1 < n.tmod 3 then n.tmod 3 - 3 else if n.tmod 3 < -1 then n.tmod 3 + 3 else n.tmod 3 := by
  unfold low
  rcases Int.lt_or_le n 0 with h | h
  · obtain ⟨m, hm⟩ : ∃ m : Int, m = -n := ⟨_, rfl⟩
    have hn : n = -m := by omega
    subst hn
    rw [Int.neg_tmod, Int.tmod_eq_emod_of_nonneg (by omega)]
    split <;> split <;> (try split) <;> omega
  · rw [Int.tmod_eq_emod_of_nonneg h]
    split <;> split <;> (try split) <;> omega
theorem tmod3_bd (n : Int) : -2 ≤ n.tmod 3 ∧ n.tmod 3 ≤ 2 := by
  rcases Int.lt_or_le n 0 with h | h
  · obtain ⟨m, hm⟩ : ∃ m : Int, m = -n := ⟨_, rfl⟩
    have hn : n = -m := by omega
    subst hn
    rw [Int.neg_tmod, Int.tmod_eq_emod_of_nonneg (by omega)]; omega
  · rw [Int.tmod_eq_emod_of_nonneg h]; omega
theorem wordL_length (n : Int) (k : Nat) : (wordL n k).length = k := by
  induction k generalizing n with
  | zero => rfl
  | succ k ih => simp [wordL, ih]
end Go.Proofs.Ytjbmgppgkgacpaa.Tm

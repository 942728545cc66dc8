/- Plain facts on sums of many words: no program, no world. -/
import Derived.Test.YtkphbnejnilehaaAMath2
namespace Go.Proofs.Ytkphbnejnilehaa
namespace Tm
/-- A round: each three words become two. -/
def rnd1 : List (List Int) → List (List Int)
  | a :: b :: c :: r => genL a.length (sav1 a b c) :: genL a.length (sav2 a b c) :: rnd1 r
  | l => l
def trL : Nat → List (List Int) → List (List Int)
  | 0, l => l
  | f + 1, l => if 2 < l.length then trL f (rnd1 l) else l
def trN : Nat → List (List Int) → Nat
  | 0, _ => 0
  | f + 1, l => if 2 < l.length then trN f (rnd1 l) + 1 else 0
/-- Words of k trits. -/
def allW (k : Nat) (l : List (List Int)) : Prop := ∀ x ∈ l, isW x = true ∧ x.length = k
def treeOk (l : List (List Int)) : Bool := decide (1 ≤ l.length ∧ l.length ≤ 40) && l.all (fun x => fit (l.headD []) x)
def lastW : List (List Int) → List Int
  | [] => []
  | [a] => a
  | a :: b :: _ => addL a b 0
def tree (l : List (List Int)) : List Int := if treeOk l then lastW (trL 40 l) else []
def treeN (l : List (List Int)) : Int := if treeOk l then trN 40 l else 0
theorem rnd1_length (l : List (List Int)) : (rnd1 l).length = 2 * (l.length / 3) + l.length % 3 := by
  fun_induction rnd1 l with
  | case1 a b c r ih => simp only [List.length_cons, ih]; omega
  | case2 l h =>
    match l, h with
    | [], _ => rfl
    | [_], _ => simp
    | [_, _], _ => simp
    | a :: b :: c :: r, h => exact absurd rfl (h a b c r)
theorem sav2_bd {xs ys zs : List Int} (hx : isW xs = true) (hy : isW ys = true) (hz : isW zs = true) (i : Nat) : -1 ≤ sav2 xs ys zs i ∧ sav2 xs ys zs i ≤ 1 := by
  cases i with
  | zero => simp [sav2]
  | succ i => have := full_spec (isW_at hx i) (isW_at hy i) (isW_at hz i); exact ⟨this.2.2.1, this.2.2.2.1⟩
theorem rnd1_word {k : Nat} {l : List (List Int)} (h : allW k l) : allW k (rnd1 l) := by
  fun_induction rnd1 l with
  | case1 a b c r ih =>
    have ha := h a (by simp)
    have hb := h b (by simp)
    have hc := h c (by simp)
    have l1 := isW_pos ha.1
    have l2 := isW_len ha.1
    intro x hx
    simp only [List.mem_cons] at hx
    rcases hx with rfl | rfl | hx
    · exact ⟨isW_gen l1 l2 (fun i => by have := full_spec (isW_at ha.1 i) (isW_at hb.1 i) (isW_at hc.1 i); exact ⟨this.1, this.2.1⟩), by rw [genL_length, ha.2]⟩
    · exact ⟨isW_gen l1 l2 (sav2_bd ha.1 hb.1 hc.1), by rw [genL_length, ha.2]⟩
    · exact ih (fun y hy => h y (by simp [hy])) x hx
  | case2 l h' => exact h
/-- The sum of the values. -/
def sumV (l : List (List Int)) : Int := (l.map val).sum
/-- What two words of a saved sum are worth, up to what goes beyond the highest place. -/
theorem sav_val (xs ys zs : List Int) (hx : isW xs = true) (hy : isW ys = true) (hz : isW zs = true) (n : Nat) :
    val (genL n (sav1 xs ys zs)) + val (genL (n + 1) (sav2 xs ys zs)) = val (genL n fun j => xs.getD j 0) + val (genL n fun j => ys.getD j 0) + val (genL n fun j => zs.getD j 0) := by
  induction n with
  | zero => simp [val_gen, val_gen0, sav2]
  | succ n ih =>
    have s := (full_spec (isW_at hx n) (isW_at hy n) (isW_at hz n)).2.2.2.2
    rw [val_gen (n + 1), val_gen n, val_gen n, val_gen n, val_gen n, pow3_succ, sav2, sav1]
    have e : pow3 n * full1 (xs.getD n 0) (ys.getD n 0) (zs.getD n 0) + 3 * pow3 n * full2 (xs.getD n 0) (ys.getD n 0) (zs.getD n 0) = pow3 n * xs.getD n 0 + pow3 n * ys.getD n 0 + pow3 n * zs.getD n 0 := by
      rw [← Int.mul_add, ← Int.mul_add, ← s, Int.mul_add, Int.mul_comm 3 (pow3 n), Int.mul_assoc]
    rw [val_gen n] at ih
    rw [val_gen n]
    omega
theorem sav_mod {k : Nat} {xs ys zs : List Int} (hx : isW xs = true ∧ xs.length = k) (hy : isW ys = true ∧ ys.length = k) (hz : isW zs = true ∧ zs.length = k) :
    pow3 k ∣ val (genL k (sav1 xs ys zs)) + val (genL k (sav2 xs ys zs)) - (val xs + val ys + val zs) := by
  have h := sav_val xs ys zs hx.1 hy.1 hz.1 k
  have ex : ∀ us : List Int, us.length = k → val (genL k fun j => us.getD j 0) = val us := fun us e => by rw [← e, genL_self]
  rw [ex xs hx.2, ex ys hy.2, ex zs hz.2, val_gen] at h
  exact ⟨-sav2 xs ys zs k, by rw [Int.mul_neg]; omega⟩
theorem rnd1_mod {k : Nat} {l : List (List Int)} (h : allW k l) : pow3 k ∣ sumV (rnd1 l) - sumV l := by
  fun_induction rnd1 l with
  | case1 a b c r ih =>
    have ha := h a (by simp)
    have hb := h b (by simp)
    have hc := h c (by simp)
    obtain ⟨u, hu⟩ := sav_mod ha hb hc
    obtain ⟨v, hv⟩ := ih (fun y hy => h y (by simp [hy]))
    refine ⟨u + v, ?_⟩
    rw [ha.2]
    simp only [sumV, List.map_cons, List.sum_cons] at *
    rw [Int.mul_add, ← hu, ← hv]
    omega
  | case2 l h' => exact ⟨0, by omega⟩
theorem trL_facts {k : Nat} (f : Nat) {l : List (List Int)} (h : allW k l) (hl : 1 ≤ l.length) (hf : l.length ≤ f + 2) :
    allW k (trL f l) ∧ pow3 k ∣ sumV (trL f l) - sumV l ∧ 1 ≤ (trL f l).length ∧ (trL f l).length ≤ 2 := by
  induction f generalizing l with
  | zero => exact ⟨h, ⟨0, by simp [trL]⟩, hl, by rw [trL]; omega⟩
  | succ f ih =>
    rw [trL]
    split
    · have hr := rnd1_length l
      have := ih (rnd1_word h) (by omega) (by omega)
      refine ⟨this.1, ?_, this.2.2⟩
      obtain ⟨u, hu⟩ := this.2.1
      obtain ⟨v, hv⟩ := rnd1_mod h
      exact ⟨u + v, by rw [Int.mul_add, ← hu, ← hv]; omega⟩
    · exact ⟨h, ⟨0, by simp⟩, hl, by omega⟩
theorem trN_le {f : Nat} {l : List (List Int)} (h : l.length ≤ 12) : trN f l ≤ 6 := by
  have one : ∀ f (l : List (List Int)), l.length ≤ 2 → trN f l = 0 := fun f l h => by cases f <;> simp [trN]; omega
  have step : ∀ f (l : List (List Int)) n, (∀ f l', List.length l' = 2 * (l.length / 3) + l.length % 3 → trN f l' ≤ n) → trN f l ≤ n + 1 := fun f l n hn => by
    cases f with
    | zero => simp [trN]
    | succ f =>
      rw [trN]
      split
      · have := hn f (rnd1 l) (rnd1_length l); omega
      · omega
  have s3 : ∀ f (l : List (List Int)), l.length ≤ 3 → trN f l ≤ 1 := fun f l h => step f l 0 (fun f l' e => by rw [one f l' (by omega)]; exact Nat.le_refl 0)
  have s4 : ∀ f (l : List (List Int)), l.length ≤ 4 → trN f l ≤ 2 := fun f l h => step f l 1 (fun f l' e => s3 f l' (by omega))
  have s6 : ∀ f (l : List (List Int)), l.length ≤ 6 → trN f l ≤ 3 := fun f l h => step f l 2 (fun f l' e => s4 f l' (by omega))
  have s8 : ∀ f (l : List (List Int)), l.length ≤ 8 → trN f l ≤ 4 := fun f l h => step f l 3 (fun f l' e => s6 f l' (by omega))
  have s12 : trN f l ≤ 5 := step f l 4 (fun f l' e => s8 f l' (by omega))
  omega
end Tm
end Go.Proofs.Ytkphbnejnilehaa

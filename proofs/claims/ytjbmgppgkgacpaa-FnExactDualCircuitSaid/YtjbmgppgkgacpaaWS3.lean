/- Contracts of the model's functions of words, on: parts of words. -/
import Derived.Test.YtjbmgppgkgacpaaWS
import Derived.Test.YtjbmgppgkgacpaaFill
namespace Go.Proofs.Ytjbmgppgkgacpaa
set_option maxRecDepth 20000
open Go.RowKit
namespace Tm
def rndOk (xs : List Int) (k : Int) : Bool := isW xs && inB k 0 xs.length
def rndL (xs : List Int) (k : Nat) : List Int := (List.range xs.length).map fun i => if i < k then 0 else xs.getD i 0
def rnd (xs : List Int) (k : Int) : List Int := if rndOk xs k then rndL xs k.toNat else []
def slcOk (xs : List Int) (f t : Int) : Bool := isW xs && decide (0 ≤ f ∧ t ≤ xs.length ∧ f < t)
def part (xs : List Int) (f t : Nat) : List Int := (xs.drop f).take (t - f)
def slc (xs : List Int) (f t : Int) : List Int := if slcOk xs f t then part xs f.toNat t.toNat else []
def joinOk (xs ys : List Int) : Bool := isW xs && isW ys && decide (xs.length + ys.length ≤ 30)
def join (xs ys : List Int) : List Int := if joinOk xs ys then xs ++ ys else []
def shfOk (xs : List Int) (k : Int) : Bool := isW xs && decide (k ≤ 30 - (xs.length : Int))
def shf (xs : List Int) (k : Int) : List Int :=
  if shfOk xs k then (if 0 ≤ k then List.replicate k.toNat 0 ++ xs else if k ≤ -(xs.length : Int) then [0] else xs.drop (-k).toNat) else []
theorem part_length (xs : List Int) (f t : Nat) (h : t ≤ xs.length) : (part xs f t).length = t - f := by simp [part]; omega
theorem part_get (xs : List Int) (f t i : Nat) (h : i < t - f) : (part xs f t).getD i 0 = xs.getD (f + i) 0 := by
  simp [part, List.getElem?_drop, h]
theorem rndL_length (xs : List Int) (k : Nat) : (rndL xs k).length = xs.length := by simp [rndL]
theorem rndL_zero (xs : List Int) : rndL xs 0 = xs := by
  apply List.ext_getElem?
  intro i
  by_cases hi : i < xs.length
  · simp [rndL, hi]
  · rw [List.getElem?_eq_none (by rw [rndL_length]; omega), List.getElem?_eq_none (by omega)]
theorem rndL_set (xs : List Int) (k : Nat) : ((rndL xs k).map (Value.int .i64)).set k (.int .i64 0) = (rndL xs (k + 1)).map (Value.int .i64) := by
  apply List.ext_getElem?
  intro i
  rw [List.getElem?_set]
  by_cases hi : i < xs.length
  · simp only [List.getElem?_map, rndL, List.getElem?_range hi, Option.map_some, List.length_map, List.length_range]
    by_cases h2 : k = i
    · subst h2; simp [hi]
    · rw [if_neg h2]
      by_cases h3 : i < k
      · rw [if_pos h3, if_pos (by omega)]
      · rw [if_neg h3, if_neg (by omega)]
  · rw [List.getElem?_eq_none (by simp [rndL]; omega), List.getElem?_eq_none (by simp [rndL]; omega)]
    split
    · rw [if_neg (by simp [rndL]; omega)]
    · rfl
end Tm
theorem Ints.part {w : World} {b o n cap : Nat} {xs : List Int} (h : Ints w (some ⟨b, o, none⟩) n cap xs) (f t : Nat) (h1 : f < t) (h2 : t ≤ n) : Ints w (some ⟨b, o + f, none⟩) (t - f) (cap - f) (Tm.part xs f t) := by
  obtain ⟨x1, x2, x3, x4⟩ := h
  refine ⟨Tm.part_length xs f t (by omega), by omega, by omega, .inr ?_⟩
  rcases x4 with h0 | ⟨b', o', e, hb, hc⟩
  · omega
  · cases e
    refine ⟨b, o + f, rfl, hb, fun i hi => ?_⟩
    rw [Tm.part_get _ _ _ _ hi, ← hc (f + i) (by omega), Nat.add_assoc]
/-- The cells of a source that is appended. -/
theorem news_of {w : World} {b o n : Nat} {xs : List Int} (hx : xs.length = n) (hc : ∀ i, i < n → w.cell? ⟨b, o + i, none⟩ = some (.int .i64 (xs.getD i 0))) : ∀ j u, (xs.map (Value.int .i64))[j]? = some u → w.cell? ((⟨b, o, none⟩ : Addr).add j) = some u := by
  intro j u hu
  rw [List.getElem?_map] at hu
  by_cases hj : j < xs.length
  · rw [List.getElem?_eq_getElem hj] at hu
    have := hc j (by omega)
    rw [← getD_at xs j hj] at this
    rw [Go.WideShapes.add_plain, this]
    simpa using hu
  · rw [List.getElem?_eq_none (by omega)] at hu; cases hu
theorem news_one (xs : List Int) : ∀ u ∈ xs.map (Value.int .i64), u.oneCell' = true := by
  intro u hu
  obtain ⟨x, _, rfl⟩ := List.mem_map.1 hu
  rfl
theorem sCopy (a : Option Addr) (n cap : Nat) (xs : List Int) (w : World) (h : Ints w a n cap xs) (h0 : 0 < n) (hn : n ≤ 1048576) : Calls Try.prog 70 #[.slice a n cap] w (RetI 3 w xs) := by
  obtain ⟨i0, hi, hz0, hz1, hz2⟩ := info_parts infoInt
  obtain ⟨x1, x2, x3, x4⟩ := h.alloc (.cells #[] 3)
  rcases x4 with e | ⟨b, o, rfl, hbl, hc⟩
  · omega
  have hnews := news_of x1 hc
  have HN := Lib.hid hnews
  have X1 := Lib.hid x1
  clear hc hnews x1 h
  go_enter Try.func70, Try.ntmps70
  go_wp2_with (at_builtin; refine wpList_append_own _ rfl _ _ 23 rfl w.heap.size 3 i0 (.int .i64 0) 1 8 Try.underlying23 hi hz0 hz1 hz2 rfl (by decide) _ _ _ rfl (own_empty w _ _ (Nat.le_refl _)) ⟨b, o, none⟩ n cap (xs.map (Value.int .i64)) rfl (by simp [X1.out]) HN.out (news_one xs) (by unfold maxLen; omega) (by omega) (by simp) ?_)
  intro v' w1 hown' hgrow _
  have hnx1 : Below w.heap.size w w1 := ((Below.refl w.heap.size w).alloc (Nat.le_refl _) _).grown hgrow (by simp) (fun k hk => by simp [Value.ownBlock] at hk; omega)
  try rw [Nat.zero_add, List.nil_append] at hown'
  clear hgrow
  go_wp2
  go_ret
  exact ret_own hown' hnx1 (by omega)
end Go.Proofs.Ytjbmgppgkgacpaa

/- Rows of a function's own that are filled place by place: read as functions of the place. -/
import Derived.Test.YtjbmgppgkgacpaaRow
import Derived.Laws.CopyOwn
import Derived.ArgAppend
namespace Go.Proofs.Ytjbmgppgkgacpaa
set_option maxRecDepth 20000
open Go.RowKit
/-- A guard: the next operation is a copy. -/
theorem at_copy {P : Program} {w : World} {ops : Array Oper} {rest : List Oper} {a : Act} {Q : Exit → Act → World → Prop} {dst : Option Tmp} {d s : Operand} {dT sT ty : TypeId} {pos : String} {after : Array Edge}
    (h : wpList P ops Q ({ dst := dst, op := .call { callee := .builtin .copy, args := #[d, s], argTypes := #[dT, sT] }, type := ty, pos := pos, after := after, guard := none } :: rest) a w) :
    wpList P ops Q ({ dst := dst, op := .call { callee := .builtin .copy, args := #[d, s], argTypes := #[dT, sT] }, type := ty, pos := pos, after := after, guard := none } :: rest) a w := h
def rowV (n : Nat) (g : Nat → Int) : List Value := (List.range n).map fun i => .int .i64 (g i)
def upd (g : Nat → Int) (k : Nat) (v : Int) : Nat → Int := fun i => if i = k then v else g i
theorem upd_at (g : Nat → Int) (k : Nat) (v : Int) : upd g k v k = v := if_pos rfl
theorem upd_ne (g : Nat → Int) (k : Nat) (v : Int) {i : Nat} (h : i ≠ k) : upd g k v i = g i := if_neg h
theorem rowV_length (n : Nat) (g : Nat → Int) : (rowV n g).length = n := by simp [rowV]
theorem rowV_get (n : Nat) (g : Nat → Int) (i : Nat) (h : i < n) : (rowV n g)[i]? = some (.int .i64 (g i)) := by simp [rowV, h]
theorem rowV_set (n : Nat) (g : Nat → Int) (k : Nat) (v : Int) : (rowV n g).set k (.int .i64 v) = rowV n (upd g k v) := by
  apply List.ext_getElem?
  intro i
  rw [List.getElem?_set, rowV_length]
  by_cases hi : i < n
  · rw [rowV_get _ _ _ hi, rowV_get _ _ _ hi]
    by_cases h2 : k = i
    · subst h2; simp [hi, upd]
    · rw [if_neg h2, upd_ne _ _ _ (fun e => h2 e.symm)]
  · rw [List.getElem?_eq_none (by rw [rowV_length]; omega), List.getElem?_eq_none (by rw [rowV_length]; omega)]
    split
    · rw [if_neg (by omega)]
    · rfl
theorem rowV_zero (n : Nat) : rowV n (fun _ => 0) = List.replicate n (.int .i64 0) := by
  apply List.ext_getElem?
  intro i
  by_cases hi : i < n
  · rw [rowV_get _ _ _ hi]; simp [hi]
  · rw [List.getElem?_eq_none (by rw [rowV_length]; omega), List.getElem?_eq_none (by simp; omega)]
theorem rowV_list {n : Nat} {g : Nat → Int} {xs : List Int} (h : xs.length = n) (hg : ∀ i, i < n → g i = xs.getD i 0) : rowV n g = xs.map (Value.int .i64) := by
  apply List.ext_getElem?
  intro i
  by_cases hi : i < n
  · rw [rowV_get _ _ _ hi, List.getElem?_map, List.getElem?_eq_getElem (by omega), hg i hi, ← getD_at xs i (by omega)]; rfl
  · rw [List.getElem?_eq_none (by rw [rowV_length]; omega), List.getElem?_eq_none (by simp; omega)]
theorem rowV_congr {n : Nat} {g h : Nat → Int} (e : ∀ i, i < n → g i = h i) : rowV n g = rowV n h := by
  unfold rowV
  apply List.map_congr_left
  intro i hi
  rw [e i (by simpa using hi)]
theorem rowV_own {w : World} {B e b n : Nat} (h : w.ownsRow B e 1 (.slice (some ⟨b, 0, none⟩) n n) n (madeCells #[Value.int .i64 0] n).toList) : w.ownsRow B e 1 (.slice (some ⟨b, 0, none⟩) n n) n (rowV n fun _ => 0) := by
  rw [rowV_zero]; simpa [Value.cells, toList_madeCells_one] using h
/-- A place of the row is written: the row, what else is known. -/
theorem own_put {w : World} {B e b n : Nat} {g : Nat → Int} (h : w.ownsRow B e 1 (.slice (some ⟨b, 0, none⟩) n n) n (rowV n g)) (k : Nat) (v : Int) :
    (w.setCell ⟨b, k, none⟩ (.int .i64 v)).ownsRow B e 1 (.slice (some ⟨b, 0, none⟩) n n) n (rowV n (upd g k v)) ∧ w.grownBy (w.setCell ⟨b, k, none⟩ (.int .i64 v)) (some b) := by
  have := h.stored k (.int .i64 v)
  rwa [rowV_set] at this
theorem own_cell {w : World} {B e b n : Nat} {g : Nat → Int} (h : w.ownsRow B e 1 (.slice (some ⟨b, 0, none⟩) n n) n (rowV n g)) (k : Nat) (hk : k < n) : w.cell? ⟨b, k, none⟩ = some (.int .i64 (g k)) := by
  rw [h.cellAt k (by omega), rowV_get _ _ _ hk]
theorem own_base {w : World} {B e b n m : Nat} {xs : List Value} (h : w.ownsRow B e 1 (.slice (some ⟨b, 0, none⟩) n m) n xs) : B ≤ b ∧ b < w.heap.size := h.lt b rfl
theorem own_heap {w : World} {B e b n : Nat} {xs : List Value} (h : w.ownsRow B e 1 (.slice (some ⟨b, 0, none⟩) n n) n xs) : w.heap[b]? = some (.cells xs.toArray e (0, 0)) := by
  rcases h.2 with ⟨h', _⟩ | ⟨g', cap', cur, h', _, hg, _, _, hs, htake⟩
  · simp at h'
  · simp only [Value.slice.injEq, Option.some.injEq, Addr.mk.injEq, and_true, true_and] at h'
    obtain ⟨rfl, rfl⟩ := h'
    rw [hg, ← htake, List.take_of_length_le (by simp; omega)]
theorem own_of_heap {w : World} {B e b n : Nat} {xs : List Value} (h : w.heap[b]? = some (.cells xs.toArray e (0, 0))) (hB : B ≤ b) (hn : n ≤ maxLen) (hx : xs.length = n) : w.ownsRow B e 1 (.slice (some ⟨b, 0, none⟩) n n) n xs :=
  ⟨by omega, .inr ⟨b, n, xs.toArray, rfl, hB, h, Nat.le_refl _, hn, by simp [hx], by simp [List.take_of_length_le, hx]⟩⟩
theorem own_one (W : World) (B e : Nat) (x : Int) (hB : B ≤ W.heap.size) : (W.alloc (.cells #[.int .i64 x] e)).ownsRow B e 1 (.slice (some ⟨W.heap.size, 0, none⟩) 1 1) 1 ([x].map (Value.int .i64)) :=
  World.ownsRow_lit W #[.int .i64 x] 1 hB (by unfold maxLen; omega) rfl
end Go.Proofs.Ytjbmgppgkgacpaa

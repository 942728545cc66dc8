/- What the laws draw: words. -/
import Derived.Test.YtfnhoiomdjmjhaaDoorCur
import Derived.Test.YtfnhoiomdjmjhaaDoorWMath
import Derived.Test.YtfnhoiomdjmjhaaDoorFill
namespace Go.Proofs.YtfnhoiomdjmjhaaDoor
set_option maxRecDepth 20000
open Go.RowKit
theorem grown_trans {p : Nat} {a b c : World} (h : a.grownBy b (some p)) (k : b.grownBy c (some p)) : a.grownBy c (some p) :=
  ⟨k.os.trans h.os, k.tape.trans h.tape, k.output.trans h.output, Nat.le_trans h.size k.size, fun j hj hne => (k.block j (Nat.lt_of_lt_of_le hj h.size) hne).trans (h.block j hj hne)⟩
theorem grown_below {p B : Nat} {a b : World} (h : a.grownBy b (some p)) (hB : B ≤ p) (hs : B ≤ a.heap.size) : Below B a b :=
  ⟨h.os, h.tape, h.output, h.size, fun k hk => h.block k (by omega) (by simp; omega)⟩
theorem below_grown {p B : Nat} {a b : World} (h : Below B a b) (hB : a.heap.size ≤ B) : a.grownBy b (some p) :=
  ⟨h.os, h.tape, h.output, h.size, fun k hk _ => h.block k (by omega)⟩
theorem own_turn {w w' : World} {p B e : Nat} {v : Value} {n : Nat} {xs : List Value} (h : w.ownsRow B e 1 v n xs) (ht : w.grownBy w' (some p)) (hp : p < B) : w'.ownsRow B e 1 v n xs :=
  h.kept ht (by
    cases hv : v.ownBlock with
    | none => exact .inl rfl
    | some k => have := (h.lt k hv).1; exact .inr (by simp; omega))
/-- Behind an append to a row of the call's own. -/
theorem grown_app {w w1 w2 : World} {p B e : Nat} {v : Value} {n : Nat} {xs : List Value} (hg : w.grownBy w1 (some p)) (h : w1.ownsRow B e 1 v n xs) (hB : w.heap.size ≤ B) (o : Obj) (hw : (w1.alloc o).grownBy w2 v.ownBlock) : w.grownBy w2 (some p) := by
  refine ⟨hw.os.trans hg.os, hw.tape.trans hg.tape, hw.output.trans hg.output, ?_, fun k hk hne => ?_⟩
  · have := hw.size; have := hg.size; simp at *; omega
  · have hs := hg.size
    have hb := hw.block k (by simp; omega) (fun e => by have := (h.lt k e.symm).1; omega)
    rw [hb, Below.heap_alloc w1 o k (by omega)]
    exact hg.block k hk hne
theorem own_weak {w : World} {B C e : Nat} {v : Value} {n : Nat} {xs : List Value} (h : w.ownsRow B e 1 v n xs) (hC : C ≤ B) : w.ownsRow C e 1 v n xs := by
  obtain ⟨h1, h2⟩ := h
  refine ⟨h1, ?_⟩
  rcases h2 with h2 | ⟨g, cap, cur, e1, hb, h3⟩
  · exact .inl h2
  · exact .inr ⟨g, cap, cur, e1, by omega, h3⟩
theorem map_set_int (xs : List Int) (j : Nat) (c : Int) : (xs.map (Value.int .i64)).set j (.int .i64 c) = (xs.set j c).map (Value.int .i64) := by rw [List.map_set]
theorem trits_set {xs : List Int} (h : ∀ x ∈ xs, -1 ≤ x ∧ x ≤ 1) (j : Nat) {c : Int} (hc : -1 ≤ c ∧ c ≤ 1) : ∀ x ∈ xs.set j c, -1 ≤ x ∧ x ≤ 1 := by
  intro x hx
  rcases List.mem_or_eq_of_mem_set hx with h1 | h1
  · exact h x h1
  · rw [h1]; exact hc
/-- A place of a row of the call's own is written, the cursor stays. -/
theorem drawn_put {q p : Nat} {a : Option Addr} {n cap : Nat} {w wr : World} {g k c' : Nat} {xs : List Int} (hpl : p < w.heap.size) (hown : wr.ownsRow w.heap.size 3 1 (.slice (some ⟨g, 0, none⟩) k c') k (xs.map (Value.int .i64))) (hc : Cur wr q p a n cap) (hg : w.grownBy wr (some p)) (j : Nat) (c : Int) :
    (wr.setCell ⟨g, j, none⟩ (.int .i64 c)).ownsRow w.heap.size 3 1 (.slice (some ⟨g, 0, none⟩) k c') k ((xs.set j c).map (Value.int .i64)) ∧ Cur (wr.setCell ⟨g, j, none⟩ (.int .i64 c)) q p a n cap ∧ w.grownBy (wr.setCell ⟨g, j, none⟩ (.int .i64 c)) (some p) := by
  have hb := own_base hown
  have hst := hown.stored j (.int .i64 c)
  rw [map_set_int] at hst
  obtain ⟨s1, s2⟩ := hst
  have hqp : q ≤ p := by obtain ⟨_, _, _, _, _, h4, _⟩ := hc; exact h4
  have hs := hg.size
  refine ⟨s1, hc.of_blocks (s2.block p (by omega) (by simp; omega)) (fun b hb' => s2.block b (by omega) (by simp; omega)), ⟨s2.os.trans hg.os, s2.tape.trans hg.tape, s2.output.trans hg.output, by have := s2.size; omega, fun k hk hne => ?_⟩⟩
  rw [s2.block k (by omega) (by simp; omega)]
  exact hg.block k hk hne
theorem isW_of {xs : List Int} (h : ∀ x ∈ xs, -1 ≤ x ∧ x ≤ 1) (h1 : 1 ≤ xs.length) (h2 : xs.length ≤ 30) : Tm.isW xs = true := (Tm.isW_iff xs).2 ⟨h, h1, h2⟩
end Go.Proofs.YtfnhoiomdjmjhaaDoor

/- The cursor over the bytes of a draw: contracts of the model's l01Byte, l01Below, l01Once, l01Int, l01Pick, l01New. -/
import Derived.Test.YtlpdeeaebgclpaaDoorRow
import Derived.Laws.Rows
namespace Go.Proofs.YtlpdeeaebgclpaaDoor
set_option maxRecDepth 20000
open Go.RowKit

theorem and_mask (x m : Int) (h0 : 0 ≤ m) (h1 : m < 9223372036854775808) : 0 ≤ bits .and .i64 x m ∧ bits .and .i64 x m ≤ m := by
  obtain ⟨k, rfl⟩ := Int.eq_ofNat_of_zero_le h0
  have h2 : (BitVec.ofInt 64 (k : Int)).toNat = k := by
    rw [BitVec.ofInt_natCast, BitVec.toNat_ofNat]; exact Nat.mod_eq_of_lt (by omega)
  have e : bits .and .i64 x (k : Int) = IntKind.i64.wrap ((BitVec.ofInt 64 x &&& BitVec.ofInt 64 (k : Int)).toNat : Int) := rfl
  have hle : (BitVec.ofInt 64 x &&& BitVec.ofInt 64 (k : Int)).toNat ≤ k := by
    rw [BitVec.toNat_and, h2]; exact Nat.and_le_right
  rw [e, IntWalk.i64_in _ (by omega)]
  omega

/-- The bytes that a draw reads: '.slice a n cap' holds n bytes. -/
def Byts (w : World) (a : Option Addr) (n cap : Nat) : Prop :=
  n ≤ cap ∧ cap ≤ maxLen ∧ (n = 0 ∨ ∃ b o, a = some ⟨b, o, none⟩ ∧ b < w.heap.size ∧ ∀ i, i < n → ∃ x : Int, 0 ≤ x ∧ x ≤ 255 ∧ w.cell? ⟨b, o + i, none⟩ = some (.int .u8 x))
theorem Byts.of_row {w : World} {a : Option Addr} {n cap : Nat} {zs : List Int} (h : IsRow .u8 w a n cap zs) : Byts w a n cap := by
  rcases h with ⟨rfl, rfl, rfl, rfl⟩ | ⟨x, rfl, hl, hm, hz, hc, hw⟩
  · exact ⟨by omega, by unfold maxLen; omega, .inl rfl⟩
  · refine ⟨hl, hm, ?_⟩
    rcases Nat.eq_zero_or_pos n with h0 | h0
    · exact .inl h0
    · obtain ⟨b, o, rfl, hc2⟩ := ints_at hc (by omega)
      refine .inr ⟨b, o, rfl, World.block_lt_of_cell? (a := ⟨b, o + 0, none⟩) w (hc2 0 (by omega)), fun i hi => ⟨_, ?_, ?_, hc2 i (by omega)⟩⟩
      · have := bounds_u8 (hw (zs.getD i 0) (by rw [List.getD_eq_getElem?_getD, List.getElem?_eq_getElem (by omega)]; exact List.getElem_mem _))
        omega
      · have := bounds_u8 (hw (zs.getD i 0) (by rw [List.getD_eq_getElem?_getD, List.getElem?_eq_getElem (by omega)]; exact List.getElem_mem _))
        omega
theorem Byts.of_blocks {w w' : World} {a : Option Addr} {n cap : Nat} (h : Byts w a n cap) (hs : w.heap.size ≤ w'.heap.size) (hb : ∀ b o, a = some ⟨b, o, none⟩ → b < w.heap.size → w'.heap[b]? = w.heap[b]?) : Byts w' a n cap := by
  obtain ⟨h1, h2, h3⟩ := h
  refine ⟨h1, h2, ?_⟩
  rcases h3 with h3 | ⟨b, o, ha, hlt, hc⟩
  · exact .inl h3
  · refine .inr ⟨b, o, ha, by omega, fun i hi => ?_⟩
    obtain ⟨x, x0, x1, hx⟩ := hc i hi
    exact ⟨x, x0, x1, by rw [← hx]; exact World.cell?_of_block (a := ⟨b, o + i, none⟩) (hb b o ha hlt)⟩
theorem Byts.below {w w' : World} {a : Option Addr} {n cap : Nat} (h : Byts w a n cap) (hb : Below w.heap.size w w') : Byts w' a n cap :=
  h.of_blocks hb.size (fun b _ _ hlt => hb.block b hlt)

/-- A cursor in block p over the bytes '.slice a n cap', which lie below block q ≤ p. -/
def Cur (w : World) (q p : Nat) (a : Option Addr) (n cap : Nat) : Prop :=
  ∃ i h : Int, w.heap[p]? = some (.cells #[.slice a n cap, .int .i64 i, .int .i64 h] 0 (0, 0)) ∧ 0 ≤ i ∧ i ≤ n ∧ q ≤ p ∧
    n ≤ cap ∧ cap ≤ maxLen ∧ (n = 0 ∨ ∃ b o, a = some ⟨b, o, none⟩ ∧ b < q ∧ ∀ i, i < n → ∃ x : Int, 0 ≤ x ∧ x ≤ 255 ∧ w.cell? ⟨b, o + i, none⟩ = some (.int .u8 x))
/-- Only block p may have turned. -/
structure Turned (p : Nat) (w w' : World) : Prop where
  grown : w.grownBy w' (some p)
  same : w'.heap.size = w.heap.size
theorem Turned.refl (p : Nat) (w : World) : Turned p w w := ⟨⟨rfl, rfl, rfl, Nat.le_refl _, fun _ _ _ => rfl⟩, rfl⟩
theorem Turned.trans {p : Nat} {a b c : World} (h : Turned p a b) (k : Turned p b c) : Turned p a c :=
  ⟨⟨k.grown.os.trans h.grown.os, k.grown.tape.trans h.grown.tape, k.grown.output.trans h.grown.output, Nat.le_trans h.grown.size k.grown.size, fun j hj hne => (k.grown.block j (by rw [h.same]; exact hj) hne).trans (h.grown.block j hj hne)⟩, k.same.trans h.same⟩
theorem Turned.drewN {p : Nat} {a b : World} (h : Turned p a b) (n : Nat) : Turned p a (b.drewN n) := ⟨⟨h.grown.os, h.grown.tape, h.grown.output, h.grown.size, h.grown.block⟩, h.same⟩
theorem Turned.set {p : Nat} {a b : World} (h : Turned p a b) (j : Nat) (v : Value) : Turned p a (b.setCell ⟨p, j, none⟩ v) :=
  h.trans ⟨⟨rfl, rfl, rfl, by simp, fun k _ hne => heap_setCell_other b ⟨p, j, none⟩ k v (fun e => hne (by simp [e]))⟩, by simp⟩
theorem Turned.below {p B : Nat} {a b : World} (h : Turned p a b) (hB : B ≤ p) : Below B a b := by
  refine ⟨h.grown.os, h.grown.tape, h.grown.output, h.grown.size, fun k hk => ?_⟩
  rcases Nat.lt_or_ge k a.heap.size with hlt | hge
  · exact h.grown.block k hlt (by simp; omega)
  · rw [Array.getElem?_eq_none (by rw [h.same]; exact hge), Array.getElem?_eq_none hge]
theorem Cur.lt {w : World} {q p : Nat} {a : Option Addr} {n cap : Nat} (h : Cur w q p a n cap) : p < w.heap.size := by
  obtain ⟨i, hh, h1, _⟩ := h
  exact (Array.getElem?_eq_some_iff.1 h1).1
/-- A cursor stays while others turn. -/
theorem Cur.of_blocks {w w' : World} {q p : Nat} {a : Option Addr} {n cap : Nat} (h : Cur w q p a n cap) (hp : w'.heap[p]? = w.heap[p]?) (hb : ∀ b, b < q → w'.heap[b]? = w.heap[b]?) : Cur w' q p a n cap := by
  obtain ⟨i, hh, h1, h2, h3, h4, h5, h6, h7⟩ := h
  refine ⟨i, hh, by rw [hp]; exact h1, h2, h3, h4, h5, h6, ?_⟩
  rcases h7 with h7 | ⟨b, o, ha, hlt, hc⟩
  · exact .inl h7
  · refine .inr ⟨b, o, ha, hlt, fun i hi => ?_⟩
    obtain ⟨x, x0, x1, hx⟩ := hc i hi
    exact ⟨x, x0, x1, by rw [← hx]; exact World.cell?_of_block (a := ⟨b, o + i, none⟩) (hb b hlt)⟩
theorem Cur.below {w w' : World} {q p : Nat} {a : Option Addr} {n cap : Nat} (h : Cur w q p a n cap) (hb : Below w.heap.size w w') : Cur w' q p a n cap := by
  have hq : q ≤ p := by obtain ⟨_, _, _, _, _, h4, _⟩ := h; exact h4
  have hl := h.lt
  exact h.of_blocks (hb.block p hl) (fun b hlt => hb.block b (by omega))
/-- What a draw leaves: a number in its bounds, the cursor, and no other block turned. -/
def Drawn (q p : Nat) (a : Option Addr) (n cap : Nat) (lo hi : Int) (w : World) (e : Ending) (w' : World) : Prop :=
  ∃ x : Int, e = .returned (.int .i64 x) ∧ lo ≤ x ∧ x ≤ hi ∧ Cur w' q p a n cap ∧ Turned p w w'
theorem heap_drewN (w : World) (n k : Nat) : (w.drewN n).heap[k]? = w.heap[k]? := rfl
end Go.Proofs.YtlpdeeaebgclpaaDoor

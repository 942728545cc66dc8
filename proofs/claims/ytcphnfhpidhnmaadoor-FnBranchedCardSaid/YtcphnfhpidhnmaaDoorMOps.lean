/- Lists of operations: what is told of one that is read, of one that is a callee's own; the contracts of the laws' own functions on operations. -/
import Derived.Test.YtcphnfhpidhnmaaDoorGen
import Derived.Test.YtcphnfhpidhnmaaDoorGMath
import Derived.Test.YtcphnfhpidhnmaaDoorTab2
namespace Go.Proofs.YtcphnfhpidhnmaaDoor
set_option maxRecDepth 20000
open Go.RowKit
abbrev opV (g : Nat → Int) : Value := .agg #[.int .i64 (g 0), .int .i64 (g 1), .int .i64 (g 2), .int .i64 (g 3)]
def ocells (g : Nat → Int) : List Value := [.int .i64 (g 0), .int .i64 (g 1), .int .i64 (g 2), .int .i64 (g 3)]
namespace Tm
/-- The numbers of operations, one after the other. -/
def flatO : List (Nat → Int) → List Int
  | [] => []
  | g :: L => g 0 :: g 1 :: g 2 :: g 3 :: flatO L
theorem flatO_length (L : List (Nat → Int)) : (flatO L).length = L.length * 4 := by
  induction L with
  | nil => rfl
  | cons g L ih => simp only [flatO, List.length_cons, ih]; omega
theorem flatO_append (L M : List (Nat → Int)) : flatO (L ++ M) = flatO L ++ flatO M := by
  induction L with
  | nil => rfl
  | cons g L ih => simp [flatO, ih]
theorem flatO_at (L : List (Nat → Int)) : ∀ (i j : Nat), i < L.length → j < 4 → (flatO L).getD (i * 4 + j) 0 = (L.getD i g0) j := by
  induction L with
  | nil => intro i j hi; simp at hi
  | cons g L ih =>
    intro i j hi hj
    match i with
    | 0 =>
      match j, hj with
      | 0, _ | 1, _ | 2, _ | 3, _ => simp [flatO]
    | i + 1 =>
      have := ih i j (by simpa using hi) hj
      rw [show (i + 1) * 4 + j = i * 4 + j + 4 by omega]
      simpa [flatO] using this
end Tm
/-- The slice value '.slice a n cap' reads as the operations L. -/
def OpR (w : World) (a : Option Addr) (n cap : Nat) (L : List (Nat → Int)) : Prop :=
  L.length = n ∧ n ≤ cap ∧ cap ≤ maxLen ∧ (n = 0 ∨ ∃ b o, a = some ⟨b, o, none⟩ ∧ b < w.heap.size ∧ ∀ i, i < n → ∀ j, j < 4 → w.cell? ⟨b, o + i * 4 + j, none⟩ = some (.int .i64 (L.getD i Tm.g0 j)))
theorem OpR.of_blocks {w w' : World} {a : Option Addr} {n cap : Nat} {L : List (Nat → Int)} (h : OpR w a n cap L) (hs : w.heap.size ≤ w'.heap.size) (hb : ∀ b o, a = some ⟨b, o, none⟩ → b < w.heap.size → w'.heap[b]? = w.heap[b]?) : OpR w' a n cap L := by
  obtain ⟨h1, h2, h3, h4⟩ := h
  refine ⟨h1, h2, h3, ?_⟩
  rcases h4 with h4 | ⟨b, o, ha, hlt, hc⟩
  · exact .inl h4
  · exact .inr ⟨b, o, ha, by omega, fun i hi j hj => by rw [← hc i hi j hj]; exact World.cell?_of_block (a := ⟨b, o + i * 4 + j, none⟩) (hb b o ha hlt)⟩
theorem OpR.below {w w' : World} {a : Option Addr} {n cap : Nat} {L : List (Nat → Int)} (h : OpR w a n cap L) (hb : Below w.heap.size w w') : OpR w' a n cap L :=
  h.of_blocks hb.size (fun b _ _ hlt => hb.block b hlt)
theorem OpR.alloc {w : World} {a : Option Addr} {n cap : Nat} {L : List (Nat → Int)} (h : OpR w a n cap L) (o : Obj) : OpR (w.alloc o) a n cap L := h.below ((Below.refl _ _).alloc (Nat.le_refl _) o)
/-- An operation's cells. -/
def OpAt (w : World) (b X : Nat) (g : Nat → Int) : Prop := w.cell? ⟨b, X, none⟩ = some (.int .i64 (g 0)) ∧ w.cell? ⟨b, X + 1, none⟩ = some (.int .i64 (g 1)) ∧ w.cell? ⟨b, X + 2, none⟩ = some (.int .i64 (g 2)) ∧ w.cell? ⟨b, X + 3, none⟩ = some (.int .i64 (g 3))
theorem opAt_of {w : World} {b X : Nat} {g : Nat → Int} (h : ∀ j, j < 4 → w.cell? ⟨b, X + j, none⟩ = some (.int .i64 (g j))) : OpAt w b X g :=
  ⟨h 0 (by omega), h 1 (by omega), h 2 (by omega), h 3 (by omega)⟩
theorem OpR.op {w : World} {b o n : Nat} {L : List (Nat → Int)} (hc : ∀ i, i < n → ∀ j, j < 4 → w.cell? ⟨b, o + i * 4 + j, none⟩ = some (.int .i64 (L.getD i Tm.g0 j))) {k : Nat} (hk : k < n) : ∃ g, g = L.getD k Tm.g0 ∧ OpAt w b (o + k * 4) g :=
  ⟨_, rfl, opAt_of (hc k hk)⟩
end Go.Proofs.YtcphnfhpidhnmaaDoor

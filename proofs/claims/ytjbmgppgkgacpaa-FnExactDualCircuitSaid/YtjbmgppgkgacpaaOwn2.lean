/- Lists of rows that grow by rows of the call's own; a list of rows with a flag is handed back. -/
import Derived.Test.YtjbmgppgkgacpaaOwn
import Derived.Test.YtjbmgppgkgacpaaSS
namespace Go.Proofs.Ytjbmgppgkgacpaa
set_option maxRecDepth 20000
open Go.RowKit
theorem infoOwnS : (Try.prog.info? 23).map (fun i => (i.zero, i.size, i.bytes)) = some (some (.slice none 0 0), 1, 24) := by kernel_rfl
/-- The rows that a list holds: each its own, no two in one block, none in the list's. -/
def RowsIn (w : World) (B E e1 : Nat) (v : Value) (L : List (List Int)) (us : List Value) : Prop :=
  (∀ j, j < L.length → ∃ u, us[j]? = some u ∧ OwnI w B E e1 u (L.getD j []) ∧ Apart u v) ∧ ∀ i j, i < j → j < L.length → ∀ u u', us[i]? = some u → us[j]? = some u' → Apart u u'
theorem OwnL.split {w : World} {B E e1 e2 : Nat} {v : Value} {L : List (List Int)} (h : OwnL w B E e1 e2 v L) : ∃ us, w.ownsRow B e2 1 v L.length us ∧ (∀ q, v.ownBlock = some q → q < E) ∧ RowsIn w B E e1 v L us := by
  obtain ⟨us, h1, h2, h3, h4⟩ := h
  exact ⟨us, h1, h2, h3, h4⟩
theorem RowsIn.stay {w w' : World} {B E e1 : Nat} {v : Value} {L : List (List Int)} {us : List Value} (h : RowsIn w B E e1 v L us) (hs : SameIn B E w w') : RowsIn w' B E e1 v L us :=
  ⟨fun j hj => by obtain ⟨u, e, ho, ap⟩ := h.1 j hj; exact ⟨u, e, ho.stay hs, ap⟩, h.2⟩
theorem OwnL.grow {w w' : World} {B E e1 e2 : Nat} {v v' u : Value} {L : List (List Int)} {xs : List Int} {us : List Value}
    (h2 : ∀ q, v.ownBlock = some q → q < E) (h3 : RowsIn w B E e1 v L us) (hus : us.length = L.length)
    (ho : w.ownsRow B e1 1 u xs.length (xs.map (Value.int .i64))) (hu : ∀ q, u.ownBlock = some q → E ≤ q)
    (hown : w'.ownsRow B e2 1 v' (L.length + 1) (us ++ [u])) (hg : w.grownBy w' v.ownBlock) (hat : v'.ownBlock = v.ownBlock ∨ v'.ownBlock = some w.heap.size) : OwnL w' B w'.heap.size e1 e2 v' (L ++ [xs]) := by
  have uv : Apart u v := Apart.of_lt hu h2
  have keep : ∀ {x : Value} {ys : List Int}, w.ownsRow B e1 1 x ys.length (ys.map (Value.int .i64)) → Apart x v → OwnI w' B w'.heap.size e1 x ys ∧ Apart x v' := fun h ap =>
    ⟨⟨own_stable h fun q hq => hg.block q (h.lt q hq).2 (fun e => ap q hq e.symm), fun q hq => Nat.lt_of_lt_of_le (h.lt q hq).2 hg.size⟩, (ap.symm.grow hat (fun q hq => (h.lt q hq).2)).symm⟩
  refine ⟨us ++ [u], by rw [List.length_append]; exact hown, fun q hq => (hown.lt q hq).2, fun j hj => ?_, fun i j hij hj x y e1 e2 => ?_⟩
  · rw [List.length_append, List.length_singleton] at hj
    by_cases e : j < L.length
    · obtain ⟨x, ex, hx, ap⟩ := h3.1 j e
      refine ⟨x, by rw [List.getElem?_append_left (by omega)]; exact ex, ?_⟩
      rw [List.getD_eq_getElem?_getD, List.getElem?_append_left e, ← List.getD_eq_getElem?_getD]
      exact keep hx.1 ap
    · obtain rfl : j = L.length := by omega
      refine ⟨u, by rw [List.getElem?_append_right (by omega), hus]; simp, ?_⟩
      rw [List.getD_eq_getElem?_getD, List.getElem?_append_right (by omega)]
      simp only [Nat.sub_self, List.getElem?_cons_zero, Option.getD_some]
      exact keep ho uv
  · rw [List.length_append, List.length_singleton] at hj
    rw [List.getElem?_append_left (by omega)] at e1
    by_cases e : j < L.length
    · rw [List.getElem?_append_left (by omega)] at e2
      exact h3.2 i j hij e x y e1 e2
    · obtain rfl : j = L.length := by omega
      rw [List.getElem?_append_right (by omega), hus] at e2
      simp only [Nat.sub_self, List.getElem?_cons_zero, Option.some.injEq] at e2
      subst e2
      obtain ⟨x', ex, hx, _⟩ := h3.1 i hij
      rw [e1] at ex
      cases ex
      exact (Apart.of_lt hu hx.2).symm
theorem ownL_nil (w : World) (B E e1 e2 : Nat) : OwnL w B E e1 e2 (.slice none 0 0) [] := ⟨[], World.ownsRow_nil _ _ _ _, fun q e => (by cases e), fun j hj => by simp at hj, fun i j _ hj => by simp at hj⟩
/-- '[][]int{}'. -/
theorem ownL_empty (w : World) (B e1 e2 : Nat) (hB : B ≤ w.heap.size) : OwnL (w.alloc (.cells #[] e2)) B (w.alloc (.cells #[] e2)).heap.size e1 e2 (.slice (some ⟨w.heap.size, 0, none⟩) 0 0) [] :=
  ⟨[], own_empty w B e2 hB, fun q e => (by cases e; simp), fun j hj => by simp at hj, fun i j _ hj => by simp at hj⟩
/-- A list of rows, all of it new, and a flag. -/
def RetLB (e1 e2 : Nat) (w : World) (L : List (List Int)) (ok : Bool) (r : Ending) (w' : World) : Prop :=
  ∃ v, r = .returned (.tuple #[v, .bool ok]) ∧ OwnL w' w.heap.size w'.heap.size e1 e2 v L ∧ Below w.heap.size w w'
theorem ret_nil_lb {e1 e2 : Nat} {w w' : World} {ok : Bool} (hb : Below w.heap.size w w') : RetLB e1 e2 w [] ok (.returned (.tuple #[.slice none 0 0, .bool ok])) w' := ⟨_, rfl, ownL_nil _ _ _ _ _, hb⟩
theorem retLB_ex {P : Program} {f : FuncId} {args : Array Value} {w : World} {e1 e2 : Nat} {L : List (List Int)} {ok : Bool} (h : Calls P f args w (RetLB e1 e2 w L ok)) (hk : ok = true) :
    Calls P f args w fun r w' => ∃ M a cap, M = L ∧ r = .returned (.tuple #[.slice a M.length cap, .bool true]) ∧ Rows w' a M.length cap M ∧ Below w.heap.size w w' := by
  subst hk
  refine h.mono fun _ _ ⟨v, h1, h2, h3⟩ => ?_
  obtain ⟨a, cap, rfl, hr⟩ := h2.rows
  exact ⟨L, a, cap, rfl, h1, hr, h3⟩
theorem ret2B_no {P : Program} {f : FuncId} {args : Array Value} {w : World} {e : Nat} {xs ys : List Int} {ok : Bool} (h : Calls P f args w (Ret2B e w xs ys ok)) (hk : ok = false) :
    Calls P f args w fun r w' => ∃ v u, r = .returned (.tuple #[v, u, .bool false]) ∧ Below w.heap.size w w' := by
  subst hk
  exact h.mono fun _ _ ⟨a, cap, b, cap2, h1, _, _, _, h5, _, _⟩ => ⟨_, _, h1, h5⟩
/-- What is below stays: a cell of a slice that came in. -/
theorem Ints.cell_low {w : World} {B : Nat} {b o n cap : Nat} {xs : List Int} (h : Ints w (some ⟨b, o, none⟩) n cap xs) (hB : b < B) {k : Nat} (hk : k < n) {w1 : World} (hb : Below B w w1) : w1.cell? ⟨b, o + k, none⟩ = some (.int .i64 (xs.getD k 0)) := by
  rcases h.2.2.2 with h0 | ⟨b', o', e, _, hc⟩
  · omega
  · cases e
    rw [← hc k hk]
    exact World.cell?_of_block (a := ⟨b, o + k, none⟩) (hb.block b hB)
end Go.Proofs.Ytjbmgppgkgacpaa

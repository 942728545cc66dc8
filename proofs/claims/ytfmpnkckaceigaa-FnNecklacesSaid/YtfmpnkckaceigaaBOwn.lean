/- Lists of rows that grow by several rows at once. -/
import Derived.Test.YtfmpnkckaceigaaOwn2
namespace Go.Proofs.Ytfmpnkckaceigaa
set_option maxRecDepth 20000
open Go.RowKit
theorem RowsIn.snoc {w : World} {B E E' e1 : Nat} {v u : Value} {L : List (List Int)} {x : List Int} {us : List Value} (h : RowsIn w B E e1 v L us) (hus : us.length = L.length)
    (ho : w.ownsRow B e1 1 u x.length (x.map (Value.int .i64))) (hu : ∀ q, u.ownBlock = some q → E ≤ q ∧ q < E') (hv : ∀ q, v.ownBlock = some q → q < E) (hE : E ≤ E') : RowsIn w B E' e1 v (L ++ [x]) (us ++ [u]) := by
  refine ⟨fun j hj => ?_, fun i j hij hj y z q1 q2 => ?_⟩
  · rw [List.length_append, List.length_singleton] at hj
    by_cases e : j < L.length
    · obtain ⟨y, ex, hx, ap⟩ := h.1 j e
      refine ⟨y, by rw [List.getElem?_append_left (by omega)]; exact ex, ?_⟩
      rw [List.getD_eq_getElem?_getD, List.getElem?_append_left e, ← List.getD_eq_getElem?_getD]
      exact ⟨hx.wide (Nat.le_refl _) hE, ap⟩
    · obtain rfl : j = L.length := by omega
      refine ⟨u, by rw [List.getElem?_append_right (by omega), hus]; simp, ?_⟩
      rw [List.getD_eq_getElem?_getD, List.getElem?_append_right (by omega)]
      simp only [Nat.sub_self, List.getElem?_cons_zero, Option.getD_some]
      exact ⟨⟨ho, fun q hq => (hu q hq).2⟩, Apart.of_lt (fun q hq => (hu q hq).1) hv⟩
  · rw [List.length_append, List.length_singleton] at hj
    rw [List.getElem?_append_left (by omega)] at q1
    by_cases e : j < L.length
    · rw [List.getElem?_append_left (by omega)] at q2
      exact h.2 i j hij e y z q1 q2
    · obtain rfl : j = L.length := by omega
      rw [List.getElem?_append_right (by omega), hus] at q2
      simp only [Nat.sub_self, List.getElem?_cons_zero, Option.some.injEq] at q2
      subst q2
      obtain ⟨x', ex, hx, _⟩ := h.1 i hij
      rw [q1] at ex
      cases ex
      exact (Apart.of_lt (fun q hq => (hu q hq).1) hx.2).symm
/-- The list's row grows: its rows stay. -/
theorem OwnL.grown {w w' : World} {B E e1 e2 : Nat} {v v' : Value} {M : List (List Int)} {ns : List Value} (h : RowsIn w B E e1 v M ns)
    (hown : w'.ownsRow B e2 1 v' M.length ns) (hg : w.grownBy w' v.ownBlock) (hat : v'.ownBlock = v.ownBlock ∨ v'.ownBlock = some w.heap.size) : OwnL w' B w'.heap.size e1 e2 v' M := by
  refine ⟨ns, hown, fun q hq => (hown.lt q hq).2, fun j hj => ?_, h.2⟩
  obtain ⟨y, ex, hx, ap⟩ := h.1 j hj
  exact ⟨y, ex, ⟨own_stable hx.1 fun q hq => hg.block q (hx.1.lt q hq).2 (fun e => ap q hq e.symm), fun q hq => Nat.lt_of_lt_of_le (hx.1.lt q hq).2 hg.size⟩, (ap.symm.grow hat (fun q hq => (hx.1.lt q hq).2)).symm⟩
theorem app_t1 (w : World) (x y z : Value) (t : TypeId) : ∀ j u, [x, y, z][j]? = some u → (w.alloc (.cells #[x, y, z] t)).cell? ((⟨w.heap.size, 0, none⟩ : Addr).add j) = some u := by
  intro j u h
  match j, h with
  | 0, h => simp at h; subst h; simp [Addr.add]
  | 1, h => simp at h; subst h; simp [Addr.add]
  | 2, h => simp at h; subst h; simp [Addr.add]
theorem app_t2 (a b c : Option Addr) (n k m d l f : Nat) : ∀ u ∈ [Value.slice a n k, Value.slice b m d, Value.slice c l f], u.oneCell' = true := by intro u hu; simp at hu; rcases hu with rfl | rfl | rfl <;> rfl
theorem ints_one (w : World) (x : Int) (t : TypeId) : Ints (w.alloc (.cells #[.int .i64 x] t)) (some ⟨w.heap.size, 0, none⟩) 1 1 [x] := by
  refine ⟨rfl, Nat.le_refl _, by unfold maxLen; omega, .inr ⟨_, _, rfl, by rw [World.size_alloc]; omega, fun i hi => ?_⟩⟩
  obtain rfl : i = 0 := by omega
  simp
/-- The same, of a callee that wants a world behind. -/
theorem quietB {P : Program} {f : FuncId} {args : Array Value} {w : World} {n : Nat} {v : Value}
    (h : ∀ W, Below w.heap.size w W → Calls P f args W fun e w' => e = .returned v ∧ W = w') : Calls P f args (w.drewN n) fun e w'' => e = .returned v ∧ ∃ m, w'' = w.drewN m :=
  (h _ (below_drewN (Below.refl _ _) n)).mono fun _ _ ⟨he, hm⟩ => ⟨he, n, hm.symm⟩
/-- A callee that leaves the world, in a quiet region behind draws. -/
theorem quiet_same2 {P : Program} {f : FuncId} {args : Array Value} {w : World} {k n : Nat} {v : Value}
    (h : ∀ W, Calls P f args W fun e w' => e = .returned v ∧ W = w') : Calls P f args (w.drewN (k + n)) fun e w'' => e = .returned v ∧ ∃ m, w'' = w.drewN (k + m) :=
  (h _).mono fun _ _ ⟨he, hm⟩ => ⟨he, n, hm.symm⟩
end Go.Proofs.Ytfmpnkckaceigaa

/- Rows that the call builds, two at a time; results of several values. -/
import Derived.Test.YtjbmgppgkgacpaaFill
import Derived.Maps.AppendAt
namespace Go.Proofs.Ytjbmgppgkgacpaa
set_option maxRecDepth 20000
open Go.RowKit
def genL (n : Nat) (g : Nat → Int) : List Int := (List.range n).map g
theorem genL_length (n : Nat) (g : Nat → Int) : (genL n g).length = n := by simp [genL]
theorem genL_get (n : Nat) (g : Nat → Int) (i : Nat) (h : i < n) : (genL n g).getD i 0 = g i := by
  rw [genL, List.getD_eq_getElem?_getD]; simp [h]
theorem genL_succ (n : Nat) (g : Nat → Int) : genL (n + 1) g = genL n g ++ [g n] := by simp [genL, List.range_succ]
theorem rowV_gen (n : Nat) (g : Nat → Int) : rowV n g = (genL n g).map (Value.int .i64) := by
  simp [rowV, genL, List.map_map]
theorem rowV_succ (n : Nat) (g : Nat → Int) : rowV n g ++ [Value.int .i64 (g n)] = rowV (n + 1) g := by
  simp [rowV, List.range_succ]
theorem rowV_0 (g : Nat → Int) : rowV 0 g = [] := rfl
/-- A row's head is a row. -/
theorem own_head {w : World} {B e m n cap : Nat} {a : Option Addr} {xs : List Value} (h : w.ownsRow B e 1 (.slice a m cap) m xs) (hn : n ≤ m) (h0 : a ≠ none) : w.ownsRow B e 1 (.slice a n cap) n (xs.take n) := by
  obtain ⟨h1, h2⟩ := h
  rcases h2 with ⟨e1, _⟩ | ⟨g, c, cur, e1, h3, h4, h5, h6, h7, h8⟩
  · cases e1; exact absurd rfl h0
  · cases e1
    refine ⟨by rw [List.length_take]; omega, .inr ⟨g, _, cur, rfl, h3, h4, by omega, h6, h7, ?_⟩⟩
    rw [← h8, List.take_take]; congr 1; omega
theorem own_some {w : World} {B e n cap : Nat} {a : Option Addr} {xs : List Value} (h : w.ownsRow B e 1 (.slice a n cap) n xs) (hn : 0 < n) : a ≠ none := by
  rcases h.2 with ⟨_, e2⟩ | ⟨g, c, cur, e1, _⟩
  · omega
  · cases e1; exact nofun
theorem own_lt {w : World} {B e n : Nat} {v : Value} {xs : List Value} (h : w.ownsRow B e 1 v n xs) : ∀ k, v.ownBlock = some k → k < w.heap.size := fun k hk => (h.lt k hk).2
theorem own_ge {w : World} {B e n : Nat} {v : Value} {xs : List Value} (h : w.ownsRow B e 1 v n xs) : ∀ k, v.ownBlock = some k → B ≤ k := fun k hk => (h.lt k hk).1
/-- Two values that lie in no one row. -/
def Apart (v u : Value) : Prop := ∀ k, v.ownBlock = some k → u.ownBlock ≠ some k
theorem Apart.symm {v u : Value} (h : Apart v u) : Apart u v := fun k e1 e2 => h k e2 e1
theorem Apart.or {v u : Value} (h : Apart v u) : v.ownBlock = none ∨ v.ownBlock ≠ u.ownBlock := by
  cases e : v.ownBlock with
  | none => exact .inl rfl
  | some k => exact .inr fun e2 => h k e e2.symm
theorem Apart.of_lt {v u : Value} {s : Nat} (h : ∀ k, v.ownBlock = some k → s ≤ k) (hu : ∀ k, u.ownBlock = some k → k < s) : Apart v u := fun k e1 e2 => by
  have := h k e1; have := hu k e2; omega
theorem Apart.grow {v v' u : Value} {s : Nat} (h : Apart v u) (hat : v'.ownBlock = v.ownBlock ∨ v'.ownBlock = some s) (hu : ∀ k, u.ownBlock = some k → k < s) : Apart v' u := fun k e1 e2 => by
  rcases hat with e | e
  · exact h k (e ▸ e1) e2
  · have := hu k e2; rw [e1] at e; cases e; omega
/-- A slice of the callee's own, a number, a flag. -/
def RetINB (e : Nat) (w : World) (xs : List Int) (k : Int) (ok : Bool) (r : Ending) (w' : World) : Prop :=
  ∃ a cap, r = .returned (.tuple #[.slice a xs.length cap, .int .i64 k, .bool ok]) ∧ w'.ownsRow w.heap.size e 1 (.slice a xs.length cap) xs.length (xs.map (Value.int .i64)) ∧ Below w.heap.size w w' ∧ xs.length ≤ 1048576
theorem ret_own_nb {e : Nat} {w w' : World} {xs : List Int} {v : Value} {n : Nat} {k : Int} {ok : Bool} (h : w'.ownsRow w.heap.size e 1 v n (xs.map (Value.int .i64))) (hb : Below w.heap.size w w') (hl : n ≤ 1048576 := by omega) : RetINB e w xs k ok (.returned (.tuple #[v, .int .i64 k, .bool ok])) w' := by
  obtain ⟨a, cap, rfl⟩ := own_form h
  have hn : n = xs.length := by have := h.1; simp at this; omega
  subst hn
  exact ⟨a, cap, rfl, h, hb, hl⟩
theorem ret_nil_nb {e : Nat} {w w' : World} (hb : Below w.heap.size w w') {k : Int} {ok : Bool} : RetINB e w [] k ok (.returned (.tuple #[.slice none 0 0, .int .i64 k, .bool ok])) w' := ret_own_nb (World.ownsRow_nil _ _ _ _) hb
/-- Two slices of the callee's own, and a flag. -/
def Ret2B (e : Nat) (w : World) (xs ys : List Int) (ok : Bool) (r : Ending) (w' : World) : Prop :=
  ∃ a cap b cap2, r = .returned (.tuple #[.slice a xs.length cap, .slice b ys.length cap2, .bool ok]) ∧ w'.ownsRow w.heap.size e 1 (.slice a xs.length cap) xs.length (xs.map (Value.int .i64)) ∧ w'.ownsRow w.heap.size e 1 (.slice b ys.length cap2) ys.length (ys.map (Value.int .i64)) ∧ Apart (.slice a xs.length cap) (.slice b ys.length cap2) ∧ Below w.heap.size w w' ∧ xs.length ≤ 1048576 ∧ ys.length ≤ 1048576
theorem ret_own_2b {e : Nat} {w w' : World} {xs ys : List Int} {v u : Value} {n m : Nat} {ok : Bool} (h : w'.ownsRow w.heap.size e 1 v n (xs.map (Value.int .i64))) (h2 : w'.ownsRow w.heap.size e 1 u m (ys.map (Value.int .i64))) (hne : Apart v u) (hb : Below w.heap.size w w') (hl : n ≤ 1048576 := by omega) (hl2 : m ≤ 1048576 := by omega) : Ret2B e w xs ys ok (.returned (.tuple #[v, u, .bool ok])) w' := by
  obtain ⟨a, cap, rfl⟩ := own_form h
  obtain ⟨b, cap2, rfl⟩ := own_form h2
  have hn : n = xs.length := by have := h.1; simp at this; omega
  have hm : m = ys.length := by have := h2.1; simp at this; omega
  subst hn hm
  exact ⟨a, cap, b, cap2, rfl, h, h2, hne, hb, hl, hl2⟩
theorem ret_nil_2b {e : Nat} {w w' : World} (hb : Below w.heap.size w w') {ok : Bool} : Ret2B e w [] [] ok (.returned (.tuple #[.slice none 0 0, .slice none 0 0, .bool ok])) w' :=
  ret_own_2b (World.ownsRow_nil _ _ _ _) (World.ownsRow_nil _ _ _ _) (fun _ e => by cases e) hb
theorem retINB_ex {P : Program} {f : FuncId} {args : Array Value} {w : World} {e : Nat} {xs : List Int} {k : Int} {ok : Bool} (h : Calls P f args w (RetINB e w xs k ok)) (hk : ok = true) :
    Calls P f args w fun r w' => ∃ ys j a cap, ys = xs ∧ j = k ∧ r = .returned (.tuple #[.slice a ys.length cap, .int .i64 j, .bool true]) ∧ w'.ownsRow w.heap.size e 1 (.slice a ys.length cap) ys.length (ys.map (Value.int .i64)) ∧ Below w.heap.size w w' ∧ ys.length ≤ 1048576 := by
  subst hk
  exact h.mono fun _ _ ⟨a, cap, h1, h2, h3, h4⟩ => ⟨xs, k, a, cap, rfl, rfl, h1, h2, h3, h4⟩
theorem ret2B_ex {P : Program} {f : FuncId} {args : Array Value} {w : World} {e : Nat} {xs ys : List Int} {ok : Bool} (h : Calls P f args w (Ret2B e w xs ys ok)) (hk : ok = true) :
    Calls P f args w fun r w' => ∃ us vs a cap b cap2, us = xs ∧ vs = ys ∧ r = .returned (.tuple #[.slice a us.length cap, .slice b vs.length cap2, .bool true]) ∧ w'.ownsRow w.heap.size e 1 (.slice a us.length cap) us.length (us.map (Value.int .i64)) ∧ w'.ownsRow w.heap.size e 1 (.slice b vs.length cap2) vs.length (vs.map (Value.int .i64)) ∧ Below w.heap.size w w' ∧ us.length ≤ 1048576 ∧ vs.length ≤ 1048576 := by
  subst hk
  exact h.mono fun _ _ ⟨a, cap, b, cap2, h1, h2, h3, _, h5, h6, h7⟩ => ⟨xs, ys, a, cap, b, cap2, rfl, rfl, h1, h2, h3, h5, h6, h7⟩
end Go.Proofs.Ytjbmgppgkgacpaa

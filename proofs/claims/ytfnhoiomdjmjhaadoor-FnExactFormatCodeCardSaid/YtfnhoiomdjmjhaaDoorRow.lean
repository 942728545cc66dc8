/- Slices of integers: what is told of one that is read, of one that is a callee's own; how they stay; the contracts of the laws' own functions on them. -/
import Derived.Test.YtfnhoiomdjmjhaaDoorChecked
import Derived.Test.YtfnhoiomdjmjhaaDoorBase
import Derived.Test.YtfnhoiomdjmjhaaDoorOpen
import Derived.OwnWalk
import Derived.LoopTactic
namespace Go.Proofs.YtfnhoiomdjmjhaaDoor
set_option maxRecDepth 20000
open Go.RowKit

/-- The slice value '.slice a n cap' reads as the numbers xs. -/
def Ints (w : World) (a : Option Addr) (n cap : Nat) (xs : List Int) : Prop :=
  xs.length = n ∧ n ≤ cap ∧ cap ≤ maxLen ∧ (n = 0 ∨ ∃ b o, a = some ⟨b, o, none⟩ ∧ b < w.heap.size ∧ ∀ i, i < n → w.cell? ⟨b, o + i, none⟩ = some (.int .i64 (xs.getD i 0)))

theorem Ints.of_blocks {w w' : World} {a : Option Addr} {n cap : Nat} {xs : List Int} (h : Ints w a n cap xs) (hs : w.heap.size ≤ w'.heap.size) (hb : ∀ b o, a = some ⟨b, o, none⟩ → b < w.heap.size → w'.heap[b]? = w.heap[b]?) : Ints w' a n cap xs := by
  obtain ⟨h1, h2, h3, h4⟩ := h
  refine ⟨h1, h2, h3, ?_⟩
  rcases h4 with h4 | ⟨b, o, ha, hlt, hc⟩
  · exact .inl h4
  · exact .inr ⟨b, o, ha, by omega, fun i hi => by rw [← hc i hi]; exact World.cell?_of_block (a := ⟨b, o + i, none⟩) (hb b o ha hlt)⟩
theorem Ints.below {w w' : World} {a : Option Addr} {n cap : Nat} {xs : List Int} (h : Ints w a n cap xs) (hb : Below w.heap.size w w') : Ints w' a n cap xs :=
  h.of_blocks hb.size (fun b _ _ hlt => hb.block b hlt)
theorem Ints.alloc {w : World} {a : Option Addr} {n cap : Nat} {xs : List Int} (h : Ints w a n cap xs) (o : Obj) : Ints (w.alloc o) a n cap xs := h.below ((Below.refl _ _).alloc (Nat.le_refl _) o)
theorem Ints.drew {w : World} {a : Option Addr} {n cap : Nat} {xs : List Int} (h : Ints w a n cap xs) : Ints w.drew a n cap xs := h
theorem Ints.drewN {w : World} {a : Option Addr} {n cap : Nat} {xs : List Int} (h : Ints w a n cap xs) (k : Nat) : Ints (w.drewN k) a n cap xs := h.below (below_drewN (Below.refl _ _) k)
theorem Ints.gw {w : World} {a : Option Addr} {n cap : Nat} {xs : List Int} (h : Ints w a n cap xs) (p : Regrown) : Ints (gw w p) a n cap xs := h.below (below_gw (Below.refl _ _) (Nat.le_refl _) p)
/-- Behind a step that may write row 'row' alone. -/
theorem Ints.kept {w w' : World} {a : Option Addr} {n cap : Nat} {xs : List Int} (h : Ints w a n cap xs) {row : Option Nat} (hg : w.grownBy w' row) (hne : ∀ b o, a = some ⟨b, o, none⟩ → some b ≠ row) : Ints w' a n cap xs :=
  h.of_blocks hg.size (fun b o ha hlt => hg.block b hlt (hne b o ha))

/-- A row that came in as data. -/
theorem Ints.of_row {w : World} {a : Option Addr} {n cap : Nat} {zs : List Int} (h : IsRow .i64 w a n cap zs) : Ints w a n cap (zs.take n) := by
  rcases h with ⟨rfl, rfl, rfl, rfl⟩ | ⟨x, rfl, hl, hm, hz, hc, _⟩
  · exact ⟨by simp, by omega, by unfold maxLen; omega, .inl rfl⟩
  · refine ⟨by simp; omega, hl, hm, ?_⟩
    rcases Nat.eq_zero_or_pos n with h0 | h0
    · exact .inl h0
    · obtain ⟨b, o, rfl, hc2⟩ := ints_at hc (by omega)
      have hc' : ∀ i, i < n → w.cell? ⟨b, o + i, none⟩ = some (.int .i64 ((zs.take n).getD i 0)) := by
        intro i hi
        rw [hc2 i (by omega)]
        simp [hi]
      exact .inr ⟨b, o, rfl, World.block_lt_of_cell? (a := ⟨b, o + 0, none⟩) w (hc' 0 h0), hc'⟩

/-- Of a callee's own. -/
theorem Ints.of_own {w : World} {B e : Nat} {a : Option Addr} {n cap : Nat} {xs : List Int} (h : w.ownsRow B e 1 (.slice a n cap) n (xs.map (Value.int .i64))) : Ints w a n cap xs := by
  obtain ⟨h1, h2⟩ := h
  simp at h1
  rcases h2 with ⟨h2, h0⟩ | ⟨g, cap', cur, h2, hB, hg, hn, hcap, hsz, ht⟩
  · simp only [Value.slice.injEq] at h2
    obtain ⟨rfl, rfl, rfl⟩ := h2
    exact ⟨h1, by omega, by unfold maxLen; omega, .inl rfl⟩
  · simp only [Value.slice.injEq] at h2
    obtain ⟨rfl, _, rfl⟩ := h2
    refine ⟨h1, hn, hcap, .inr ⟨g, 0, rfl, (Array.getElem?_eq_some_iff.1 hg).1, fun i hi => ?_⟩⟩
    have hown : w.ownsRow B e 1 (.slice (some ⟨g, 0, none⟩) n cap) n (xs.map (Value.int .i64)) := ⟨by simpa using h1, .inr ⟨g, cap, cur, rfl, hB, hg, hn, hcap, hsz, ht⟩⟩
    have := hown.cellAt i (by omega)
    rw [Nat.zero_add, this, List.getElem?_map, List.getElem?_eq_getElem (by omega)]
    simp [List.getElem?_eq_getElem (show i < xs.length by omega)]

theorem app_c1 (w : World) (x : Int) (t : TypeId) : ∀ j u, [Value.int .i64 x][j]? = some u → (w.alloc (.cells #[.int .i64 x] t)).cell? ((⟨w.heap.size, 0, none⟩ : Addr).add j) = some u := by
  intro j u hj
  match j, hj with
  | 0, hj => simp at hj; subst hj; simp [Addr.add]
theorem app_c2 (x : Int) : ∀ u ∈ [Value.int .i64 x], u.oneCell' = true := by intro u hu; simp at hu; subst hu; rfl
theorem own_below {w w' : World} {B e size : Nat} {v : Value} {n : Nat} {xs : List Value} (h : w.ownsRow B e size v n xs) (hb : Below w.heap.size w w') : w'.ownsRow B e size v n xs :=
  h.kept (row := none) ⟨hb.os, hb.tape, hb.output, hb.size, fun k hk _ => hb.block k hk⟩ (by cases hv : v.ownBlock <;> simp)
/-- '[]int{}'. -/
theorem own_empty (W : World) (B e : Nat) (hB : B ≤ W.heap.size) : (W.alloc (.cells #[] e)).ownsRow B e 1 (.slice (some ⟨W.heap.size, 0, none⟩) 0 0) 0 [] :=
  World.ownsRow_made W #[] 0 hB (by unfold maxLen; omega) rfl
/-- A slice of the callee's own is handed back. -/
def RetI (e : Nat) (w : World) (xs : List Int) (r : Ending) (w' : World) : Prop :=
  ∃ a cap, r = .returned (.slice a xs.length cap) ∧ w'.ownsRow w.heap.size e 1 (.slice a xs.length cap) xs.length (xs.map (Value.int .i64)) ∧ Below w.heap.size w w' ∧ xs.length ≤ 1048576
def RetIB (e : Nat) (w : World) (xs : List Int) (ok : Bool) (r : Ending) (w' : World) : Prop :=
  ∃ a cap, r = .returned (.tuple #[.slice a xs.length cap, .bool ok]) ∧ w'.ownsRow w.heap.size e 1 (.slice a xs.length cap) xs.length (xs.map (Value.int .i64)) ∧ Below w.heap.size w w' ∧ xs.length ≤ 1048576

theorem own_form {w : World} {B e : Nat} {v : Value} {n : Nat} {xs : List Value} (h : w.ownsRow B e 1 v n xs) : ∃ a cap, v = .slice a n cap := by
  rcases h.2 with ⟨e1, e2⟩ | ⟨g, cap, _, e1, _⟩
  · subst e2; exact ⟨_, _, e1⟩
  · exact ⟨_, _, e1⟩
theorem ret_own {e : Nat} {w w' : World} {xs : List Int} {v : Value} {n : Nat} (h : w'.ownsRow w.heap.size e 1 v n (xs.map (Value.int .i64))) (hb : Below w.heap.size w w') (hl : n ≤ 1048576 := by omega) : RetI e w xs (.returned v) w' := by
  obtain ⟨a, cap, rfl⟩ := own_form h
  have hn : n = xs.length := by have := h.1; simp at this; omega
  subst hn
  exact ⟨a, cap, rfl, h, hb, hl⟩
theorem ret_own_b {e : Nat} {w w' : World} {xs : List Int} {v : Value} {n : Nat} {ok : Bool} (h : w'.ownsRow w.heap.size e 1 v n (xs.map (Value.int .i64))) (hb : Below w.heap.size w w') (hl : n ≤ 1048576 := by omega) : RetIB e w xs ok (.returned (.tuple #[v, .bool ok])) w' := by
  obtain ⟨a, cap, rfl⟩ := own_form h
  have hn : n = xs.length := by have := h.1; simp at this; omega
  subst hn
  exact ⟨a, cap, rfl, h, hb, hl⟩
theorem ret_nil {e : Nat} {w w' : World} (hb : Below w.heap.size w w') : RetI e w [] (.returned (.slice none 0 0)) w' := ret_own (World.ownsRow_nil _ _ _ _) hb
theorem ret_nil_b {e : Nat} {w w' : World} (hb : Below w.heap.size w w') {ok : Bool} : RetIB e w [] ok (.returned (.tuple #[.slice none 0 0, .bool ok])) w' := ret_own_b (World.ownsRow_nil _ _ _ _) hb
/-- The same, the result by a name. -/
def RetX (e : Nat) (w : World) (xs : List Int) (r : Ending) (w' : World) : Prop :=
  ∃ ys a cap, ys = xs ∧ r = .returned (.slice a ys.length cap) ∧ w'.ownsRow w.heap.size e 1 (.slice a ys.length cap) ys.length (ys.map (Value.int .i64)) ∧ Below w.heap.size w w' ∧ ys.length ≤ 1048576
def RetXB (e : Nat) (w : World) (xs : List Int) (r : Ending) (w' : World) : Prop :=
  ∃ ys a cap, ys = xs ∧ r = .returned (.tuple #[.slice a ys.length cap, .bool true]) ∧ w'.ownsRow w.heap.size e 1 (.slice a ys.length cap) ys.length (ys.map (Value.int .i64)) ∧ Below w.heap.size w w' ∧ ys.length ≤ 1048576
theorem retI_ex {P : Program} {f : FuncId} {args : Array Value} {w : World} {e : Nat} {xs : List Int} (h : Calls P f args w (RetI e w xs)) : Calls P f args w (RetX e w xs) :=
  h.mono fun _ _ ⟨a, cap, h1, h2, h3, h4⟩ => ⟨xs, a, cap, rfl, h1, h2, h3, h4⟩
theorem retIB_ex {P : Program} {f : FuncId} {args : Array Value} {w : World} {e : Nat} {xs : List Int} {ok : Bool} (h : Calls P f args w (RetIB e w xs ok)) (hk : ok = true) : Calls P f args w (RetXB e w xs) := by
  subst hk
  exact h.mono fun _ _ ⟨a, cap, h1, h2, h3, h4⟩ => ⟨xs, a, cap, rfl, h1, h2, h3, h4⟩
theorem retIB_no {P : Program} {f : FuncId} {args : Array Value} {w : World} {e : Nat} {xs : List Int} {ok : Bool} (h : Calls P f args w (RetIB e w xs ok)) (hk : ok = false) : Calls P f args w fun r w' => ∃ v, r = .returned (.tuple #[v, .bool false]) ∧ Below w.heap.size w w' := by
  subst hk
  exact h.mono fun _ _ ⟨a, cap, h1, _, h3, _⟩ => ⟨_, h1, h3⟩
theorem own_apart {v1 v2 : Value} {b1 e1 b2 e2 : Nat} (h1 : ∀ k, v1.ownBlock = some k → b1 ≤ k ∧ k < e1) (h2 : ∀ k, v2.ownBlock = some k → b2 ≤ k ∧ k < e2) (h : e1 ≤ b2 ∨ e2 ≤ b1) : v1.ownBlock = none ∨ v1.ownBlock ≠ v2.ownBlock := by
  cases e : v1.ownBlock with
  | none => exact .inl rfl
  | some k =>
    refine .inr fun e2 => ?_
    have x1 := h1 k e
    have x2 := h2 k (by rw [← e2])
    omega
theorem getD_at (xs : List Int) (k : Nat) (h : k < xs.length) : xs[k] = xs.getD k 0 := by
  rw [List.getD_eq_getElem?_getD, List.getElem?_eq_getElem h]; rfl
/-- The first k of xs, and zeros behind them. -/
def fillTo (xs : List Int) (n k : Nat) : List Value := (List.range n).map fun i => if i < k then .int .i64 (xs.getD i 0) else .int .i64 0
theorem fillTo_length (xs : List Int) (n k : Nat) : (fillTo xs n k).length = n := by simp [fillTo]
theorem fillTo_get (xs : List Int) (n k i : Nat) (h : i < n) : (fillTo xs n k)[i]? = some (if i < k then .int .i64 (xs.getD i 0) else .int .i64 0) := by
  simp [fillTo, h]
theorem fillTo_set (xs : List Int) (n k : Nat) (hk : k < n) : (fillTo xs n k).set k (.int .i64 (xs.getD k 0)) = fillTo xs n (k + 1) := by
  apply List.ext_getElem?
  intro i
  rw [List.getElem?_set, fillTo_length]
  by_cases hi : i < n
  · rw [fillTo_get _ _ _ _ hi, fillTo_get _ _ _ _ hi]
    by_cases h2 : k = i
    · subst h2; simp [hk]
    · rw [if_neg h2]
      by_cases h3 : i < k
      · rw [if_pos h3, if_pos (by omega)]
      · rw [if_neg h3, if_neg (by omega)]
  · rw [List.getElem?_eq_none (by rw [fillTo_length]; omega), List.getElem?_eq_none (by rw [fillTo_length]; omega)]
    split
    · omega
    · rfl
theorem fillTo_zero (xs : List Int) (n : Nat) : fillTo xs n 0 = List.replicate n (.int .i64 0) := by
  apply List.ext_getElem?
  intro i
  by_cases hi : i < n
  · rw [fillTo_get _ _ _ _ hi]; simp [hi]
  · rw [List.getElem?_eq_none (by rw [fillTo_length]; omega), List.getElem?_eq_none (by simp; omega)]
theorem fillTo_all (xs : List Int) (n : Nat) (h : xs.length = n) : fillTo xs n n = xs.map (Value.int .i64) := by
  apply List.ext_getElem?
  intro i
  by_cases hi : i < n
  · rw [fillTo_get _ _ _ _ hi, if_pos hi, List.getElem?_map, List.getElem?_eq_getElem (by omega)]
    simp [List.getElem?_eq_getElem (show i < xs.length by omega)]
  · rw [List.getElem?_eq_none (by rw [fillTo_length]; omega), List.getElem?_eq_none (by simp; omega)]
theorem infoInt : (Tryd.prog.info? 3).map (fun i => (i.zero, i.size, i.bytes)) = some (some (.int .i64 0), 1, 8) := by kernel_rfl
/-- The numbers that the law writes. -/
def marks (k : Int) (n : Nat) : List Int := (List.range n).map fun (i : Nat) => k + (i : Int)
theorem marks_length (k : Int) (n : Nat) : (marks k n).length = n := by simp [marks]
theorem marks_get (k : Int) (n i : Nat) (h : i < n) : (marks k n).getD i 0 = k + (i : Int) := by simp [marks, h]
end Go.Proofs.YtfnhoiomdjmjhaaDoor

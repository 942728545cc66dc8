/- Slices of integers: what is told of one that is read, of one that is a callee's own; how they stay; the contracts of the laws' own functions on them. -/
import Derived.Test.YtjbmgppgkgacpaaChecked
import Derived.Test.YtjbmgppgkgacpaaBase
import Derived.Test.YtjbmgppgkgacpaaOpen
import Derived.OwnWalk
import Derived.LoopTactic
namespace Go.Proofs.Ytjbmgppgkgacpaa
set_option maxRecDepth 20000
open Go.RowKit

/-- The slice value '.slice a n cap' reads as the numbers xs. -/
def Ints (w : World) (a : Option Addr) (n cap : Nat) (xs : List Int) : Prop :=
  xs.length = n ∧ n ≤ cap ∧ cap ≤ maxLen ∧ (n = 0 ∨ ∃ b o, a = some ⟨b, o, none⟩ ∧ b < w.heap.size ∧ ∀ i, i < n → w.cell? ⟨b, o + i, none⟩ = some (.int .i64 (xs.getD i 0)))

theorem Ints.of_blocks {w w' : World} {a : Option Addr} {n cap : Nat} {xs : List Int} (h : Ints w a n cap xs) (hs : w.heap.size ≤ w'.heap.size) (hb : ∀ b o, a = some ⟨b, o, none⟩ → b < w.heap.size → w'.heap[b]? = w.heap[b]?) : Ints w' a n cap xs := by
  obtain ⟨h1, h2, h3, h4⟩ := h
  refine ⟨h1, h2, h3, ?_⟩
  rcases h4 with h4 | ⟨b, o, ha, hlt, hc⟩
  · exact .inl h4
  · exact .inr ⟨b, o, ha, by omega, fun i hi => by rw [← hc i hi]; exact World.cell?_of_block (a := ⟨b, o + i, none⟩) (hb b o ha hlt)⟩
theorem Ints.below {w w' : World} {a : Option Addr} {n cap : Nat} {xs : List Int} (h : Ints w a n cap xs) (hb : Below w.heap.size w w') : Ints w' a n cap xs :=
  h.of_blocks hb.size (fun b _ _ hlt => hb.block b hlt)
theorem Ints.alloc {w : World} {a : Option Addr} {n cap : Nat} {xs : List Int} (h : Ints w a n cap xs) (o : Obj) : Ints (w.alloc o) a n cap xs := h.below ((Below.refl _ _).alloc (Nat.le_refl _) o)
theorem Ints.drew {w : World} {a : Option Addr} {n cap : Nat} {xs : List Int} (h : Ints w a n cap xs) : Ints w.drew a n cap xs := h
theorem Ints.drewN {w : World} {a : Option Addr} {n cap : Nat} {xs : List Int} (h : Ints w a n cap xs) (k : Nat) : Ints (w.drewN k) a n cap xs := h.below (below_drewN (Below.refl _ _) k)
theorem Ints.gw {w : World} {a : Option Addr} {n cap : Nat} {xs : List Int} (h : Ints w a n cap xs) (p : Regrown) : Ints (gw w p) a n cap xs := h.below (below_gw (Below.refl _ _) (Nat.le_refl _) p)
/-- Behind a step that may write row 'row' alone. -/
theorem Ints.kept {w w' : World} {a : Option Addr} {n cap : Nat} {xs : List Int} (h : Ints w a n cap xs) {row : Option Nat} (hg : w.grownBy w' row) (hne : ∀ b o, a = some ⟨b, o, none⟩ → some b ≠ row) : Ints w' a n cap xs :=
  h.of_blocks hg.size (fun b o ha hlt => hg.block b hlt (hne b o ha))

/-- A row that came in as data. -/
theorem Ints.of_row {w : World} {a : Option Addr} {n cap : Nat} {zs : List Int} (h : IsRow .i64 w a n cap zs) : Ints w a n cap (zs.take n) := by
  rcases h with ⟨rfl, rfl, rfl, rfl⟩ | ⟨x, rfl, hl, hm, hz, hc, _⟩
  · exact ⟨by simp, by omega, by unfold maxLen; omega, .inl rfl⟩
  · refine ⟨by simp; omega, hl, hm, ?_⟩
    rcases Nat.eq_zero_or_pos n with h0 | h0
    · exact .inl h0
    · obtain ⟨b, o, rfl, hc2⟩ := ints_at hc (by omega)
      have hc' : ∀ i, i < n → w.cell? ⟨b, o + i, none⟩ = some (.int .i64 ((zs.take n).getD i 0)) := by
        intro i hi
        rw [hc2 i (by omega)]
        simp [hi]
      exact .inr ⟨b, o, rfl, World.block_lt_of_cell? (a := ⟨b, o + 0, none⟩) w (hc' 0 h0), hc'⟩

/-- Of a callee's own. -/
theorem Ints.of_own {w : World} {B e : Nat} {a : Option Addr} {n cap : Nat} {xs : List Int} (h : w.ownsRow B e 1 (.slice a n cap) n (xs.map (Value.int .i64))) : Ints w a n cap xs := by
  obtain ⟨h1, h2⟩ := h
  simp at h1
  rcases h2 with ⟨h2, h0⟩ | ⟨g, cap', cur, h2, hB, hg, hn, hcap, hsz, ht⟩
  · simp only [Value.slice.injEq] at h2
    obtain ⟨rfl, rfl, rfl⟩ := h2
    exact ⟨h1, by omega, by unfold maxLen; omega, .inl rfl⟩
  · simp only [Value.slice.injEq] at h2
    obtain ⟨rfl, _, rfl⟩ := h2
    refine ⟨h1, hn, hcap, .inr ⟨g, 0, rfl, (Array.getElem?_eq_some_iff.1 hg).1, fun i hi => ?_⟩⟩
    have hown : w.ownsRow B e 1 (.slice (some ⟨g, 0, none⟩) n cap) n (xs.map (Value.int .i64)) := ⟨by simpa using h1, .inr ⟨g, cap, cur, rfl, hB, hg, hn, hcap, hsz, ht⟩⟩
    have := hown.cellAt i (by omega)
    rw [Nat.zero_add, this, List.getElem?_map, List.getElem?_eq_getElem (by omega)]
    simp [List.getElem?_eq_getElem (show i < xs.length by omega)]

theorem app_c1 (w : World) (x : Int) (t : TypeId) : ∀ j u, [Value.int .i64 x][j]? = some u → (w.alloc (.cells #[.int .i64 x] t)).cell? ((⟨w.heap.size, 0, none⟩ : Addr).add j) = some u := by
  intro j u hj
  match j, hj with
  | 0, hj => simp at hj; subst hj; simp [Addr.add]
theorem app_c2 (x : Int) : ∀ u ∈ [Value.int .i64 x], u.oneCell' = true := by intro u hu; simp at hu; subst hu; rfl
theorem own_below {w w' : World} {B e size : Nat} {v : Value} {n : Nat} {xs : List Value} (h : w.ownsRow B e size v n xs) (hb : Below w.heap.size w w') : w'.ownsRow B e size v n xs :=
  h.kept (row := none) ⟨hb.os, hb.tape, hb.output, hb.size, fun k hk _ => hb.block k hk⟩ (by cases hv : v.ownBlock <;> simp)
/-- '[]int{}'. -/
theorem own_empty (W : World) (B e : Nat) (hB : B ≤ W.heap.size) : (W.alloc (.cells #[] e)).ownsRow B e 1 (.slice (some ⟨W.heap.size, 0, none⟩) 0 0) 0 [] :=
  World.ownsRow_made W #[] 0 hB (by unfold maxLen; omega) rfl
/-- A slice of the callee's own is handed back. -/
def RetI (e : Nat) (w : World) (xs : List Int) (r : Ending) (w' : World) : Prop :=
  ∃ a cap, r = .returned (.slice a xs.length cap) ∧ w'.ownsRow w.heap.size e 1 (.slice a xs.length cap) xs.length (xs.map (Value.int .i64)) ∧ Below w.heap.size w w' ∧ xs.length ≤ 1048576
def RetIB (e : Nat) (w : World) (xs : List Int) (ok : Bool) (r : Ending) (w' : World) : Prop :=
  ∃ a cap, r = .returned (.tuple #[.slice a xs.length cap, .bool ok]) ∧ w'.ownsRow w.heap.size e 1 (.slice a xs.length cap) xs.length (xs.map (Value.int .i64)) ∧ Below w.heap.size w w' ∧ xs.length ≤ 1048576

theorem own_form {w : World} {B e : Nat} {v : Value} {n : Nat} {xs : List Value} (h : w.ownsRow B e 1 v n xs) : ∃ a cap, v = .slice a n cap := by
  rcases h.2 with ⟨e1, e2⟩ | ⟨g, cap, _, e1, _⟩
  · subst e2; exact ⟨_, _, e1⟩
  · exact ⟨_, _, e1⟩
theorem ret_own {e : Nat} {w w' : World} {xs : List Int} {v : Value} {n : Nat} (h : w'.ownsRow w.heap.size e 1 v n (xs.map (Value.int .i64))) (hb : Below w.heap.size w w') (hl : n ≤ 1048576 := by omega) : RetI e w xs (.returned v) w' := by
  obtain ⟨a, cap, rfl⟩ := own_form h
  have hn : n = xs.length := by have := h.1; simp at this; omega
  subst hn
  exact ⟨a, cap, rfl, h, hb, hl⟩
theorem ret_own_b {e : Nat} {w w' : World} {xs : List Int} {v : Value} {n : Nat} {ok : Bool} (h : w'.ownsRow w.heap.size e 1 v n (xs.map (Value.int .i64))) (hb : Below w.heap.size w w') (hl : n ≤ 1048576 := by omega) : RetIB e w xs ok (.returned (.tuple #[v, .bool ok])) w' := by
  obtain ⟨a, cap, rfl⟩ := own_form h
  have hn : n = xs.length := by have := h.1; simp at this; omega
  subst hn
  exact ⟨a, cap, rfl, h, hb, hl⟩
theorem ret_nil {e : Nat} {w w' : World} (hb : Below w.heap.size w w') : RetI e w [] (.returned (.slice none 0 0)) w' := ret_own (World.ownsRow_nil _ _ _ _) hb
theorem ret_nil_b {e : Nat} {w w' : World} (hb : Below w.heap.size w w') {ok : Bool} : RetIB e w [] ok (.returned (.tuple #[.slice none 0 0, .bool ok])) w' := ret_own_b (World.ownsRow_nil _ _ _ _) hb
/-- The same, the result by a name. -/
def RetX (e : Nat) (w : World) (xs : List Int) (r : Ending) (w' : World) : Prop :=
  ∃ ys a cap, ys = xs ∧ r = .returned (.slice a ys.length cap) ∧ w'.ownsRow w.heap.size e 1 (.slice a ys.length cap) ys.length (ys.map (Value.int .i64)) ∧ Below w.heap.size w w' ∧ ys.length ≤ 1048576
def RetXB (e : Nat) (w : World) (xs : List Int) (r : Ending) (w' : World) : Prop :=
  ∃ ys a cap, ys = xs ∧ r = .returned (.tuple #[.slice a ys.length cap, .bool true]) ∧ w'.ownsRow w.heap.size e 1 (.slice a ys.length cap) ys.length (ys.map (Value.int .i64)) ∧ Below w.heap.size w w' ∧ ys.length ≤ 1048576
theorem retI_ex {P : Program} {f : FuncId} {args : Array Value} {w : World} {e : Nat} {xs : List Int} (h : Calls P f args w (RetI e w xs)) : Calls P f args w (RetX e w xs) :=
  h.mono fun _ _ ⟨a, cap, h1, h2, h3, h4⟩ => ⟨xs, a, cap, rfl, h1, h2, h3, h4⟩
theorem retIB_ex {P : Program} {f : FuncId} {args : Array Value} {w : World} {e : Nat} {xs : List Int} {ok : Bool} (h : Calls P f args w (RetIB e w xs ok)) (hk : ok = true) : Calls P f args w (RetXB e w xs) := by
  subst hk
  exact h.mono fun _ _ ⟨a, cap, h1, h2, h3, h4⟩ => ⟨xs, a, cap, rfl, h1, h2, h3, h4⟩
theorem retIB_no {P : Program} {f : FuncId} {args : Array Value} {w : World} {e : Nat} {xs : List Int} {ok : Bool} (h : Calls P f args w (RetIB e w xs ok)) (hk : ok = false) : Calls P f args w fun r w' => ∃ v, r = .returned (.tuple #[v, .bool false]) ∧ Below w.heap.size w w' := by
  subst hk
  exact h.mono fun _ _ ⟨a, cap, h1, _, h3, _⟩ => ⟨_, h1, h3⟩
theorem own_apart {v1 v2 : Value} {b1 e1 b2 e2 : Nat} (h1 : ∀ k, v1.ownBlock = some k → b1 ≤ k ∧ k < e1) (h2 : ∀ k, v2.ownBlock = some k → b2 ≤ k ∧ k < e2) (h : e1 ≤ b2 ∨ e2 ≤ b1) : v1.ownBlock = none ∨ v1.ownBlock ≠ v2.ownBlock := by
  cases e : v1.ownBlock with
  | none => exact .inl rfl
  | some k =>
    refine .inr fun e2 => ?_
    have x1 := h1 k e
    have x2 := h2 k (by rw [← e2])
    omega
theorem getD_at (xs : List Int) (k : Nat) (h : k < xs.length) : xs[k] = xs.getD k 0 := by
  rw [List.getD_eq_getElem?_getD, List.getElem?_eq_getElem h]; rfl
/-- The first k of xs, and zeros behind them. -/
def fillTo (xs : List Int) (n k : Nat) : List Value := (List.range n).map fun i => if i < k then .int .i64 (xs.getD i 0) else .int .i64 0
theorem fillTo_length (xs : List Int) (n k : Nat) : (fillTo xs n k).length = n := by simp [fillTo]
theorem fillTo_get (xs : List Int) (n k i : Nat) (h : i < n) : (fillTo xs n k)[i]? = some (if i < k then .int .i64 (xs.getD i 0) else .int .i64 0) := by
  simp [fillTo, h]
theorem fillTo_set (xs : List Int) (n k : Nat) (hk : k < n) : (fillTo xs n k).set k (.int .i64 (xs.getD k 0)) = fillTo xs n (k + 1) := by
  apply List.ext_getElem?
  intro i
  rw [List.getElem?_set, fillTo_length]
  by_cases hi : i < n
  · rw [fillTo_get _ _ _ _ hi, fillTo_get _ _ _ _ hi]
    by_cases h2 : k = i
    · subst h2; simp [hk]
    · rw [if_neg h2]
      by_cases h3 : i < k
      · rw [if_pos h3, if_pos (by omega)]
      · rw [if_neg h3, if_neg (by omega)]
  · rw [List.getElem?_eq_none (by rw [fillTo_length]; omega), List.getElem?_eq_none (by rw [fillTo_length]; omega)]
    split
    · omega
    · rfl
theorem fillTo_zero (xs : List Int) (n : Nat) : fillTo xs n 0 = List.replicate n (.int .i64 0) := by
  apply List.ext_getElem?
  intro i
  by_cases hi : i < n
  · rw [fillTo_get _ _ _ _ hi]; simp [hi]
  · rw [List.getElem?_eq_none (by rw [fillTo_length]; omega), List.getElem?_eq_none (by simp; omega)]
theorem fillTo_all (xs : List Int) (n : Nat) (h : xs.length = n) : fillTo xs n n = xs.map (Value.int .i64) := by
  apply List.ext_getElem?
  intro i
  by_cases hi : i < n
  · rw [fillTo_get _ _ _ _ hi, if_pos hi, List.getElem?_map, List.getElem?_eq_getElem (by omega)]
    simp [List.getElem?_eq_getElem (show i < xs.length by omega)]
  · rw [List.getElem?_eq_none (by rw [fillTo_length]; omega), List.getElem?_eq_none (by simp; omega)]
theorem infoInt : (Try.prog.info? 3).map (fun i => (i.zero, i.size, i.bytes)) = some (some (.int .i64 0), 1, 8) := by kernel_rfl
set_option maxHeartbeats 800000 in
theorem toIntS_any (a : Option Addr) (n cap : Nat) (xs : List Int) (w : World) (h : Ints w a n cap xs) (hn : n ≤ 1048576) : Calls Try.prog 47 #[.slice a n cap] w (RetI 3 w xs) := by
  obtain ⟨i0, hi, hz0, hz1, hz2⟩ := info_parts infoInt
  go_enter Try.func47, Try.ntmps47
  go_wp2_with (at_make; refine wpList_make_full _ rfl _ _ 23 rfl w.heap.size 3 i0 (.int .i64 0) 1 Try.underlying23 hi hz0 hz1 _ _ _ _ n rfl rfl rfl rfl ?b1 ?b2 ?b3 ?_)
  case b1 => rw [hz2]; omega
  case b2 => unfold maxLen; omega
  case b3 => exact Nat.le_refl _
  intro w1 hown hgrow
  have hb1 : Below w.heap.size w w1 := (Below.refl _ _).grown hgrow (Nat.le_refl _) (fun k hk => by cases hk)
  have hown0 : w1.ownsRow w.heap.size 3 1 (.slice (some ⟨w.heap.size, 0, none⟩) n n) n (fillTo xs n 0) := by
    rw [fillTo_zero]; simpa [Value.cells, toList_madeCells_one] using hown
  have hx := h.below hb1
  clear hown hgrow
  go_wp2
  go_loopw [4] (fun i wr => ∃ k : Nat, k ≤ n ∧ i = .int .i64 k ∧ wr.ownsRow w.heap.size 3 1 (.slice (some ⟨w.heap.size, 0, none⟩) n n) n (fillTo xs n k) ∧ Below w.heap.size w wr)
    (fun i _ => n - (intOf i).toNat)
  case atStart => exact ⟨0, by omega, rfl, hown0, hb1⟩
  case round =>
    obtain ⟨k, hk, rfl, hown, hb⟩ := hrel
    clear hown0 hb1 hx
    obtain ⟨x1, x2, x3, x4⟩ := h.below hb
    by_cases hlt : k < n
    · rcases x4 with h0 | ⟨b, o, rfl, hbl, hc⟩
      · omega
      · have hck := hc k hlt
        clear hc
        have fz := hown.frozenAt k
        have hst := hown.stored k (.int .i64 (xs.getD k 0))
        have ck := hown.cellAt k (by omega)
        rw [fillTo_get _ _ _ _ hlt] at ck
        rw [fillTo_set xs n k hlt] at hst
        clear hown
        go_wp2
        have ex : xs[k] = xs.getD k 0 := getD_at xs k (by omega)
        rw [ex]
        exact ⟨⟨k + 1, by omega, by go_num, hst.1, hb.grown hst.2 (by have := hb.size; omega) (fun j hj => by cases hj; exact Nat.le_refl _)⟩, by simp [intOf]; omega⟩
    · obtain rfl : k = n := by omega
      go_wp2
      go_ret
      rw [fillTo_all xs k x1] at hown
      obtain rfl := x1
      exact ⟨_, _, rfl, hown, hb, hn⟩
set_option maxHeartbeats 800000 in
theorem eqIntS_same (a a' : Option Addr) (n cap cap' : Nat) (xs : List Int) (w : World) (h : Ints w a n cap xs) (h' : Ints w a' n cap' xs) : Calls Try.prog 26 #[.slice a n cap, .slice a' n cap'] w fun e w' => e = .returned (.bool true) ∧ Below w.heap.size w w' := by
  obtain ⟨x1, x2, x3, x4⟩ := h
  obtain ⟨y1, y2, y3, y4⟩ := h'
  unfold maxLen at x3 y3
  go_enter Try.func26, Try.ntmps26
  go_wp2
  go_loopw [5] (fun i wr => ∃ k : Nat, k ≤ n ∧ i = .int .i64 k ∧ ∃ d, wr = w.drewN d) (fun i _ => n - (intOf i).toNat)
  case atStart => exact ⟨0, by omega, rfl, 0, rfl⟩
  case round =>
    obtain ⟨k, hk, rfl, d, rfl⟩ := hrel
    by_cases hlt : k < n
    · rcases x4 with h0 | ⟨b, o, rfl, hbl, hc⟩
      · omega
      rcases y4 with h0 | ⟨b', o', rfl, hbl', hc'⟩
      · omega
      have c1 := hc k hlt
      have c2 := hc' k hlt
      clear hc hc'
      have hxl : k < xs.length := by omega
      go_wp2
      go_quiet (fail)
      go_wp2
      exact ⟨⟨k + 1, by omega, by go_num, d + nq, rfl⟩, by simp [intOf]; omega⟩
    · obtain rfl : k = n := by omega
      go_wp2
      go_ret
      exact ⟨rfl, by (repeat' (first | (with_reducible exact Below.refl _ _) | (with_reducible assumption) | (with_reducible refine below_drewN ?_ _) | (with_reducible refine Below.drew ?_) | (with_reducible refine Below.alloc ?_ ?_ _) | (with_reducible refine Below.setCell ?_ ?_ _) | (with_reducible refine below_gw ?_ ?_ _) | (with_reducible refine below_via ?_ ‹Below _ _ _› ?_) | (with_reducible exact Nat.le_refl _) | (with_reducible refine le_gw ?_ _) | (with_reducible refine le_alloc ?_ _) | (with_reducible refine le_setCell ?_ _ _) | (with_reducible refine le_drew ?_) | (with_reducible refine le_drewN ?_ _) | go_size))⟩
/-- The numbers that the law writes. -/
def marks (k : Int) (n : Nat) : List Int := (List.range n).map fun (i : Nat) => k + (i : Int)
theorem marks_length (k : Int) (n : Nat) : (marks k n).length = n := by simp [marks]
theorem marks_get (k : Int) (n i : Nat) (h : i < n) : (marks k n).getD i 0 = k + (i : Int) := by simp [marks, h]
def markTo (xs : List Int) (c : Int) (n k : Nat) : List Value := (List.range n).map fun i => if i < k then .int .i64 (c + (i : Int)) else .int .i64 (xs.getD i 0)
theorem markTo_length (xs : List Int) (c : Int) (n k : Nat) : (markTo xs c n k).length = n := by simp [markTo]
theorem markTo_get (xs : List Int) (c : Int) (n k i : Nat) (h : i < n) : (markTo xs c n k)[i]? = some (if i < k then .int .i64 (c + (i : Int)) else .int .i64 (xs.getD i 0)) := by
  simp [markTo, h]
theorem markTo_set (xs : List Int) (c : Int) (n k : Nat) : (markTo xs c n k).set k (.int .i64 (c + (k : Int))) = markTo xs c n (k + 1) := by
  apply List.ext_getElem?
  intro i
  rw [List.getElem?_set, markTo_length]
  by_cases hi : i < n
  · rw [markTo_get _ _ _ _ _ hi, markTo_get _ _ _ _ _ hi]
    by_cases h2 : k = i
    · subst h2; simp [hi]
    · rw [if_neg h2]
      by_cases h3 : i < k
      · rw [if_pos h3, if_pos (by omega)]
      · rw [if_neg h3, if_neg (by omega)]
  · rw [List.getElem?_eq_none (by rw [markTo_length]; omega), List.getElem?_eq_none (by rw [markTo_length]; omega)]
    split
    · rw [if_neg (by omega)]
    · rfl
theorem markTo_zero (xs : List Int) (c : Int) (n : Nat) (h : xs.length = n) : markTo xs c n 0 = xs.map (Value.int .i64) := by
  apply List.ext_getElem?
  intro i
  by_cases hi : i < n
  · rw [markTo_get _ _ _ _ _ hi, if_neg (by omega), List.getElem?_map, List.getElem?_eq_getElem (by omega)]
    simp [List.getElem?_eq_getElem (show i < xs.length by omega)]
  · rw [List.getElem?_eq_none (by rw [markTo_length]; omega), List.getElem?_eq_none (by simp; omega)]
theorem markTo_all (xs : List Int) (c : Int) (n : Nat) : markTo xs c n n = (marks c n).map (Value.int .i64) := by
  apply List.ext_getElem?
  intro i
  by_cases hi : i < n
  · rw [markTo_get _ _ _ _ _ hi, if_pos hi]; simp [marks, hi]
  · rw [List.getElem?_eq_none (by rw [markTo_length]; omega), List.getElem?_eq_none (by simp [marks]; omega)]
/-- What the law's marking leaves: the slice holds the marks; no other block has turned. -/
def Marked (B : Nat) (a : Option Addr) (n cap : Nat) (c : Int) (w : World) (e : Ending) (w' : World) : Prop :=
  e = .returned (.int .i64 (c + (n : Int))) ∧ w'.ownsRow B 3 1 (.slice a n cap) n ((marks c n).map (Value.int .i64)) ∧ w.grownBy w' (Value.slice a n cap).ownBlock ∧ w'.heap.size = w.heap.size
set_option maxHeartbeats 800000 in
theorem markIntS_any (B : Nat) (a : Option Addr) (n cap : Nat) (xs : List Int) (c : Int) (w : World) (hx : xs.length = n) (h : w.ownsRow B 3 1 (.slice a n cap) n (xs.map (Value.int .i64))) (hn : n ≤ 1048576) (hc0 : 0 ≤ c) (hc1 : c ≤ 1000000000000) :
    Calls Try.prog 28 #[.slice a n cap, .int .i64 c] w (Marked B a n cap c w) := by
  have h0 := h
  rw [← markTo_zero xs c n hx] at h0
  clear h
  go_enter Try.func28, Try.ntmps28
  go_wp2
  go_loopw [1, 5] (fun c' i wr => ∃ k : Nat, k ≤ n ∧ i = .int .i64 k ∧ c' = .int .i64 (c + (k : Int)) ∧ wr.ownsRow B 3 1 (.slice a n cap) n (markTo xs c n k) ∧ w.grownBy wr (Value.slice a n cap).ownBlock ∧ wr.heap.size = w.heap.size)
    (fun _ i _ => n - (intOf i).toNat)
  case atStart => exact ⟨0, by omega, rfl, by simp, h0, ⟨rfl, rfl, rfl, Nat.le_refl _, fun _ _ _ => rfl⟩, rfl⟩
  case round =>
    obtain ⟨k, hk, rfl, rfl, hown, hg, hsz⟩ := hrel
    clear h0
    by_cases hlt : k < n
    · rcases hown.2 with ⟨-, e0⟩ | ⟨g, cap', cur, e1, hB, -, -, -, -, -⟩
      · omega
      simp only [Value.slice.injEq] at e1
      obtain ⟨rfl, _, _⟩ := e1
      have fz := hown.frozenAt k
      have hst := hown.stored k (.int .i64 (c + (k : Int)))
      have ck := hown.cellAt k (by omega)
      rw [markTo_get _ _ _ _ _ hlt] at ck
      rw [markTo_set xs c n k] at hst
      obtain ⟨s1, s2⟩ := hst
      have hg2 : w.grownBy (wr.setCell ⟨g, k, none⟩ (.int .i64 (c + (k : Int)))) (some g) :=
        ⟨s2.os.trans hg.os, s2.tape.trans hg.tape, s2.output.trans hg.output, Nat.le_trans hg.size s2.size, fun j hj hne => (s2.block j (by omega) hne).trans (hg.block j hj hne)⟩
      clear hown hg s2
      go_wp2
      exact ⟨⟨k + 1, by omega, by go_num, by first | rfl | (congr 1; omega), s1, hg2, by simpa using hsz⟩, by simp [intOf]; omega⟩
    · obtain rfl : k = n := by omega
      go_wp2
      go_ret
      rw [markTo_all] at hown
      exact ⟨rfl, hown, hg, hsz⟩
set_option maxHeartbeats 800000 in
theorem heldIntS_marks (a : Option Addr) (n cap : Nat) (c : Int) (w : World) (h : Ints w a n cap (marks c n)) (hn : n ≤ 1048576) (hc0 : 0 ≤ c) (hc1 : c ≤ 1000000000000) :
    Calls Try.prog 30 #[.slice a n cap, .int .i64 c] w fun e w' => e = .returned (.int .i64 (c + (n : Int))) ∧ w = w' := by
  obtain ⟨x1, x2, x3, x4⟩ := h
  go_enter Try.func30, Try.ntmps30
  go_wp2
  go_loop [1, 5] (fun c' i => ∃ k : Nat, k ≤ n ∧ i = .int .i64 k ∧ c' = .int .i64 (c + (k : Int))) (fun _ i => n - (intOf i).toNat)
  case atStart => exact ⟨0, by omega, rfl, by simp⟩
  case round =>
    obtain ⟨k, hk, rfl, rfl⟩ := hrel
    by_cases hlt : k < n
    · rcases x4 with h0 | ⟨b, o, rfl, hbl, hc⟩
      · omega
      have c1 := hc k hlt
      rw [marks_get _ _ _ hlt] at c1
      clear hc
      go_wp2
      exact ⟨⟨k + 1, by omega, by go_num, by first | rfl | (congr 1; omega)⟩, by simp [intOf]; omega⟩
    · obtain rfl : k = n := by omega
      go_wp2
      go_ret
      exact ⟨rfl, rfl⟩
end Go.Proofs.Ytjbmgppgkgacpaa

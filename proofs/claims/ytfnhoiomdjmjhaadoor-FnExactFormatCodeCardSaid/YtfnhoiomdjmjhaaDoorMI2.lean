/- The program's machine: wrapped numbers. 'append(s, make([]int, 9)...)' to a row of one's own. The program's machine: a shifted number. -/
import Derived.Test.YtfnhoiomdjmjhaaDoorMMath
import Derived.Test.YtfnhoiomdjmjhaaDoorWI
import Derived.Test.YtfnhoiomdjmjhaaDoorMS1
import Derived.Test.YtfnhoiomdjmjhaaDoorCopy
import Derived.Laws.Append
import Derived.Laws.AppendOwn
import Derived.Laws.Cover3
import Derived.Test.YtfnhoiomdjmjhaaDoorMI1
import Derived.Test.YtfnhoiomdjmjhaaDoorWI3
import Derived.Test.YtfnhoiomdjmjhaaDoorWVal
namespace Go.Proofs.YtfnhoiomdjmjhaaDoor
set_option maxRecDepth 20000
open Go.RowKit
theorem iPow9 (w : World) : Calls Tryd.prog 83 #[.int .i64 9] w fun e w' => e = .returned (.int .i64 19683) ∧ w = w' := by
  have L : Hid (∀ w : World, Calls Tryd.prog 59 #[.int .i64 9] w fun e w' => e = .returned (.int .i64 9841) ∧ w = w') := Lib.hid fun w => by
    have h := iLimitOf 9 w
    rw [show Tm.lim 9 = 9841 from by decide] at h
    exact h
  go_enter Tryd.func83, Tryd.ntmps83
  go_wp2_with fail
  refine (L.out _).mono ?_
  rintro e w' ⟨rfl, rfl⟩
  go_wp2
  go_ret
  exact ⟨rfl, rfl⟩
theorem iDivideCell (n : Int) (w : World) : Calls Tryd.prog 82 #[.int .i64 n, .int .i64 19683] w fun e w' => ∃ q, e = .returned (.tuple #[.int .i64 q, .int .i64 (Tm.wrapC n)]) ∧ w = w' := by
  have b := Tm.tmod_cell n
  obtain ⟨r, hr⟩ : ∃ r, r = n.tmod 19683 := ⟨_, rfl⟩
  have hr' : n.tmod 19683 = r := hr.symm
  obtain ⟨b1, b2⟩ := b
  rw [hr'] at b1 b2
  have mx : max (19683 : Int) (-19683) = 19683 := by decide
  by_cases c1 : 9841 < r
  · have E : Tm.wrapC n = r - 19683 := by unfold Tm.wrapC; rw [hr', if_pos c1]
    rw [E]
    have c1' : 19683 < 2 * r := by omega
    clear hr E
    go_enter Tryd.func82, Tryd.ntmps82
    go_wp2
    go_ret2
    first | exact ⟨_, rfl, rfl⟩ | exact ⟨⟨_, rfl⟩, rfl⟩
  · by_cases c2 : r < -9841
    · have E : Tm.wrapC n = r + 19683 := by unfold Tm.wrapC; rw [hr', if_neg c1, if_pos c2]
      rw [E]
      have c1' : ¬ 19683 < 2 * r := by omega
      have c2' : 2 * r ≤ -19683 := by omega
      clear hr E
      go_enter Tryd.func82, Tryd.ntmps82
      go_wp2
      go_ret2
      first | exact ⟨_, rfl, rfl⟩ | exact ⟨⟨_, rfl⟩, rfl⟩
    · have E : Tm.wrapC n = r := by unfold Tm.wrapC; rw [hr', if_neg c1, if_neg c2]
      rw [E]
      have c1' : ¬ 19683 < 2 * r := by omega
      have c2' : ¬ 2 * r ≤ -19683 := by omega
      clear hr E
      go_enter Tryd.func82, Tryd.ntmps82
      go_wp2
      go_ret2
      first | exact ⟨_, rfl, rfl⟩ | exact ⟨⟨_, rfl⟩, rfl⟩
theorem iWrapCell (n : Int) (w : World) : Calls Tryd.prog 74 #[.int .i64 n] w fun e w' => e = .returned (.int .i64 (Tm.wrapC n)) ∧ w = w' := by
  have D := Lib.hid (fun w => iDivideCell n w)
  go_enter Tryd.func74, Tryd.ntmps74
  go_wp2_with (go_at_call 83; refine (iPow9 _).mono ?_; rintro e w1 ⟨rfl, rfl⟩)
  all_goals first
    | (refine (D.out _).mono ?_; rintro e w' ⟨q, rfl, rfl⟩; go_wp2; go_ret; exact ⟨rfl, rfl⟩)
    | (go_ret; exact ⟨rfl, rfl⟩)
theorem zero9 (z : Value) (h : z.cells = #[.int .i64 0]) : (Builtin.zeroCells z.cells 9).toList = List.replicate 9 (.int .i64 0) := by
  rw [h]; simp [Builtin.zeroCells, List.replicate, Nat.mod_one]; rfl
theorem run_append_nine {P : Program} {w : World} (base : Nat) (t u ty e : TypeId) (i : TypeInfo) (z : Value) (ht : P.underlying t = some (.slice e)) (hu : P.underlying u = some (.int .i64)) (hi : P.info? e = some i) (hz : i.zero = some z)
    (hsize : i.size = 1) (hby : i.bytes = 8) (hzs : z.cells = #[.int .i64 0])
    (v : Value) (n : Nat) (xs : List Value) (hown : w.ownsRow base e 1 v n xs) (h63 : n ≤ 1048576) (hbase : base ≤ w.heap.size) :
    ∃ v' w', (Builtin.append_ #[t, u] ty #[v, .int .i64 9]).run P w = .ok v' w' ∧ w'.ownsRow base e 1 v' (n + 9) (xs ++ List.replicate 9 (.int .i64 0)) ∧ w.grownBy w' v.ownBlock ∧ (v'.ownBlock = v.ownBlock ∨ v'.ownBlock = some w.heap.size) := by
  have w9 : IntKind.i64.wrap 9 = 9 := IntWalk.i64_in _ (by omega)
  have hxl : xs.length = n := by have := hown.1; omega
  have zl : (Builtin.zeroCells z.cells 9).toList = List.replicate 9 (.int .i64 0) := zero9 z hzs
  have zsz : ∀ k, (Builtin.zeroCells z.cells k).size = k := fun k => by rw [size_zeroCells, hzs]; simp
  have grown : ∀ (old : Nat), old < n + 9 → ∀ (row : Option Nat),
      (w.drew.alloc (.cells (xs.toArray ++ Builtin.zeroCells z.cells 9 ++ Builtin.zeroCells z.cells (grownCap w (n + 9) old e - (n + 9))) e)).ownsRow base e 1
        (.slice (some ⟨w.heap.size, 0, none⟩) (n + 9) (grownCap w (n + 9) old e)) (n + 9) (xs ++ List.replicate 9 (.int .i64 0)) ∧
      w.grownBy (w.drew.alloc (.cells (xs.toArray ++ Builtin.zeroCells z.cells 9 ++ Builtin.zeroCells z.cells (grownCap w (n + 9) old e - (n + 9))) e)) row := by
    intro old ho row
    have hge := grownCap_ge w (n + 9) old e
    have hcm : grownCap w (n + 9) old e ≤ maxLen := grownCap_le_maxLen w (n + 9) old e (by unfold maxLen; omega)
    refine ⟨⟨by simp [hxl], .inr ⟨w.heap.size, _, _, rfl, hbase, heap_alloc_new w.drew _, hge, hcm, ?_, ?_⟩⟩, ⟨rfl, rfl, rfl, by simp, fun k hk _ => ((Below.drew (Below.refl w.heap.size w)).alloc (Nat.le_refl _) _).block k hk⟩⟩
    · simp only [Array.size_append, List.size_toArray, zsz, hxl]; omega
    · simp only [Array.toList_append, List.append_assoc, zl]
      rw [← List.append_assoc, show (n + 9) * 1 = (xs ++ List.replicate 9 (Value.int .i64 0)).length by simp [hxl]]
      exact List.take_left
  rcases hown.2 with ⟨rfl, rfl⟩ | ⟨g, cap, cur, rfl, hbg, hg, hnc, hcm, hcs, htake⟩
  · have hx : xs = [] := List.eq_nil_of_length_eq_zero hxl
    subst hx
    obtain ⟨g1, g2⟩ := grown 0 (by omega) (Value.ownBlock (.slice none 0 0))
    refine ⟨_, _, ?_, g1, g2, .inr rfl⟩
    simp [Builtin.append_, run_underlying ht, run_underlying hu, sizeOf, typeInfo, zeroValue, hi, hz, hsize, hby, asInt, asIntOf, w9, Question.forced, newRow, grownCap, Builtin.firstCells, Builtin.nextslicecap]
    intro hh
    omega
  · have holds : ∀ j u, xs[j]? = some u → w.cell? ((⟨g, 0, none⟩ : Addr).add j) = some u := fun j u hj => hown.cells (g := g) rfl j u hj
    by_cases hroom : n + 9 ≤ cap
    · have hst := run_storeCells_at P g n e (Builtin.zeroCells z.cells 9).toList 0 cur w hg (by rw [zl]; simp; omega) (by rw [zl]; intro u hu; rw [List.mem_replicate] at hu; rw [hu.2]; rfl)
      simp only [Nat.add_zero] at hst
      refine ⟨.slice (some ⟨g, 0, none⟩) (n + 9) cap, w.setRow g (cur.toList.take n ++ (Builtin.zeroCells z.cells 9).toList ++ cur.toList.drop (n + (Builtin.zeroCells z.cells 9).toList.length)).toArray, ?_, ⟨by simp [hxl], .inr ⟨g, cap, _, rfl, hbg, setRow_heap w g cur _ e _ hg, hroom, hcm, ?_, ?_⟩⟩, ⟨rfl, rfl, rfl, by simp, fun k _ hk => setRow_other w g k _ (fun e => hk (by simp [Value.ownBlock, e]))⟩, .inl rfl⟩
      · simp [Builtin.append_, run_underlying ht, run_underlying hu, sizeOf, typeInfo, zeroValue, hi, hz, hsize, hby, asInt, asIntOf, w9, hroom, Addr.add_lit] at hst ⊢
        rw [hst]
        simp [Result.andThen]
      · simp only [List.size_toArray, List.length_append, List.length_take, List.length_drop, Array.length_toList, zl, List.length_replicate]
        omega
      · rw [show cur.toList.take n = xs by rw [← htake]; simp, zl, show (n + 9) * 1 = (xs ++ List.replicate 9 (Value.int .i64 0)).length by simp [hxl]]
        exact List.take_left
    · obtain ⟨g1, g2⟩ := grown cap (by omega) (Value.ownBlock (.slice (some ⟨g, 0, none⟩) n cap))
      refine ⟨_, _, ?_, g1, g2, .inr rfl⟩
      have hfo := run_firstCells_some (P := P) w.drew 1 n ⟨g, 0, none⟩ n cap xs (by omega) (by simpa using holds)
      have hnx : ¬ (281474976710656 < Builtin.nextslicecap (n + 9) cap * 8) := by
        have := growslice_fits (need := n + 9) (old := cap) (bytes := 8) (by omega) (by omega)
        omega
      simp [Builtin.append_, run_underlying ht, run_underlying hu, sizeOf, typeInfo, zeroValue, hi, hz, hsize, hby, asInt, asIntOf, w9, hroom, hnx, Question.forced, hfo, newRow, grownCap]
      intro hh
      omega
theorem wpList_append_nine {P : Program} (w : World) {ops : Array Oper} {rest : List Oper} {o : Oper} {a : Act} {Q : Exit → Act → World → Prop}
    (hg : o.guard = none) (s x : Operand) (t u : TypeId) (hop : o.op = Op.call { callee := Callee.builtin Builtin.append, args := #[s, x], argTypes := #[t, u] })
    (base : Nat) (e : TypeId) (i : TypeInfo) (z : Value) (ht : P.underlying t = some (.slice e)) (hu : P.underlying u = some (.int .i64)) (hi : P.info? e = some i) (hz : i.zero = some z)
    (hsize : i.size = 1) (hby : i.bytes = 8) (hzs : z.cells = #[.int .i64 0])
    (v : Value) (n : Nat) (xs : List Value) (hs : a.eval s = v) (hown : w.ownsRow base e 1 v n xs) (hx : a.eval x = .int .i64 9) (h63 : n ≤ 1048576) (hbase : base ≤ w.heap.size)
    (hK : ∀ v' w', w'.ownsRow base e 1 v' (n + 9) (xs ++ List.replicate 9 (.int .i64 0)) → w.grownBy w' v.ownBlock → wpList P ops Q rest (a.put o.dst v') w') :
    wpList P ops Q (o :: rest) a w := by
  refine wpList_plain hg fun K hK' => ?_
  obtain ⟨v', w', hrun, r1, r2, _⟩ := run_append_nine (P := P) base t u o.type e i z ht hu hi hz hsize hby hzs v n xs hown h63 hbase
  unfold Oper.wp
  simp [execOp, hop, resolve, invoke, builtin, hs, hx, hrun, Result.andThen]
  exact hK' _ _ (hK v' w' r1 r2)
namespace Tm
/-- A number of nine trits, shifted and cut. -/
def shC (x k : Int) : Int := val ((shf (wordL x 9) k).take 9)
theorem val_zerosM (n : Nat) : val (List.replicate n 0) = 0 := by
  induction n with
  | zero => rfl
  | succ n ih => rw [List.replicate_succ, val, ih]; rfl
theorem val_pad (xs : List Int) (n m : Nat) : val ((xs ++ List.replicate m 0).take n) = val (xs.take n) := by
  induction xs generalizing n with
  | nil => rw [List.nil_append, List.take_replicate, val_zerosM, List.take_nil]; rfl
  | cons x xs ih =>
    match n with
    | 0 => rfl
    | n + 1 => rw [List.cons_append, List.take_succ_cons, List.take_succ_cons, val, val, ih]
theorem wordL_nine (x : Int) : (List.range 9).map (fun i => (wordL x 9).getD i 0) = wordL x 9 := by
  apply List.ext_getElem?
  intro i
  have l := wordL_length x 9
  by_cases h : i < 9
  · rw [List.getElem?_map, List.getElem?_range h, Option.map_some, List.getD_eq_getElem?_getD, List.getElem?_eq_getElem (by omega)]; rfl
  · rw [List.getElem?_eq_none (by simp; omega), List.getElem?_eq_none (by omega)]
theorem take_nine (ys : List Int) : (List.range 9).map (fun i => (ys ++ List.replicate 9 0).getD i 0) = (ys ++ List.replicate 9 0).take 9 := by
  apply List.ext_getElem?
  intro i
  by_cases h : i < 9
  · rw [List.getElem?_map, List.getElem?_range h, Option.map_some, List.getElem?_take, if_pos h, List.getD_eq_getElem?_getD, List.getElem?_eq_getElem (by simp; omega)]; rfl
  · rw [List.getElem?_eq_none (by simp; omega), List.getElem?_eq_none (by simp; omega)]
theorem word_nine {x : Int} (h : -9841 ≤ x ∧ x ≤ 9841) : word x 9 = wordL x 9 := by
  have e : lim 9 = 9841 := by decide
  have : wordOk x 9 = true := by unfold wordOk; rw [e]; simp; omega
  unfold word
  rw [this]; rfl
theorem shf_trits {x k : Int} : ∀ z ∈ shf (wordL x 9) k, isT z = true := by
  have t : ∀ z ∈ wordL x 9, isT z = true := fun z hz => (isT_iff z).2 (wordL_trits x 9 z hz)
  unfold shf
  intro z hz
  split at hz
  · split at hz
    · rcases List.mem_append.1 hz with h | h
      · rw [List.mem_replicate] at h; rw [h.2]; rfl
      · exact t z h
    · split at hz
      · simp only [List.mem_singleton] at hz; rw [hz]; rfl
      · exact t z (List.mem_of_mem_drop hz)
  · simp at hz
theorem shf_len (x k : Int) (h : k ≤ 9) : (shf (wordL x 9) k).length ≤ 18 := by
  have l := wordL_length x 9
  unfold shf
  split
  · split
    · rw [List.length_append, List.length_replicate, l]; omega
    · split
      · simp
      · rw [List.length_drop, l]; omega
  · simp
theorem shC_value (x k : Int) : value ((shf (wordL x 9) k ++ List.replicate 9 0).take 9) = shC x k := by
  have hl : ((shf (wordL x 9) k ++ List.replicate 9 0).take 9).length = 9 := by simp
  have hw : isW ((shf (wordL x 9) k ++ List.replicate 9 0).take 9) = true := by
    unfold isW
    rw [Bool.and_eq_true, hl, List.all_eq_true]
    refine ⟨fun z hz => ?_, by decide⟩
    rcases List.mem_append.1 (List.mem_of_mem_take hz) with h | h
    · exact shf_trits z h
    · rw [List.mem_replicate] at h; rw [h.2]; rfl
  unfold value
  rw [hw, if_pos rfl, val_pad]; rfl
end Tm
theorem ints_tab {W : World} {b : Nat} (f : Nat → Int) (t : TypeId) (hb : b = W.heap.size) : Ints (W.alloc (.cells #[.int .i64 (f 0), .int .i64 (f 1), .int .i64 (f 2), .int .i64 (f 3), .int .i64 (f 4), .int .i64 (f 5), .int .i64 (f 6), .int .i64 (f 7), .int .i64 (f 8)] t)) (some ⟨b, 0, none⟩) 9 9 ((List.range 9).map f) := by
  subst hb
  refine ⟨by simp, by omega, by unfold maxLen; omega, .inr ⟨_, 0, rfl, by simp, fun i hi => ?_⟩⟩
  match i, hi with
  | 0, _ | 1, _ | 2, _ | 3, _ | 4, _ | 5, _ | 6, _ | 7, _ | 8, _ => simp [List.range_succ]
theorem iCellWordOf (x : Int) (w : World) (h1 : -9841 ≤ x) (h2 : x ≤ 9841) : Calls Tryd.prog 69 #[.int .i64 x] w fun e w' => e = .returned (tabV fun i => (Tm.wordL x 9).getD i 0) ∧ Below w.heap.size w w' := by
  have WO := Lib.hid (fun w => iWordOf x 9 w)
  rw [Tm.word_nine ⟨h1, h2⟩] at WO
  have l9 := Tm.wordL_length x 9
  have hat : ∀ (g cap : Nat) (w : World), (Instr.arrayAt 105 (.slice (some ⟨g, 0, none⟩) 9 cap)).run Tryd.prog w = .ok (.pointer (some ⟨g, 0, none⟩)) w := fun g cap w => run_arrayAt w 105 _ 9 _ _ _ Tryd.underlying105 (by omega)
  obtain ⟨f, hf⟩ : ∃ f : Nat → Int, f = fun i => (Tm.wordL x 9).getD i 0 := ⟨_, rfl⟩
  rw [← hf]
  obtain ⟨L, hL⟩ : ∃ L, L = Tm.wordL x 9 := ⟨_, rfl⟩
  rw [← hL] at WO l9 hf
  have fi : ∀ i, L.getD i 0 = f i := fun i => by rw [hf]
  clear hL hf
  go_enter Tryd.func69, Tryd.ntmps69
  go_wp2_with fail
  refine (WO.out _).mono ?_
  rintro r w1 ⟨a, c, rfl, hown, hb, -⟩
  rw [l9] at hown ⊢
  obtain ⟨g, cap, e⟩ := own_shapeN hown (by omega)
  cases e
  have lt := (hown.lt g rfl).2
  have p0 := own_get hown (show 0 < 9 by omega)
  have p1 := own_get hown (show 1 < 9 by omega)
  have p2 := own_get hown (show 2 < 9 by omega)
  have p3 := own_get hown (show 3 < 9 by omega)
  have p4 := own_get hown (show 4 < 9 by omega)
  have p5 := own_get hown (show 5 < 9 by omega)
  have p6 := own_get hown (show 6 < 9 by omega)
  have p7 := own_get hown (show 7 < 9 by omega)
  have p8 := own_get hown (show 8 < 9 by omega)
  rw [fi] at p0 p1 p2 p3 p4 p5 p6 p7 p8
  obtain ⟨p, rfl⟩ := gw_of_below hb
  clear hb hown fi
  go_wp2
  go_returns
  exact ⟨rfl, by (repeat' (first | (with_reducible exact Below.refl _ _) | (with_reducible assumption) | (with_reducible refine below_drewN ?_ _) | (with_reducible refine Below.drew ?_) | (with_reducible refine Below.alloc ?_ ?_ _) | (with_reducible refine Below.setCell ?_ ?_ _) | (with_reducible refine below_gw ?_ ?_ _) | (with_reducible refine below_via ?_ ‹Below _ _ _› ?_) | (with_reducible exact Nat.le_refl _) | (with_reducible refine le_gw ?_ _) | (with_reducible refine le_alloc ?_ _) | (with_reducible refine le_setCell ?_ _ _) | (with_reducible refine le_drew ?_) | (with_reducible refine le_drewN ?_ _) | go_size))⟩
set_option maxHeartbeats 1000000 in
theorem iShiftedCell (x k : Int) (w : World) (h1 : -9841 ≤ x) (h2 : x ≤ 9841) (k2 : k ≤ 9) : Calls Tryd.prog 65 #[.int .i64 x, .int .i64 k] w fun e w' => e = .returned (.int .i64 (Tm.shC x k)) ∧ Below w.heap.size w w' := by
  obtain ⟨i0, hi, hz0, hz1, hz2⟩ := info_parts infoInt
  have CW := Lib.hid (fun w => iCellWordOf x w h1 h2)
  have hat : ∀ (g n cap : Nat) (w : World), (Instr.arrayAt 105 (.slice (some ⟨g, 0, none⟩) (n + 9) cap)).run Tryd.prog w = .ok (.pointer (some ⟨g, 0, none⟩)) w := fun g n cap w => run_arrayAt w 105 _ 9 _ _ _ Tryd.underlying105 (by omega)
  have w9 := Tm.wordL_nine x
  obtain ⟨f, hf⟩ : ∃ f : Nat → Int, f = fun i => (Tm.wordL x 9).getD i 0 := ⟨_, rfl⟩
  rw [← hf] at CW w9
  have SV := Tm.shC_value x k
  have SL := Tm.shf_len x k k2
  have SW := Lib.hid (fun a w h => iShiftWord a 9 9 (Tm.wordL x 9) k w h)
  have T9 := Tm.take_nine (Tm.shf (Tm.wordL x 9) k)
  rw [← w9] at SW SV SL T9
  obtain ⟨Y, hY⟩ : ∃ Y, Y = Tm.shf ((List.range 9).map f) k := ⟨_, rfl⟩
  rw [← hY] at SV SL T9
  have SW2 : Hid (∀ a w, Ints w a 9 9 ((List.range 9).map f) → Calls Tryd.prog 75 #[.slice a 9 9, .int .i64 k] w (RetIB 3 w Y (Tm.shfOk ((List.range 9).map f) k))) := Lib.hid fun a w h => by
    rw [hY]; exact SW.out a w h
  obtain ⟨h, hh⟩ : ∃ h : Nat → Int, h = fun i => (Y ++ List.replicate 9 0).getD i 0 := ⟨_, rfl⟩
  rw [← hh] at T9
  have hi' : ∀ i, (Y ++ List.replicate 9 0).getD i 0 = h i := fun i => by rw [hh]
  rw [← T9] at SV
  obtain ⟨V, hV⟩ : ∃ V, V = Tm.shC x k := ⟨_, rfl⟩
  rw [← hV] at SV ⊢
  have VO := Lib.hid (fun a w hI => iValueOf a 9 9 ((List.range 9).map h) w hI)
  rw [SV] at VO
  clear hf w9 SW hY hh T9 SV hV h1 h2 k2
  go_enter Tryd.func65, Tryd.ntmps65
  go_wp2_with (go_at_call 69; refine (CW.out _).mono ?_; rintro e w1 ⟨rfl, hb⟩; obtain ⟨p, rfl⟩ := gw_of_below hb; clear hb)
  refine (SW2.out _ _ (ints_tab f _ (by simp only [gw_size]))).mono ?_
  rintro r w1 ⟨a1, c1, rfl, hown, hb, -⟩
  have HO := Lib.hid hown
  obtain ⟨q, rfl⟩ := gw_of_below hb
  clear hb hown
  go_wp2_with (at_builtin; refine wpList_append_nine _ rfl _ _ 25 3 rfl _ 3 i0 (.int .i64 0) Tryd.underlying25 Tryd.underlying3 hi hz0 hz1 hz2 rfl _ _ _ rfl HO.out rfl (by omega) (by simp only [gw_size, World.size_alloc]; omega) ?_)
  intro v' w2 hown hgrow
  have hb2 : Below w.heap.size w w2 := Below.grown (a := w) (by (repeat' (first | (with_reducible exact Below.refl _ _) | (with_reducible assumption) | (with_reducible refine below_drewN ?_ _) | (with_reducible refine Below.drew ?_) | (with_reducible refine Below.alloc ?_ ?_ _) | (with_reducible refine Below.setCell ?_ ?_ _) | (with_reducible refine below_gw ?_ ?_ _) | (with_reducible refine below_via ?_ ‹Below _ _ _› ?_) | (with_reducible exact Nat.le_refl _) | (with_reducible refine le_gw ?_ _) | (with_reducible refine le_alloc ?_ _) | (with_reducible refine le_setCell ?_ _ _) | (with_reducible refine le_drew ?_) | (with_reducible refine le_drewN ?_ _) | go_size))) hgrow (by simp only [gw_size, World.size_alloc]; omega) (fun b hb => by have := (HO.out.lt b hb).1; simp only [gw_size, World.size_alloc] at this; omega)
  have hown2 : w2.ownsRow (w.heap.size + p.os.size + 1) 3 1 v' (Y.length + 9) ((Y ++ List.replicate 9 0).map (Value.int .i64)) := by
    rw [List.map_append]; exact hown
  have hs2 := hb2.size
  obtain ⟨g, cap, rfl⟩ := own_shapeN hown2 (by omega)
  have lt := (hown2.lt g rfl).2
  have p0 := own_get hown2 (show 0 < Y.length + 9 by omega)
  have p1 := own_get hown2 (show 1 < Y.length + 9 by omega)
  have p2 := own_get hown2 (show 2 < Y.length + 9 by omega)
  have p3 := own_get hown2 (show 3 < Y.length + 9 by omega)
  have p4 := own_get hown2 (show 4 < Y.length + 9 by omega)
  have p5 := own_get hown2 (show 5 < Y.length + 9 by omega)
  have p6 := own_get hown2 (show 6 < Y.length + 9 by omega)
  have p7 := own_get hown2 (show 7 < Y.length + 9 by omega)
  have p8 := own_get hown2 (show 8 < Y.length + 9 by omega)
  rw [hi'] at p0 p1 p2 p3 p4 p5 p6 p7 p8
  clear hown hown2 hgrow HO hi'
  go_wp2_with fail
  refine (VO.out _ _ (ints_tab h _ rfl)).mono ?_
  rintro r w3 ⟨rfl, rfl⟩
  go_wp2
  go_ret
  exact ⟨rfl, by (repeat' (first | (with_reducible exact Below.refl _ _) | (with_reducible assumption) | (with_reducible refine below_drewN ?_ _) | (with_reducible refine Below.drew ?_) | (with_reducible refine Below.alloc ?_ ?_ _) | (with_reducible refine Below.setCell ?_ ?_ _) | (with_reducible refine below_gw ?_ ?_ _) | (with_reducible refine below_via ?_ ‹Below _ _ _› ?_) | (with_reducible exact Nat.le_refl _) | (with_reducible refine le_gw ?_ _) | (with_reducible refine le_alloc ?_ _) | (with_reducible refine le_setCell ?_ _ _) | (with_reducible refine le_drew ?_) | (with_reducible refine le_drewN ?_ _) | go_size))⟩
namespace Tm
theorem wordL_isW (x : Int) : isW (wordL x 9) = true := by
  have l := wordL_length x 9
  unfold isW
  rw [Bool.and_eq_true, l, List.all_eq_true]
  exact ⟨fun z hz => (isT_iff z).2 (wordL_trits x 9 z hz), by decide⟩
theorem shf_nine {x k : Int} (h1 : -9 ≤ k) (h2 : k ≤ 9) : shfOk (wordL x 9) k = true ∧ 1 ≤ (shf (wordL x 9) k).length ∧ (shf (wordL x 9) k).length ≤ 18 := by
  have l := wordL_length x 9
  have ok : shfOk (wordL x 9) k = true := by unfold shfOk; rw [wordL_isW, l]; simp; omega
  refine ⟨ok, ?_, shf_len x k h2⟩
  unfold shf
  rw [ok]
  simp only [↓reduceIte]
  split
  · rw [List.length_append, List.length_replicate, l]; omega
  · split
    · simp
    · rename_i h3 h4
      rw [l] at h4
      rw [List.length_drop, l]; omega
theorem shC_take {x k : Int} (h1 : -9 ≤ k) (h2 : k ≤ 9) : value ((shf (wordL x 9) k).take 9) = shC x k := by
  obtain ⟨-, l1, l2⟩ := shf_nine (x := x) h1 h2
  have hw : isW ((shf (wordL x 9) k).take 9) = true := by
    unfold isW
    rw [Bool.and_eq_true, List.all_eq_true, List.length_take]
    exact ⟨fun z hz => shf_trits z (List.mem_of_mem_take hz), by simp; omega⟩
  unfold value
  rw [hw]; rfl
end Tm
theorem ints_first {w : World} {a : Option Addr} {n c m : Nat} {xs : List Int} (h : Ints w a n c xs) (hm : m ≤ n) : Ints w a m c (xs.take m) := by
  obtain ⟨h1, h2, h3, h4⟩ := h
  refine ⟨by rw [List.length_take, h1]; omega, by omega, h3, ?_⟩
  rcases h4 with h4 | ⟨b, o, e, hb, hc⟩
  · exact .inl (by omega)
  · refine .inr ⟨b, o, e, hb, fun i hi => ?_⟩
    rw [hc i (by omega), List.getD_eq_getElem?_getD, List.getD_eq_getElem?_getD, List.getElem?_take, if_pos hi]
end Go.Proofs.YtfnhoiomdjmjhaaDoor

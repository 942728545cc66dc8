/- The program's map of dual tables. -/
import Derived.Test.YtjbmgppgkgacpaaTab4
import Derived.Test.YtjbmgppgkgacpaaTabI
import Derived.Maps.Own
import Derived.Test.YtjbmgppgkgacpaaGBox
namespace Go.Proofs.Ytjbmgppgkgacpaa
set_option maxRecDepth 20000
open Go.RowKit
theorem eqTabD (x0 x1 x2 x3 x4 x5 x6 x7 x8 y0 y1 y2 y3 y4 y5 y6 y7 y8 : Int) (w : World) :
    (Op.equalIn 10000 33 (.agg #[.int .i64 x0, .int .i64 x1, .int .i64 x2, .int .i64 x3, .int .i64 x4, .int .i64 x5, .int .i64 x6, .int .i64 x7, .int .i64 x8]) (.agg #[.int .i64 y0, .int .i64 y1, .int .i64 y2, .int .i64 y3, .int .i64 y4, .int .i64 y5, .int .i64 y6, .int .i64 y7, .int .i64 y8])).run Try.prog w
      = .ok (x0 == y0 && x1 == y1 && x2 == y2 && x3 == y3 && x4 == y4 && x5 == y5 && x6 == y6 && x7 == y7 && x8 == y8) w :=
  run_equalIn_arr9 w 9998 33 3 _ _ _ _ _ _ _ _ _ _ _ _ _ _ _ _ _ _ Try.underlying33 Try.underlying3 (fun xs i v w h => run_part_plain w (by kernel_rfl) h) (fun w => by kernel_rfl)
theorem tabV_inj {f g : Nat → Int} (h : tabV f = tabV g) : ∀ i, i < 9 → f i = g i := by
  simp only [tabV, Value.agg.injEq] at h
  have h := congrArg Array.toList h
  simp at h
  intro i hi
  match i, hi with
  | 0, _ => exact h.1
  | 1, _ => exact h.2.1
  | 2, _ => exact h.2.2.1
  | 3, _ => exact h.2.2.2.1
  | 4, _ => exact h.2.2.2.2.1
  | 5, _ => exact h.2.2.2.2.2.1
  | 6, _ => exact h.2.2.2.2.2.2.1
  | 7, _ => exact h.2.2.2.2.2.2.2.1
  | 8, _ => exact h.2.2.2.2.2.2.2.2
theorem eqTabV (f g : Nat → Int) (w : World) : ∃ r : Bool, (Op.equal 33 (tabV f) (tabV g)).run Try.prog w = .ok r w ∧ (r = true ↔ tabV f = tabV g) := by
  refine ⟨_, eqTabD _ _ _ _ _ _ _ _ _ _ _ _ _ _ _ _ _ _ w, ?_⟩
  constructor
  · intro h
    simp only [Bool.and_eq_true, beq_iff_eq] at h
    obtain ⟨⟨⟨⟨⟨⟨⟨⟨h0, h1⟩, h2⟩, h3⟩, h4⟩, h5⟩, h6⟩, h7⟩, h8⟩ := h
    unfold tabV
    rw [h0, h1, h2, h3, h4, h5, h6, h7, h8]
  · intro h
    have e := tabV_inj (f := f) (g := g) h
    simp [e 0 (by omega), e 1 (by omega), e 2 (by omega), e 3 (by omega), e 4 (by omega), e 5 (by omega), e 6 (by omega), e 7 (by omega), e 8 (by omega)]
/-- Each key of the map is told its dual. -/
def MapD (w : World) (b : Nat) : Prop := ∃ es clock, w.heap[b]? = some (.map es clock) ∧ ∀ e ∈ es.toList, ∃ g, e.key = tabV g ∧ e.val = tabV (Tm.dual g)
theorem MapD.keep {w w' : World} {b : Nat} (h : MapD w b) (hb : w'.heap[b]? = w.heap[b]?) : MapD w' b := by
  obtain ⟨es, c, h1, h2⟩ := h
  exact ⟨es, c, hb.trans h1, h2⟩
theorem MapD.lt {w : World} {b : Nat} (h : MapD w b) : b < w.heap.size := by
  obtain ⟨es, c, h1, h2⟩ := h
  exact (Array.getElem?_eq_some_iff.1 h1).1
theorem mapD_new (w : World) : MapD (w.alloc (.map #[] 0)) w.heap.size := ⟨#[], 0, heap_alloc_new w _, by simp⟩
theorem askD (f : Nat → Int) (w : World) : ∀ (es : List MapEntry) (i : Nat), (∀ e ∈ es, ∃ g, e.key = tabV g ∧ e.val = tabV (Tm.dual g)) →
    ((Instr.findAsking 33 (tabV f) es i).run Try.prog w = .ok none w ∧ ∀ e ∈ es, e.key ≠ tabV f) ∨ ∃ j e, e ∈ es ∧ (Instr.findAsking 33 (tabV f) es i).run Try.prog w = .ok (some (j, e.val)) w ∧ e.key = tabV f
  | [], i, _ => .inl ⟨rfl, by simp⟩
  | e :: es, i, h => by
    obtain ⟨g, hk, hv⟩ := h e (by simp)
    obtain ⟨r, E, hr⟩ := eqTabV f g w
    rw [← hk] at E hr
    cases r with
    | true =>
      refine .inr ⟨i, e, by simp, ?_, (hr.1 rfl).symm⟩
      unfold Instr.findAsking
      simp only [Sem.run_bind, E, Result.andThen_ok]
      rfl
    | false =>
      have c : ¬ tabV f = e.key := fun x => by have := hr.2 x; cases this
      have step : (Instr.findAsking 33 (tabV f) (e :: es) i).run Try.prog w = (Instr.findAsking 33 (tabV f) es (i + 1)).run Try.prog w := by
        rw [Instr.findAsking]
        simp only [Sem.run_bind, E, Result.andThen_ok]
        rfl
      rcases askD f w es (i + 1) (fun x hx => h x (by simp [hx])) with ⟨h1, h2⟩ | ⟨j, x, h1, h2, h3⟩
      · refine .inl ⟨step.trans h1, fun x hx => ?_⟩
        rcases List.mem_cons.1 hx with rfl | hx
        · exact fun e => c e.symm
        · exact h2 x hx
      · exact .inr ⟨j, x, by simp [h1], step.trans h2, h3⟩
theorem ckInt (em : Bool) (n : Nat) (x : Int) (w : World) : (Instr.checkKey em (n + 1) 3 (.int .i64 x)).run Try.prog w = .ok () w := by
  rw [Instr.checkKey]
  simp [Sem.run_bind, run_underlying Try.underlying3, Result.andThen]
theorem ckTab (em : Bool) (f : Nat → Int) (w : World) : (Instr.checkKey em 10000 33 (tabV f)).run Try.prog w = .ok () w := by
  have hp : ∀ (xs : Array Value) (i : Nat) (v : Value) (w : World), xs[i]? = some v → (part 3 xs i).run Try.prog w = .ok v w := fun xs i v w h => run_part_plain w (by kernel_rfl) h
  have hs : ∀ w, (sizeOf 3).run Try.prog w = .ok 1 w := fun w => by kernel_rfl
  have hi : ∀ (x : Int) (w : World), (Instr.checkKey em 9999 3 (.int .i64 x)).run Try.prog w = .ok () w := fun x w => ckInt em 9998 x w
  rw [Instr.checkKey]
  simp only [Sem.run_bind, run_underlying Try.underlying33, Result.andThen_ok]
  rw [Std.Legacy.Range.forIn_eq_forIn_range']
  simp [Std.Legacy.Range.size, List.range', hp, hi, hs]
theorem findD (f : Nat → Int) (w : World) (es : List MapEntry) (h : ∀ e ∈ es, ∃ g, e.key = tabV g ∧ e.val = tabV (Tm.dual g)) :
    ((Instr.findKey 33 (tabV f) es).run Try.prog w = .ok none w ∧ ∀ e ∈ es, e.key ≠ tabV f) ∨ ∃ j e, e ∈ es ∧ (Instr.findKey 33 (tabV f) es).run Try.prog w = .ok (some (j, e.val)) w ∧ e.key = tabV f := by
  have step : es ≠ [] → (Instr.findKey 33 (tabV f) es).run Try.prog w = (Instr.findAsking 33 (tabV f) es 0).run Try.prog w := fun hne => by
    cases es with
    | nil => exact absurd rfl hne
    | cons e r =>
      unfold Instr.findKey
      simp only [Sem.run_bind, run_underlying Try.underlying33, Result.andThen_ok]
      rfl
  cases hes : es with
  | nil =>
    refine .inl ⟨?_, by simp⟩
    unfold Instr.findKey
    simp only [Sem.run_bind, run_underlying Try.underlying33, Result.andThen_ok]
    rfl
  | cons e r =>
    rw [← hes, step (by rw [hes]; simp)]
    exact askD f w es 0 h
theorem dual_same {f g : Nat → Int} (h : tabV f = tabV g) : tabV (Tm.dual f) = tabV (Tm.dual g) := by
  have e := tabV_inj h
  have t : Tm.isTab f = Tm.isTab g := by
    unfold Tm.isTab
    rw [e 0 (by omega), e 1 (by omega), e 2 (by omega), e 3 (by omega), e 4 (by omega), e 5 (by omega), e 6 (by omega), e 7 (by omega), e 8 (by omega)]
  have l : ∀ a b : Int, -1 ≤ a → a ≤ 1 → -1 ≤ b → b ≤ 1 → Tm.look f a b = Tm.look g a b := fun a b a0 a1 b0 b1 => by
    unfold Tm.look
    rw [t, e (Tm.ix a b) (by unfold Tm.ix; omega)]
  simp only [tabV, Tm.dual, Tm.fill]
  rw [l _ _ (by decide) (by decide) (by decide) (by decide), l _ _ (by decide) (by decide) (by decide) (by decide), l _ _ (by decide) (by decide) (by decide) (by decide), l _ _ (by decide) (by decide) (by decide) (by decide), l _ _ (by decide) (by decide) (by decide) (by decide), l _ _ (by decide) (by decide) (by decide) (by decide), l _ _ (by decide) (by decide) (by decide) (by decide), l _ _ (by decide) (by decide) (by decide) (by decide), l _ _ (by decide) (by decide) (by decide) (by decide)]
/-- What the map is asked. -/
theorem lookD (f : Nat → Int) (b : Nat) (w : World) (h : MapD w b) : ∃ (v : Value) (ok : Bool), (Instr.lookup 71 (.map (some b)) (tabV f) true).run Try.prog w = .ok (.tuple #[v, .bool ok]) w ∧ (ok = true → v = tabV (Tm.dual f)) ∧ (ok = false → v = tabV (fun _ => 0) ∧ ∃ es clock, w.heap[b]? = some (.map es clock) ∧ (∀ e ∈ es.toList, ∃ g, e.key = tabV g ∧ e.val = tabV (Tm.dual g)) ∧ ∀ e ∈ es.toList, e.key ≠ tabV f) := by
  obtain ⟨es, clock, hb, hs⟩ := h
  have hz : (zeroValue 33).run Try.prog w = .ok (tabV (fun _ => 0)) w := by kernel_rfl
  rcases findD f w es.toList hs with ⟨h1, h2⟩ | ⟨j, e, he, h1, h2⟩
  · refine ⟨tabV (fun _ => 0), false, ?_, fun x => (by cases x), fun _ => ⟨rfl, es, clock, hb, hs, h2⟩⟩
    simp [Instr.lookup, run_underlying Try.underlying71, MapKept.run_getObj_map hb, ckTab, h1, hz, Result.andThen]
  · obtain ⟨g, hk, hv⟩ := hs e he
    refine ⟨e.val, true, ?_, fun _ => ?_, fun x => (by cases x)⟩
    · simp [Instr.lookup, run_underlying Try.underlying71, MapKept.run_getObj_map hb, ckTab, h1, Result.andThen]
    · rw [hv]; exact dual_same (hk.symm.trans h2)
/-- What the map is told. -/
theorem putD (f : Nat → Int) (b : Nat) (w : World) {es : Array MapEntry} {clock : Nat} (hb : w.heap[b]? = some (.map es clock)) (hs : ∀ e ∈ es.toList, ∃ g, e.key = tabV g ∧ e.val = tabV (Tm.dual g)) (hn : ∀ e ∈ es.toList, e.key ≠ tabV f) :
    ∃ w', (Instr.mapUpdate 71 (.map (some b)) (tabV f) (tabV (Tm.dual f))).run Try.prog w = .ok () w' ∧ MapD w' b ∧ w.grownBy w' (some b) := by
  rcases findD f w es.toList hs with ⟨h1, h2⟩ | ⟨j, e, he, h1, h2⟩
  · refine ⟨_, by
      simp [Instr.mapUpdate, run_underlying Try.underlying71, MapKept.run_getObj_map hb, ckTab, h1, MapKept.run_setObj_map _ hb, Result.andThen]
      rfl, ⟨_, _, ChangeMaps.heap_setBlock_same hb _, fun e he => ?_⟩, ⟨rfl, rfl, rfl, by simp [ChangeMaps.setBlock], fun i _ hi => ChangeMaps.heap_setBlock_other hb _ (fun e => hi (by rw [e]))⟩⟩
    simp only [Array.toList_push, List.mem_append, List.mem_singleton] at he
    rcases he with he | rfl
    · exact hs e he
    · exact ⟨f, rfl, rfl⟩
  · exact absurd h2 (hn e he)
theorem grown_setD {w W : World} {p r o : Nat} {v : Value} (h : w.grownBy W (some p)) (hr : w.heap.size ≤ r) : w.grownBy (W.setCell ⟨r, o, none⟩ v) (some p) :=
  ⟨h.os, h.tape, h.output, by have := h.size; simp; omega, fun k hk hne => (heap_setCell_other W ⟨r, o, none⟩ k v (fun e => by have e : k = r := e; omega)).trans (h.block k hk hne)⟩
theorem MapD.set {W : World} {b r o : Nat} {v : Value} (h : MapD W b) (hr : b ≠ r) : MapD (W.setCell ⟨r, o, none⟩ v) b := h.keep (heap_setCell_other W ⟨r, o, none⟩ b v hr)
set_option maxHeartbeats 1000000 in
theorem iDualOf (f : Nat → Int) (b : Nat) (w : World) (h : MapD w b) : Calls Try.prog 51 #[.map (some b), tabV f] w fun e w' => e = .returned (tabV (Tm.dual f)) ∧ MapD w' b ∧ w.grownBy w' (some b) := by
  obtain ⟨A, hA⟩ : ∃ A, A = (w.alloc (.cells #[.int .i64 (f 0), .int .i64 (f 1), .int .i64 (f 2), .int .i64 (f 3), .int .i64 (f 4), .int .i64 (f 5), .int .i64 (f 6), .int .i64 (f 7), .int .i64 (f 8)] 33)).alloc (.cells #[.int .i64 0, .int .i64 0, .int .i64 0, .int .i64 0, .int .i64 0, .int .i64 0, .int .i64 0, .int .i64 0, .int .i64 0] 33) := ⟨_, rfl⟩
  have bl := h.lt
  have MA := Lib.hid (show MapD A b by rw [hA]; exact h.keep (by rw [Below.heap_alloc _ _ _ (by simp; omega), Below.heap_alloc _ _ _ bl]))
  have GA : Hid (w.grownBy A (some b)) := Lib.hid (by rw [hA]; exact ((World.grownBy_alloc w _ _).trans (World.grownBy_alloc _ _ _)))
  obtain ⟨v, ok, hl, ht, hf⟩ := lookD f b A MA.out
  have HT := Lib.hid ht
  have HF := Lib.hid hf
  clear ht hf h
  cases ok with
  | true =>
    obtain rfl := HT.out rfl
    clear HT HF
    go_enter Try.func51, Try.ntmps51
    rw [hA] at hl
    go_wp2
    go_returns
    refine ⟨rfl, MA.out.keep ?_, ((World.grownBy_alloc w _ _).trans (World.grownBy_alloc _ _ _)).trans (World.grownBy_alloc _ _ _)⟩
    rw [hA, Below.heap_alloc _ _ _ (by simp; omega), Below.heap_alloc _ _ _ (by simp; omega), Below.heap_alloc _ _ _ bl, Below.heap_alloc _ _ _ (by simp; omega), Below.heap_alloc _ _ _ bl]
  | false =>
    obtain ⟨rfl, es, clock, hb, hs, hn⟩ := HF.out rfl
    have HS := Lib.hid hs
    have HN := Lib.hid hn
    have HB := Lib.hid hb
    clear HT HF hs hn hb
    go_enter Try.func51, Try.ntmps51
    rw [hA] at hl
    go_wp2_with fail
    refine (iDualTable f _).mono ?_
    rintro e w3 ⟨rfl, hb3⟩
    obtain ⟨p, rfl⟩ := gw_of_below hb3
    clear hb3 hl
    obtain ⟨W3, hW3⟩ : ∃ W3, W3 = ((w.alloc (.cells #[.int .i64 (f 0), .int .i64 (f 1), .int .i64 (f 2), .int .i64 (f 3), .int .i64 (f 4), .int .i64 (f 5), .int .i64 (f 6), .int .i64 (f 7), .int .i64 (f 8)] 33)).alloc (.cells #[.int .i64 0, .int .i64 0, .int .i64 0, .int .i64 0, .int .i64 0, .int .i64 0, .int .i64 0, .int .i64 0, .int .i64 0] 33)).alloc (.cells #[.int .i64 (Tm.dual f 0), .int .i64 (Tm.dual f 1), .int .i64 (Tm.dual f 2), .int .i64 (Tm.dual f 3), .int .i64 (Tm.dual f 4), .int .i64 (Tm.dual f 5), .int .i64 (Tm.dual f 6), .int .i64 (Tm.dual f 7), .int .i64 (Tm.dual f 8)] 33) := ⟨_, rfl⟩
    have s3 : W3.heap.size = w.heap.size + 1 + 1 + 1 := by rw [hW3]; simp
    have b3 : W3.heap[b]? = some (.map es clock) := by rw [← HB.out, hW3, hA, Below.heap_alloc _ _ _ (by simp; omega)]
    have g3 := below_gw (Below.refl W3.heap.size W3) (Nat.le_refl _) p
    obtain ⟨w4, hu, hm, hg⟩ := putD f b (gw W3 p) ((g3.block b (by omega)).trans b3) HS.out HN.out
    have k5 : w4.heap[w.heap.size + 1 + 1]? = some (.cells #[.int .i64 (Tm.dual f 0), .int .i64 (Tm.dual f 1), .int .i64 (Tm.dual f 2), .int .i64 (Tm.dual f 3), .int .i64 (Tm.dual f 4), .int .i64 (Tm.dual f 5), .int .i64 (Tm.dual f 6), .int .i64 (Tm.dual f 7), .int .i64 (Tm.dual f 8)] 33 (0, 0)) := by
      rw [hg.block _ (by have := g3.size; omega) (by simp; omega), g3.block _ (by omega), hW3]
      have := heap_alloc_new ((w.alloc (.cells #[.int .i64 (f 0), .int .i64 (f 1), .int .i64 (f 2), .int .i64 (f 3), .int .i64 (f 4), .int .i64 (f 5), .int .i64 (f 6), .int .i64 (f 7), .int .i64 (f 8)] 33)).alloc (.cells #[.int .i64 0, .int .i64 0, .int .i64 0, .int .i64 0, .int .i64 0, .int .i64 0, .int .i64 0, .int .i64 0, .int .i64 0] 33)) (.cells #[.int .i64 (Tm.dual f 0), .int .i64 (Tm.dual f 1), .int .i64 (Tm.dual f 2), .int .i64 (Tm.dual f 3), .int .i64 (Tm.dual f 4), .int .i64 (Tm.dual f 5), .int .i64 (Tm.dual f 6), .int .i64 (Tm.dual f 7), .int .i64 (Tm.dual f 8)] 33)
      simpa using this
    have k4 : w4.heap[w.heap.size + 1]? = some (.cells #[.int .i64 0, .int .i64 0, .int .i64 0, .int .i64 0, .int .i64 0, .int .i64 0, .int .i64 0, .int .i64 0, .int .i64 0] 33 (0, 0)) := by
      rw [hg.block _ (by have := g3.size; omega) (by simp; omega), g3.block _ (by omega), hW3, Below.heap_alloc _ _ _ (by simp)]
      have := heap_alloc_new (w.alloc (.cells #[.int .i64 (f 0), .int .i64 (f 1), .int .i64 (f 2), .int .i64 (f 3), .int .i64 (f 4), .int .i64 (f 5), .int .i64 (f 6), .int .i64 (f 7), .int .i64 (f 8)] 33)) (.cells #[.int .i64 0, .int .i64 0, .int .i64 0, .int .i64 0, .int .i64 0, .int .i64 0, .int .i64 0, .int .i64 0, .int .i64 0] 33)
      simpa using this
    have MM := Lib.hid hm
    have GG := Lib.hid hg
    rw [hW3] at hu
    have G4 : Hid (w.grownBy w4 (some b)) := Lib.hid (by
      have g1 : w.grownBy W3 (some b) := by rw [hW3]; exact ((World.grownBy_alloc w _ _).trans (World.grownBy_alloc _ _ _)).trans (World.grownBy_alloc _ _ _)
      have g2 : w.grownBy (gw W3 p) (some b) := ⟨g3.os.trans g1.os, g3.tape.trans g1.tape, g3.output.trans g1.output, Nat.le_trans g1.size g3.size, fun k hk hne => (g3.block k (by omega)).trans (g1.block k hk hne)⟩
      exact g2.trans hg)
    have l4 : w.heap.size + 1 < w4.heap.size := (Array.getElem?_eq_some_iff.1 k4).1
    have fz : ∀ i, w4.frozen? ⟨w.heap.size + 1, i, none⟩ = false := fun i => by simp [World.frozen?, k4]
    have c5_0 : w4.cell? ⟨w.heap.size + 1 + 1, 0, none⟩ = some (.int .i64 (Tm.dual f 0)) := by simp [World.cell?, k5]
    have c5_1 : w4.cell? ⟨w.heap.size + 1 + 1, 1, none⟩ = some (.int .i64 (Tm.dual f 1)) := by simp [World.cell?, k5]
    have c5_2 : w4.cell? ⟨w.heap.size + 1 + 1, 2, none⟩ = some (.int .i64 (Tm.dual f 2)) := by simp [World.cell?, k5]
    have c5_3 : w4.cell? ⟨w.heap.size + 1 + 1, 3, none⟩ = some (.int .i64 (Tm.dual f 3)) := by simp [World.cell?, k5]
    have c5_4 : w4.cell? ⟨w.heap.size + 1 + 1, 4, none⟩ = some (.int .i64 (Tm.dual f 4)) := by simp [World.cell?, k5]
    have c5_5 : w4.cell? ⟨w.heap.size + 1 + 1, 5, none⟩ = some (.int .i64 (Tm.dual f 5)) := by simp [World.cell?, k5]
    have c5_6 : w4.cell? ⟨w.heap.size + 1 + 1, 6, none⟩ = some (.int .i64 (Tm.dual f 6)) := by simp [World.cell?, k5]
    have c5_7 : w4.cell? ⟨w.heap.size + 1 + 1, 7, none⟩ = some (.int .i64 (Tm.dual f 7)) := by simp [World.cell?, k5]
    have c5_8 : w4.cell? ⟨w.heap.size + 1 + 1, 8, none⟩ = some (.int .i64 (Tm.dual f 8)) := by simp [World.cell?, k5]
    have c4_0 : w4.cell? ⟨w.heap.size + 1, 0, none⟩ = some (.int .i64 0) := by simp [World.cell?, k4]
    have c4_1 : w4.cell? ⟨w.heap.size + 1, 1, none⟩ = some (.int .i64 0) := by simp [World.cell?, k4]
    have c4_2 : w4.cell? ⟨w.heap.size + 1, 2, none⟩ = some (.int .i64 0) := by simp [World.cell?, k4]
    have c4_3 : w4.cell? ⟨w.heap.size + 1, 3, none⟩ = some (.int .i64 0) := by simp [World.cell?, k4]
    have c4_4 : w4.cell? ⟨w.heap.size + 1, 4, none⟩ = some (.int .i64 0) := by simp [World.cell?, k4]
    have c4_5 : w4.cell? ⟨w.heap.size + 1, 5, none⟩ = some (.int .i64 0) := by simp [World.cell?, k4]
    have c4_6 : w4.cell? ⟨w.heap.size + 1, 6, none⟩ = some (.int .i64 0) := by simp [World.cell?, k4]
    have c4_7 : w4.cell? ⟨w.heap.size + 1, 7, none⟩ = some (.int .i64 0) := by simp [World.cell?, k4]
    have c4_8 : w4.cell? ⟨w.heap.size + 1, 8, none⟩ = some (.int .i64 0) := by simp [World.cell?, k4]
    have hn45 : w.heap.size + 1 ≠ w.heap.size + 1 + 1 := by omega
    have K4 := Lib.hid k4
    clear hm hg g3 b3 HS HN HB k4 k5 hW3 s3 hA MA GA GG
    go_wp2
    obtain ⟨WF, hWF⟩ : ∃ WF, WF = (((((((((w4.setCell ⟨w.heap.size + 1, 0, none⟩ (.int .i64 (Tm.dual f 0))).setCell ⟨w.heap.size + 1, 1, none⟩ (.int .i64 (Tm.dual f 1))).setCell ⟨w.heap.size + 1, 2, none⟩ (.int .i64 (Tm.dual f 2))).setCell ⟨w.heap.size + 1, 3, none⟩ (.int .i64 (Tm.dual f 3))).setCell ⟨w.heap.size + 1, 4, none⟩ (.int .i64 (Tm.dual f 4))).setCell ⟨w.heap.size + 1, 5, none⟩ (.int .i64 (Tm.dual f 5))).setCell ⟨w.heap.size + 1, 6, none⟩ (.int .i64 (Tm.dual f 6))).setCell ⟨w.heap.size + 1, 7, none⟩ (.int .i64 (Tm.dual f 7))).setCell ⟨w.heap.size + 1, 8, none⟩ (.int .i64 (Tm.dual f 8))) := ⟨_, rfl⟩
    rw [← hWF]
    have kF : WF.heap[w.heap.size + 1]? = some (.cells #[.int .i64 (Tm.dual f 0), .int .i64 (Tm.dual f 1), .int .i64 (Tm.dual f 2), .int .i64 (Tm.dual f 3), .int .i64 (Tm.dual f 4), .int .i64 (Tm.dual f 5), .int .i64 (Tm.dual f 6), .int .i64 (Tm.dual f 7), .int .i64 (Tm.dual f 8)] 33 (0, 0)) := by
      have k4 := K4.out
      have := (heap_set_same (heap_set_same (heap_set_same (heap_set_same (heap_set_same (heap_set_same (heap_set_same (heap_set_same (heap_set_same k4 0 (.int .i64 (Tm.dual f 0))) 1 (.int .i64 (Tm.dual f 1))) 2 (.int .i64 (Tm.dual f 2))) 3 (.int .i64 (Tm.dual f 3))) 4 (.int .i64 (Tm.dual f 4))) 5 (.int .i64 (Tm.dual f 5))) 6 (.int .i64 (Tm.dual f 6))) 7 (.int .i64 (Tm.dual f 7))) 8 (.int .i64 (Tm.dual f 8)))
      rw [hWF]
      simpa using this
    have r0_ : WF.cell? ⟨w.heap.size + 1, 0, none⟩ = some (.int .i64 (Tm.dual f 0)) := by simp [World.cell?, kF]
    have r1_ : WF.cell? ⟨w.heap.size + 1, 1, none⟩ = some (.int .i64 (Tm.dual f 1)) := by simp [World.cell?, kF]
    have r2_ : WF.cell? ⟨w.heap.size + 1, 2, none⟩ = some (.int .i64 (Tm.dual f 2)) := by simp [World.cell?, kF]
    have r3_ : WF.cell? ⟨w.heap.size + 1, 3, none⟩ = some (.int .i64 (Tm.dual f 3)) := by simp [World.cell?, kF]
    have r4_ : WF.cell? ⟨w.heap.size + 1, 4, none⟩ = some (.int .i64 (Tm.dual f 4)) := by simp [World.cell?, kF]
    have r5_ : WF.cell? ⟨w.heap.size + 1, 5, none⟩ = some (.int .i64 (Tm.dual f 5)) := by simp [World.cell?, kF]
    have r6_ : WF.cell? ⟨w.heap.size + 1, 6, none⟩ = some (.int .i64 (Tm.dual f 6)) := by simp [World.cell?, kF]
    have r7_ : WF.cell? ⟨w.heap.size + 1, 7, none⟩ = some (.int .i64 (Tm.dual f 7)) := by simp [World.cell?, kF]
    have r8_ : WF.cell? ⟨w.heap.size + 1, 8, none⟩ = some (.int .i64 (Tm.dual f 8)) := by simp [World.cell?, kF]
    refine bodyPost_ret (v := tabV (Tm.dual f)) (by simp [results, Try.results51, go_sem, r0_, r1_, r2_, r3_, r4_, r5_, r6_, r7_, r8_]) rfl ?_
    have hnb : b ≠ w.heap.size + 1 := by omega
    have hrb : w.heap.size ≤ w.heap.size + 1 := by omega
    rw [hWF]
    refine ⟨rfl, ?_, ?_⟩
    · exact (((((((((MM.out.set hnb).set hnb).set hnb).set hnb).set hnb).set hnb).set hnb).set hnb).set hnb)
    · exact (grown_setD (grown_setD (grown_setD (grown_setD (grown_setD (grown_setD (grown_setD (grown_setD (grown_setD G4.out hrb) hrb) hrb) hrb) hrb) hrb) hrb) hrb) hrb)
end Go.Proofs.Ytjbmgppgkgacpaa

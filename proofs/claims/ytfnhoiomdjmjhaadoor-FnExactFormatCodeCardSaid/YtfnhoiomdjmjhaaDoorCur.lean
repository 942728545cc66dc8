/- The cursor over the bytes of a draw: contracts of the model's l01Byte, l01Below, l01Once, l01Int, l01Pick, l01New. -/
import Derived.Test.YtfnhoiomdjmjhaaDoorRow
import Derived.Laws.Rows
namespace Go.Proofs.YtfnhoiomdjmjhaaDoor
set_option maxRecDepth 20000
open Go.RowKit

theorem and_mask (x m : Int) (h0 : 0 ≤ m) (h1 : m < 9223372036854775808) : 0 ≤ bits .and .i64 x m ∧ bits .and .i64 x m ≤ m := by
  obtain ⟨k, rfl⟩ := Int.eq_ofNat_of_zero_le h0
  have h2 : (BitVec.ofInt 64 (k : Int)).toNat = k := by
    rw [BitVec.ofInt_natCast, BitVec.toNat_ofNat]; exact Nat.mod_eq_of_lt (by omega)
  have e : bits .and .i64 x (k : Int) = IntKind.i64.wrap ((BitVec.ofInt 64 x &&& BitVec.ofInt 64 (k : Int)).toNat : Int) := rfl
  have hle : (BitVec.ofInt 64 x &&& BitVec.ofInt 64 (k : Int)).toNat ≤ k := by
    rw [BitVec.toNat_and, h2]; exact Nat.and_le_right
  rw [e, IntWalk.i64_in _ (by omega)]
  omega

/-- The bytes that a draw reads: '.slice a n cap' holds n bytes. -/
def Byts (w : World) (a : Option Addr) (n cap : Nat) : Prop :=
  n ≤ cap ∧ cap ≤ maxLen ∧ (n = 0 ∨ ∃ b o, a = some ⟨b, o, none⟩ ∧ b < w.heap.size ∧ ∀ i, i < n → ∃ x : Int, 0 ≤ x ∧ x ≤ 255 ∧ w.cell? ⟨b, o + i, none⟩ = some (.int .u8 x))
theorem Byts.of_row {w : World} {a : Option Addr} {n cap : Nat} {zs : List Int} (h : IsRow .u8 w a n cap zs) : Byts w a n cap := by
  rcases h with ⟨rfl, rfl, rfl, rfl⟩ | ⟨x, rfl, hl, hm, hz, hc, hw⟩
  · exact ⟨by omega, by unfold maxLen; omega, .inl rfl⟩
  · refine ⟨hl, hm, ?_⟩
    rcases Nat.eq_zero_or_pos n with h0 | h0
    · exact .inl h0
    · obtain ⟨b, o, rfl, hc2⟩ := ints_at hc (by omega)
      refine .inr ⟨b, o, rfl, World.block_lt_of_cell? (a := ⟨b, o + 0, none⟩) w (hc2 0 (by omega)), fun i hi => ⟨_, ?_, ?_, hc2 i (by omega)⟩⟩
      · have := bounds_u8 (hw (zs.getD i 0) (by rw [List.getD_eq_getElem?_getD, List.getElem?_eq_getElem (by omega)]; exact List.getElem_mem _))
        omega
      · have := bounds_u8 (hw (zs.getD i 0) (by rw [List.getD_eq_getElem?_getD, List.getElem?_eq_getElem (by omega)]; exact List.getElem_mem _))
        omega
theorem Byts.of_blocks {w w' : World} {a : Option Addr} {n cap : Nat} (h : Byts w a n cap) (hs : w.heap.size ≤ w'.heap.size) (hb : ∀ b o, a = some ⟨b, o, none⟩ → b < w.heap.size → w'.heap[b]? = w.heap[b]?) : Byts w' a n cap := by
  obtain ⟨h1, h2, h3⟩ := h
  refine ⟨h1, h2, ?_⟩
  rcases h3 with h3 | ⟨b, o, ha, hlt, hc⟩
  · exact .inl h3
  · refine .inr ⟨b, o, ha, by omega, fun i hi => ?_⟩
    obtain ⟨x, x0, x1, hx⟩ := hc i hi
    exact ⟨x, x0, x1, by rw [← hx]; exact World.cell?_of_block (a := ⟨b, o + i, none⟩) (hb b o ha hlt)⟩
theorem Byts.below {w w' : World} {a : Option Addr} {n cap : Nat} (h : Byts w a n cap) (hb : Below w.heap.size w w') : Byts w' a n cap :=
  h.of_blocks hb.size (fun b _ _ hlt => hb.block b hlt)

/-- A cursor in block p over the bytes '.slice a n cap', which lie below block q ≤ p. -/
def Cur (w : World) (q p : Nat) (a : Option Addr) (n cap : Nat) : Prop :=
  ∃ i h : Int, w.heap[p]? = some (.cells #[.slice a n cap, .int .i64 i, .int .i64 h] 66 (0, 0)) ∧ 0 ≤ i ∧ i ≤ n ∧ q ≤ p ∧
    n ≤ cap ∧ cap ≤ maxLen ∧ (n = 0 ∨ ∃ b o, a = some ⟨b, o, none⟩ ∧ b < q ∧ ∀ i, i < n → ∃ x : Int, 0 ≤ x ∧ x ≤ 255 ∧ w.cell? ⟨b, o + i, none⟩ = some (.int .u8 x))
/-- Only block p may have turned. -/
structure Turned (p : Nat) (w w' : World) : Prop where
  grown : w.grownBy w' (some p)
  same : w'.heap.size = w.heap.size
theorem Turned.refl (p : Nat) (w : World) : Turned p w w := ⟨⟨rfl, rfl, rfl, Nat.le_refl _, fun _ _ _ => rfl⟩, rfl⟩
theorem Turned.trans {p : Nat} {a b c : World} (h : Turned p a b) (k : Turned p b c) : Turned p a c :=
  ⟨⟨k.grown.os.trans h.grown.os, k.grown.tape.trans h.grown.tape, k.grown.output.trans h.grown.output, Nat.le_trans h.grown.size k.grown.size, fun j hj hne => (k.grown.block j (by rw [h.same]; exact hj) hne).trans (h.grown.block j hj hne)⟩, k.same.trans h.same⟩
theorem Turned.drewN {p : Nat} {a b : World} (h : Turned p a b) (n : Nat) : Turned p a (b.drewN n) := ⟨⟨h.grown.os, h.grown.tape, h.grown.output, h.grown.size, h.grown.block⟩, h.same⟩
theorem Turned.set {p : Nat} {a b : World} (h : Turned p a b) (j : Nat) (v : Value) : Turned p a (b.setCell ⟨p, j, none⟩ v) :=
  h.trans ⟨⟨rfl, rfl, rfl, by simp, fun k _ hne => heap_setCell_other b ⟨p, j, none⟩ k v (fun e => hne (by simp [e]))⟩, by simp⟩
theorem Turned.below {p B : Nat} {a b : World} (h : Turned p a b) (hB : B ≤ p) : Below B a b := by
  refine ⟨h.grown.os, h.grown.tape, h.grown.output, h.grown.size, fun k hk => ?_⟩
  rcases Nat.lt_or_ge k a.heap.size with hlt | hge
  · exact h.grown.block k hlt (by simp; omega)
  · rw [Array.getElem?_eq_none (by rw [h.same]; exact hge), Array.getElem?_eq_none hge]
theorem Cur.lt {w : World} {q p : Nat} {a : Option Addr} {n cap : Nat} (h : Cur w q p a n cap) : p < w.heap.size := by
  obtain ⟨i, hh, h1, _⟩ := h
  exact (Array.getElem?_eq_some_iff.1 h1).1
/-- A cursor stays while others turn. -/
theorem Cur.of_blocks {w w' : World} {q p : Nat} {a : Option Addr} {n cap : Nat} (h : Cur w q p a n cap) (hp : w'.heap[p]? = w.heap[p]?) (hb : ∀ b, b < q → w'.heap[b]? = w.heap[b]?) : Cur w' q p a n cap := by
  obtain ⟨i, hh, h1, h2, h3, h4, h5, h6, h7⟩ := h
  refine ⟨i, hh, by rw [hp]; exact h1, h2, h3, h4, h5, h6, ?_⟩
  rcases h7 with h7 | ⟨b, o, ha, hlt, hc⟩
  · exact .inl h7
  · refine .inr ⟨b, o, ha, hlt, fun i hi => ?_⟩
    obtain ⟨x, x0, x1, hx⟩ := hc i hi
    exact ⟨x, x0, x1, by rw [← hx]; exact World.cell?_of_block (a := ⟨b, o + i, none⟩) (hb b hlt)⟩
theorem Cur.below {w w' : World} {q p : Nat} {a : Option Addr} {n cap : Nat} (h : Cur w q p a n cap) (hb : Below w.heap.size w w') : Cur w' q p a n cap := by
  have hq : q ≤ p := by obtain ⟨_, _, _, _, _, h4, _⟩ := h; exact h4
  have hl := h.lt
  exact h.of_blocks (hb.block p hl) (fun b hlt => hb.block b (by omega))
/-- What a draw leaves: a number in its bounds, the cursor, and no other block turned. -/
def Drawn (q p : Nat) (a : Option Addr) (n cap : Nat) (lo hi : Int) (w : World) (e : Ending) (w' : World) : Prop :=
  ∃ x : Int, e = .returned (.int .i64 x) ∧ lo ≤ x ∧ x ≤ hi ∧ Cur w' q p a n cap ∧ Turned p w w'
theorem heap_drewN (w : World) (n k : Nat) : (w.drewN n).heap[k]? = w.heap[k]? := rfl
theorem cur_mk {w w' : World} {q p : Nat} {a : Option Addr} {n cap : Nat} {i h : Int} (hp : w'.heap[p]? = some (.cells #[.slice a n cap, .int .i64 i, .int .i64 h] 66 (0, 0))) (i0 : 0 ≤ i) (i1 : i ≤ n) (hq : q ≤ p) (hn : n ≤ cap) (hm : cap ≤ maxLen)
    (hby : n = 0 ∨ ∃ b o, a = some ⟨b, o, none⟩ ∧ b < q ∧ ∀ i, i < n → ∃ x : Int, 0 ≤ x ∧ x ≤ 255 ∧ w.cell? ⟨b, o + i, none⟩ = some (.int .u8 x)) (ht : Turned p w w') (hpl : p < w.heap.size) : Cur w' q p a n cap := by
  refine ⟨i, h, hp, i0, i1, hq, hn, hm, ?_⟩
  rcases hby with h7 | ⟨b, o, ha, hlt, hc⟩
  · exact .inl h7
  · refine .inr ⟨b, o, ha, hlt, fun i hi => ?_⟩
    obtain ⟨x, x0, x1, hx⟩ := hc i hi
    exact ⟨x, x0, x1, by rw [← hx]; exact World.cell?_of_block (a := ⟨b, o + i, none⟩) (ht.grown.block b (by omega) (by simp; omega))⟩
theorem sDrawByte (q p : Nat) (a : Option Addr) (n cap : Nat) (w : World) (hc : Cur w q p a n cap) : Calls Tryd.prog 57 #[.pointer (some ⟨p, 0, none⟩)] w (Drawn q p a n cap 0 255 w) := by
  obtain ⟨i, h, hp, i0, i1, hqp, hn, hm, hby⟩ := hc
  have hpl : p < w.heap.size := (Array.getElem?_eq_some_iff.1 hp).1
  have c0 := cell_of_row w p 0 _ _ _ hp
  have c1 := cell_of_row w p 1 _ _ _ hp
  have c2 := cell_of_row w p 2 _ _ _ hp
  have f0 := frozen_of_row w p 2 _ _ hp
  have f1 := frozen_of_row w p 1 _ _ hp
  simp at c0 c1 c2
  obtain ⟨j, rfl⟩ := Int.eq_ofNat_of_zero_le i0
  unfold maxLen at hm
  have HB := Lib.hid hby
  have HP := Lib.hid hp
  by_cases hlt : j < n
  · rcases hby with e | ⟨b, o, rfl, hbq, hcb⟩
    · omega
    obtain ⟨x, x0, x1, hx⟩ := hcb j hlt
    have cb : ∀ v, (w.setCell ⟨p, 2, none⟩ v).cell? ⟨b, o + j, none⟩ = some (.int .u8 x) := fun v =>
      (World.cell?_of_block (a := ⟨b, o + j, none⟩) (heap_setCell_other w ⟨p, 2, none⟩ b v (by simp; omega))).trans hx
    clear hcb hp hx
    go_enter Tryd.func57, Tryd.ntmps57
    go_wp2
    go_quiet (fail)
    go_wp2
    go_quiet (fail)
    go_wp2
    go_quiet (fail)
    go_wp2
    go_ret
    have T21 : ∀ u v k, Turned p w (((w.setCell ⟨p, 2, none⟩ u).drewN k).setCell ⟨p, 1, none⟩ v) := fun u v k => (((Turned.refl p w).set 2 u).drewN k).set 1 v
    have S21 : ∀ u v, ((w.setCell ⟨p, 2, none⟩ u).setCell ⟨p, 1, none⟩ v).heap[p]? = some (.cells #[.slice (some ⟨b, o, none⟩) n cap, v, u] 66 (0, 0)) := fun u v =>
      heap_setCell_same _ p 1 _ _ v (heap_setCell_same w p 2 _ _ u HP.out)
    exact ⟨_, rfl, (and_mask _ 255 (by decide) (by decide)).1, (and_mask _ 255 (by decide) (by decide)).2, cur_mk (S21 _ _) (by omega) (by omega) hqp hn (by unfold maxLen; omega) HB.out (T21 _ _ _) hpl, T21 _ _ _⟩
  · obtain rfl : j = n := by omega
    clear hby hp
    go_enter Tryd.func57, Tryd.ntmps57
    go_wp2
    go_quiet (fail)
    go_wp2
    go_quiet (fail)
    go_wp2
    go_ret
    have T2 : ∀ u k l, Turned p w (((w.setCell ⟨p, 2, none⟩ u).drewN k).drewN l) := fun u k l => (((Turned.refl p w).set 2 u).drewN k).drewN l
    have S2 : ∀ u, (w.setCell ⟨p, 2, none⟩ u).heap[p]? = some (.cells #[.slice a j cap, .int .i64 j, u] 66 (0, 0)) := fun u => heap_setCell_same w p 2 _ _ u HP.out
    exact ⟨_, rfl, (and_mask _ 255 (by decide) (by decide)).1, (and_mask _ 255 (by decide) (by decide)).2, cur_mk (S2 _) (by omega) (by omega) hqp hn (by unfold maxLen; omega) HB.out (T2 _ _ _) hpl, T2 _ _ _⟩
theorem emod_bd (x m : Int) (h1 : 1 ≤ m) : 0 ≤ x % m ∧ x % m ≤ m - 1 :=
  ⟨Int.emod_nonneg _ (by omega), by have := Int.emod_lt_of_pos x (show 0 < m by omega); omega⟩
theorem sBelow (q p : Nat) (a : Option Addr) (n cap : Nat) (m : Int) (w : World) (hc : Cur w q p a n cap) (h1 : 1 ≤ m) (hm : m ≤ 1000000000000) : Calls Tryd.prog 35 #[.pointer (some ⟨p, 0, none⟩), .int .i64 m] w (Drawn q p a n cap 0 (m - 1) w) := by
  have HC := Lib.hid hc
  clear hc
  by_cases hb : m ≤ 256
  · go_enter Tryd.func35, Tryd.ntmps35
    go_wp2_with (go_at_call 57; refine (sDrawByte q p a n cap _ HC.out).mono ?_; rintro e w1 ⟨x, rfl, x0, x1, hc1, ht1⟩)
    go_ret
    exact ⟨_, rfl, (emod_bd _ _ h1).1, (emod_bd _ _ h1).2, hc1, ht1⟩
  · go_enter Tryd.func35, Tryd.ntmps35
    go_wp2_with fail
    refine (sDrawByte q p a n cap _ HC.out).mono ?_
    rintro e w1 ⟨x, rfl, x0, x1, hc1, ht1⟩
    have C1 := Lib.hid hc1
    have T1 := Lib.hid ht1
    clear hc1 ht1
    go_wp2_with fail
    refine (sDrawByte q p a n cap _ C1.out).mono ?_
    rintro e w2 ⟨y, rfl, y0, y1, hc2, ht2⟩
    have C2 := Lib.hid hc2
    have T2 := Lib.hid (T1.out.trans ht2)
    clear hc2 ht2
    go_wp2_with fail
    refine (sDrawByte q p a n cap _ C2.out).mono ?_
    rintro e w3 ⟨z, rfl, z0, z1, hc3, ht3⟩
    have C3 := Lib.hid hc3
    have T3 := Lib.hid (T2.out.trans ht3)
    clear hc3 ht3
    go_wp2_with fail
    refine (sDrawByte q p a n cap _ C3.out).mono ?_
    rintro e w4 ⟨v, rfl, v0, v1, hc4, ht4⟩
    have C4 := Lib.hid hc4
    have T4 := Lib.hid (T3.out.trans ht4)
    clear hc4 ht4
    go_wp2
    go_ret
    exact ⟨_, rfl, (emod_bd _ _ h1).1, (emod_bd _ _ h1).2, C4.out, T4.out⟩
def Chance (q p : Nat) (a : Option Addr) (n cap : Nat) (w : World) (e : Ending) (w' : World) : Prop :=
  ∃ x : Bool, e = .returned (.bool x) ∧ Cur w' q p a n cap ∧ Turned p w w'
theorem sOnce (q p : Nat) (a : Option Addr) (n cap : Nat) (m : Int) (w : World) (hc : Cur w q p a n cap) (h1 : 1 ≤ m) (hm : m ≤ 1000000000000) : Calls Tryd.prog 37 #[.pointer (some ⟨p, 0, none⟩), .int .i64 m] w (Chance q p a n cap w) := by
  have HC := Lib.hid hc
  clear hc
  go_enter Tryd.func37, Tryd.ntmps37
  go_wp2_with (go_at_call 35; refine (sBelow q p a n cap m _ HC.out h1 hm).mono ?_; rintro e w1 ⟨x, rfl, x0, x1, hc1, ht1⟩)
  go_ret
  exact ⟨_, rfl, hc1, ht1⟩
/-- One of the listed numbers. -/
def PickedI (q p : Nat) (a : Option Addr) (n cap : Nat) (xs : List Int) (w : World) (e : Ending) (w' : World) : Prop :=
  ∃ x : Int, e = .returned (.int .i64 x) ∧ x ∈ xs ∧ Cur w' q p a n cap ∧ Turned p w w'
theorem sPickInt (q p : Nat) (a : Option Addr) (n cap : Nat) (b : Option Addr) (m cap2 : Nat) (xs : List Int) (w : World) (hc : Cur w q p a n cap) (hx : Ints w b m cap2 xs) (h1 : 1 ≤ m) (hm : m ≤ 1000000) (hne : ∀ b' o, b = some ⟨b', o, none⟩ → b' ≠ p) :
    Calls Tryd.prog 38 #[.pointer (some ⟨p, 0, none⟩), .slice b m cap2] w (PickedI q p a n cap xs w) := by
  have HC := Lib.hid hc
  have HX := Lib.hid hx
  have HN := Lib.hid hne
  clear hc hne
  obtain ⟨x1, x2, x3, x4⟩ := hx
  unfold maxLen at x3
  rcases x4 with e | ⟨b', o, rfl, hbl, hcx⟩
  · omega
  clear hcx
  have hbn := HN.out b' o rfl
  go_enter Tryd.func38, Tryd.ntmps38
  go_wp2_with fail
  refine (sBelow q p a n cap m _ HC.out (by omega) (by omega)).mono ?_
  rintro e w1 ⟨j, rfl, j0, j1, hc1, ht1⟩
  obtain ⟨j, rfl⟩ := Int.eq_ofNat_of_zero_le j0
  have H1 := HX.out.kept ht1.grown (fun b'' o' e => by cases e; simp; exact hbn)
  rcases H1.2.2.2 with e | ⟨b'', o', e, _, hcx⟩
  · omega
  cases e
  have hcj := hcx j (by omega)
  rw [← getD_at xs j (by omega)] at hcj
  have C1 := Lib.hid hc1
  have T1 := Lib.hid ht1
  clear hcx H1 hc1 ht1
  go_wp2
  go_ret
  exact ⟨_, rfl, List.getElem_mem _, C1.out, T1.out⟩
/-- A new cursor over the bytes. -/
def Begun (a : Option Addr) (n cap : Nat) (w : World) (e : Ending) (w' : World) : Prop :=
  ∃ p : Nat, e = .returned (.pointer (some ⟨p, 0, none⟩)) ∧ w.heap.size ≤ p ∧ Cur w' w.heap.size p a n cap ∧ Below w.heap.size w w'
theorem sNew (a : Option Addr) (n cap : Nat) (w : World) (hb : Byts w a n cap) (hn : n ≤ 1048576) : Calls Tryd.prog 17 #[.slice a n cap] w (Begun a n cap w) := by
  obtain ⟨b1, b2, b3⟩ := hb
  have B3 := Lib.hid b3
  unfold maxLen at b2
  have fin : ∀ (h : Int), Cur (w.alloc (.cells #[.slice a n cap, .int .i64 0, .int .i64 h] 66)) w.heap.size w.heap.size a n cap := by
    intro h
    refine ⟨0, h, by simpa using heap_alloc_new w _, by omega, by omega, Nat.le_refl _, b1, by unfold maxLen; omega, ?_⟩
    rcases b3 with e | ⟨b, o, rfl, hbl, hc⟩
    · exact .inl e
    · refine .inr ⟨b, o, rfl, hbl, fun i hi => ?_⟩
      obtain ⟨x, x0, x1, hx⟩ := hc i hi
      exact ⟨x, x0, x1, by rw [← hx]; exact World.cell?_alloc_past _ _ _ hbl⟩
  have FIN := Lib.hid fin
  clear fin b3
  go_enter Tryd.func17, Tryd.ntmps17
  go_wp2
  go_loop [3, 4] (fun v i => ∃ (k : Nat) (h : Int), k ≤ n ∧ i = .int .i64 k ∧ v = .int .i64 h ∧ 0 ≤ h ∧ h ≤ 1073741823) (fun _ i => n - (intOf i).toNat)
  case atStart => exact ⟨0, _, by omega, rfl, rfl, by omega, by omega⟩
  case round =>
    obtain ⟨k, h, hk, rfl, rfl, h0, h1⟩ := hrel
    by_cases hlt : k < n
    · by_cases h4 : k < 4000
      · rcases B3.out with e | ⟨b, o, rfl, hbl, hc⟩
        · omega
        obtain ⟨x, x0, x1, hx⟩ := hc k hlt
        clear hc
        have hd1 : decide (k < n) = true := by simpa using hlt
        have hd2 : decide ((k : Int) < 4000) = true := by simp; omega
        go_wp2
        exact ⟨⟨k + 1, _, by omega, by go_num, rfl, (and_mask _ 1073741823 (by decide) (by decide)).1, (and_mask _ 1073741823 (by decide) (by decide)).2⟩, by simp [intOf]; omega⟩
      · have hd1 : decide (k < n) = true := by simpa using hlt
        have hd2 : decide ((k : Int) < 4000) = false := by simp; omega
        go_wp2
        go_ret
        exact ⟨_, rfl, Nat.le_refl _, FIN.out _, by (repeat' (first | (with_reducible exact Below.refl _ _) | (with_reducible assumption) | (with_reducible refine below_drewN ?_ _) | (with_reducible refine Below.drew ?_) | (with_reducible refine Below.alloc ?_ ?_ _) | (with_reducible refine Below.setCell ?_ ?_ _) | (with_reducible refine below_gw ?_ ?_ _) | (with_reducible refine below_via ?_ ‹Below _ _ _› ?_) | (with_reducible exact Nat.le_refl _) | (with_reducible refine le_gw ?_ _) | (with_reducible refine le_alloc ?_ _) | (with_reducible refine le_setCell ?_ _ _) | (with_reducible refine le_drew ?_) | (with_reducible refine le_drewN ?_ _) | go_size))⟩
    · obtain rfl : k = n := by omega
      go_wp2
      go_ret
      exact ⟨_, rfl, Nat.le_refl _, FIN.out _, by (repeat' (first | (with_reducible exact Below.refl _ _) | (with_reducible assumption) | (with_reducible refine below_drewN ?_ _) | (with_reducible refine Below.drew ?_) | (with_reducible refine Below.alloc ?_ ?_ _) | (with_reducible refine Below.setCell ?_ ?_ _) | (with_reducible refine below_gw ?_ ?_ _) | (with_reducible refine below_via ?_ ‹Below _ _ _› ?_) | (with_reducible exact Nat.le_refl _) | (with_reducible refine le_gw ?_ _) | (with_reducible refine le_alloc ?_ _) | (with_reducible refine le_setCell ?_ _ _) | (with_reducible refine le_drew ?_) | (with_reducible refine le_drewN ?_ _) | go_size))⟩
end Go.Proofs.YtfnhoiomdjmjhaaDoor

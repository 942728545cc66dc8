/- Tables that the laws draw. -/
import Derived.Test.YtgaenbpbfhpioaaDraw
import Derived.Test.YtgaenbpbfhpioaaTab4
import Derived.Test.YtgaenbpbfhpioaaTab5
import Derived.Test.YtgaenbpbfhpioaaTab6
import Derived.Test.YtgaenbpbfhpioaaTab7
import Derived.Test.YtgaenbpbfhpioaaTab8
import Derived.Test.YtgaenbpbfhpioaaTab9
namespace Go.Proofs.Ytgaenbpbfhpioaa
open Go.RowKit
/-- A text of a list is picked. -/
def PickedS (q p : Nat) (a : Option Addr) (n cap : Nat) (w : World) (e : Ending) (w' : World) : Prop :=
  ∃ s : ByteArray, e = .returned (.string s) ∧ Cur w' q p a n cap ∧ Turned p w w'
def Strs (w : World) (b o m : Nat) : Prop := ∀ i, i < m → ∃ s : ByteArray, w.cell? ⟨b, o + i, none⟩ = some (.string s)
theorem sPickS (q p : Nat) (a : Option Addr) (n cap : Nat) (b o m cap2 : Nat) (w : World) (hc : Cur w q p a n cap) (hx : Strs w b o m) (h1 : 1 ≤ m) (hm : m ≤ 1000000) (hbl : b < w.heap.size) (hne : b ≠ p) :
    Calls Try.prog 95 #[.pointer (some ⟨p, 0, none⟩), .slice (some ⟨b, o, none⟩) m cap2] w (PickedS q p a n cap w) := by
  have HC := Lib.hid hc
  have HX := Lib.hid hx
  clear hc hx
  go_enter Try.func95, Try.ntmps95
  go_wp2_with fail
  refine (sBelow q p a n cap m _ HC.out (by omega) (by omega)).mono ?_
  rintro e w1 ⟨j, rfl, j0, j1, hc1, ht1⟩
  obtain ⟨j, rfl⟩ := Int.eq_ofNat_of_zero_le j0
  obtain ⟨s, hs⟩ := HX.out j (by omega)
  have hs1 : w1.cell? ⟨b, o + j, none⟩ = some (.string s) := by rw [← hs]; exact World.cell?_of_block (a := ⟨b, o + j, none⟩) (ht1.grown.block b hbl (by simp; omega))
  have C1 := Lib.hid hc1
  have T1 := Lib.hid ht1
  clear hs hc1 ht1
  go_wp2
  go_ret
  exact ⟨_, rfl, C1.out, T1.out⟩
/-- Block g holds the nine numbers f. -/
def TabAt (w : World) (g : Nat) (f : Nat → Int) : Prop := w.heap[g]? = some (.cells (rowV 9 f).toArray 33 (0, 0))
theorem TabAt.cell {w : World} {g : Nat} {f : Nat → Int} (h : TabAt w g f) (j : Nat) (hj : j < 9) : w.cell? ⟨g, j, none⟩ = some (.int .i64 (f j)) := by
  rw [cell_of_row w g j _ _ _ h]
  simp [rowV, hj]
theorem TabAt.frozen {w : World} {g : Nat} {f : Nat → Int} (h : TabAt w g f) (j : Nat) : w.frozen? ⟨g, j, none⟩ = false := frozen_of_row w g j _ _ h
theorem TabAt.lt {w : World} {g : Nat} {f : Nat → Int} (h : TabAt w g f) : g < w.heap.size := (Array.getElem?_eq_some_iff.1 h).1
theorem TabAt.put {w : World} {g : Nat} {f : Nat → Int} (h : TabAt w g f) (j : Nat) (v : Int) : TabAt (w.setCell ⟨g, j, none⟩ (.int .i64 v)) g (upd f j v) := by
  have := heap_setCell_same w g j _ _ (.int .i64 v) h
  unfold TabAt
  rw [this, ← rowV_set]; simp
theorem TabAt.turn {w w' : World} {g p : Nat} {f : Nat → Int} (h : TabAt w g f) (ht : w.grownBy w' (some p)) (hne : g ≠ p) : TabAt w' g f :=
  (ht.block g h.lt (by simp; omega)).trans h
theorem TabAt.other {w : World} {g b j : Nat} {f : Nat → Int} {v : Value} (h : TabAt w g f) (hne : g ≠ b) : TabAt (w.setCell ⟨b, j, none⟩ v) g f :=
  (heap_setCell_other w ⟨b, j, none⟩ g v hne).trans h
theorem grown_put {w w1 : World} {p b j : Nat} {v : Value} (h : w.grownBy w1 (some p)) (hb : w.heap.size ≤ b) : w.grownBy (w1.setCell ⟨b, j, none⟩ v) (some p) := by
  refine ⟨h.os, h.tape, h.output, by simpa using h.size, fun k hk hne => ?_⟩
  rw [heap_setCell_other w1 ⟨b, j, none⟩ k v (by simp; omega)]
  exact h.block k hk hne
theorem Cur.put {w : World} {q p : Nat} {a : Option Addr} {n cap b j : Nat} {v : Value} (h : Cur w q p a n cap) (hb : b ≠ p) (hq : q ≤ b) : Cur (w.setCell ⟨b, j, none⟩ v) q p a n cap :=
  h.of_blocks (heap_setCell_other w ⟨b, j, none⟩ p v (by simp; omega)) (fun k hk => heap_setCell_other w ⟨b, j, none⟩ k v (by simp; omega))
set_option maxHeartbeats 2000000 in
/-- Nine places are written. -/
def putTab (w : World) (b : Nat) (f : Nat → Int) : World :=
  ((((((((w.setCell ⟨b, 0, none⟩ (.int .i64 (f 0))).setCell ⟨b, 1, none⟩ (.int .i64 (f 1))).setCell ⟨b, 2, none⟩ (.int .i64 (f 2))).setCell ⟨b, 3, none⟩ (.int .i64 (f 3))).setCell ⟨b, 4, none⟩ (.int .i64 (f 4))).setCell ⟨b, 5, none⟩ (.int .i64 (f 5))).setCell ⟨b, 6, none⟩ (.int .i64 (f 6))).setCell ⟨b, 7, none⟩ (.int .i64 (f 7))).setCell ⟨b, 8, none⟩ (.int .i64 (f 8))
theorem TabAt.puts {w : World} {b : Nat} {f h : Nat → Int} (t : TabAt w b h) : TabAt (putTab w b f) b f := by
  have := (((((((((t.put 0 (f 0)).put 1 (f 1)).put 2 (f 2)).put 3 (f 3)).put 4 (f 4)).put 5 (f 5)).put 6 (f 6)).put 7 (f 7)).put 8 (f 8))
  exact this
theorem grown_puts {w w1 : World} {p b : Nat} {f : Nat → Int} (h : w.grownBy w1 (some p)) (hb : w.heap.size ≤ b) : w.grownBy (putTab w1 b f) (some p) :=
  grown_put (grown_put (grown_put (grown_put (grown_put (grown_put (grown_put (grown_put (grown_put h hb) hb) hb) hb) hb) hb) hb) hb) hb
theorem sTableDraw (q p : Nat) (a : Option Addr) (n cap : Nat) (w : World) (hc : Cur w q p a n cap) : Calls Try.prog 72 #[.pointer (some ⟨p, 0, none⟩)] w fun e w' => ∃ f, e = .returned (tabV f) ∧ w.grownBy w' (some p) := by
  have hpl := hc.lt
  have HC := Lib.hid hc
  clear hc
  go_enter Try.func72, Try.ntmps72
  go_wp2_with fail
  have hb2 : Below w.heap.size w ((w.alloc (.cells #[.int .i64 0, .int .i64 0, .int .i64 0, .int .i64 0, .int .i64 0, .int .i64 0, .int .i64 0, .int .i64 0, .int .i64 0] 33)).alloc (.cells #[.string ⟨#[109, 105, 110]⟩, .string ⟨#[109, 97, 120]⟩, .string ⟨#[97, 103, 114, 101, 101]⟩, .string ⟨#[97, 110, 121]⟩, .string ⟨#[116, 105, 109, 101, 115]⟩, .string ⟨#[115, 117, 109]⟩, .string ⟨#[99, 97, 114, 114, 121]⟩] 9)) := by (repeat' (first | (with_reducible exact Below.refl _ _) | (with_reducible assumption) | (with_reducible refine below_drewN ?_ _) | (with_reducible refine Below.drew ?_) | (with_reducible refine Below.alloc ?_ ?_ _) | (with_reducible refine Below.setCell ?_ ?_ _) | (with_reducible refine below_gw ?_ ?_ _) | (with_reducible refine below_via ?_ ‹Below _ _ _› ?_) | (with_reducible exact Nat.le_refl _) | (with_reducible refine le_gw ?_ _) | (with_reducible refine le_alloc ?_ _) | (with_reducible refine le_setCell ?_ _ _) | (with_reducible refine le_drew ?_) | (with_reducible refine le_drewN ?_ _) | go_size))
  obtain ⟨w2, hw2⟩ : ∃ w2, w2 = ((w.alloc (.cells #[.int .i64 0, .int .i64 0, .int .i64 0, .int .i64 0, .int .i64 0, .int .i64 0, .int .i64 0, .int .i64 0, .int .i64 0] 33)).alloc (.cells #[.string ⟨#[109, 105, 110]⟩, .string ⟨#[109, 97, 120]⟩, .string ⟨#[97, 103, 114, 101, 101]⟩, .string ⟨#[97, 110, 121]⟩, .string ⟨#[116, 105, 109, 101, 115]⟩, .string ⟨#[115, 117, 109]⟩, .string ⟨#[99, 97, 114, 114, 121]⟩] 9)) := ⟨_, rfl⟩
  rw [← hw2] at hb2 ⊢
  have hs2 : w2.heap.size = w.heap.size + 2 := by rw [hw2]; simp
  have st : Strs w2 (w.heap.size + 1) 0 7 := by
    intro i hi
    match i, hi with
    | 0, _ | 1, _ | 2, _ | 3, _ | 4, _ | 5, _ | 6, _ => exact ⟨_, by rw [hw2]; simp; rfl⟩
  have hr2 : w2.heap[w.heap.size]? = some (.cells (rowV 9 fun _ => 0).toArray 33 (0, 0)) := by
    rw [hw2, Below.heap_alloc _ _ _ (by simp)]; exact heap_alloc_new w _
  clear hw2
  have C2 := Lib.hid (HC.out.below hb2)
  refine (sPickS q p a n cap (w.heap.size + 1) 0 7 7 _ C2.out st (by omega) (by omega) (by omega) (by omega)).mono ?_
  rintro e w3 ⟨s, rfl, hc3, ht3⟩
  have hg3 := grown_trans (below_grown (p := p) hb2 (Nat.le_refl _)) ht3.grown
  have hr3 : w3.heap[w.heap.size]? = _ := (ht3.grown.block w.heap.size (by omega) (by simp; omega)).trans hr2
  have hs3 : w3.heap.size = w.heap.size + 2 := by rw [ht3.same, hs2]
  have C3 := Lib.hid hc3
  clear hb2 hs2 st hr2 hc3 ht3
  go_wp2_with fail
  refine (sTableOf s _).mono ?_
  rintro e w4 ⟨rfl, hb4⟩
  obtain ⟨f, hf⟩ : ∃ f, f = Tm.tabOf s.toList := ⟨_, rfl⟩
  rw [← hf]
  clear hf
  have C4 := Lib.hid (C3.out.below hb4)
  have hg4 := grown_trans hg3 (below_grown (p := p) hb4 (Nat.le_refl _))
  have hr4 : w4.heap[w.heap.size]? = _ := (hb4.block w.heap.size (by omega)).trans hr3
  have hs4 : w.heap.size + 2 ≤ w4.heap.size := by have := hb4.size; omega
  clear hg3 hr3 hs3 hb4
  have R4 := Lib.hid hr4
  have G4 := Lib.hid hg4
  clear hr4 hg4
  have hqp : q ≤ p := by obtain ⟨_, _, _, _, _, h4, _⟩ := C4.out; exact h4
  go_wp2_with fail
  have T5 : Hid (TabAt (w4.alloc (.cells #[.int .i64 (f 0), .int .i64 (f 1), .int .i64 (f 2), .int .i64 (f 3), .int .i64 (f 4), .int .i64 (f 5), .int .i64 (f 6), .int .i64 (f 7), .int .i64 (f 8)] 33)) w4.heap.size f) := Lib.hid (heap_alloc_new w4 _)
  have hb5 : Below w4.heap.size w4 (w4.alloc (.cells #[.int .i64 (f 0), .int .i64 (f 1), .int .i64 (f 2), .int .i64 (f 3), .int .i64 (f 4), .int .i64 (f 5), .int .i64 (f 6), .int .i64 (f 7), .int .i64 (f 8)] 33)) := (Below.refl _ _).alloc (Nat.le_refl _) _
  obtain ⟨w5, hw5⟩ : ∃ w5, w5 = (w4.alloc (.cells #[.int .i64 (f 0), .int .i64 (f 1), .int .i64 (f 2), .int .i64 (f 3), .int .i64 (f 4), .int .i64 (f 5), .int .i64 (f 6), .int .i64 (f 7), .int .i64 (f 8)] 33)) := ⟨_, rfl⟩
  rw [← hw5] at T5 hb5 ⊢
  have C5 := Lib.hid (C4.out.below hb5)
  have G5 := Lib.hid (grown_trans G4.out (below_grown (p := p) hb5 (Nat.le_refl _)))
  have R5 : Hid (TabAt w5 w.heap.size fun _ => 0) := Lib.hid ((hb5.block w.heap.size (by omega)).trans R4.out)
  obtain ⟨g, hg⟩ : ∃ g, g = w4.heap.size := ⟨_, rfl⟩
  rw [← hg] at T5 ⊢
  have hgl : w.heap.size + 2 ≤ g := by omega
  clear hw5 hb5 hg R4 C4 G4 hs4
  refine (sOnce q p a n cap 2 _ C5.out (by omega) (by omega)).mono ?_
  rintro e w6 ⟨x, rfl, hc6, ht6⟩
  have C6 := Lib.hid hc6
  have T6 := Lib.hid (T5.out.turn ht6.grown (by omega))
  have R6 := Lib.hid (R5.out.turn ht6.grown (by omega))
  have G6 := Lib.hid (grown_trans G5.out ht6.grown)
  clear hc6 ht6 C5 T5 R5 G5
  cases x
  · skip
    go_wp2_with fail
    refine (sOnce q p a n cap 15 _ C6.out (by omega) (by omega)).mono ?_
    rintro e w7 ⟨y, rfl, hc7, ht7⟩
    have C7 := Lib.hid hc7
    have T7 := Lib.hid (T6.out.turn ht7.grown (by omega))
    have R7 := Lib.hid (R6.out.turn ht7.grown (by omega))
    have G7 := Lib.hid (grown_trans G6.out ht7.grown)
    clear hc7 ht7
    cases y
    · skip
      have c0 := T7.out.cell 0 (by omega)
      have c1 := T7.out.cell 1 (by omega)
      have c2 := T7.out.cell 2 (by omega)
      have c3 := T7.out.cell 3 (by omega)
      have c4 := T7.out.cell 4 (by omega)
      have c5 := T7.out.cell 5 (by omega)
      have c6 := T7.out.cell 6 (by omega)
      have c7 := T7.out.cell 7 (by omega)
      have c8 := T7.out.cell 8 (by omega)
      have r0 := R7.out.cell 0 (by omega)
      have r1 := R7.out.cell 1 (by omega)
      have r2 := R7.out.cell 2 (by omega)
      have r3 := R7.out.cell 3 (by omega)
      have r4 := R7.out.cell 4 (by omega)
      have r5 := R7.out.cell 5 (by omega)
      have r6 := R7.out.cell 6 (by omega)
      have r7 := R7.out.cell 7 (by omega)
      have r8 := R7.out.cell 8 (by omega)
      have z0 := R7.out.frozen 0
      have z1 := R7.out.frozen 1
      have z2 := R7.out.frozen 2
      have z3 := R7.out.frozen 3
      have z4 := R7.out.frozen 4
      have z5 := R7.out.frozen 5
      have z6 := R7.out.frozen 6
      have z7 := R7.out.frozen 7
      have z8 := R7.out.frozen 8
      obtain ⟨W, hW⟩ : ∃ W, W = putTab w7 w.heap.size (f) := ⟨_, rfl⟩
      have TW : TabAt W w.heap.size (f) := by rw [hW]; exact R7.out.puts
      have GW : w.grownBy W (some p) := by rw [hW]; exact grown_puts G7.out (Nat.le_refl _)
      go_wp2
      rw [show (((((((((w7.setCell ⟨w.heap.size, 0, none⟩ (.int .i64 (f 0))).setCell ⟨w.heap.size, 1, none⟩ (.int .i64 (f 1))).setCell ⟨w.heap.size, 2, none⟩ (.int .i64 (f 2))).setCell ⟨w.heap.size, 3, none⟩ (.int .i64 (f 3))).setCell ⟨w.heap.size, 4, none⟩ (.int .i64 (f 4))).setCell ⟨w.heap.size, 5, none⟩ (.int .i64 (f 5))).setCell ⟨w.heap.size, 6, none⟩ (.int .i64 (f 6))).setCell ⟨w.heap.size, 7, none⟩ (.int .i64 (f 7))).setCell ⟨w.heap.size, 8, none⟩ (.int .i64 (f 8))) = W from hW.symm]
      clear hW c0 c1 c2 c3 c4 c5 c6 c7 c8 r0 r1 r2 r3 r4 r5 r6 r7 r8 z0 z1 z2 z3 z4 z5 z6 z7 z8
      have k0 := TW.cell 0 (by omega)
      have k1 := TW.cell 1 (by omega)
      have k2 := TW.cell 2 (by omega)
      have k3 := TW.cell 3 (by omega)
      have k4 := TW.cell 4 (by omega)
      have k5 := TW.cell 5 (by omega)
      have k6 := TW.cell 6 (by omega)
      have k7 := TW.cell 7 (by omega)
      have k8 := TW.cell 8 (by omega)
      (try simp only [Exit.inBlock, Exit.then])
      refine bodyPost_ret (v := tabV (f)) (by simp [results, Try.results72, go_sem, k0, k1, k2, k3, k4, k5, k6, k7, k8]) rfl ?_
      exact ⟨f, rfl, GW⟩
    · go_wp2_with fail
      refine (sBelow q p a n cap 9 _ C7.out (by omega) (by omega)).mono ?_
      rintro e w8 ⟨zz, rfl, zz0, zz1, hc8, ht8⟩
      obtain ⟨z, rfl⟩ := Int.eq_ofNat_of_zero_le zz0
      have hz9 : z < 9 := by omega
      have C8 := Lib.hid hc8
      have T8 := Lib.hid (T7.out.turn ht8.grown (by omega))
      have R8 := Lib.hid (R7.out.turn ht8.grown (by omega))
      have G8 := Lib.hid (grown_trans G7.out ht8.grown)
      have hs8 := T8.out.lt
      clear hc8 ht8
      go_wp2_with fail
      have hb9 : Below w8.heap.size w8 (w8.alloc (.cells #[.int .i64 (-2), .int .i64 2, .int .i64 (-9223372036854775808)] 3)) := (Below.refl _ _).alloc (Nat.le_refl _) _
      have I9 : Ints (w8.alloc (.cells #[.int .i64 (-2), .int .i64 2, .int .i64 (-9223372036854775808)] 3)) (some ⟨w8.heap.size, 0, none⟩) 3 3 [-2, 2, -9223372036854775808] := Ints.of_own (B := w8.heap.size) (e := 3) (xs := [-2, 2, -9223372036854775808]) (World.ownsRow_lit w8 #[.int .i64 (-2), .int .i64 2, .int .i64 (-9223372036854775808)] 3 (Nat.le_refl _) (by unfold maxLen; omega) rfl)
      obtain ⟨w9, hw9⟩ : ∃ w9, w9 = (w8.alloc (.cells #[.int .i64 (-2), .int .i64 2, .int .i64 (-9223372036854775808)] 3)) := ⟨_, rfl⟩
      rw [← hw9] at hb9 I9 ⊢
      have C9 := Lib.hid (C8.out.below hb9)
      have T9 : Hid (TabAt w9 g _) := Lib.hid ((hb9.block g hs8).trans T8.out)
      have R9 : Hid (TabAt w9 w.heap.size fun _ => 0) := Lib.hid ((hb9.block w.heap.size (by omega)).trans R8.out)
      have G9 := Lib.hid (grown_trans G8.out (below_grown (p := p) hb9 (Nat.le_refl _)))
      clear hw9 hb9 C8 T8 R8 G8
      refine (sPickInt q p a n cap _ 3 3 _ _ C9.out I9 (by omega) (by omega) (by intro b' o e; cases e; omega)).mono ?_
      rintro e w10 ⟨v, rfl, -, hc10, ht10⟩
      have T10 := Lib.hid (T9.out.turn ht10.grown (by omega))
      have fz := T10.out.frozen z
      have ck := T10.out.cell z hz9
      have TX := Lib.hid (T10.out.put z v)
      have RX : Hid (TabAt (w10.setCell ⟨g, z, none⟩ (.int .i64 v)) w.heap.size fun _ => 0) := Lib.hid ((R9.out.turn ht10.grown (by omega)).other (by omega))
      have CX : Hid (Cur (w10.setCell ⟨g, z, none⟩ (.int .i64 v)) q p a n cap) := Lib.hid (hc10.put (by omega) (by omega))
      have GX : Hid (w.grownBy (w10.setCell ⟨g, z, none⟩ (.int .i64 v)) (some p)) := Lib.hid (grown_put (grown_trans G9.out ht10.grown) (by omega))
      clear hc10 ht10 I9
      have c0 := TX.out.cell 0 (by omega)
      have c1 := TX.out.cell 1 (by omega)
      have c2 := TX.out.cell 2 (by omega)
      have c3 := TX.out.cell 3 (by omega)
      have c4 := TX.out.cell 4 (by omega)
      have c5 := TX.out.cell 5 (by omega)
      have c6 := TX.out.cell 6 (by omega)
      have c7 := TX.out.cell 7 (by omega)
      have c8 := TX.out.cell 8 (by omega)
      have r0 := RX.out.cell 0 (by omega)
      have r1 := RX.out.cell 1 (by omega)
      have r2 := RX.out.cell 2 (by omega)
      have r3 := RX.out.cell 3 (by omega)
      have r4 := RX.out.cell 4 (by omega)
      have r5 := RX.out.cell 5 (by omega)
      have r6 := RX.out.cell 6 (by omega)
      have r7 := RX.out.cell 7 (by omega)
      have r8 := RX.out.cell 8 (by omega)
      have z0 := RX.out.frozen 0
      have z1 := RX.out.frozen 1
      have z2 := RX.out.frozen 2
      have z3 := RX.out.frozen 3
      have z4 := RX.out.frozen 4
      have z5 := RX.out.frozen 5
      have z6 := RX.out.frozen 6
      have z7 := RX.out.frozen 7
      have z8 := RX.out.frozen 8
      obtain ⟨W, hW⟩ : ∃ W, W = putTab (w10.setCell ⟨g, z, none⟩ (.int .i64 v)) w.heap.size (upd f z v) := ⟨_, rfl⟩
      have TW : TabAt W w.heap.size (upd f z v) := by rw [hW]; exact RX.out.puts
      have GW : w.grownBy W (some p) := by rw [hW]; exact grown_puts GX.out (Nat.le_refl _)
      go_wp2
      rw [show ((((((((((w10.setCell ⟨g, z, none⟩ (.int .i64 v)).setCell ⟨w.heap.size, 0, none⟩ (.int .i64 (upd f z v 0))).setCell ⟨w.heap.size, 1, none⟩ (.int .i64 (upd f z v 1))).setCell ⟨w.heap.size, 2, none⟩ (.int .i64 (upd f z v 2))).setCell ⟨w.heap.size, 3, none⟩ (.int .i64 (upd f z v 3))).setCell ⟨w.heap.size, 4, none⟩ (.int .i64 (upd f z v 4))).setCell ⟨w.heap.size, 5, none⟩ (.int .i64 (upd f z v 5))).setCell ⟨w.heap.size, 6, none⟩ (.int .i64 (upd f z v 6))).setCell ⟨w.heap.size, 7, none⟩ (.int .i64 (upd f z v 7))).setCell ⟨w.heap.size, 8, none⟩ (.int .i64 (upd f z v 8))) = W from hW.symm]
      clear hW c0 c1 c2 c3 c4 c5 c6 c7 c8 r0 r1 r2 r3 r4 r5 r6 r7 r8 z0 z1 z2 z3 z4 z5 z6 z7 z8
      have k0 := TW.cell 0 (by omega)
      have k1 := TW.cell 1 (by omega)
      have k2 := TW.cell 2 (by omega)
      have k3 := TW.cell 3 (by omega)
      have k4 := TW.cell 4 (by omega)
      have k5 := TW.cell 5 (by omega)
      have k6 := TW.cell 6 (by omega)
      have k7 := TW.cell 7 (by omega)
      have k8 := TW.cell 8 (by omega)
      (try simp only [Exit.inBlock, Exit.then])
      refine bodyPost_ret (v := tabV (upd f z v)) (by simp [results, Try.results72, go_sem, k0, k1, k2, k3, k4, k5, k6, k7, k8]) rfl ?_
      exact ⟨upd f z v, rfl, GW⟩
  · go_wp2_with fail
    go_loopw [4] (fun i wr => ∃ (j : Nat) (h : Nat → Int), j ≤ 9 ∧ i = .int .i64 j ∧ Hid (Cur wr q p a n cap) ∧ Hid (TabAt wr g h) ∧ Hid (TabAt wr w.heap.size fun _ => 0) ∧ Hid (w.grownBy wr (some p))) (fun i _ => 9 - (intOf i).toNat)
    case atStart => exact ⟨0, f, by omega, rfl, C6, T6, R6, G6⟩
    case round =>
      obtain ⟨j, h, hj, rfl, CR, TR, RR, GR⟩ := hrel
      by_cases hlt : j < 9
      · go_wp2_with fail
        refine (sBelow q p a n cap 3 _ CR.out (by omega) (by omega)).mono ?_
        rintro e w7 ⟨y, rfl, y0, y1, hc7, ht7⟩
        have T7 := Lib.hid (TR.out.turn ht7.grown (by omega))
        have fz := T7.out.frozen j
        have ck := T7.out.cell j hlt
        have TX := Lib.hid (T7.out.put j (y - 1))
        have RX : Hid (TabAt (w7.setCell ⟨g, j, none⟩ (.int .i64 (y - 1))) w.heap.size fun _ => 0) := Lib.hid ((RR.out.turn ht7.grown (by omega)).other (by omega))
        have CX : Hid (Cur (w7.setCell ⟨g, j, none⟩ (.int .i64 (y - 1))) q p a n cap) := Lib.hid (hc7.put (by omega) (by omega))
        have GX : Hid (w.grownBy (w7.setCell ⟨g, j, none⟩ (.int .i64 (y - 1))) (some p)) := Lib.hid (grown_put (grown_trans GR.out ht7.grown) (by omega))
        clear hc7 ht7
        go_wp2
        exact ⟨⟨j + 1, _, by omega, by go_num, CX, TX, RX, GX⟩, by simp [intOf]; omega⟩
      · obtain rfl : j = 9 := by omega
        go_wp2_with fail
        refine (sOnce q p a n cap 15 _ CR.out (by omega) (by omega)).mono ?_
        rintro e w7 ⟨y, rfl, hc7, ht7⟩
        have C7 := Lib.hid hc7
        have T7 := Lib.hid (TR.out.turn ht7.grown (by omega))
        have R7 := Lib.hid (RR.out.turn ht7.grown (by omega))
        have G7 := Lib.hid (grown_trans GR.out ht7.grown)
        clear hc7 ht7
        cases y
        · skip
          have c0 := T7.out.cell 0 (by omega)
          have c1 := T7.out.cell 1 (by omega)
          have c2 := T7.out.cell 2 (by omega)
          have c3 := T7.out.cell 3 (by omega)
          have c4 := T7.out.cell 4 (by omega)
          have c5 := T7.out.cell 5 (by omega)
          have c6 := T7.out.cell 6 (by omega)
          have c7 := T7.out.cell 7 (by omega)
          have c8 := T7.out.cell 8 (by omega)
          have r0 := R7.out.cell 0 (by omega)
          have r1 := R7.out.cell 1 (by omega)
          have r2 := R7.out.cell 2 (by omega)
          have r3 := R7.out.cell 3 (by omega)
          have r4 := R7.out.cell 4 (by omega)
          have r5 := R7.out.cell 5 (by omega)
          have r6 := R7.out.cell 6 (by omega)
          have r7 := R7.out.cell 7 (by omega)
          have r8 := R7.out.cell 8 (by omega)
          have z0 := R7.out.frozen 0
          have z1 := R7.out.frozen 1
          have z2 := R7.out.frozen 2
          have z3 := R7.out.frozen 3
          have z4 := R7.out.frozen 4
          have z5 := R7.out.frozen 5
          have z6 := R7.out.frozen 6
          have z7 := R7.out.frozen 7
          have z8 := R7.out.frozen 8
          obtain ⟨W, hW⟩ : ∃ W, W = putTab w7 w.heap.size (h) := ⟨_, rfl⟩
          have TW : TabAt W w.heap.size (h) := by rw [hW]; exact R7.out.puts
          have GW : w.grownBy W (some p) := by rw [hW]; exact grown_puts G7.out (Nat.le_refl _)
          go_wp2
          rw [show (((((((((w7.setCell ⟨w.heap.size, 0, none⟩ (.int .i64 (h 0))).setCell ⟨w.heap.size, 1, none⟩ (.int .i64 (h 1))).setCell ⟨w.heap.size, 2, none⟩ (.int .i64 (h 2))).setCell ⟨w.heap.size, 3, none⟩ (.int .i64 (h 3))).setCell ⟨w.heap.size, 4, none⟩ (.int .i64 (h 4))).setCell ⟨w.heap.size, 5, none⟩ (.int .i64 (h 5))).setCell ⟨w.heap.size, 6, none⟩ (.int .i64 (h 6))).setCell ⟨w.heap.size, 7, none⟩ (.int .i64 (h 7))).setCell ⟨w.heap.size, 8, none⟩ (.int .i64 (h 8))) = W from hW.symm]
          clear hW c0 c1 c2 c3 c4 c5 c6 c7 c8 r0 r1 r2 r3 r4 r5 r6 r7 r8 z0 z1 z2 z3 z4 z5 z6 z7 z8
          have k0 := TW.cell 0 (by omega)
          have k1 := TW.cell 1 (by omega)
          have k2 := TW.cell 2 (by omega)
          have k3 := TW.cell 3 (by omega)
          have k4 := TW.cell 4 (by omega)
          have k5 := TW.cell 5 (by omega)
          have k6 := TW.cell 6 (by omega)
          have k7 := TW.cell 7 (by omega)
          have k8 := TW.cell 8 (by omega)
          (try simp only [Exit.inBlock, Exit.then])
          refine bodyPost_ret (v := tabV (h)) (by simp [results, Try.results72, go_sem, k0, k1, k2, k3, k4, k5, k6, k7, k8]) rfl ?_
          exact ⟨h, rfl, GW⟩
        · go_wp2_with fail
          refine (sBelow q p a n cap 9 _ C7.out (by omega) (by omega)).mono ?_
          rintro e w8 ⟨zz, rfl, zz0, zz1, hc8, ht8⟩
          obtain ⟨z, rfl⟩ := Int.eq_ofNat_of_zero_le zz0
          have hz9 : z < 9 := by omega
          have C8 := Lib.hid hc8
          have T8 := Lib.hid (T7.out.turn ht8.grown (by omega))
          have R8 := Lib.hid (R7.out.turn ht8.grown (by omega))
          have G8 := Lib.hid (grown_trans G7.out ht8.grown)
          have hs8 := T8.out.lt
          clear hc8 ht8
          go_wp2_with fail
          have hb9 : Below w8.heap.size w8 (w8.alloc (.cells #[.int .i64 (-2), .int .i64 2, .int .i64 (-9223372036854775808)] 3)) := (Below.refl _ _).alloc (Nat.le_refl _) _
          have I9 : Ints (w8.alloc (.cells #[.int .i64 (-2), .int .i64 2, .int .i64 (-9223372036854775808)] 3)) (some ⟨w8.heap.size, 0, none⟩) 3 3 [-2, 2, -9223372036854775808] := Ints.of_own (B := w8.heap.size) (e := 3) (xs := [-2, 2, -9223372036854775808]) (World.ownsRow_lit w8 #[.int .i64 (-2), .int .i64 2, .int .i64 (-9223372036854775808)] 3 (Nat.le_refl _) (by unfold maxLen; omega) rfl)
          obtain ⟨w9, hw9⟩ : ∃ w9, w9 = (w8.alloc (.cells #[.int .i64 (-2), .int .i64 2, .int .i64 (-9223372036854775808)] 3)) := ⟨_, rfl⟩
          rw [← hw9] at hb9 I9 ⊢
          have C9 := Lib.hid (C8.out.below hb9)
          have T9 : Hid (TabAt w9 g _) := Lib.hid ((hb9.block g hs8).trans T8.out)
          have R9 : Hid (TabAt w9 w.heap.size fun _ => 0) := Lib.hid ((hb9.block w.heap.size (by omega)).trans R8.out)
          have G9 := Lib.hid (grown_trans G8.out (below_grown (p := p) hb9 (Nat.le_refl _)))
          clear hw9 hb9 C8 T8 R8 G8
          refine (sPickInt q p a n cap _ 3 3 _ _ C9.out I9 (by omega) (by omega) (by intro b' o e; cases e; omega)).mono ?_
          rintro e w10 ⟨v, rfl, -, hc10, ht10⟩
          have T10 := Lib.hid (T9.out.turn ht10.grown (by omega))
          have fz := T10.out.frozen z
          have ck := T10.out.cell z hz9
          have TX := Lib.hid (T10.out.put z v)
          have RX : Hid (TabAt (w10.setCell ⟨g, z, none⟩ (.int .i64 v)) w.heap.size fun _ => 0) := Lib.hid ((R9.out.turn ht10.grown (by omega)).other (by omega))
          have CX : Hid (Cur (w10.setCell ⟨g, z, none⟩ (.int .i64 v)) q p a n cap) := Lib.hid (hc10.put (by omega) (by omega))
          have GX : Hid (w.grownBy (w10.setCell ⟨g, z, none⟩ (.int .i64 v)) (some p)) := Lib.hid (grown_put (grown_trans G9.out ht10.grown) (by omega))
          clear hc10 ht10 I9
          have c0 := TX.out.cell 0 (by omega)
          have c1 := TX.out.cell 1 (by omega)
          have c2 := TX.out.cell 2 (by omega)
          have c3 := TX.out.cell 3 (by omega)
          have c4 := TX.out.cell 4 (by omega)
          have c5 := TX.out.cell 5 (by omega)
          have c6 := TX.out.cell 6 (by omega)
          have c7 := TX.out.cell 7 (by omega)
          have c8 := TX.out.cell 8 (by omega)
          have r0 := RX.out.cell 0 (by omega)
          have r1 := RX.out.cell 1 (by omega)
          have r2 := RX.out.cell 2 (by omega)
          have r3 := RX.out.cell 3 (by omega)
          have r4 := RX.out.cell 4 (by omega)
          have r5 := RX.out.cell 5 (by omega)
          have r6 := RX.out.cell 6 (by omega)
          have r7 := RX.out.cell 7 (by omega)
          have r8 := RX.out.cell 8 (by omega)
          have z0 := RX.out.frozen 0
          have z1 := RX.out.frozen 1
          have z2 := RX.out.frozen 2
          have z3 := RX.out.frozen 3
          have z4 := RX.out.frozen 4
          have z5 := RX.out.frozen 5
          have z6 := RX.out.frozen 6
          have z7 := RX.out.frozen 7
          have z8 := RX.out.frozen 8
          obtain ⟨W, hW⟩ : ∃ W, W = putTab (w10.setCell ⟨g, z, none⟩ (.int .i64 v)) w.heap.size (upd h z v) := ⟨_, rfl⟩
          have TW : TabAt W w.heap.size (upd h z v) := by rw [hW]; exact RX.out.puts
          have GW : w.grownBy W (some p) := by rw [hW]; exact grown_puts GX.out (Nat.le_refl _)
          go_wp2
          rw [show ((((((((((w10.setCell ⟨g, z, none⟩ (.int .i64 v)).setCell ⟨w.heap.size, 0, none⟩ (.int .i64 (upd h z v 0))).setCell ⟨w.heap.size, 1, none⟩ (.int .i64 (upd h z v 1))).setCell ⟨w.heap.size, 2, none⟩ (.int .i64 (upd h z v 2))).setCell ⟨w.heap.size, 3, none⟩ (.int .i64 (upd h z v 3))).setCell ⟨w.heap.size, 4, none⟩ (.int .i64 (upd h z v 4))).setCell ⟨w.heap.size, 5, none⟩ (.int .i64 (upd h z v 5))).setCell ⟨w.heap.size, 6, none⟩ (.int .i64 (upd h z v 6))).setCell ⟨w.heap.size, 7, none⟩ (.int .i64 (upd h z v 7))).setCell ⟨w.heap.size, 8, none⟩ (.int .i64 (upd h z v 8))) = W from hW.symm]
          clear hW c0 c1 c2 c3 c4 c5 c6 c7 c8 r0 r1 r2 r3 r4 r5 r6 r7 r8 z0 z1 z2 z3 z4 z5 z6 z7 z8
          have k0 := TW.cell 0 (by omega)
          have k1 := TW.cell 1 (by omega)
          have k2 := TW.cell 2 (by omega)
          have k3 := TW.cell 3 (by omega)
          have k4 := TW.cell 4 (by omega)
          have k5 := TW.cell 5 (by omega)
          have k6 := TW.cell 6 (by omega)
          have k7 := TW.cell 7 (by omega)
          have k8 := TW.cell 8 (by omega)
          (try simp only [Exit.inBlock, Exit.then])
          refine bodyPost_ret (v := tabV (upd h z v)) (by simp [results, Try.results72, go_sem, k0, k1, k2, k3, k4, k5, k6, k7, k8]) rfl ?_
          exact ⟨upd h z v, rfl, GW⟩
theorem below_put1 {B b j : Nat} {w w1 : World} {v : Value} (h : Below B w w1) (hb : B ≤ b) : Below B w (w1.setCell ⟨b, j, none⟩ v) := h.setCell hb _
theorem below_puts {B b : Nat} {w w1 : World} {f : Nat → Int} (h : Below B w w1) (hb : B ≤ b) : Below B w (putTab w1 b f) :=
  below_put1 (below_put1 (below_put1 (below_put1 (below_put1 (below_put1 (below_put1 (below_put1 (below_put1 h hb) hb) hb) hb) hb) hb) hb) hb) hb
/-- A new valid table. -/
def NewT (w : World) (e : Ending) (w' : World) : Prop := ∃ f, Tm.isTab f = true ∧ e = .returned (tabV f) ∧ Below w.heap.size w w'
theorem tab_any : Tm.isTab (Tm.tabOf [97, 110, 121]) = true := by decide
set_option maxHeartbeats 2000000 in
theorem makeTable_any (a : Option Addr) (n cap : Nat) (w : World) (hb : Byts w a n cap) (hn : n ≤ 1048576) : Calls Try.prog 27 #[.slice a n cap] w (NewT w) := by
  have b1 : Below w.heap.size w (w.alloc (.cells #[.int .i64 0, .int .i64 0, .int .i64 0, .int .i64 0, .int .i64 0, .int .i64 0, .int .i64 0, .int .i64 0, .int .i64 0] 33)) := (Below.refl _ _).alloc (Nat.le_refl _) _
  have R1 : TabAt (w.alloc (.cells #[.int .i64 0, .int .i64 0, .int .i64 0, .int .i64 0, .int .i64 0, .int .i64 0, .int .i64 0, .int .i64 0, .int .i64 0] 33)) w.heap.size fun _ => 0 := heap_alloc_new w _
  have BY1 := hb.below b1
  go_enter Try.func27, Try.ntmps27
  go_wp2_with fail
  obtain ⟨w1, hw1⟩ : ∃ w1, w1 = (w.alloc (.cells #[.int .i64 0, .int .i64 0, .int .i64 0, .int .i64 0, .int .i64 0, .int .i64 0, .int .i64 0, .int .i64 0, .int .i64 0] 33)) := ⟨_, rfl⟩
  rw [← hw1] at b1 R1 BY1 ⊢
  have hs1 : w1.heap.size = w.heap.size + 1 := by rw [hw1]; simp
  have B1 := Lib.hid b1
  have RR1 := Lib.hid R1
  clear hw1 b1 R1 hb
  refine (sNew a n cap _ BY1 hn).mono ?_
  rintro e w2 ⟨p, rfl, hp, hc, hb2⟩
  have hs2 := hb2.size
  have R2 : Hid (TabAt w2 w.heap.size fun _ => 0) := Lib.hid ((hb2.block w.heap.size (by omega)).trans RR1.out)
  have B2 := Lib.hid (B1.out.trans (hb2.mono (by omega)))
  have C2 := Lib.hid hc
  clear hb2 hc BY1 RR1 B1
  go_wp2_with fail
  refine (sTableDraw _ p a n cap _ C2.out).mono ?_
  rintro e w3 ⟨f, rfl, hg⟩
  have hs3 := hg.size
  have R3 : Hid (TabAt w3 w.heap.size fun _ => 0) := Lib.hid (R2.out.turn hg (by omega))
  have B3 := Lib.hid (B2.out.trans (grown_below (B := w.heap.size) hg (by omega) (by omega)))
  clear hg R2 B2 C2
  have T4 : TabAt (w3.alloc (.cells #[.int .i64 (f 0), .int .i64 (f 1), .int .i64 (f 2), .int .i64 (f 3), .int .i64 (f 4), .int .i64 (f 5), .int .i64 (f 6), .int .i64 (f 7), .int .i64 (f 8)] 33)) w3.heap.size f := heap_alloc_new w3 _
  have b4 : Below w3.heap.size w3 (w3.alloc (.cells #[.int .i64 (f 0), .int .i64 (f 1), .int .i64 (f 2), .int .i64 (f 3), .int .i64 (f 4), .int .i64 (f 5), .int .i64 (f 6), .int .i64 (f 7), .int .i64 (f 8)] 33)) := (Below.refl _ _).alloc (Nat.le_refl _) _
  go_wp2_with fail
  obtain ⟨w4, hw4⟩ : ∃ w4, w4 = (w3.alloc (.cells #[.int .i64 (f 0), .int .i64 (f 1), .int .i64 (f 2), .int .i64 (f 3), .int .i64 (f 4), .int .i64 (f 5), .int .i64 (f 6), .int .i64 (f 7), .int .i64 (f 8)] 33)) := ⟨_, rfl⟩
  rw [← hw4] at T4 b4 ⊢
  have hs4 : w4.heap.size = w3.heap.size + 1 := by rw [hw4]; simp
  have R4 : Hid (TabAt w4 w.heap.size fun _ => 0) := Lib.hid ((b4.block w.heap.size (by omega)).trans R3.out)
  have B4 := Lib.hid (B3.out.trans (b4.mono (by omega)))
  clear hw4 b4 R3 B3
  refine (sIsTable f _).mono ?_
  rintro e w5 ⟨rfl, hb5⟩
  have T5 : TabAt w5 w3.heap.size f := (hb5.block w3.heap.size (by omega)).trans T4
  have R5 : TabAt w5 w.heap.size fun _ => 0 := (hb5.block w.heap.size (by omega)).trans R4.out
  have B5 := B4.out.trans (hb5.mono (by omega))
  have TT5 := Lib.hid T5
  have RR5 := Lib.hid R5
  have BB5 := Lib.hid B5
  have hs5 := hb5.size
  clear hb5 T4 R4 B4 T5 R5 B5
  by_cases hT : Tm.isTab f = true
  · have HT := Lib.hid hT
    have c0 := TT5.out.cell 0 (by omega)
    have c1 := TT5.out.cell 1 (by omega)
    have c2 := TT5.out.cell 2 (by omega)
    have c3 := TT5.out.cell 3 (by omega)
    have c4 := TT5.out.cell 4 (by omega)
    have c5 := TT5.out.cell 5 (by omega)
    have c6 := TT5.out.cell 6 (by omega)
    have c7 := TT5.out.cell 7 (by omega)
    have c8 := TT5.out.cell 8 (by omega)
    have r0 := RR5.out.cell 0 (by omega)
    have r1 := RR5.out.cell 1 (by omega)
    have r2 := RR5.out.cell 2 (by omega)
    have r3 := RR5.out.cell 3 (by omega)
    have r4 := RR5.out.cell 4 (by omega)
    have r5 := RR5.out.cell 5 (by omega)
    have r6 := RR5.out.cell 6 (by omega)
    have r7 := RR5.out.cell 7 (by omega)
    have r8 := RR5.out.cell 8 (by omega)
    have y0 := RR5.out.frozen 0
    have y1 := RR5.out.frozen 1
    have y2 := RR5.out.frozen 2
    have y3 := RR5.out.frozen 3
    have y4 := RR5.out.frozen 4
    have y5 := RR5.out.frozen 5
    have y6 := RR5.out.frozen 6
    have y7 := RR5.out.frozen 7
    have y8 := RR5.out.frozen 8
    obtain ⟨W, hW⟩ : ∃ W, W = putTab w5 w.heap.size f := ⟨_, rfl⟩
    have TW : TabAt W w.heap.size f := by rw [hW]; exact TabAt.puts RR5.out
    have BW : Below w.heap.size w W := by rw [hW]; exact below_puts BB5.out (Nat.le_refl _)
    go_wp2
    rw [show (((((((((w5.setCell ⟨w.heap.size, 0, none⟩ (.int .i64 (f 0))).setCell ⟨w.heap.size, 1, none⟩ (.int .i64 (f 1))).setCell ⟨w.heap.size, 2, none⟩ (.int .i64 (f 2))).setCell ⟨w.heap.size, 3, none⟩ (.int .i64 (f 3))).setCell ⟨w.heap.size, 4, none⟩ (.int .i64 (f 4))).setCell ⟨w.heap.size, 5, none⟩ (.int .i64 (f 5))).setCell ⟨w.heap.size, 6, none⟩ (.int .i64 (f 6))).setCell ⟨w.heap.size, 7, none⟩ (.int .i64 (f 7))).setCell ⟨w.heap.size, 8, none⟩ (.int .i64 (f 8))) = W from hW.symm]
    clear hW r0 r1 r2 r3 r4 r5 r6 r7 r8 y0 y1 y2 y3 y4 y5 y6 y7 y8
    have k0 := TW.cell 0 (by omega)
    have k1 := TW.cell 1 (by omega)
    have k2 := TW.cell 2 (by omega)
    have k3 := TW.cell 3 (by omega)
    have k4 := TW.cell 4 (by omega)
    have k5 := TW.cell 5 (by omega)
    have k6 := TW.cell 6 (by omega)
    have k7 := TW.cell 7 (by omega)
    have k8 := TW.cell 8 (by omega)
    (try simp only [Exit.inBlock, Exit.then])
    refine bodyPost_ret (v := tabV (f)) (by simp [results, Try.results27, go_sem, k0, k1, k2, k3, k4, k5, k6, k7, k8]) rfl ?_
    exact ⟨f, HT.out, rfl, BW⟩
  · simp only [Bool.not_eq_true] at hT
    go_wp2_with fail
    refine (sTableOf _ _).mono ?_
    rintro e w6 ⟨rfl, hb6⟩
    have R6 : TabAt w6 w.heap.size fun _ => 0 := (hb6.block w.heap.size (by omega)).trans RR5.out
    have B6 := BB5.out.trans (hb6.mono (by omega))
    have RR6 := Lib.hid R6
    have BB6 := Lib.hid B6
    clear hb6 R6 B6
    have el : (⟨#[97, 110, 121]⟩ : ByteArray).toList = [97, 110, 121] := by first | kernel_rfl | decide +kernel | simp [ByteArray.toList, ByteArray.toList.loop]
    rw [el]
    clear el
    obtain ⟨h, hh⟩ : ∃ h, h = Tm.tabOf [97, 110, 121] := ⟨_, rfl⟩
    rw [← hh]
    have HH := Lib.hid hh
    clear hh
    have r0 := RR6.out.cell 0 (by omega)
    have r1 := RR6.out.cell 1 (by omega)
    have r2 := RR6.out.cell 2 (by omega)
    have r3 := RR6.out.cell 3 (by omega)
    have r4 := RR6.out.cell 4 (by omega)
    have r5 := RR6.out.cell 5 (by omega)
    have r6 := RR6.out.cell 6 (by omega)
    have r7 := RR6.out.cell 7 (by omega)
    have r8 := RR6.out.cell 8 (by omega)
    have y0 := RR6.out.frozen 0
    have y1 := RR6.out.frozen 1
    have y2 := RR6.out.frozen 2
    have y3 := RR6.out.frozen 3
    have y4 := RR6.out.frozen 4
    have y5 := RR6.out.frozen 5
    have y6 := RR6.out.frozen 6
    have y7 := RR6.out.frozen 7
    have y8 := RR6.out.frozen 8
    obtain ⟨W, hW⟩ : ∃ W, W = putTab w6 w.heap.size h := ⟨_, rfl⟩
    have TW : TabAt W w.heap.size h := by rw [hW]; exact TabAt.puts RR6.out
    have BW : Below w.heap.size w W := by rw [hW]; exact below_puts BB6.out (Nat.le_refl _)
    go_wp2
    rw [show (((((((((w6.setCell ⟨w.heap.size, 0, none⟩ (.int .i64 (h 0))).setCell ⟨w.heap.size, 1, none⟩ (.int .i64 (h 1))).setCell ⟨w.heap.size, 2, none⟩ (.int .i64 (h 2))).setCell ⟨w.heap.size, 3, none⟩ (.int .i64 (h 3))).setCell ⟨w.heap.size, 4, none⟩ (.int .i64 (h 4))).setCell ⟨w.heap.size, 5, none⟩ (.int .i64 (h 5))).setCell ⟨w.heap.size, 6, none⟩ (.int .i64 (h 6))).setCell ⟨w.heap.size, 7, none⟩ (.int .i64 (h 7))).setCell ⟨w.heap.size, 8, none⟩ (.int .i64 (h 8))) = W from hW.symm]
    clear hW r0 r1 r2 r3 r4 r5 r6 r7 r8 y0 y1 y2 y3 y4 y5 y6 y7 y8
    have k0 := TW.cell 0 (by omega)
    have k1 := TW.cell 1 (by omega)
    have k2 := TW.cell 2 (by omega)
    have k3 := TW.cell 3 (by omega)
    have k4 := TW.cell 4 (by omega)
    have k5 := TW.cell 5 (by omega)
    have k6 := TW.cell 6 (by omega)
    have k7 := TW.cell 7 (by omega)
    have k8 := TW.cell 8 (by omega)
    (try simp only [Exit.inBlock, Exit.then])
    refine bodyPost_ret (v := tabV (h)) (by simp [results, Try.results27, go_sem, k0, k1, k2, k3, k4, k5, k6, k7, k8]) rfl ?_
    exact ⟨h, by rw [HH.out]; exact tab_any, rfl, BW⟩
end Go.Proofs.Ytgaenbpbfhpioaa

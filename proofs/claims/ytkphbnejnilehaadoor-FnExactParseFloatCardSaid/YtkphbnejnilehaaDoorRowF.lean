/- Floats as arguments and results: the contracts of the laws' own functions on them. -/
import Derived.Test.YtkphbnejnilehaaDoorFS
import Derived.Test.YtkphbnejnilehaaDoorOwn2
import Derived.Test.YtkphbnejnilehaaDoorRowL
namespace Go.Proofs.YtkphbnejnilehaaDoor
open Go.RowKit
/-- No blocks below but those from B to E - 1 have turned; there may be new ones. -/
structure TurnF (B E : Nat) (w w' : World) : Prop where
  os : w'.os = w.os
  tape : w'.tape = w.tape
  output : w'.output = w.output
  size : w.heap.size ≤ w'.heap.size
  block : ∀ k, k < w.heap.size → ¬ (B ≤ k ∧ k < E) → w'.heap[k]? = w.heap[k]?
theorem SameIn.of_turnF {B E B' E' : Nat} {w w' : World} (h : TurnF B' E' w w') (hE : E ≤ w.heap.size) (hd : E ≤ B' ∨ E' ≤ B) : SameIn B E w w' := ⟨h.size, fun k h1 h2 => h.block k (by omega) (by omega)⟩
theorem TurnF.below {B E C : Nat} {a w w' : World} (h : Below C a w) (k : TurnF B E w w') (hC : C ≤ B) (hs : C ≤ w.heap.size) : Below C a w' :=
  ⟨k.os.trans h.os, k.tape.trans h.tape, k.output.trans h.output, Nat.le_trans h.size k.size, fun j hj => (k.block j (by omega) (by omega)).trans (h.block j hj)⟩
theorem TurnF.of_grown {B E : Nat} {w w1 w' : World} {row : Option Nat} (hb : Below w.heap.size w w1) (h : w1.grownBy w' row) (hr : ∀ k, row = some k → B ≤ k ∧ k < E) : TurnF B E w w' :=
  ⟨h.os.trans hb.os, h.tape.trans hb.tape, h.output.trans hb.output, Nat.le_trans hb.size h.size, fun k h1 h2 => (h.block k (by have := hb.size; omega) (fun e => h2 (hr k e.symm))).trans (hb.block k h1)⟩
/-- Blocks that a world has behind another one: the one makes no difference to them. -/
theorem own_gwG {W1 W2 : World} {p : Regrown} {B e s n : Nat} {v : Value} {xs : List Value} (hs : W1.heap.size = W2.heap.size) (h : (gw W1 p).ownsRow B e s v n xs) (hB : W1.heap.size ≤ B) : (gw W2 p).ownsRow B e s v n xs :=
  own_stable h fun k hk => by
    have e : ∀ W : World, (gw W p).heap = W.heap ++ p.os := fun W => rfl
    have := (h.lt k hk).1
    rw [e, e, Array.getElem?_append_right (by omega), Array.getElem?_append_right (by omega), hs]
set_option maxHeartbeats 1000000 in
theorem toFlt_any (a : Option Addr) (n cap : Nat) (xs : List Int) (e : Int) (w : World) (h : Ints w a n cap xs) (hn : n ≤ 1048576) : Calls Tryd.prog 7 #[.agg #[.slice a n cap, .int .i64 e]] w (RetF 3 w xs e) := by
  have H := Lib.hid h
  clear h
  go_enter Tryd.func7, Tryd.ntmps7
  go_wp2_with fail
  refine (toIntS_any a n cap xs _ (H.out.below (by (repeat' (first | (with_reducible exact Below.refl _ _) | (with_reducible assumption) | (with_reducible refine below_drewN ?_ _) | (with_reducible refine Below.drew ?_) | (with_reducible refine Below.alloc ?_ ?_ _) | (with_reducible refine Below.setCell ?_ ?_ _) | (with_reducible refine below_gw ?_ ?_ _) | (with_reducible refine below_via ?_ ‹Below _ _ _› ?_) | (with_reducible exact Nat.le_refl _) | (with_reducible refine le_gw ?_ _) | (with_reducible refine le_alloc ?_ _) | (with_reducible refine le_setCell ?_ _ _) | (with_reducible refine le_drew ?_) | (with_reducible refine le_drewN ?_ _) | go_size)))) hn).mono ?_
  rintro r w1 ⟨a1, c1, rfl, hown, hb, ln⟩
  obtain ⟨p, rfl⟩ := gw_of_below hb
  have HO := Lib.hid hown
  clear hown hb
  go_wp2
  go_returns
  exact ret_own_f (own_weak (own_gwG (by simp only [World.size_alloc]) HO.out (Nat.le_refl _)) (by simp only [World.size_alloc]; omega)) (by (repeat' (first | (with_reducible exact Below.refl _ _) | (with_reducible assumption) | (with_reducible refine below_drewN ?_ _) | (with_reducible refine Below.drew ?_) | (with_reducible refine Below.alloc ?_ ?_ _) | (with_reducible refine Below.setCell ?_ ?_ _) | (with_reducible refine below_gw ?_ ?_ _) | (with_reducible refine below_via ?_ ‹Below _ _ _› ?_) | (with_reducible exact Nat.le_refl _) | (with_reducible refine le_gw ?_ _) | (with_reducible refine le_alloc ?_ _) | (with_reducible refine le_setCell ?_ _ _) | (with_reducible refine le_drew ?_) | (with_reducible refine le_drewN ?_ _) | go_size))) ln
theorem szFlt (a : Option Addr) (n cap : Nat) (xs : List Int) (e left : Int) (w : World) (h : Ints w a n cap xs) (h0 : 0 ≤ left) (h1 : left ≤ 1048576) : Calls Tryd.prog 5 #[.agg #[.slice a n cap, .int .i64 e], .int .i64 left] w fun r w' => r = .returned (.int .i64 (if left - (n : Int) < 0 then -1 else left - (n : Int))) ∧ Below w.heap.size w w' := by
  have H := Lib.hid h
  have SZ := Lib.hid (fun (w : World) (h : Ints w a n cap xs) => szInts a n cap xs left w h h0 h1)
  clear h
  by_cases c : left - (n : Int) < 0
  · rw [if_pos c]
    rw [if_pos c] at SZ
    go_enter Tryd.func5, Tryd.ntmps5
    go_wp2_with fail
    refine (SZ.out _ (H.out.below (by (repeat' (first | (with_reducible exact Below.refl _ _) | (with_reducible assumption) | (with_reducible refine below_drewN ?_ _) | (with_reducible refine Below.drew ?_) | (with_reducible refine Below.alloc ?_ ?_ _) | (with_reducible refine Below.setCell ?_ ?_ _) | (with_reducible refine below_gw ?_ ?_ _) | (with_reducible refine below_via ?_ ‹Below _ _ _› ?_) | (with_reducible exact Nat.le_refl _) | (with_reducible refine le_gw ?_ _) | (with_reducible refine le_alloc ?_ _) | (with_reducible refine le_setCell ?_ _ _) | (with_reducible refine le_drew ?_) | (with_reducible refine le_drewN ?_ _) | go_size))))).mono ?_
    rintro r w' ⟨rfl, rfl⟩
    go_wp2
    go_returns
    exact ⟨rfl, by (repeat' (first | (with_reducible exact Below.refl _ _) | (with_reducible assumption) | (with_reducible refine below_drewN ?_ _) | (with_reducible refine Below.drew ?_) | (with_reducible refine Below.alloc ?_ ?_ _) | (with_reducible refine Below.setCell ?_ ?_ _) | (with_reducible refine below_gw ?_ ?_ _) | (with_reducible refine below_via ?_ ‹Below _ _ _› ?_) | (with_reducible exact Nat.le_refl _) | (with_reducible refine le_gw ?_ _) | (with_reducible refine le_alloc ?_ _) | (with_reducible refine le_setCell ?_ _ _) | (with_reducible refine le_drew ?_) | (with_reducible refine le_drewN ?_ _) | go_size))⟩
  · rw [if_neg c]
    rw [if_neg c] at SZ
    have c' : 0 ≤ left - (n : Int) := by omega
    go_enter Tryd.func5, Tryd.ntmps5
    go_wp2_with fail
    refine (SZ.out _ (H.out.below (by (repeat' (first | (with_reducible exact Below.refl _ _) | (with_reducible assumption) | (with_reducible refine below_drewN ?_ _) | (with_reducible refine Below.drew ?_) | (with_reducible refine Below.alloc ?_ ?_ _) | (with_reducible refine Below.setCell ?_ ?_ _) | (with_reducible refine below_gw ?_ ?_ _) | (with_reducible refine below_via ?_ ‹Below _ _ _› ?_) | (with_reducible exact Nat.le_refl _) | (with_reducible refine le_gw ?_ _) | (with_reducible refine le_alloc ?_ _) | (with_reducible refine le_setCell ?_ _ _) | (with_reducible refine le_drew ?_) | (with_reducible refine le_drewN ?_ _) | go_size))))).mono ?_
    rintro r w' ⟨rfl, rfl⟩
    go_wp2
    go_returns
    exact ⟨rfl, by (repeat' (first | (with_reducible exact Below.refl _ _) | (with_reducible assumption) | (with_reducible refine below_drewN ?_ _) | (with_reducible refine Below.drew ?_) | (with_reducible refine Below.alloc ?_ ?_ _) | (with_reducible refine Below.setCell ?_ ?_ _) | (with_reducible refine below_gw ?_ ?_ _) | (with_reducible refine below_via ?_ ‹Below _ _ _› ?_) | (with_reducible exact Nat.le_refl _) | (with_reducible refine le_gw ?_ _) | (with_reducible refine le_alloc ?_ _) | (with_reducible refine le_setCell ?_ _ _) | (with_reducible refine le_drew ?_) | (with_reducible refine le_drewN ?_ _) | go_size))⟩
theorem eqFlt_same (a a' : Option Addr) (n cap cap' : Nat) (xs : List Int) (e : Int) (w : World) (h : Ints w a n cap xs) (h' : Ints w a' n cap' xs) : Calls Tryd.prog 9 #[.agg #[.slice a n cap, .int .i64 e], .agg #[.slice a' n cap', .int .i64 e]] w fun r w' => r = .returned (.bool true) ∧ Below w.heap.size w w' := by
  have H := Lib.hid h
  have H2 := Lib.hid h'
  clear h h'
  go_enter Tryd.func9, Tryd.ntmps9
  go_wp2_with fail
  refine (eqIntS_same a a' n cap cap' xs _ (H.out.below (by (repeat' (first | (with_reducible exact Below.refl _ _) | (with_reducible assumption) | (with_reducible refine below_drewN ?_ _) | (with_reducible refine Below.drew ?_) | (with_reducible refine Below.alloc ?_ ?_ _) | (with_reducible refine Below.setCell ?_ ?_ _) | (with_reducible refine below_gw ?_ ?_ _) | (with_reducible refine below_via ?_ ‹Below _ _ _› ?_) | (with_reducible exact Nat.le_refl _) | (with_reducible refine le_gw ?_ _) | (with_reducible refine le_alloc ?_ _) | (with_reducible refine le_setCell ?_ _ _) | (with_reducible refine le_drew ?_) | (with_reducible refine le_drewN ?_ _) | go_size)))) (H2.out.below (by (repeat' (first | (with_reducible exact Below.refl _ _) | (with_reducible assumption) | (with_reducible refine below_drewN ?_ _) | (with_reducible refine Below.drew ?_) | (with_reducible refine Below.alloc ?_ ?_ _) | (with_reducible refine Below.setCell ?_ ?_ _) | (with_reducible refine below_gw ?_ ?_ _) | (with_reducible refine below_via ?_ ‹Below _ _ _› ?_) | (with_reducible exact Nat.le_refl _) | (with_reducible refine le_gw ?_ _) | (with_reducible refine le_alloc ?_ _) | (with_reducible refine le_setCell ?_ _ _) | (with_reducible refine le_drew ?_) | (with_reducible refine le_drewN ?_ _) | go_size))))).mono ?_
  rintro r w1 ⟨rfl, hb⟩
  obtain ⟨p, rfl⟩ := gw_of_below hb
  clear hb
  go_wp2
  go_returns
  exact ⟨rfl, by (repeat' (first | (with_reducible exact Below.refl _ _) | (with_reducible assumption) | (with_reducible refine below_drewN ?_ _) | (with_reducible refine Below.drew ?_) | (with_reducible refine Below.alloc ?_ ?_ _) | (with_reducible refine Below.setCell ?_ ?_ _) | (with_reducible refine below_gw ?_ ?_ _) | (with_reducible refine below_via ?_ ‹Below _ _ _› ?_) | (with_reducible exact Nat.le_refl _) | (with_reducible refine le_gw ?_ _) | (with_reducible refine le_alloc ?_ _) | (with_reducible refine le_setCell ?_ _ _) | (with_reducible refine le_drew ?_) | (with_reducible refine le_drewN ?_ _) | go_size))⟩
theorem markFlt_any (B E : Nat) (a : Option Addr) (n cap : Nat) (xs : List Int) (e c : Int) (w : World) (hx : xs.length = n) (h : OwnI w B E 3 (.slice a n cap) xs) (hn : n ≤ 1048576) (hc0 : 0 ≤ c) (hc1 : c ≤ 1000000000000) :
    Calls Tryd.prog 12 #[.agg #[.slice a n cap, .int .i64 e], .int .i64 c] w fun r w' => r = .returned (.int .i64 (c + (n : Int))) ∧ OwnI w' B E 3 (.slice a n cap) (marks c n) ∧ TurnF B E w w' := by
  have h1 := own_below h.1 ((Below.refl w.heap.size w).alloc (Nat.le_refl _) (.cells #[.slice a n cap, .int .i64 e] 27))
  rw [hx] at h1
  have M := Lib.hid (markIntS_any B a n cap xs c _ hx h1 hn hc0 hc1)
  have HE := Lib.hid h.2
  have HL := Lib.hid (fun k hk => (h.1.lt k hk).1)
  clear h h1
  go_enter Tryd.func12, Tryd.ntmps12
  go_wp2_with fail
  refine M.out.mono ?_
  rintro r w1 ⟨rfl, ho, hg, hz⟩
  have HO := Lib.hid ho
  have HG := Lib.hid hg
  clear ho hg hz M
  go_wp2
  go_returns
  exact ⟨rfl, ⟨by rw [marks_length]; exact HO.out, HE.out⟩, TurnF.of_grown (by (repeat' (first | (with_reducible exact Below.refl _ _) | (with_reducible assumption) | (with_reducible refine below_drewN ?_ _) | (with_reducible refine Below.drew ?_) | (with_reducible refine Below.alloc ?_ ?_ _) | (with_reducible refine Below.setCell ?_ ?_ _) | (with_reducible refine below_gw ?_ ?_ _) | (with_reducible refine below_via ?_ ‹Below _ _ _› ?_) | (with_reducible exact Nat.le_refl _) | (with_reducible refine le_gw ?_ _) | (with_reducible refine le_alloc ?_ _) | (with_reducible refine le_setCell ?_ _ _) | (with_reducible refine le_drew ?_) | (with_reducible refine le_drewN ?_ _) | go_size))) HG.out fun k hk => ⟨HL.out k hk, HE.out k hk⟩⟩
theorem heldFlt_marks (a : Option Addr) (n cap : Nat) (e c : Int) (w : World) (h : Ints w a n cap (marks c n)) (hn : n ≤ 1048576) (hc0 : 0 ≤ c) (hc1 : c ≤ 1000000000000) :
    Calls Tryd.prog 13 #[.agg #[.slice a n cap, .int .i64 e], .int .i64 c] w fun r w' => r = .returned (.int .i64 (c + (n : Int))) ∧ Below w.heap.size w w' := by
  have H := Lib.hid h
  clear h
  have HD := Lib.hid (fun (w : World) (h : Ints w a n cap (marks c n)) => heldIntS_marks a n cap c w h hn hc0 hc1)
  have c0 : 0 ≤ c + (n : Int) := by omega
  go_enter Tryd.func13, Tryd.ntmps13
  go_wp2_with fail
  refine (HD.out _ (H.out.below (by (repeat' (first | (with_reducible exact Below.refl _ _) | (with_reducible assumption) | (with_reducible refine below_drewN ?_ _) | (with_reducible refine Below.drew ?_) | (with_reducible refine Below.alloc ?_ ?_ _) | (with_reducible refine Below.setCell ?_ ?_ _) | (with_reducible refine below_gw ?_ ?_ _) | (with_reducible refine below_via ?_ ‹Below _ _ _› ?_) | (with_reducible exact Nat.le_refl _) | (with_reducible refine le_gw ?_ _) | (with_reducible refine le_alloc ?_ _) | (with_reducible refine le_setCell ?_ _ _) | (with_reducible refine le_drew ?_) | (with_reducible refine le_drewN ?_ _) | go_size))))).mono ?_
  rintro r w' ⟨rfl, rfl⟩
  go_wp2
  go_returns
  exact ⟨rfl, by (repeat' (first | (with_reducible exact Below.refl _ _) | (with_reducible assumption) | (with_reducible refine below_drewN ?_ _) | (with_reducible refine Below.drew ?_) | (with_reducible refine Below.alloc ?_ ?_ _) | (with_reducible refine Below.setCell ?_ ?_ _) | (with_reducible refine below_gw ?_ ?_ _) | (with_reducible refine below_via ?_ ‹Below _ _ _› ?_) | (with_reducible exact Nat.le_refl _) | (with_reducible refine le_gw ?_ _) | (with_reducible refine le_alloc ?_ _) | (with_reducible refine le_setCell ?_ _ _) | (with_reducible refine le_drew ?_) | (with_reducible refine le_drewN ?_ _) | go_size))⟩
end Go.Proofs.YtkphbnejnilehaaDoor

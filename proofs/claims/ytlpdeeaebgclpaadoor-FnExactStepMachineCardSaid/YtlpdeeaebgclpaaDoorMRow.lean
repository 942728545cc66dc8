/- Machines: what is told of one that is read, of one that is a callee's own; the contracts of the laws' own functions on machines. New machines, the model's and the program's. -/
import Derived.Test.YtlpdeeaebgclpaaDoorMOps
import Derived.Test.YtlpdeeaebgclpaaDoorGBox
namespace Go.Proofs.YtlpdeeaebgclpaaDoor
set_option maxRecDepth 20000
open Go.RowKit
abbrev machV (k : Int) (a : Option Addr) (n c : Nat) (b : Option Addr) (m c2 : Nat) : Value := .agg #[.int .i64 k, .slice a n c, .slice b m c2]
/-- A machine is handed back, all of it new. -/
def RetM (w : World) (k : Int) (s o : List Int) (r : Ending) (w' : World) : Prop :=
  ∃ a c b c2, r = .returned (machV k a s.length c b o.length c2) ∧ OwnM w' w.heap.size w'.heap.size a s.length c s b o.length c2 o ∧ Below w.heap.size w w' ∧ s.length ≤ 1048576 ∧ o.length ≤ 1048576
def RetMI (w : World) (k : Int) (s o : List Int) (x : Int) (r : Ending) (w' : World) : Prop :=
  ∃ a c b c2, r = .returned (.tuple #[machV k a s.length c b o.length c2, .int .i64 x]) ∧ OwnM w' w.heap.size w'.heap.size a s.length c s b o.length c2 o ∧ Below w.heap.size w w' ∧ s.length ≤ 1048576 ∧ o.length ≤ 1048576
theorem szMach (k : Int) (a : Option Addr) (n c : Nat) (s : List Int) (b : Option Addr) (m c2 : Nat) (o : List Int) (left : Int) (w : World) (h : Ms w a n c s b m c2 o) (h0 : 0 ≤ left) (h1 : left ≤ 1048576) : Calls Tryd.prog 6 #[machV k a n c b m c2, .int .i64 left] w fun r w' => r = .returned (.int .i64 (if left - (n : Int) - (m : Int) < 0 then -1 else left - (n : Int) - (m : Int))) ∧ Below w.heap.size w w' := by
  have H := Lib.hid h
  have SG := Lib.hid (fun (w : World) (h : Ints w a n c s) => szInts a n c s left w h h0 h1)
  clear h
  by_cases c1 : left - (n : Int) < 0
  · rw [if_pos c1] at SG
    rw [if_pos (by omega)]
    go_enter Tryd.func6, Tryd.ntmps6
    go_wp2_with fail
    refine (SG.out _ (H.out.1.below (by (repeat' (first | (with_reducible exact Below.refl _ _) | (with_reducible assumption) | (with_reducible refine below_drewN ?_ _) | (with_reducible refine Below.drew ?_) | (with_reducible refine Below.alloc ?_ ?_ _) | (with_reducible refine Below.setCell ?_ ?_ _) | (with_reducible refine below_gw ?_ ?_ _) | (with_reducible refine below_via ?_ ‹Below _ _ _› ?_) | (with_reducible exact Nat.le_refl _) | (with_reducible refine le_gw ?_ _) | (with_reducible refine le_alloc ?_ _) | (with_reducible refine le_setCell ?_ _ _) | (with_reducible refine le_drew ?_) | (with_reducible refine le_drewN ?_ _) | go_size))))).mono ?_
    rintro r w' ⟨rfl, rfl⟩
    go_wp2
    go_ret
    exact ⟨rfl, by (repeat' (first | (with_reducible exact Below.refl _ _) | (with_reducible assumption) | (with_reducible refine below_drewN ?_ _) | (with_reducible refine Below.drew ?_) | (with_reducible refine Below.alloc ?_ ?_ _) | (with_reducible refine Below.setCell ?_ ?_ _) | (with_reducible refine below_gw ?_ ?_ _) | (with_reducible refine below_via ?_ ‹Below _ _ _› ?_) | (with_reducible exact Nat.le_refl _) | (with_reducible refine le_gw ?_ _) | (with_reducible refine le_alloc ?_ _) | (with_reducible refine le_setCell ?_ _ _) | (with_reducible refine le_drew ?_) | (with_reducible refine le_drewN ?_ _) | go_size))⟩
  · rw [if_neg c1] at SG
    have c1' : 0 ≤ left - (n : Int) := by omega
    have SI := Lib.hid (fun (w : World) (h : Ints w b m c2 o) => szInts b m c2 o (left - (n : Int)) w h (by omega) (by omega))
    by_cases c2 : left - (n : Int) - (m : Int) < 0
    · rw [if_pos c2] at SI
      rw [if_pos c2]
      go_enter Tryd.func6, Tryd.ntmps6
      go_wp2_with fail
      refine (SG.out _ (H.out.1.below (by (repeat' (first | (with_reducible exact Below.refl _ _) | (with_reducible assumption) | (with_reducible refine below_drewN ?_ _) | (with_reducible refine Below.drew ?_) | (with_reducible refine Below.alloc ?_ ?_ _) | (with_reducible refine Below.setCell ?_ ?_ _) | (with_reducible refine below_gw ?_ ?_ _) | (with_reducible refine below_via ?_ ‹Below _ _ _› ?_) | (with_reducible exact Nat.le_refl _) | (with_reducible refine le_gw ?_ _) | (with_reducible refine le_alloc ?_ _) | (with_reducible refine le_setCell ?_ _ _) | (with_reducible refine le_drew ?_) | (with_reducible refine le_drewN ?_ _) | go_size))))).mono ?_
      rintro r w' ⟨rfl, rfl⟩
      go_wp2_with fail
      refine (SI.out _ (H.out.2.below (by (repeat' (first | (with_reducible exact Below.refl _ _) | (with_reducible assumption) | (with_reducible refine below_drewN ?_ _) | (with_reducible refine Below.drew ?_) | (with_reducible refine Below.alloc ?_ ?_ _) | (with_reducible refine Below.setCell ?_ ?_ _) | (with_reducible refine below_gw ?_ ?_ _) | (with_reducible refine below_via ?_ ‹Below _ _ _› ?_) | (with_reducible exact Nat.le_refl _) | (with_reducible refine le_gw ?_ _) | (with_reducible refine le_alloc ?_ _) | (with_reducible refine le_setCell ?_ _ _) | (with_reducible refine le_drew ?_) | (with_reducible refine le_drewN ?_ _) | go_size))))).mono ?_
      rintro r w' ⟨rfl, rfl⟩
      go_wp2
      go_ret
      exact ⟨rfl, by (repeat' (first | (with_reducible exact Below.refl _ _) | (with_reducible assumption) | (with_reducible refine below_drewN ?_ _) | (with_reducible refine Below.drew ?_) | (with_reducible refine Below.alloc ?_ ?_ _) | (with_reducible refine Below.setCell ?_ ?_ _) | (with_reducible refine below_gw ?_ ?_ _) | (with_reducible refine below_via ?_ ‹Below _ _ _› ?_) | (with_reducible exact Nat.le_refl _) | (with_reducible refine le_gw ?_ _) | (with_reducible refine le_alloc ?_ _) | (with_reducible refine le_setCell ?_ _ _) | (with_reducible refine le_drew ?_) | (with_reducible refine le_drewN ?_ _) | go_size))⟩
    · rw [if_neg c2] at SI
      rw [if_neg c2]
      have c2' : 0 ≤ left - (n : Int) - (m : Int) := by omega
      go_enter Tryd.func6, Tryd.ntmps6
      go_wp2_with fail
      refine (SG.out _ (H.out.1.below (by (repeat' (first | (with_reducible exact Below.refl _ _) | (with_reducible assumption) | (with_reducible refine below_drewN ?_ _) | (with_reducible refine Below.drew ?_) | (with_reducible refine Below.alloc ?_ ?_ _) | (with_reducible refine Below.setCell ?_ ?_ _) | (with_reducible refine below_gw ?_ ?_ _) | (with_reducible refine below_via ?_ ‹Below _ _ _› ?_) | (with_reducible exact Nat.le_refl _) | (with_reducible refine le_gw ?_ _) | (with_reducible refine le_alloc ?_ _) | (with_reducible refine le_setCell ?_ _ _) | (with_reducible refine le_drew ?_) | (with_reducible refine le_drewN ?_ _) | go_size))))).mono ?_
      rintro r w' ⟨rfl, rfl⟩
      go_wp2_with fail
      refine (SI.out _ (H.out.2.below (by (repeat' (first | (with_reducible exact Below.refl _ _) | (with_reducible assumption) | (with_reducible refine below_drewN ?_ _) | (with_reducible refine Below.drew ?_) | (with_reducible refine Below.alloc ?_ ?_ _) | (with_reducible refine Below.setCell ?_ ?_ _) | (with_reducible refine below_gw ?_ ?_ _) | (with_reducible refine below_via ?_ ‹Below _ _ _› ?_) | (with_reducible exact Nat.le_refl _) | (with_reducible refine le_gw ?_ _) | (with_reducible refine le_alloc ?_ _) | (with_reducible refine le_setCell ?_ _ _) | (with_reducible refine le_drew ?_) | (with_reducible refine le_drewN ?_ _) | go_size))))).mono ?_
      rintro r w' ⟨rfl, rfl⟩
      go_wp2
      go_ret
      exact ⟨rfl, by (repeat' (first | (with_reducible exact Below.refl _ _) | (with_reducible assumption) | (with_reducible refine below_drewN ?_ _) | (with_reducible refine Below.drew ?_) | (with_reducible refine Below.alloc ?_ ?_ _) | (with_reducible refine Below.setCell ?_ ?_ _) | (with_reducible refine below_gw ?_ ?_ _) | (with_reducible refine below_via ?_ ‹Below _ _ _› ?_) | (with_reducible exact Nat.le_refl _) | (with_reducible refine le_gw ?_ _) | (with_reducible refine le_alloc ?_ _) | (with_reducible refine le_setCell ?_ _ _) | (with_reducible refine le_drew ?_) | (with_reducible refine le_drewN ?_ _) | go_size))⟩
theorem eqMach_same (k : Int) (a a' : Option Addr) (n c c' : Nat) (s : List Int) (b b' : Option Addr) (m d d' : Nat) (o : List Int) (w : World) (h : Ms w a n c s b m d o) (h' : Ms w a' n c' s b' m d' o) : Calls Tryd.prog 11 #[machV k a n c b m d, machV k a' n c' b' m d'] w fun r w' => r = .returned (.bool true) ∧ Below w.heap.size w w' := by
  have H := Lib.hid h
  have H2 := Lib.hid h'
  clear h h'
  go_enter Tryd.func11, Tryd.ntmps11
  go_wp2_with fail
  refine (eqIntS_same a a' n c c' s _ (H.out.1.below (by (repeat' (first | (with_reducible exact Below.refl _ _) | (with_reducible assumption) | (with_reducible refine below_drewN ?_ _) | (with_reducible refine Below.drew ?_) | (with_reducible refine Below.alloc ?_ ?_ _) | (with_reducible refine Below.setCell ?_ ?_ _) | (with_reducible refine below_gw ?_ ?_ _) | (with_reducible refine below_via ?_ ‹Below _ _ _› ?_) | (with_reducible exact Nat.le_refl _) | (with_reducible refine le_gw ?_ _) | (with_reducible refine le_alloc ?_ _) | (with_reducible refine le_setCell ?_ _ _) | (with_reducible refine le_drew ?_) | (with_reducible refine le_drewN ?_ _) | go_size)))) (H2.out.1.below (by (repeat' (first | (with_reducible exact Below.refl _ _) | (with_reducible assumption) | (with_reducible refine below_drewN ?_ _) | (with_reducible refine Below.drew ?_) | (with_reducible refine Below.alloc ?_ ?_ _) | (with_reducible refine Below.setCell ?_ ?_ _) | (with_reducible refine below_gw ?_ ?_ _) | (with_reducible refine below_via ?_ ‹Below _ _ _› ?_) | (with_reducible exact Nat.le_refl _) | (with_reducible refine le_gw ?_ _) | (with_reducible refine le_alloc ?_ _) | (with_reducible refine le_setCell ?_ _ _) | (with_reducible refine le_drew ?_) | (with_reducible refine le_drewN ?_ _) | go_size))))).mono ?_
  rintro r w1 ⟨rfl, hb⟩
  obtain ⟨p, rfl⟩ := gw_of_below hb
  clear hb
  go_wp2_with fail
  refine (eqIntS_same b b' m d d' o _ (H.out.2.below (by (repeat' (first | (with_reducible exact Below.refl _ _) | (with_reducible assumption) | (with_reducible refine below_drewN ?_ _) | (with_reducible refine Below.drew ?_) | (with_reducible refine Below.alloc ?_ ?_ _) | (with_reducible refine Below.setCell ?_ ?_ _) | (with_reducible refine below_gw ?_ ?_ _) | (with_reducible refine below_via ?_ ‹Below _ _ _› ?_) | (with_reducible exact Nat.le_refl _) | (with_reducible refine le_gw ?_ _) | (with_reducible refine le_alloc ?_ _) | (with_reducible refine le_setCell ?_ _ _) | (with_reducible refine le_drew ?_) | (with_reducible refine le_drewN ?_ _) | go_size)))) (H2.out.2.below (by (repeat' (first | (with_reducible exact Below.refl _ _) | (with_reducible assumption) | (with_reducible refine below_drewN ?_ _) | (with_reducible refine Below.drew ?_) | (with_reducible refine Below.alloc ?_ ?_ _) | (with_reducible refine Below.setCell ?_ ?_ _) | (with_reducible refine below_gw ?_ ?_ _) | (with_reducible refine below_via ?_ ‹Below _ _ _› ?_) | (with_reducible exact Nat.le_refl _) | (with_reducible refine le_gw ?_ _) | (with_reducible refine le_alloc ?_ _) | (with_reducible refine le_setCell ?_ _ _) | (with_reducible refine le_drew ?_) | (with_reducible refine le_drewN ?_ _) | go_size))))).mono ?_
  rintro r w1 ⟨rfl, hb⟩
  obtain ⟨p, rfl⟩ := gw_of_below hb
  clear hb
  go_wp2
  go_ret
  exact ⟨rfl, by (repeat' (first | (with_reducible exact Below.refl _ _) | (with_reducible assumption) | (with_reducible refine below_drewN ?_ _) | (with_reducible refine Below.drew ?_) | (with_reducible refine Below.alloc ?_ ?_ _) | (with_reducible refine Below.setCell ?_ ?_ _) | (with_reducible refine below_gw ?_ ?_ _) | (with_reducible refine below_via ?_ ‹Below _ _ _› ?_) | (with_reducible exact Nat.le_refl _) | (with_reducible refine le_gw ?_ _) | (with_reducible refine le_alloc ?_ _) | (with_reducible refine le_setCell ?_ _ _) | (with_reducible refine le_drew ?_) | (with_reducible refine le_drewN ?_ _) | go_size))⟩
set_option maxHeartbeats 1000000 in
theorem toMach_any (k : Int) (a : Option Addr) (n c : Nat) (s : List Int) (b : Option Addr) (m d : Nat) (o : List Int) (w : World) (h : Ms w a n c s b m d o) (hn : n ≤ 1048576) (hm : m ≤ 1048576) : Calls Tryd.prog 9 #[machV k a n c b m d] w (RetM w k s o) := by
  have H := Lib.hid h
  obtain rfl : n = s.length := h.1.1.symm
  obtain rfl : m = o.length := h.2.1.symm
  clear h
  go_enter Tryd.func9, Tryd.ntmps9
  go_wp2_with fail
  refine (toIntS_any a s.length c s _ (H.out.1.below (by (repeat' (first | (with_reducible exact Below.refl _ _) | (with_reducible assumption) | (with_reducible refine below_drewN ?_ _) | (with_reducible refine Below.drew ?_) | (with_reducible refine Below.alloc ?_ ?_ _) | (with_reducible refine Below.setCell ?_ ?_ _) | (with_reducible refine below_gw ?_ ?_ _) | (with_reducible refine below_via ?_ ‹Below _ _ _› ?_) | (with_reducible exact Nat.le_refl _) | (with_reducible refine le_gw ?_ _) | (with_reducible refine le_alloc ?_ _) | (with_reducible refine le_setCell ?_ _ _) | (with_reducible refine le_drew ?_) | (with_reducible refine le_drewN ?_ _) | go_size)))) hn).mono ?_
  rintro r w1 ⟨a1, c1, rfl, hown, hb, -⟩
  have O1 := Lib.hid (OwnI.of hown)
  have HB1 := Lib.hid hb
  obtain ⟨p, rfl⟩ := gw_of_below hb
  clear hb hown
  go_wp2_with fail
  refine (toIntS_any b o.length d o _ (H.out.2.below (by (repeat' (first | (with_reducible exact Below.refl _ _) | (with_reducible assumption) | (with_reducible refine below_drewN ?_ _) | (with_reducible refine Below.drew ?_) | (with_reducible refine Below.alloc ?_ ?_ _) | (with_reducible refine Below.setCell ?_ ?_ _) | (with_reducible refine below_gw ?_ ?_ _) | (with_reducible refine below_via ?_ ‹Below _ _ _› ?_) | (with_reducible exact Nat.le_refl _) | (with_reducible refine le_gw ?_ _) | (with_reducible refine le_alloc ?_ _) | (with_reducible refine le_setCell ?_ _ _) | (with_reducible refine le_drew ?_) | (with_reducible refine le_drewN ?_ _) | go_size)))) hm).mono ?_
  rintro r w2 ⟨a2, c2, rfl, hown, hb, -⟩
  have O2 := Lib.hid (OwnI.of hown)
  have HB2 := Lib.hid hb
  obtain ⟨q, rfl⟩ := gw_of_below hb
  clear hb hown
  go_wp2
  go_returns
  have o2 := O2.out.1
  rw [gw_gw] at o2
  exact ⟨a1, c1, a2, c2, rfl, ownM_two (by simp only [World.size_alloc]) (by simp only [World.size_alloc]) (by simp only [World.size_alloc]; omega) O1.out.1 o2 rfl rfl, by (repeat' (first | (with_reducible exact Below.refl _ _) | (with_reducible assumption) | (with_reducible refine below_drewN ?_ _) | (with_reducible refine Below.drew ?_) | (with_reducible refine Below.alloc ?_ ?_ _) | (with_reducible refine Below.setCell ?_ ?_ _) | (with_reducible refine below_gw ?_ ?_ _) | (with_reducible refine below_via ?_ ‹Below _ _ _› ?_) | (with_reducible exact Nat.le_refl _) | (with_reducible refine le_gw ?_ _) | (with_reducible refine le_alloc ?_ _) | (with_reducible refine le_setCell ?_ _ _) | (with_reducible refine le_drew ?_) | (with_reducible refine le_drewN ?_ _) | go_size)), hn, hm⟩
set_option maxHeartbeats 1000000 in
theorem markMach_any (B E : Nat) (k : Int) (a : Option Addr) (n c : Nat) (s : List Int) (b : Option Addr) (m d : Nat) (o : List Int) (x : Int) (w : World) (h : OwnM w B E a n c s b m d o) (hE : E ≤ w.heap.size) (hn : n ≤ 1048576) (hm : m ≤ 1048576) (hc0 : 0 ≤ x) (hc1 : x ≤ 100000000) :
    Calls Tryd.prog 14 #[machV k a n c b m d, .int .i64 x] w fun r w' => r = .returned (.int .i64 (x + (n : Int) + (m : Int))) ∧ OwnM w' B E a n c (marks x n) b m d (marks (x + (n : Int)) m) ∧ TurnF B E w w' := by
  have H := Lib.hid h
  have LS := Lib.hid h.ls
  have ML := Lib.hid h.lo
  have OG : Hid (w.ownsRow B 3 1 (.slice a n c) n (s.map (Value.int .i64))) := Lib.hid (by have := h.g.1; rw [h.ls] at this; exact this)
  clear h
  go_enter Tryd.func14, Tryd.ntmps14
  go_wp2_with fail
  refine (markIntS_any B a n c s x _ LS.out ((own_below OG.out ((Below.refl _ _).alloc (Nat.le_refl _) _))) hn hc0 (by omega)).mono ?_
  rintro r w1 ⟨rfl, ho, hg, hz⟩
  have O1 := Lib.hid ho
  have T1 : Hid (TurnF B E w w1) := Lib.hid (TurnF.of_grown ((Below.refl _ _).alloc (Nat.le_refl _) _) hg fun q hq => H.out.g.lt q hq)
  have NG : Hid (w.heap.size < w1.heap.size ∧ w1.cell? ⟨w.heap.size, 2, none⟩ = some (.slice b m d)) := Lib.hid (by
    refine ⟨by rw [hz]; simp, ?_⟩
    have hne : some w.heap.size ≠ (Value.slice a n c).ownBlock := fun e => by have := (H.out.g.lt _ e.symm).2; omega
    rw [World.cell?_of_block (a := ⟨w.heap.size, 2, none⟩) (hg.block w.heap.size (by simp) hne)]
    simp)
  obtain ⟨lt1, cb⟩ := NG.out
  have I1 : Hid (w1.ownsRow B 3 1 (.slice b m d) m (o.map (Value.int .i64))) := Lib.hid (by
    have := H.out.i.1
    rw [ML.out] at this
    exact own_stable this fun q hq => by
      have lq := H.out.i.lt q hq
      rw [hg.block q (by simp; omega) (fun e => H.out.ap q e.symm hq)]
      exact ((Below.refl w.heap.size w).alloc (Nat.le_refl _) _).block q (by omega))
  clear ho hg hz NG
  go_wp2_with fail
  refine (markIntS_any B b m d o (x + (n : Int)) _ ML.out I1.out hm (by omega) (by omega)).mono ?_
  rintro r w2 ⟨rfl, ho, hg, hz⟩
  have T2 : Hid (TurnF B E w w2) := Lib.hid (T1.out.grown hg fun q hq => H.out.i.lt q hq)
  have O2 : Hid (w2.ownsRow B 3 1 (.slice a n c) n ((marks x n).map (Value.int .i64))) := Lib.hid (own_stable O1.out fun q hq => hg.block q (O1.out.lt q hq).2 (fun e => H.out.ap q hq e.symm))
  have I2 := Lib.hid ho
  clear ho hg hz
  go_wp2
  go_ret
  exact ⟨rfl, ⟨⟨by rw [marks_length]; exact O2.out, H.out.g.2⟩, ⟨by rw [marks_length]; exact I2.out, H.out.i.2⟩, H.out.ap, marks_length _ _, marks_length _ _⟩, T2.out⟩
theorem heldMach_marks (B E : Nat) (k : Int) (a : Option Addr) (n c : Nat) (b : Option Addr) (m d : Nat) (x : Int) (w : World) (h : OwnM w B E a n c (marks x n) b m d (marks (x + (n : Int)) m)) (hn : n ≤ 1048576) (hm : m ≤ 1048576) (hc0 : 0 ≤ x) (hc1 : x ≤ 100000000) :
    Calls Tryd.prog 15 #[machV k a n c b m d, .int .i64 x] w fun r w' => r = .returned (.int .i64 (x + (n : Int) + (m : Int))) ∧ Below w.heap.size w w' := by
  have H := Lib.hid h
  clear h
  have c0 : 0 ≤ x + (n : Int) := by omega
  have c1 : 0 ≤ x + (n : Int) + (m : Int) := by omega
  go_enter Tryd.func15, Tryd.ntmps15
  go_wp2_with fail
  refine (heldIntS_marks a n c x _ ((H.out.g.intsAt (marks_length _ _)).below (by (repeat' (first | (with_reducible exact Below.refl _ _) | (with_reducible assumption) | (with_reducible refine below_drewN ?_ _) | (with_reducible refine Below.drew ?_) | (with_reducible refine Below.alloc ?_ ?_ _) | (with_reducible refine Below.setCell ?_ ?_ _) | (with_reducible refine below_gw ?_ ?_ _) | (with_reducible refine below_via ?_ ‹Below _ _ _› ?_) | (with_reducible exact Nat.le_refl _) | (with_reducible refine le_gw ?_ _) | (with_reducible refine le_alloc ?_ _) | (with_reducible refine le_setCell ?_ _ _) | (with_reducible refine le_drew ?_) | (with_reducible refine le_drewN ?_ _) | go_size)))) hn hc0 (by omega)).mono ?_
  rintro r w' ⟨rfl, rfl⟩
  go_wp2_with fail
  refine (heldIntS_marks b m d (x + (n : Int)) _ ((H.out.i.intsAt (marks_length _ _)).below (by (repeat' (first | (with_reducible exact Below.refl _ _) | (with_reducible assumption) | (with_reducible refine below_drewN ?_ _) | (with_reducible refine Below.drew ?_) | (with_reducible refine Below.alloc ?_ ?_ _) | (with_reducible refine Below.setCell ?_ ?_ _) | (with_reducible refine below_gw ?_ ?_ _) | (with_reducible refine below_via ?_ ‹Below _ _ _› ?_) | (with_reducible exact Nat.le_refl _) | (with_reducible refine le_gw ?_ _) | (with_reducible refine le_alloc ?_ _) | (with_reducible refine le_setCell ?_ _ _) | (with_reducible refine le_drew ?_) | (with_reducible refine le_drewN ?_ _) | go_size)))) hm (by omega) (by omega)).mono ?_
  rintro r w' ⟨rfl, rfl⟩
  go_wp2
  go_ret
  exact ⟨rfl, by (repeat' (first | (with_reducible exact Below.refl _ _) | (with_reducible assumption) | (with_reducible refine below_drewN ?_ _) | (with_reducible refine Below.drew ?_) | (with_reducible refine Below.alloc ?_ ?_ _) | (with_reducible refine Below.setCell ?_ ?_ _) | (with_reducible refine below_gw ?_ ?_ _) | (with_reducible refine below_via ?_ ‹Below _ _ _› ?_) | (with_reducible exact Nat.le_refl _) | (with_reducible refine le_gw ?_ _) | (with_reducible refine le_alloc ?_ _) | (with_reducible refine le_setCell ?_ _ _) | (with_reducible refine le_drew ?_) | (with_reducible refine le_drewN ?_ _) | go_size))⟩
theorem own_up {w : World} {B B' e s n : Nat} {v : Value} {xs : List Value} (h : w.ownsRow B e s v n xs) (hv : ∀ k, v.ownBlock = some k → B' ≤ k) : w.ownsRow B' e s v n xs := by
  obtain ⟨h1, h2⟩ := h
  refine ⟨h1, ?_⟩
  rcases h2 with h2 | ⟨g, cap, cur, rfl, h4, h5⟩
  · exact .inl h2
  · exact .inr ⟨g, cap, cur, rfl, hv g rfl, h5⟩
end Go.Proofs.YtlpdeeaebgclpaaDoor

/- The laws' own ways with lists of operations: they are marked. -/
import Derived.Test.YtlpdeeaebgclpaaDoorMOps
import Derived.Test.YtlpdeeaebgclpaaDoorRow
import Derived.Test.YtlpdeeaebgclpaaDoorTurn
import Derived.Test.YtlpdeeaebgclpaaDoorMRow
import Derived.Test.YtlpdeeaebgclpaaDoorMBx
import Derived.Test.YtlpdeeaebgclpaaDoorTail
namespace Go.Proofs.YtlpdeeaebgclpaaDoor
set_option maxRecDepth 20000
open Go.RowKit
set_option maxHeartbeats 2000000 in
theorem markOps_any (B : Nat) (a : Option Addr) (n cap : Nat) (xs : List Int) (c : Int) (w : World) (hx : xs.length = n * 4) (h : w.ownsRow B 47 4 (.slice a n cap) n (xs.map (Value.int .i64))) (hn : n ≤ 1048576) (hc0 : 0 ≤ c) (hc1 : c ≤ 1000000000) :
    Calls Tryd.prog 13 #[.slice a n cap, .int .i64 c] w fun r w' => r = .returned (.int .i64 (c + (n : Int) * 4)) ∧ w'.ownsRow B 47 4 (.slice a n cap) n ((marks c (n * 4)).map (Value.int .i64)) ∧ w.grownBy w' (Value.slice a n cap).ownBlock ∧ w'.heap.size = w.heap.size := by
  have h0 := h
  rw [← markTo_zero xs c (n * 4) hx] at h0
  have H0 : Hid (w.ownsRow B 47 4 (.slice a n cap) n (markTo xs c (n * 4) (0 * 4))) := Lib.hid (by rw [Nat.zero_mul]; exact h0)
  clear h h0
  have HX := Lib.hid hx
  clear hx
  go_enter Tryd.func13, Tryd.ntmps13
  go_wp2
  go_loopw [1, 5] (fun c' i wr => ∃ k : Nat, k ≤ n ∧ i = .int .i64 k ∧ c' = .int .i64 (c + (k : Int) * 4) ∧ Hid (wr.ownsRow B 47 4 (.slice a n cap) n (markTo xs c (n * 4) (k * 4))) ∧ w.grownBy wr (Value.slice a n cap).ownBlock ∧ wr.heap.size = w.heap.size)
    (fun _ i _ => n - (intOf i).toNat)
  case atStart => exact ⟨0, by omega, rfl, by simp, H0, ⟨rfl, rfl, rfl, Nat.le_refl _, fun _ _ _ => rfl⟩, rfl⟩
  case round =>
    obtain ⟨k, hk, rfl, rfl, HO, hg, hsz⟩ := hrel
    clear H0
    by_cases hlt : k < n
    · rcases HO.out.2 with ⟨-, e0⟩ | ⟨g, cap', cur, e1, hB, -, -, -, -, -⟩
      · omega
      simp only [Value.slice.injEq] at e1
      obtain ⟨rfl, _, _⟩ := e1
      have hown := HO.out
      have fz := hown.frozenAt
      have c0 := hown.cellAt (k * 4) (by omega)
      have c1 := hown.cellAt (k * 4 + 1) (by omega)
      have c2 := hown.cellAt (k * 4 + 2) (by omega)
      have c3 := hown.cellAt (k * 4 + 3) (by omega)
      rw [markTo_get _ _ _ _ _ (by omega)] at c0 c1 c2 c3
      obtain ⟨s1, s2⟩ := hown.stored (k * 4) (.int .i64 (c + (k : Int) * 4))
      obtain ⟨p1, p2⟩ := s1.stored (k * 4 + 1) (.int .i64 (c + (k : Int) * 4 + 1))
      obtain ⟨q1, q2⟩ := p1.stored (k * 4 + 2) (.int .i64 (c + (k : Int) * 4 + 1 + 1))
      obtain ⟨r1, r2⟩ := q1.stored (k * 4 + 3) (.int .i64 (c + (k : Int) * 4 + 1 + 1 + 1))
      have e0 : c + (k : Int) * 4 = c + ((k * 4 : Nat) : Int) := by omega
      have e1 : c + (k : Int) * 4 + 1 = c + ((k * 4 + 1 : Nat) : Int) := by omega
      have e2 : c + (k : Int) * 4 + 1 + 1 = c + ((k * 4 + 1 + 1 : Nat) : Int) := by omega
      have e3 : c + (k : Int) * 4 + 1 + 1 + 1 = c + ((k * 4 + 1 + 1 + 1 : Nat) : Int) := by omega
      have m0 := markTo_set xs c (n * 4) (k * 4)
      have m1 := markTo_set xs c (n * 4) (k * 4 + 1)
      have m2 := markTo_set xs c (n * 4) (k * 4 + 1 + 1)
      have m3 := markTo_set xs c (n * 4) (k * 4 + 1 + 1 + 1)
      rw [← e0] at m0
      rw [← e1] at m1
      rw [← e2] at m2
      rw [← e3] at m3
      rw [m0, m1, show k * 4 + 2 = k * 4 + 1 + 1 from rfl, m2, show k * 4 + 3 = k * 4 + 1 + 1 + 1 from rfl, m3] at r1
      have R1 := Lib.hid r1
      have hg2 : Hid (w.grownBy ((((wr.setCell ⟨g, k * 4, none⟩ (.int .i64 (c + (k : Int) * 4))).setCell ⟨g, k * 4 + 1, none⟩ (.int .i64 (c + (k : Int) * 4 + 1))).setCell ⟨g, k * 4 + 2, none⟩ (.int .i64 (c + (k : Int) * 4 + 1 + 1))).setCell ⟨g, k * 4 + 3, none⟩ (.int .i64 (c + (k : Int) * 4 + 1 + 1 + 1))) (some g)) :=
        Lib.hid ⟨r2.os.trans (q2.os.trans (p2.os.trans (s2.os.trans hg.os))), r2.tape.trans (q2.tape.trans (p2.tape.trans (s2.tape.trans hg.tape))), r2.output.trans (q2.output.trans (p2.output.trans (s2.output.trans hg.output))), Nat.le_trans hg.size (Nat.le_trans s2.size (Nat.le_trans p2.size (Nat.le_trans q2.size r2.size))), fun q hq hne => (r2.block q (by have := s2.size; have := p2.size; have := q2.size; omega) hne).trans ((q2.block q (by have := s2.size; have := p2.size; omega) hne).trans ((p2.block q (by have := s2.size; omega) hne).trans ((s2.block q (by omega) hne).trans (hg.block q hq hne))))⟩
      clear hown hg s1 s2 p1 p2 q1 q2 HO r1 r2 m0 m1 m2 m3 e0 e1 e2 e3
      go_wp2
      exact ⟨⟨k + 1, by omega, by go_num, by first | rfl | (congr 1; omega), Lib.hid (by rw [show (k + 1) * 4 = k * 4 + 1 + 1 + 1 + 1 by omega]; exact R1.out), hg2.out, by simpa using hsz⟩, by simp [intOf]; omega⟩
    · obtain rfl : k = n := by omega
      go_wp2
      go_ret
      have ho := HO.out
      rw [markTo_all] at ho
      exact ⟨rfl, ho, hg, hsz⟩
/-- As a list of its own: marked. -/
theorem markOpS_any (B E : Nat) (a : Option Addr) (n c : Nat) (xs : List Int) (x : Int) (w : World) (h : OwnO w B E 47 (.slice a n c) n xs) (hx : xs.length = n * 4) (hn : n ≤ 1048576) (hc0 : 0 ≤ x) (hc1 : x ≤ 1000000000) :
    Calls Tryd.prog 13 #[.slice a n c, .int .i64 x] w fun r w' => r = .returned (.int .i64 (x + (n : Int) * 4)) ∧ OwnO w' B E 47 (.slice a n c) n (marks x (n * 4)) ∧ TurnF B E w w' := by
  refine (markOps_any B a n c xs x w hx h.1 hn hc0 hc1).mono ?_
  rintro r w' ⟨rfl, ho, hg, -⟩
  exact ⟨rfl, ⟨ho, h.2⟩, TurnF.of_grown (Below.refl _ _) hg fun q hq => h.lt q hq⟩
/-- A machine that was handed back, laid down. -/
def LaidM (cur W : World) (p : Nat) (k : Int) (a : Option Addr) (c : Nat) (S : List Int) (b : Option Addr) (d : Nat) (O : List Int) : Prop :=
  ∃ lo hi, Box3 W p (.int .i64 k) (.slice a S.length c) (.slice b O.length d) ∧ OwnM W lo hi a S.length c S b O.length d O ∧ Below cur.heap.size cur W ∧ cur.heap.size ≤ lo ∧ hi ≤ W.heap.size ∧ lo ≤ hi ∧ (p < lo ∨ hi ≤ p) ∧ cur.heap.size ≤ p ∧ S.length ≤ 1048576 ∧ O.length ≤ 1048576
theorem laidM {cur w : World} {p lo hi : Nat} {k : Int} {a b : Option Addr} {c d : Nat} {S O : List Int} {v0 v1 v2 : Value} {t : TypeId} (bk : Blk3 w p v0 v1 v2 t) (om : OwnM w lo hi a S.length c S b O.length d O) (hb : Below cur.heap.size cur w) (h1 : cur.heap.size ≤ lo) (h2 : hi ≤ w.heap.size) (h3 : lo ≤ hi) (h4 : p < lo ∨ hi ≤ p) (h5 : cur.heap.size ≤ p) (l1 : S.length ≤ 1048576) (l2 : O.length ≤ 1048576) :
    LaidM cur (((w.setCell ⟨p, 0, none⟩ (.int .i64 k)).setCell ⟨p, 1, none⟩ (.slice a S.length c)).setCell ⟨p, 2, none⟩ (.slice b O.length d)) p k a c S b d O := by
  refine ⟨lo, hi, (((bk.set0 _).set1 _).set2 _).box, om.stay ⟨by simp, fun q hq1 hq2 => ?_⟩, ((hb.setCell h5 _).setCell h5 _).setCell h5 _, h1, by simpa using h2, h3, h4, h5, l1, l2⟩
  have hne : q ≠ p := by omega
  rw [heap_setCell_other _ ⟨p, 2, none⟩ q _ hne, heap_setCell_other _ ⟨p, 1, none⟩ q _ hne, heap_setCell_other _ ⟨p, 0, none⟩ q _ hne]
theorem key_pf {P Q : Prop} (main : Hid Q → P) (pf : Q) : P := main (Lib.hid pf)
end Go.Proofs.YtlpdeeaebgclpaaDoor

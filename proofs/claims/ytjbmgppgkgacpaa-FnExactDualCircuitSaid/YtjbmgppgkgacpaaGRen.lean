/- The program's renumbered, with the lines of the dual circuit. -/
import Derived.Test.YtjbmgppgkgacpaaGDual
import Derived.Test.YtjbmgppgkgacpaaGI2
import Derived.StillTailTactics
import Derived.Test.YtjbmgppgkgacpaaTail
namespace Go.Proofs.Ytjbmgppgkgacpaa
set_option maxRecDepth 20000
open Go.RowKit
namespace Tm
/-- A gate with other lines. -/
def renG (f : Int → Int) (g : Nat → Int) : Nat → Int := mkG g (f (g 9)) (f (g 10))
end Tm
theorem iDualLine (x : Int) (w : World) : Calls Try.prog 50 #[.int .i64 x] w fun r w' => r = .returned (.int .i64 (Tm.otherL x)) ∧ w' = w := by
  by_cases c0 : x = 0
  · subst c0
    go_enter Try.func50, Try.ntmps50
    go_wp2
    go_ret
    exact ⟨rfl, rfl⟩
  · by_cases c2 : x = 2
    · subst c2
      go_enter Try.func50, Try.ntmps50
      go_wp2
      go_ret
      exact ⟨rfl, rfl⟩
    · have e : Tm.otherL x = x := by rw [Tm.otherL, if_neg (by omega)]
      rw [e]
      have d0 : (x == 0) = false := by simpa using c0
      have d2 : (x == 2) = false := by simpa using c2
      go_enter Try.func50, Try.ntmps50
      go_wp2
      go_ret
      exact ⟨rfl, rfl⟩
structure GrO (B : Nat) (W0 wr : World) (b : Nat) (k : Int) (a : Option Addr) (n c : Nat) (L : List (Nat → Int)) (a2 : Option Addr) (m d : Nat) (u : List Int) : Prop where
  own : wr.ownsRow B 59 11 (.slice a n c) n ((Tm.flat L).map (Value.int .i64))
  oi : wr.ownsRow B 3 1 (.slice a2 m d) m (u.map (Value.int .i64))
  ap : Apart (.slice a n c) (.slice a2 m d)
  c0 : wr.cell? ⟨b, 0, none⟩ = some (.int .i64 k)
  c1 : wr.cell? ⟨b, 1, none⟩ = some (.slice a n c)
  c2 : wr.cell? ⟨b, 2, none⟩ = some (.slice a2 m d)
  fz : ∀ i, wr.frozen? ⟨b, i, none⟩ = false
  bb : Below b W0 wr
  lt : b < wr.heap.size
  lb : b < B
theorem Below.trans' {B : Nat} {a w : World} (h : Below B a w) (b o : Nat) (v : Value) (hb : B ≤ b := by omega) : Below B a (w.setCell ⟨b, o, none⟩ v) :=
  ⟨h.os, h.tape, h.output, by rw [World.size_setCell]; exact h.size, fun k hk => (heap_setCell_other w ⟨b, o, none⟩ k v (by show k ≠ b; omega)).trans (h.block k hk)⟩
/-- The box in which a circuit grows. -/
structure Gr (B : Nat) (W0 wr : World) (b : Nat) (k : Int) (a : Option Addr) (n c : Nat) (L : List (Nat → Int)) (v : Value) : Prop where
  own : wr.ownsRow B 59 11 (.slice a n c) n ((Tm.flat L).map (Value.int .i64))
  c0 : wr.cell? ⟨b, 0, none⟩ = some (.int .i64 k)
  c1 : wr.cell? ⟨b, 1, none⟩ = some (.slice a n c)
  c2 : wr.cell? ⟨b, 2, none⟩ = some v
  fz : ∀ i, wr.frozen? ⟨b, i, none⟩ = false
  bb : Below b W0 wr
  lt : b < wr.heap.size
  lb : b < B
set_option maxHeartbeats 4000000 in
theorem iRenumD (k : Int) (a : Option Addr) (n c : Nat) (L : List (Nat → Int)) (b : Option Addr) (m d : Nat) (o : List Int) (w : World) (h : Cs w a n c L b m d o) (hn : n ≤ 60) (hm : m ≤ 60) :
    Calls Try.prog 49 #[circV k a n c b m d, .func (Fn.func 50) #[] #[]] w (RetC w k (L.map (Tm.renG Tm.otherL)) (o.map Tm.otherL)) := by
  obtain ⟨i0, hi, hz0, hz1, hz2⟩ := info_parts infoGate
  obtain rfl : n = L.length := h.1.1.symm
  obtain rfl : m = o.length := h.2.1.symm
  have H := Lib.hid h
  clear h
  go_enter Try.func49, Try.ntmps49
  go_wp2_with fail
  obtain ⟨W1, hW1⟩ : ∃ W1, W1 = (w.alloc (.cells #[.int .i64 k, .slice a L.length c, .slice b o.length d] 25)).alloc (.cells #[.int .i64 0, .slice none 0 0, .slice none 0 0] 25) := ⟨_, rfl⟩
  rw [← hW1]
  have S1 : W1.heap.size = w.heap.size + 1 + 1 := by rw [hW1, World.size_alloc, World.size_alloc]
  have B1 : Below w.heap.size w W1 := by rw [hW1]; exact ((Below.refl _ _).alloc (Nat.le_refl _) _).alloc (by rw [World.size_alloc]; omega) _
  have D1 : Hid (W1.cell? ⟨w.heap.size, 2, none⟩ = some (.slice b o.length d)) := Lib.hid (by rw [hW1]; go_simp)
  have R1 : Hid (∀ i, i < 3 → W1.frozen? ⟨w.heap.size + 1, i, none⟩ = false ∧ ∃ u, W1.cell? ⟨w.heap.size + 1, i, none⟩ = some u) := Lib.hid fun i hi => by
    rw [hW1]
    match i, hi with
    | 0, _ | 1, _ | 2, _ => exact ⟨by go_simp, _, by go_simp; rfl⟩
  clear hW1
  have G0 : Hid (Gr (w.heap.size + 3) W1 (W1.alloc (.cells #[.int .i64 k, .slice none 0 0, .slice none 0 0] 25)) (w.heap.size + 1 + 1) k none 0 0 ((L.take 0).map (Tm.renG Tm.otherL)) (.slice none 0 0)) := Lib.hid (by
    rw [← S1]
    exact ⟨⟨by simp [Tm.flat], .inl ⟨rfl, rfl⟩⟩, by simp, by simp, by simp, fun i => by simp, (Below.refl _ _).alloc (Nat.le_refl _) _, by simp, by omega⟩)
  go_loopw [16] (fun i wr => ∃ (j : Nat) (a' : Option Addr) (c' : Nat), j ≤ L.length ∧ i = .int .i64 j ∧ Hid (Gr (w.heap.size + 3) W1 wr (w.heap.size + 1 + 1) k a' j c' ((L.take j).map (Tm.renG Tm.otherL)) (.slice none 0 0))) (fun i _ => L.length - (intOf i).toNat)
  case atStart => exact ⟨0, none, 0, by omega, rfl, G0⟩
  case round =>
    clear G0
    obtain ⟨j, a', c', hj, rfl, GR⟩ := hrel
    have hbw : Below w.heap.size w wr := B1.trans (GR.out.bb.mono (by omega))
    have lt5 := GR.out.lt
    by_cases hlt : j < L.length
    · obtain ⟨-, -, -, y⟩ := H.out.1.below hbw
      rcases y with h0 | ⟨bb, oo, rfl, hbl, hc⟩
      · omega
      obtain ⟨g, hg, g1⟩ := Gs.gate hc hlt
      have GG := Lib.hid hg
      obtain ⟨p0, p1, p2, p3, p4, p5, p6, p7, p8, p9, p10⟩ := g1
      clear hg hc
      have t0 := GR.out.c0
      have t1 := GR.out.c1
      have t2 := GR.out.c2
      have tf := GR.out.fz
      go_wp2_with fail
      have hu45 := Try.underlying33
      have hi45 : (Try.prog.info? 33).map (·.size) = some ([.int .i64 (g 0), .int .i64 (g 1), .int .i64 (g 2), .int .i64 (g 3), .int .i64 (g 4), .int .i64 (g 5), .int .i64 (g 6), .int .i64 (g 7), .int .i64 (g 8)] : List Value).length := by kernel_rfl
      clear p0 p1 p2 p3 p4 p5 p6 p7 p8 p9 p10
      have SS : Hid (∀ W, Below (wr.alloc (.cells #[.int .i64 (g 0), .int .i64 (g 1), .int .i64 (g 2), .int .i64 (g 3), .int .i64 (g 4), .int .i64 (g 5), .int .i64 (g 6), .int .i64 (g 7), .int .i64 (g 8), .int .i64 (g 9), .int .i64 (g 10)] 59)).heap.size (wr.alloc (.cells #[.int .i64 (g 0), .int .i64 (g 1), .int .i64 (g 2), .int .i64 (g 3), .int .i64 (g 4), .int .i64 (g 5), .int .i64 (g 6), .int .i64 (g 7), .int .i64 (g 8), .int .i64 (g 9), .int .i64 (g 10)] 59)) W → W.cell? ⟨w.heap.size + 1 + 1, 1, none⟩ = some (.slice a' j c') ∧ W.rangeAt wr.heap.size 0 [.int .i64 (g 0), .int .i64 (g 1), .int .i64 (g 2), .int .i64 (g 3), .int .i64 (g 4), .int .i64 (g 5), .int .i64 (g 6), .int .i64 (g 7), .int .i64 (g 8)] ∧ W.cell? ⟨wr.heap.size, 9, none⟩ = some (.int .i64 (g 9)) ∧ W.cell? ⟨wr.heap.size, 10, none⟩ = some (.int .i64 (g 10))) := Lib.hid fun W hW => by
        have hW1 : Below (wr.heap.size + 1) (wr.alloc (.cells #[.int .i64 (g 0), .int .i64 (g 1), .int .i64 (g 2), .int .i64 (g 3), .int .i64 (g 4), .int .i64 (g 5), .int .i64 (g 6), .int .i64 (g 7), .int .i64 (g 8), .int .i64 (g 9), .int .i64 (g 10)] 59)) W := hW.mono (by simp)
        have rg := below_range hW1 (Nat.lt_succ_self _) (range_new wr [.int .i64 (g 0), .int .i64 (g 1), .int .i64 (g 2), .int .i64 (g 3), .int .i64 (g 4), .int .i64 (g 5), .int .i64 (g 6), .int .i64 (g 7), .int .i64 (g 8), .int .i64 (g 9), .int .i64 (g 10)] 59)
        refine ⟨?_, range_part rg 0 ?_, rg 9 _ rfl, rg 10 _ rfl⟩
        · rw [hW1.cell (p := ⟨w.heap.size + 1 + 1, 1, none⟩) (show w.heap.size + 1 + 1 < wr.heap.size + 1 by omega), World.cell?_alloc_lt _ _ _ lt5]; exact GR.out.c1
        · intro j v hj
          match j, hj with
          | 0, hj | 1, hj | 2, hj | 3, hj | 4, hj | 5, hj | 6, hj | 7, hj | 8, hj => simpa using hj
          | j + 9, hj => simp at hj
      have HO := Lib.hid GR.out.own
      have FL : Hid ((Tm.flat ((L.take j).map (Tm.renG Tm.otherL))).length = j * 11) := Lib.hid (by rw [Tm.flat_length, List.length_map, List.length_take]; congr 1; omega)
      refine wp_region_T [14, 16] (fun W : World => W.cell? ⟨w.heap.size + 1 + 1, 1, none⟩ = some (.slice a' j c') ∧ W.rangeAt wr.heap.size 0 [.int .i64 (g 0), .int .i64 (g 1), .int .i64 (g 2), .int .i64 (g 3), .int .i64 (g 4), .int .i64 (g 5), .int .i64 (g 6), .int .i64 (g 7), .int .i64 (g 8)] ∧ W.cell? ⟨wr.heap.size, 9, none⟩ = some (.int .i64 (g 9)) ∧ W.cell? ⟨wr.heap.size, 10, none⟩ = some (.int .i64 (g 10))) (by kernel_rfl) ?_
      have bA : Below wr.heap.size wr (wr.alloc (.cells #[.int .i64 (g 0), .int .i64 (g 1), .int .i64 (g 2), .int .i64 (g 3), .int .i64 (g 4), .int .i64 (g 5), .int .i64 (g 6), .int .i64 (g 7), .int .i64 (g 8), .int .i64 (g 9), .int .i64 (g 10)] 59)) := (Below.refl _ _).alloc (Nat.le_refl _) _
      have sA : (wr.alloc (.cells #[.int .i64 (g 0), .int .i64 (g 1), .int .i64 (g 2), .int .i64 (g 3), .int .i64 (g 4), .int .i64 (g 5), .int .i64 (g 6), .int .i64 (g 7), .int .i64 (g 8), .int .i64 (g 9), .int .i64 (g 10)] 59)).heap.size = wr.heap.size + 1 := by simp
      generalize hA : wr.alloc (.cells #[.int .i64 (g 0), .int .i64 (g 1), .int .i64 (g 2), .int .i64 (g 3), .int .i64 (g 4), .int .i64 (g 5), .int .i64 (g 6), .int .i64 (g 7), .int .i64 (g 8), .int .i64 (g 9), .int .i64 (g 10)] 59) = A at SS bA sA ⊢
      clear hA
      have B0 : Hid (Below A.heap.size A A.drew) := Lib.hid (Below.drew (Below.refl _ _))
      generalize World.drew A = v0 at B0 ⊢
      have s0 := B0.out.size
      have BV := Lib.hid (bA.trans (B0.out.mono (by omega)))
      clear t0 t1 t2 tf
      refine wpAnyT_take (i := 0) (v := ?v1) rfl (by kernel_rfl) (by kernel_rfl) (by kernel_rfl) (by kernel_rfl) (by kernel_rfl) (fun _ _ _ h => h) (SS.out _ B0.out) rfl ?hy1 ?hh1
      case hy1 => (intro W hW; obtain ⟨h1, h2, h3, h4⟩ := hW; have q0_ : W.cell? ⟨wr.heap.size, 0, none⟩ = some (.int .i64 (g 0)) := h2 0 _ rfl; have q1_ : W.cell? ⟨wr.heap.size, 1, none⟩ = some (.int .i64 (g 1)) := h2 1 _ rfl; have q2_ : W.cell? ⟨wr.heap.size, 2, none⟩ = some (.int .i64 (g 2)) := h2 2 _ rfl; have q3_ : W.cell? ⟨wr.heap.size, 3, none⟩ = some (.int .i64 (g 3)) := h2 3 _ rfl; have q4_ : W.cell? ⟨wr.heap.size, 4, none⟩ = some (.int .i64 (g 4)) := h2 4 _ rfl; have q5_ : W.cell? ⟨wr.heap.size, 5, none⟩ = some (.int .i64 (g 5)) := h2 5 _ rfl; have q6_ : W.cell? ⟨wr.heap.size, 6, none⟩ = some (.int .i64 (g 6)) := h2 6 _ rfl; have q7_ : W.cell? ⟨wr.heap.size, 7, none⟩ = some (.int .i64 (g 7)) := h2 7 _ rfl; have q8_ : W.cell? ⟨wr.heap.size, 8, none⟩ = some (.int .i64 (g 8)) := h2 8 _ rfl; go_simp; try with_reducible rfl)
      case hh1 =>
      (try simp only [Act.put])
      refine wpAnyT_take (i := 1) (v := ?v2) rfl (by kernel_rfl) (by kernel_rfl) (by kernel_rfl) (by kernel_rfl) (by kernel_rfl) (fun _ _ _ h => h) (SS.out _ B0.out) rfl ?hy2 ?hh2
      case hy2 => (intro W hW; obtain ⟨h1, h2, h3, h4⟩ := hW; have q0_ : W.cell? ⟨wr.heap.size, 0, none⟩ = some (.int .i64 (g 0)) := h2 0 _ rfl; have q1_ : W.cell? ⟨wr.heap.size, 1, none⟩ = some (.int .i64 (g 1)) := h2 1 _ rfl; have q2_ : W.cell? ⟨wr.heap.size, 2, none⟩ = some (.int .i64 (g 2)) := h2 2 _ rfl; have q3_ : W.cell? ⟨wr.heap.size, 3, none⟩ = some (.int .i64 (g 3)) := h2 3 _ rfl; have q4_ : W.cell? ⟨wr.heap.size, 4, none⟩ = some (.int .i64 (g 4)) := h2 4 _ rfl; have q5_ : W.cell? ⟨wr.heap.size, 5, none⟩ = some (.int .i64 (g 5)) := h2 5 _ rfl; have q6_ : W.cell? ⟨wr.heap.size, 6, none⟩ = some (.int .i64 (g 6)) := h2 6 _ rfl; have q7_ : W.cell? ⟨wr.heap.size, 7, none⟩ = some (.int .i64 (g 7)) := h2 7 _ rfl; have q8_ : W.cell? ⟨wr.heap.size, 8, none⟩ = some (.int .i64 (g 8)) := h2 8 _ rfl; go_simp; try with_reducible rfl)
      case hh2 =>
      (try simp only [Act.put])
      refine wpAnyT_take (i := 2) (v := ?v3) rfl (by kernel_rfl) (by kernel_rfl) (by kernel_rfl) (by kernel_rfl) (by kernel_rfl) (fun _ _ _ h => h) (SS.out _ B0.out) rfl ?hy3 ?hh3
      case hy3 => (intro W hW; obtain ⟨h1, h2, h3, h4⟩ := hW; have q0_ : W.cell? ⟨wr.heap.size, 0, none⟩ = some (.int .i64 (g 0)) := h2 0 _ rfl; have q1_ : W.cell? ⟨wr.heap.size, 1, none⟩ = some (.int .i64 (g 1)) := h2 1 _ rfl; have q2_ : W.cell? ⟨wr.heap.size, 2, none⟩ = some (.int .i64 (g 2)) := h2 2 _ rfl; have q3_ : W.cell? ⟨wr.heap.size, 3, none⟩ = some (.int .i64 (g 3)) := h2 3 _ rfl; have q4_ : W.cell? ⟨wr.heap.size, 4, none⟩ = some (.int .i64 (g 4)) := h2 4 _ rfl; have q5_ : W.cell? ⟨wr.heap.size, 5, none⟩ = some (.int .i64 (g 5)) := h2 5 _ rfl; have q6_ : W.cell? ⟨wr.heap.size, 6, none⟩ = some (.int .i64 (g 6)) := h2 6 _ rfl; have q7_ : W.cell? ⟨wr.heap.size, 7, none⟩ = some (.int .i64 (g 7)) := h2 7 _ rfl; have q8_ : W.cell? ⟨wr.heap.size, 8, none⟩ = some (.int .i64 (g 8)) := h2 8 _ rfl; go_simp; try with_reducible rfl)
      case hh3 =>
      (try simp only [Act.put])
      refine wpAnyT_take (i := 3) (v := ?v4) rfl (by kernel_rfl) (by kernel_rfl) (by kernel_rfl) (by kernel_rfl) (by kernel_rfl) (fun _ _ _ h => h) (SS.out _ B0.out) rfl ?hy4 ?hh4
      case hy4 => (intro W hW; obtain ⟨h1, h2, h3, h4⟩ := hW; have q0_ : W.cell? ⟨wr.heap.size, 0, none⟩ = some (.int .i64 (g 0)) := h2 0 _ rfl; have q1_ : W.cell? ⟨wr.heap.size, 1, none⟩ = some (.int .i64 (g 1)) := h2 1 _ rfl; have q2_ : W.cell? ⟨wr.heap.size, 2, none⟩ = some (.int .i64 (g 2)) := h2 2 _ rfl; have q3_ : W.cell? ⟨wr.heap.size, 3, none⟩ = some (.int .i64 (g 3)) := h2 3 _ rfl; have q4_ : W.cell? ⟨wr.heap.size, 4, none⟩ = some (.int .i64 (g 4)) := h2 4 _ rfl; have q5_ : W.cell? ⟨wr.heap.size, 5, none⟩ = some (.int .i64 (g 5)) := h2 5 _ rfl; have q6_ : W.cell? ⟨wr.heap.size, 6, none⟩ = some (.int .i64 (g 6)) := h2 6 _ rfl; have q7_ : W.cell? ⟨wr.heap.size, 7, none⟩ = some (.int .i64 (g 7)) := h2 7 _ rfl; have q8_ : W.cell? ⟨wr.heap.size, 8, none⟩ = some (.int .i64 (g 8)) := h2 8 _ rfl; go_simp; try with_reducible rfl)
      case hh4 =>
      (try simp only [Act.put])
      refine wpAnyT_take (i := 4) (v := ?v5) rfl (by kernel_rfl) (by kernel_rfl) (by kernel_rfl) (by kernel_rfl) (by kernel_rfl) (fun _ _ _ h => h) (SS.out _ B0.out) rfl ?hy5 ?hh5
      case hy5 => (intro W hW; obtain ⟨h1, h2, h3, h4⟩ := hW; have q0_ : W.cell? ⟨wr.heap.size, 0, none⟩ = some (.int .i64 (g 0)) := h2 0 _ rfl; have q1_ : W.cell? ⟨wr.heap.size, 1, none⟩ = some (.int .i64 (g 1)) := h2 1 _ rfl; have q2_ : W.cell? ⟨wr.heap.size, 2, none⟩ = some (.int .i64 (g 2)) := h2 2 _ rfl; have q3_ : W.cell? ⟨wr.heap.size, 3, none⟩ = some (.int .i64 (g 3)) := h2 3 _ rfl; have q4_ : W.cell? ⟨wr.heap.size, 4, none⟩ = some (.int .i64 (g 4)) := h2 4 _ rfl; have q5_ : W.cell? ⟨wr.heap.size, 5, none⟩ = some (.int .i64 (g 5)) := h2 5 _ rfl; have q6_ : W.cell? ⟨wr.heap.size, 6, none⟩ = some (.int .i64 (g 6)) := h2 6 _ rfl; have q7_ : W.cell? ⟨wr.heap.size, 7, none⟩ = some (.int .i64 (g 7)) := h2 7 _ rfl; have q8_ : W.cell? ⟨wr.heap.size, 8, none⟩ = some (.int .i64 (g 8)) := h2 8 _ rfl; go_simp; try with_reducible rfl)
      case hh5 =>
      (try simp only [Act.put])
      refine wpAnyT_take (i := 5) (v := ?v6) rfl (by kernel_rfl) (by kernel_rfl) (by kernel_rfl) (by kernel_rfl) (by kernel_rfl) (fun _ _ _ h => h) (SS.out _ B0.out) rfl ?hy6 ?hh6
      case hy6 => (intro W hW; obtain ⟨h1, h2, h3, h4⟩ := hW; have q0_ : W.cell? ⟨wr.heap.size, 0, none⟩ = some (.int .i64 (g 0)) := h2 0 _ rfl; have q1_ : W.cell? ⟨wr.heap.size, 1, none⟩ = some (.int .i64 (g 1)) := h2 1 _ rfl; have q2_ : W.cell? ⟨wr.heap.size, 2, none⟩ = some (.int .i64 (g 2)) := h2 2 _ rfl; have q3_ : W.cell? ⟨wr.heap.size, 3, none⟩ = some (.int .i64 (g 3)) := h2 3 _ rfl; have q4_ : W.cell? ⟨wr.heap.size, 4, none⟩ = some (.int .i64 (g 4)) := h2 4 _ rfl; have q5_ : W.cell? ⟨wr.heap.size, 5, none⟩ = some (.int .i64 (g 5)) := h2 5 _ rfl; have q6_ : W.cell? ⟨wr.heap.size, 6, none⟩ = some (.int .i64 (g 6)) := h2 6 _ rfl; have q7_ : W.cell? ⟨wr.heap.size, 7, none⟩ = some (.int .i64 (g 7)) := h2 7 _ rfl; have q8_ : W.cell? ⟨wr.heap.size, 8, none⟩ = some (.int .i64 (g 8)) := h2 8 _ rfl; go_simp; try with_reducible rfl)
      case hh6 =>
      (try simp only [Act.put])
      refine wpAnyT_take (i := 6) (v := ?v7) rfl (by kernel_rfl) (by kernel_rfl) (by kernel_rfl) (by kernel_rfl) (by kernel_rfl) (fun _ _ _ h => h) (SS.out _ B0.out) rfl ?hy7 ?hh7
      case hy7 => (intro W hW; obtain ⟨h1, h2, h3, h4⟩ := hW; have q0_ : W.cell? ⟨wr.heap.size, 0, none⟩ = some (.int .i64 (g 0)) := h2 0 _ rfl; have q1_ : W.cell? ⟨wr.heap.size, 1, none⟩ = some (.int .i64 (g 1)) := h2 1 _ rfl; have q2_ : W.cell? ⟨wr.heap.size, 2, none⟩ = some (.int .i64 (g 2)) := h2 2 _ rfl; have q3_ : W.cell? ⟨wr.heap.size, 3, none⟩ = some (.int .i64 (g 3)) := h2 3 _ rfl; have q4_ : W.cell? ⟨wr.heap.size, 4, none⟩ = some (.int .i64 (g 4)) := h2 4 _ rfl; have q5_ : W.cell? ⟨wr.heap.size, 5, none⟩ = some (.int .i64 (g 5)) := h2 5 _ rfl; have q6_ : W.cell? ⟨wr.heap.size, 6, none⟩ = some (.int .i64 (g 6)) := h2 6 _ rfl; have q7_ : W.cell? ⟨wr.heap.size, 7, none⟩ = some (.int .i64 (g 7)) := h2 7 _ rfl; have q8_ : W.cell? ⟨wr.heap.size, 8, none⟩ = some (.int .i64 (g 8)) := h2 8 _ rfl; go_simp; try with_reducible rfl)
      case hh7 =>
      (try simp only [Act.put])
      refine wpAnyT_take (i := 8) (v := ?v8) rfl (by kernel_rfl) (by kernel_rfl) (by kernel_rfl) (by kernel_rfl) (by kernel_rfl) (fun _ _ _ h => h) (SS.out _ B0.out) rfl ?hy8 ?hh8
      case hy8 => (intro W hW; obtain ⟨h1, h2, h3, h4⟩ := hW; have q0_ : W.cell? ⟨wr.heap.size, 0, none⟩ = some (.int .i64 (g 0)) := h2 0 _ rfl; have q1_ : W.cell? ⟨wr.heap.size, 1, none⟩ = some (.int .i64 (g 1)) := h2 1 _ rfl; have q2_ : W.cell? ⟨wr.heap.size, 2, none⟩ = some (.int .i64 (g 2)) := h2 2 _ rfl; have q3_ : W.cell? ⟨wr.heap.size, 3, none⟩ = some (.int .i64 (g 3)) := h2 3 _ rfl; have q4_ : W.cell? ⟨wr.heap.size, 4, none⟩ = some (.int .i64 (g 4)) := h2 4 _ rfl; have q5_ : W.cell? ⟨wr.heap.size, 5, none⟩ = some (.int .i64 (g 5)) := h2 5 _ rfl; have q6_ : W.cell? ⟨wr.heap.size, 6, none⟩ = some (.int .i64 (g 6)) := h2 6 _ rfl; have q7_ : W.cell? ⟨wr.heap.size, 7, none⟩ = some (.int .i64 (g 7)) := h2 7 _ rfl; have q8_ : W.cell? ⟨wr.heap.size, 8, none⟩ = some (.int .i64 (g 8)) := h2 8 _ rfl; go_simp; try with_reducible rfl)
      case hh8 =>
      (try simp only [Act.put])
      refine wpAnyT_take (i := 9) (v := ?v9) rfl (by kernel_rfl) (by kernel_rfl) (by kernel_rfl) (by kernel_rfl) (by kernel_rfl) (fun _ _ _ h => h) (SS.out _ B0.out) rfl ?hy9 ?hh9
      case hy9 => (intro W hW; obtain ⟨h1, h2, h3, h4⟩ := hW; have q0_ : W.cell? ⟨wr.heap.size, 0, none⟩ = some (.int .i64 (g 0)) := h2 0 _ rfl; have q1_ : W.cell? ⟨wr.heap.size, 1, none⟩ = some (.int .i64 (g 1)) := h2 1 _ rfl; have q2_ : W.cell? ⟨wr.heap.size, 2, none⟩ = some (.int .i64 (g 2)) := h2 2 _ rfl; have q3_ : W.cell? ⟨wr.heap.size, 3, none⟩ = some (.int .i64 (g 3)) := h2 3 _ rfl; have q4_ : W.cell? ⟨wr.heap.size, 4, none⟩ = some (.int .i64 (g 4)) := h2 4 _ rfl; have q5_ : W.cell? ⟨wr.heap.size, 5, none⟩ = some (.int .i64 (g 5)) := h2 5 _ rfl; have q6_ : W.cell? ⟨wr.heap.size, 6, none⟩ = some (.int .i64 (g 6)) := h2 6 _ rfl; have q7_ : W.cell? ⟨wr.heap.size, 7, none⟩ = some (.int .i64 (g 7)) := h2 7 _ rfl; have q8_ : W.cell? ⟨wr.heap.size, 8, none⟩ = some (.int .i64 (g 8)) := h2 8 _ rfl; go_simp; try with_reducible rfl)
      case hh9 =>
      (try simp only [Act.put])
      refine wpAnyT_take (i := 10) (v := ?v10) rfl (by kernel_rfl) (by kernel_rfl) (by kernel_rfl) (by kernel_rfl) (by kernel_rfl) (fun _ _ _ h => h) (SS.out _ B0.out) rfl ?hy10 ?hh10
      case hy10 => (intro W hW; obtain ⟨h1, h2, h3, h4⟩ := hW; have q0_ : W.cell? ⟨wr.heap.size, 0, none⟩ = some (.int .i64 (g 0)) := h2 0 _ rfl; have q1_ : W.cell? ⟨wr.heap.size, 1, none⟩ = some (.int .i64 (g 1)) := h2 1 _ rfl; have q2_ : W.cell? ⟨wr.heap.size, 2, none⟩ = some (.int .i64 (g 2)) := h2 2 _ rfl; have q3_ : W.cell? ⟨wr.heap.size, 3, none⟩ = some (.int .i64 (g 3)) := h2 3 _ rfl; have q4_ : W.cell? ⟨wr.heap.size, 4, none⟩ = some (.int .i64 (g 4)) := h2 4 _ rfl; have q5_ : W.cell? ⟨wr.heap.size, 5, none⟩ = some (.int .i64 (g 5)) := h2 5 _ rfl; have q6_ : W.cell? ⟨wr.heap.size, 6, none⟩ = some (.int .i64 (g 6)) := h2 6 _ rfl; have q7_ : W.cell? ⟨wr.heap.size, 7, none⟩ = some (.int .i64 (g 7)) := h2 7 _ rfl; have q8_ : W.cell? ⟨wr.heap.size, 8, none⟩ = some (.int .i64 (g 8)) := h2 8 _ rfl; go_simp; try with_reducible rfl)
      case hh10 =>
      (try simp only [Act.put])
      refine wpAnyT_only (i := 7) rfl (by kernel_rfl) (fun K hK => ?_)
      go_simp
      go_at_call 50
      refine (iDualLine (g 9) _).mono ?_
      rintro e w' ⟨rfl, hw⟩
      obtain rfl := hw.symm
      refine hK _ _ (fun _ _ => SS.out _ B0.out) ?_
      clear hK K
      (try simp only [Act.put])
      refine wpAnyT_only (i := 11) rfl (by kernel_rfl) (fun K hK => ?_)
      go_simp
      go_at_call 50
      refine (iDualLine (g 10) _).mono ?_
      rintro e w' ⟨rfl, hw⟩
      obtain rfl := hw.symm
      refine hK _ _ (fun _ _ => SS.out _ B0.out) ?_
      clear hK K
      (try simp only [Act.put])
      refine wpAnyT_take (i := 12) (v := ?v11) rfl (by kernel_rfl) (by kernel_rfl) (by kernel_rfl) (by kernel_rfl) (by kernel_rfl) (fun _ _ _ h => h) (SS.out _ B0.out) rfl ?hy11 ?hh11
      case hy11 => (intro W hW; obtain ⟨h1, h2, h3, h4⟩ := hW; have q0_ : W.cell? ⟨wr.heap.size, 0, none⟩ = some (.int .i64 (g 0)) := h2 0 _ rfl; have q1_ : W.cell? ⟨wr.heap.size, 1, none⟩ = some (.int .i64 (g 1)) := h2 1 _ rfl; have q2_ : W.cell? ⟨wr.heap.size, 2, none⟩ = some (.int .i64 (g 2)) := h2 2 _ rfl; have q3_ : W.cell? ⟨wr.heap.size, 3, none⟩ = some (.int .i64 (g 3)) := h2 3 _ rfl; have q4_ : W.cell? ⟨wr.heap.size, 4, none⟩ = some (.int .i64 (g 4)) := h2 4 _ rfl; have q5_ : W.cell? ⟨wr.heap.size, 5, none⟩ = some (.int .i64 (g 5)) := h2 5 _ rfl; have q6_ : W.cell? ⟨wr.heap.size, 6, none⟩ = some (.int .i64 (g 6)) := h2 6 _ rfl; have q7_ : W.cell? ⟨wr.heap.size, 7, none⟩ = some (.int .i64 (g 7)) := h2 7 _ rfl; have q8_ : W.cell? ⟨wr.heap.size, 8, none⟩ = some (.int .i64 (g 8)) := h2 8 _ rfl; go_simp; try with_reducible rfl)
      case hh11 =>
      (try simp only [Act.put])
      refine wpAnyT_only (i := 13) rfl (by kernel_rfl) (fun K hK => ?_)
      go_simp
      have B1_ : Below A.heap.size A (v0.alloc (.cells #[.int .i64 (g 0), .int .i64 (g 1), .int .i64 (g 2), .int .i64 (g 3), .int .i64 (g 4), .int .i64 (g 5), .int .i64 (g 6), .int .i64 (g 7), .int .i64 (g 8), .int .i64 (Tm.otherL (g 9)), .int .i64 (Tm.otherL (g 10))] 59)) := B0.out.alloc s0 _
      refine hK _ _ (fun _ _ => SS.out _ B1_) ?_
      clear hK K
      (try simp only [Act.put])
      have BW : Hid (Below wr.heap.size wr (v0.alloc (.cells #[.int .i64 (g 0), .int .i64 (g 1), .int .i64 (g 2), .int .i64 (g 3), .int .i64 (g 4), .int .i64 (g 5), .int .i64 (g 6), .int .i64 (g 7), .int .i64 (g 8), .int .i64 (Tm.otherL (g 9)), .int .i64 (Tm.otherL (g 10))] 59))) := Lib.hid (bA.trans (B1_.mono (by omega)))
      refine wpAnyT_only (i := 14) rfl (by kernel_rfl) (fun K hK => ?_)
      refine step_append_opt rfl (.tmp 21) (.tmp 33) 22 rfl (w.heap.size + 3) 59 i0 (.agg #[.int .i64 0, .int .i64 0, .int .i64 0, .int .i64 0, .int .i64 0, .int .i64 0, .int .i64 0, .int .i64 0, .int .i64 0, .int .i64 0, .int .i64 0]) 11 88 Try.underlying22 hi hz0 hz1 hz2 rfl (by decide) (.slice a' j c') j ((Tm.flat ((L.take j).map (Tm.renG Tm.otherL))).map (Value.int .i64)) (by simp [Act.eval]) (own_below HO.out BW.out) (some ⟨v0.heap.size, 0, none⟩) 1 1 (gcells (Tm.renG Tm.otherL g)) (by simp [Act.eval]) rfl (fun e => by cases e) (fun ad had => by cases had; exact fun q u hq => app_g v0 _ (Tm.renG Tm.otherL g) _ rfl q u hq) (gcells_one _) (by unfold maxLen; omega) (by omega) (by simp; omega) ?_
      intro v1 w3 hown hgrow hat
      obtain ⟨r0, f0⟩ := grown_reads hgrow (w.heap.size + 1 + 1) (by simp; omega) (fun e => by have := (HO.out.lt _ e.symm).1; omega)
      have u0 : w3.cell? ⟨w.heap.size + 1 + 1, 0, none⟩ = some (.int .i64 k) := by rw [r0, BW.out.cell (p := ⟨w.heap.size + 1 + 1, 0, none⟩) lt5]; exact GR.out.c0
      have x1 : w3.cell? ⟨w.heap.size + 1 + 1, 1, none⟩ = some (.slice a' j c') := by rw [r0, BW.out.cell (p := ⟨w.heap.size + 1 + 1, 1, none⟩) lt5]; exact GR.out.c1
      have u2 : w3.cell? ⟨w.heap.size + 1 + 1, 2, none⟩ = some (.slice none 0 0) := by rw [r0, BW.out.cell (p := ⟨w.heap.size + 1 + 1, 2, none⟩) lt5]; exact GR.out.c2
      have uf : ∀ i, w3.frozen? ⟨w.heap.size + 1 + 1, i, none⟩ = false := fun i => by rw [f0]; exact (World.frozen?_of_block (a := ⟨w.heap.size + 1 + 1, i, none⟩) (BW.out.block _ lt5)).trans (GR.out.fz i)
      have y1 := uf 1
      have ul : w.heap.size + 1 + 1 < w3.heap.size := Nat.lt_of_lt_of_le (by simp; omega) hgrow.size
      obtain ⟨a1, c1, rfl⟩ := own_formS hown
      have NG : Hid (Gr (w.heap.size + 3) W1 (w3.setCell ⟨w.heap.size + 1 + 1, 1, none⟩ (.slice a1 (j + 1) c1)) (w.heap.size + 1 + 1) k a1 (j + 1) c1 ((L.take (j + 1)).map (Tm.renG Tm.otherL)) (.slice none 0 0)) := Lib.hid (by
        have NE : (Value.slice a1 (j + 1) c1).ownBlock ≠ some (w.heap.size + 1 + 1) := fun e => by have := (hown.lt _ e).1; omega
        have ow := own_set hown (w.heap.size + 1 + 1) 1 (.slice a1 (j + 1) c1) NE
        have EQ : (Tm.flat ((L.take j).map (Tm.renG Tm.otherL))).map (Value.int .i64) ++ gcells (Tm.renG Tm.otherL g) = (Tm.flat ((L.take (j + 1)).map (Tm.renG Tm.otherL))).map (Value.int .i64) := by
          rw [Tm.take_snoc' L Tm.g0 hlt, ← GG.out, List.map_append, Tm.flat_append, List.map_append]; rfl
        rw [EQ] at ow
        have hb3 : Below (w.heap.size + 1 + 1) W1 w3 := Below.grown (GR.out.bb.trans (BW.out.mono (by omega))) hgrow (by simp; omega) (fun q hq => by have := (HO.out.lt _ hq).1; omega)
        exact ⟨ow, by rw [World.cell?_setCell_other _ _ _ _ (by simp)]; exact u0, World.cell?_setCell_same _ _ _ x1, by rw [World.cell?_setCell_other _ _ _ _ (by simp)]; exact u2, fun i => by rw [World.frozen?_setCell]; exact uf i, Below.trans' hb3 (w.heap.size + 1 + 1) 1 (.slice a1 (j + 1) c1), by rw [World.size_setCell]; exact ul, by omega⟩)
      refine hK _ _ (fun h => (h (by decide)).elim) ?_
      clear hK K hown hgrow hat u0 u2 uf r0 f0
      (try simp only [Act.put])
      refine wpAnyT_takeA (i := 15) (v := ?v12) rfl (by kernel_rfl) (by kernel_rfl) (by kernel_rfl) (fun _ _ _ h => h) rfl ?hy12 ?hh12
      case hy12 => (intro W; go_simp; try with_reducible rfl)
      case hh12 =>
      (try simp only [Act.put])
      refine wpAnyT_only (i := 16) rfl (by kernel_rfl) (fun K hK => ?_)
      go_simp
      refine hK _ _ (fun h => (h (by decide)).elim) ?_
      clear hK K x1 y1 ul
      (try simp only [Act.put])
      refine wpAnyT_done (by kernel_rfl) ?_ _
      generalize World.setCell w3 _ _ = w9 at NG ⊢
      clear SS HO FL hu45 hi45 BW BV B1_ B0
      go_wp2_with fail
      exact ⟨⟨j + 1, a1, c1, by omega, by go_num, NG⟩, by simp [intOf]; omega⟩
    · obtain rfl : j = L.length := by omega
      rw [List.take_length] at GR
      have t2 := (World.cell?_of_block (a := ⟨w.heap.size, 2, none⟩) (GR.out.bb.block w.heap.size (by omega))).trans D1.out
      have lt0 : w.heap.size < wr.heap.size := by omega
      have G2 : Hid (GrO (w.heap.size + 3) W1 wr (w.heap.size + 1 + 1) k a' L.length c' (L.map (Tm.renG Tm.otherL)) none 0 0 ((o.take 0).map Tm.otherL)) := Lib.hid ⟨GR.out.own, ⟨by simp, .inl ⟨rfl, rfl⟩⟩, (fun q _ e => by cases e), GR.out.c0, GR.out.c1, GR.out.c2, GR.out.fz, GR.out.bb, GR.out.lt, GR.out.lb⟩
      go_wp2_with fail
      clear GR
      go_loopw [40] (fun i wr => ∃ (j : Nat) (b' : Option Addr) (d' : Nat), j ≤ o.length ∧ i = .int .i64 j ∧ Hid (GrO (w.heap.size + 3) W1 wr (w.heap.size + 1 + 1) k a' L.length c' (L.map (Tm.renG Tm.otherL)) b' j d' ((o.take j).map Tm.otherL))) (fun i _ => o.length - (intOf i).toNat)
      case atStart => exact ⟨0, none, 0, by omega, rfl, G2⟩
      case round =>
        clear G2
        obtain ⟨j, b', d', hj, rfl, GO⟩ := hrel
        have hbv : Below w.heap.size w wr := B1.trans (GO.out.bb.mono (by omega))
        have lt6 := GO.out.lt
        have t0 := GO.out.c0
        have t1 := GO.out.c1
        have t3 := GO.out.c2
        have tf := GO.out.fz
        by_cases hlt : j < o.length
        · obtain ⟨-, -, -, y⟩ := H.out.2.below hbv
          rcases y with h0 | ⟨bb2, oo2, rfl, hbl2, hc2⟩
          · omega
          have cj := hc2 j hlt
          obtain ⟨x, hx⟩ : ∃ x, x = o.getD j 0 := ⟨_, rfl⟩
          rw [← hx] at cj
          have XX := Lib.hid hx
          clear hx hc2
          have HO := Lib.hid GO.out.oi
          obtain ⟨i1, hj1, hy0, hy1, hy2⟩ := info_parts infoInt
          go_wp2_with fail
          go_region_law (first
            | (refine step_append_opt rfl (.tmp 45) (.tmp 49) 23 rfl (w.heap.size + 3) 3 i1 (.int .i64 0) 1 8 Try.underlying23 hj1 hy0 hy1 hy2 rfl (by decide) (.slice b' j d') j (((o.take j).map Tm.otherL).map (Value.int .i64)) (by first | rfl | (simp [Act.eval]; done)) (own_below HO.out (by ((repeat' (first | (with_reducible exact Below.refl _ _) | (with_reducible assumption) | (with_reducible refine below_drewN ?_ _) | (with_reducible refine Below.drew ?_) | (with_reducible refine Below.alloc ?_ ?_ _) | (with_reducible refine Below.setCell ?_ ?_ _) | (with_reducible refine below_gw ?_ ?_ _) | (with_reducible refine below_via ?_ ‹Below _ _ _› ?_) | (with_reducible exact Nat.le_refl _) | (with_reducible refine le_gw ?_ _) | (with_reducible refine le_alloc ?_ _) | (with_reducible refine le_setCell ?_ _ _) | (with_reducible refine le_drew ?_) | (with_reducible refine le_drewN ?_ _) | go_size))); done)) (some ⟨wr.heap.size, 0, none⟩) 1 1 [.int .i64 (Tm.otherL x)] (by first | rfl | (simp [Act.eval]; done)) rfl (fun e => by cases e) (fun ad had => by cases had; exact fun q u hq => app_c1 wr _ _ q u hq) (app_c2 _) (by unfold maxLen; omega) (by omega) (by simp; omega) ?_; intro v1 w3 hown hgrow hat; obtain ⟨r0, f0⟩ := grown_reads hgrow (w.heap.size + 1 + 1) (by first | (simp; done) | (simp; omega)) (fun e => by have := (HO.out.lt _ e.symm).1; omega); have x1 : w3.cell? ⟨w.heap.size + 1 + 1, 2, none⟩ = some (.slice b' j d') := (by rw [r0]; go_simp); have y1 : w3.frozen? ⟨w.heap.size + 1 + 1, 2, none⟩ = false := (by rw [f0]; go_simp); obtain ⟨b1, d1, rfl⟩ := own_formS hown; have HOW := Lib.hid hown; have HGR := Lib.hid hgrow; have HAT := Lib.hid hat; clear hown hgrow hat r0 f0)
            | (go_simp; go_at_call 50; (with_reducible refine (iDualLine x _).mono ?_); rintro e w3 ⟨rfl, rfl⟩))
          all_goals
            have NG : Hid (GrO (w.heap.size + 3) W1 (w3.setCell ⟨w.heap.size + 1 + 1, 2, none⟩ (.slice b1 (j + 1) d1)) (w.heap.size + 1 + 1) k a' L.length c' (L.map (Tm.renG Tm.otherL)) b1 (j + 1) d1 ((o.take (j + 1)).map Tm.otherL)) := Lib.hid (by
              obtain ⟨rr, rf⟩ := grown_reads HGR.out (w.heap.size + 1 + 1) (by simp; omega) (fun e => by have := (HO.out.lt _ e.symm).1; omega)
              have u0 : w3.cell? ⟨w.heap.size + 1 + 1, 0, none⟩ = some (.int .i64 k) := by rw [rr]; go_simp
              have u1 : w3.cell? ⟨w.heap.size + 1 + 1, 1, none⟩ = some (.slice a' L.length c') := by rw [rr]; go_simp
              have uf : ∀ i, w3.frozen? ⟨w.heap.size + 1 + 1, i, none⟩ = false := fun i => by rw [rf]; go_simp
              have ul : w.heap.size + 1 + 1 < w3.heap.size := Nat.lt_of_lt_of_le (by simp; omega) HGR.out.size
              have NE : (Value.slice b1 (j + 1) d1).ownBlock ≠ some (w.heap.size + 1 + 1) := fun e => by have := (HOW.out.lt _ e).1; omega
              have NA : (Value.slice a' L.length c').ownBlock ≠ some (w.heap.size + 1 + 1) := fun e => by have := (GO.out.own.lt _ e).1; omega
              have ow := own_set HOW.out (w.heap.size + 1 + 1) 2 (.slice b1 (j + 1) d1) NE
              have EQ : ((o.take j).map Tm.otherL).map (Value.int .i64) ++ [.int .i64 (Tm.otherL x)] = ((o.take (j + 1)).map Tm.otherL).map (Value.int .i64) := by
                rw [Tm.take_snoc' o 0 hlt, ← XX.out, List.map_append, List.map_append]; rfl
              rw [EQ] at ow
              have og : w3.ownsRow (w.heap.size + 3) 59 11 (.slice a' L.length c') L.length ((Tm.flat (L.map (Tm.renG Tm.otherL))).map (Value.int .i64)) := own_stable GO.out.own fun q hq => by
                have lq := (GO.out.own.lt q hq).2
                rw [HGR.out.block q (by simp; omega) (fun e => GO.out.ap q hq e.symm)]
                exact ((Below.refl wr.heap.size wr).alloc (Nat.le_refl _) _).drew.block q lq
              have hb3 : Below (w.heap.size + 1 + 1) W1 w3 := Below.grown ((GO.out.bb.alloc (by omega) _).drew) HGR.out (by simp; omega) (fun q hq => by have := (HO.out.lt _ hq).1; omega)
              refine ⟨own_set og (w.heap.size + 1 + 1) 2 (.slice b1 (j + 1) d1) NA, ow, fun q h1 h2 => ?_, by rw [World.cell?_setCell_other _ _ _ _ (by simp)]; exact u0, by rw [World.cell?_setCell_other _ _ _ _ (by simp)]; exact u1, World.cell?_setCell_same _ _ _ x1, fun i => by rw [World.frozen?_setCell]; exact uf i, Below.trans' hb3 (w.heap.size + 1 + 1) 2 (.slice b1 (j + 1) d1), by rw [World.size_setCell]; exact ul, by omega⟩
              rcases HAT.out with e | e
              · rw [e] at h2; exact GO.out.ap q h1 h2
              · rw [e] at h2
                have h3 := Option.some.inj h2
                have h4 := (GO.out.own.lt q h1).2
                simp at h3
                omega)
            clear HO HOW HGR HAT x1 y1 t0 t1 t3 tf GO
            go_wp2_with fail
            exact ⟨⟨j + 1, b1, d1, by omega, by go_num, NG⟩, by simp [intOf]; omega⟩
        · obtain rfl : j = o.length := by omega
          rw [List.take_length] at GO
          have br := GO.out.bb.block (w.heap.size + 1) (by omega)
          have RR : ∀ i, i < 3 → wr.frozen? ⟨w.heap.size + 1, i, none⟩ = false ∧ ∃ u, wr.cell? ⟨w.heap.size + 1, i, none⟩ = some u := fun i hi => by
            obtain ⟨f, u, hu⟩ := R1.out i hi
            exact ⟨(World.frozen?_of_block (a := ⟨w.heap.size + 1, i, none⟩) br).trans f, u, (World.cell?_of_block (a := ⟨w.heap.size + 1, i, none⟩) br).trans hu⟩
          obtain ⟨f0, u0, r0⟩ := RR 0 (by omega)
          obtain ⟨f1, u1, r1⟩ := RR 1 (by omega)
          obtain ⟨f2, u2, r2⟩ := RR 2 (by omega)
          obtain ⟨m0, m1, m2⟩ := three_cells r0 r1 r2 (.int .i64 k) (.slice a' L.length c') (.slice b' o.length d')
          clear RR br
          go_wp2_with fail
          refine bodyPost_ret (v := circV k a' L.length c' b' o.length d') (by simp [results, Try.results49, go_sem, m0, m1, m2]) rfl ?_
          have ll : (L.map (Tm.renG Tm.otherL)).length = L.length := List.length_map ..
          have lo : (o.map Tm.otherL).length = o.length := List.length_map ..
          have NE : ∀ v : Value, (∀ q, v.ownBlock = some q → w.heap.size + 3 ≤ q) → v.ownBlock ≠ some (w.heap.size + 1) := fun v h e => by have := h _ e; omega
          have N1 := NE (.slice a' L.length c') (fun q hq => (GO.out.own.lt q hq).1)
          have N2 := NE (.slice b' o.length d') (fun q hq => (GO.out.oi.lt q hq).1)
          have O1 := own_weak2 (own_set (own_set (own_set GO.out.own (w.heap.size + 1) 0 (.int .i64 k) N1) (w.heap.size + 1) 1 (.slice a' L.length c') N1) (w.heap.size + 1) 2 (.slice b' o.length d') N1) (show w.heap.size ≤ w.heap.size + 3 by omega)
          have O2 := own_weak2 (own_set (own_set (own_set GO.out.oi (w.heap.size + 1) 0 (.int .i64 k) N2) (w.heap.size + 1) 1 (.slice a' L.length c') N2) (w.heap.size + 1) 2 (.slice b' o.length d') N2) (show w.heap.size ≤ w.heap.size + 3 by omega)
          have hbF := Below.trans' (Below.trans' (Below.trans' hbv (w.heap.size + 1) 0 (.int .i64 k)) (w.heap.size + 1) 1 (.slice a' L.length c')) (w.heap.size + 1) 2 (.slice b' o.length d')
          refine ⟨a', c', b', d', by rw [ll, lo], ?_, hbF, by omega, by omega⟩
          rw [ll, lo]
          exact ⟨⟨O1, fun q hq => (O1.lt q hq).2⟩, ⟨by rw [lo]; exact O2, fun q hq => (O2.lt q hq).2⟩, GO.out.ap, lo⟩
end Go.Proofs.Ytjbmgppgkgacpaa

/- What the laws draw: programs. -/
import Derived.Test.YtfnhoiomdjmjhaaDoorMDo
namespace Go.Proofs.YtfnhoiomdjmjhaaDoor
set_option maxRecDepth 20000
open Go.RowKit
theorem own_formN {w : World} {B e n z : Nat} {v : Value} {xs : List Value} (h : w.ownsRow B e z v n xs) : ∃ b c, v = .slice b n c := by
  rcases h.2 with ⟨rfl, rfl⟩ | ⟨g, cap, cur, rfl, _⟩
  · exact ⟨none, 0, rfl⟩
  · exact ⟨_, _, rfl⟩
theorem news_op (W : World) (x : Nat → Int) (t : TypeId) (g : Nat) (hg : g = W.heap.size) : ∀ j u, (ocells x)[j]? = some u → (W.alloc (.cells #[.int .i64 (x 0), .int .i64 (x 1), .int .i64 (x 2), .int .i64 (x 3)] t)).cell? ((⟨g, 0, none⟩ : Addr).add j) = some u := by
  subst hg
  intro j u hj
  obtain ⟨c0, c1, c2, c3⟩ := (blk4_new W (.int .i64 (x 0)) (.int .i64 (x 1)) (.int .i64 (x 2)) (.int .i64 (x 3)) t).cells
  rw [add_at]
  match j with
  | 0 => rw [c0]; exact hj
  | 1 => rw [c1]; exact hj
  | 2 => rw [c2]; exact hj
  | 3 => rw [c3]; exact hj
  | j + 4 => simp [ocells] at hj
/-- What a draw of a program keeps: the cursor, the operations so far. -/
structure Drp (w wr : World) (q p : Nat) (a : Option Addr) (m cap : Nat) (v : Value) (L : List (Nat → Int)) : Prop where
  cur : Cur wr q p a m cap
  own : wr.ownsRow w.heap.size 35 4 v L.length ((Tm.flatO L).map (Value.int .i64))
  grown : w.grownBy wr (some p)
  pl : p < w.heap.size
theorem Drp.moved {w wr w2 : World} {q p : Nat} {a : Option Addr} {m cap : Nat} {v : Value} {L : List (Nat → Int)} (h : Drp w wr q p a m cap v L) (hc : Cur w2 q p a m cap) (hg : wr.grownBy w2 (some p)) : Drp w w2 q p a m cap v L :=
  ⟨hc, h.own.kept hg (by
    cases hv : v.ownBlock with
    | none => exact .inl rfl
    | some k => have := (h.own.lt k hv).1; have := h.pl; exact .inr (by simp; omega)), grown_trans h.grown hg, h.pl⟩
theorem Drp.append {w wr w2 : World} {q p : Nat} {a : Option Addr} {m cap : Nat} {v v' : Value} {L : List (Nat → Int)} {x : Nat → Int} (h : Drp w wr q p a m cap v L) (ho : w2.ownsRow w.heap.size 35 4 v' (L.length + 1) ((Tm.flatO L).map (Value.int .i64) ++ ocells x)) (hg : wr.grownBy w2 v.ownBlock) : Drp w w2 q p a m cap v' (L ++ [x]) := by
  have qp := h.cur.qp
  have pl := h.pl
  have gs := h.grown.size
  have nb : ∀ j, j < wr.heap.size → j < w.heap.size → w2.heap[j]? = wr.heap[j]? := fun j h1 h2 => hg.block j h1 (fun e => by have := (h.own.lt j e.symm).1; omega)
  refine ⟨h.cur.of_blocks (nb p (by omega) (by omega)) (fun b hb => nb b (by omega) (by omega)), ?_, ⟨hg.os.trans h.grown.os, hg.tape.trans h.grown.tape, hg.output.trans h.grown.output, by have := hg.size; omega, fun j hj hne => (nb j (by omega) hj).trans (h.grown.block j hj hne)⟩, pl⟩
  rw [Tm.flatO_append, List.map_append, List.length_append]
  exact ho
/-- A valid program is drawn. -/
def DrawnP (q p : Nat) (a : Option Addr) (m cap : Nat) (w : World) (e : Ending) (w' : World) : Prop :=
  ∃ (L : List (Nat → Int)) (b : Option Addr) (c : Nat), e = .returned (.slice b L.length c) ∧ Tm.codeOk L = true ∧ OpR w' b L.length c L ∧ Cur w' q p a m cap ∧ w.grownBy w' (some p)
set_option maxHeartbeats 2000000 in
theorem sCode7 (q p : Nat) (a : Option Addr) (m cap : Nat) (w : World) (hc : Cur w q p a m cap) : Calls Tryd.prog 16 #[.pointer (some ⟨p, 0, none⟩)] w (DrawnP q p a m cap w) := by
  obtain ⟨i0, hi, hz0, hz1, hz2⟩ := info_parts infoOp
  have hpl := hc.lt
  have HC := Lib.hid hc
  clear hc
  go_enter Tryd.func16, Tryd.ntmps16
  go_wp2_with fail
  refine (sBelow q p a m cap 20 _ HC.out (by omega) (by omega)).mono ?_
  rintro e w1 ⟨y, rfl, y0, y1, hc1, ht1⟩
  obtain ⟨N, hN⟩ : ∃ N : Nat, y = (N : Int) - 1 := ⟨(y + 1).toNat, by omega⟩
  subst hN
  have N1 : 1 ≤ N := by omega
  have N2 : N ≤ 20 := by omega
  have ew : IntKind.i64.wrap (1 + ((N : Int) - 1)) = (N : Int) := by rw [IntWalk.i64_in _ (by omega)]; omega
  have s1 := ht1.same
  have DD : Hid (Drp w (w1.alloc (.cells #[] 35)) q p a m cap (.slice (some ⟨w1.heap.size, 0, none⟩) 0 0) []) := Lib.hid ⟨hc1.below ((Below.refl _ _).alloc (Nat.le_refl _) _), World.ownsRow_lit w1 #[] 0 (by omega) (by omega) rfl, grown_alloc ht1.grown _, hpl⟩
  rw [s1] at DD
  clear hc1 ht1 HC y0 y1
  go_wp2_with fail
  go_loopw [4, 5] (fun v i wr => ∃ (j : Nat) (L : List (Nat → Int)) (b : Option Addr) (c : Nat), j ≤ N ∧ i = .int .i64 j ∧ v = .slice b j c ∧ L.length = j ∧ Hid (∀ y ∈ L, Tm.opOk (N : Int) y = true) ∧ Hid (Drp w wr q p a m cap (.slice b j c) L)) (fun _ i _ => N - (intOf i).toNat)
  case atStart => exact ⟨0, [], _, _, by omega, rfl, rfl, rfl, Lib.hid (by simp), DD⟩
  case round =>
    obtain ⟨j, L, b, c, hj, rfl, rfl, hL, HK, D⟩ := hrel
    clear DD
    by_cases hlt : j < N
    · go_wp2_with fail
      refine (sDraw7 q p a m cap (N : Int) _ D.out.cur (by omega) (by omega)).mono ?_
      rintro e w2 ⟨x, rfl, hx, hc2, hg2⟩
      have D2 := Lib.hid (D.out.moved hc2 hg2)
      have HX := Lib.hid hx
      clear hc2 hg2 hx D
      have DB := Lib.hid (D2.out.moved (w2 := w2.alloc (.cells #[.int .i64 (x 0), .int .i64 (x 1), .int .i64 (x 2), .int .i64 (x 3)] 35)) (D2.out.cur.below ((Below.refl _ _).alloc (Nat.le_refl _) _)) (grown_alloc (grown_refl _ _) _))
      have BB := Lib.hid (blk4_new w2 (.int .i64 (x 0)) (.int .i64 (x 1)) (.int .i64 (x 2)) (.int .i64 (x 3)) 35)
      by_cases h15 : x 0 = 15
      · rw [h15] at DB BB
        have hx0 := (Tm.opOk_iff _ _).1 HX.out
        rw [h15] at hx0
        have XX : x 1 = 0 ∧ x 2 = 0 ∧ x 3 = 0 := by omega
        have HXX := Lib.hid XX
        have pz : p < w2.heap.size := by have := D2.out.grown.size; omega
        clear hx0 XX
        go_wp2_with fail
        refine (sOnce q p a m cap 4 _ DB.out.cur (by omega) (by omega)).mono ?_
        rintro e w3 ⟨bo, rfl, hc3, ht3⟩
        have s3 := ht3.same
        simp only [World.size_alloc] at s3
        have D3 := Lib.hid (DB.out.moved hc3 ht3.grown)
        have B3 := Lib.hid (BB.out.keep (ht3.grown.block _ BB.out.lt (by simp; omega)))
        have l3 := B3.out.lt
        cases bo
        · have D5 : Hid (Drp w (w3.setCell ⟨w2.heap.size, 0, none⟩ (.int .i64 2)) q p a m cap (.slice b j c) L) := Lib.hid (D2.out.moved (hc3.set pz) (grown_set (grown_trans (grown_alloc (grown_refl _ _) _) ht3.grown) (Nat.le_refl _)))
          have HY : Hid (Tm.opOk (N : Int) (Tm.opF4 2 (x 1) (x 2) (x 3)) = true) := Lib.hid ((Tm.opOk_iff _ _).2 (by obtain ⟨h1, h2, h3⟩ := HXX.out; rw [h1, h2, h3]; simp [Tm.opF4]))
          obtain ⟨z0, z1, z2, z3⟩ := B3.out.cells
          have fz := B3.out.frozen
          clear hc3 ht3 DB BB D3
          have AW := Lib.hid (D5.out.moved (w2 := (w3.setCell ⟨w2.heap.size, 0, none⟩ (.int .i64 2)).alloc (.cells #[.int .i64 2, .int .i64 (x 1), .int .i64 (x 2), .int .i64 (x 3)] 35)) (D5.out.cur.below ((Below.refl _ _).alloc (Nat.le_refl _) _)) (grown_alloc (grown_refl _ _) _))
          have NW : Hid (∀ j u, (ocells (Tm.opF4 2 (x 1) (x 2) (x 3)))[j]? = some u → ((w3.setCell ⟨w2.heap.size, 0, none⟩ (.int .i64 2)).alloc (.cells #[.int .i64 2, .int .i64 (x 1), .int .i64 (x 2), .int .i64 (x 3)] 35)).cell? ((⟨w2.heap.size + 1, 0, none⟩ : Addr).add j) = some u) := Lib.hid (news_op _ (Tm.opF4 2 (x 1) (x 2) (x 3)) _ _ (by simp only [World.size_setCell]; omega))
          have OW := Lib.hid AW.out.own
          rw [hL] at OW
          have gz := AW.out.grown.size
          go_wp2_with (at_builtin; refine wpList_append_own_at _ rfl _ _ 23 rfl w.heap.size 35 i0 (.agg #[.int .i64 0, .int .i64 0, .int .i64 0, .int .i64 0]) 4 32 Tryd.underlying23 hi hz0 hz1 hz2 rfl (by decide) _ _ _ rfl OW.out ⟨w2.heap.size + 1, 0, none⟩ 1 1 (ocells (Tm.opF4 2 (x 1) (x 2) (x 3))) rfl rfl NW.out (by simp [ocells, Value.oneCell']) (by unfold maxLen; omega) (by omega) gz ?_)
          intro v' w4 hown hg _ _
          obtain ⟨b', c', rfl⟩ := own_formN hown
          have D4 := Lib.hid (AW.out.append (x := (Tm.opF4 2 (x 1) (x 2) (x 3))) (by rw [hL]; exact hown) hg)
          clear hown hg gz
          go_wp2
          exact ⟨⟨j + 1, L ++ [(Tm.opF4 2 (x 1) (x 2) (x 3))], b', c', by omega, by go_num, rfl, by simp [hL], Lib.hid (fun y hy => by rcases List.mem_append.1 hy with h | h; exact HK.out y h; (obtain rfl := List.mem_singleton.1 h; exact HY.out)), D4⟩, by simp [intOf]; omega⟩
        · have HY : Hid (Tm.opOk (N : Int) (Tm.opF4 15 (x 1) (x 2) (x 3)) = true) := Lib.hid ((Tm.opOk_iff _ _).2 (by obtain ⟨h1, h2, h3⟩ := HXX.out; rw [h1, h2, h3]; simp [Tm.opF4]))
          obtain ⟨z0, z1, z2, z3⟩ := B3.out.cells
          have fz := B3.out.frozen
          clear hc3 ht3 DB BB
          have AW := Lib.hid (D3.out.moved (w2 := (w3).alloc (.cells #[.int .i64 15, .int .i64 (x 1), .int .i64 (x 2), .int .i64 (x 3)] 35)) (D3.out.cur.below ((Below.refl _ _).alloc (Nat.le_refl _) _)) (grown_alloc (grown_refl _ _) _))
          have NW : Hid (∀ j u, (ocells (Tm.opF4 15 (x 1) (x 2) (x 3)))[j]? = some u → ((w3).alloc (.cells #[.int .i64 15, .int .i64 (x 1), .int .i64 (x 2), .int .i64 (x 3)] 35)).cell? ((⟨w2.heap.size + 1, 0, none⟩ : Addr).add j) = some u) := Lib.hid (news_op _ (Tm.opF4 15 (x 1) (x 2) (x 3)) _ _ (by omega))
          have OW := Lib.hid AW.out.own
          rw [hL] at OW
          have gz := AW.out.grown.size
          go_wp2_with (at_builtin; refine wpList_append_own_at _ rfl _ _ 23 rfl w.heap.size 35 i0 (.agg #[.int .i64 0, .int .i64 0, .int .i64 0, .int .i64 0]) 4 32 Tryd.underlying23 hi hz0 hz1 hz2 rfl (by decide) _ _ _ rfl OW.out ⟨w2.heap.size + 1, 0, none⟩ 1 1 (ocells (Tm.opF4 15 (x 1) (x 2) (x 3))) rfl rfl NW.out (by simp [ocells, Value.oneCell']) (by unfold maxLen; omega) (by omega) gz ?_)
          intro v' w4 hown hg _ _
          obtain ⟨b', c', rfl⟩ := own_formN hown
          have D4 := Lib.hid (AW.out.append (x := (Tm.opF4 15 (x 1) (x 2) (x 3))) (by rw [hL]; exact hown) hg)
          clear hown hg gz
          go_wp2
          exact ⟨⟨j + 1, L ++ [(Tm.opF4 15 (x 1) (x 2) (x 3))], b', c', by omega, by go_num, rfl, by simp [hL], Lib.hid (fun y hy => by rcases List.mem_append.1 hy with h | h; exact HK.out y h; (obtain rfl := List.mem_singleton.1 h; exact HY.out)), D4⟩, by simp [intOf]; omega⟩
      · skip
        have AW := Lib.hid (DB.out.moved (w2 := (w2.alloc (.cells #[.int .i64 (x 0), .int .i64 (x 1), .int .i64 (x 2), .int .i64 (x 3)] 35)).alloc (.cells #[.int .i64 (x 0), .int .i64 (x 1), .int .i64 (x 2), .int .i64 (x 3)] 35)) (DB.out.cur.below ((Below.refl _ _).alloc (Nat.le_refl _) _)) (grown_alloc (grown_refl _ _) _))
        have NW : Hid (∀ j u, (ocells x)[j]? = some u → ((w2.alloc (.cells #[.int .i64 (x 0), .int .i64 (x 1), .int .i64 (x 2), .int .i64 (x 3)] 35)).alloc (.cells #[.int .i64 (x 0), .int .i64 (x 1), .int .i64 (x 2), .int .i64 (x 3)] 35)).cell? ((⟨w2.heap.size + 1, 0, none⟩ : Addr).add j) = some u) := Lib.hid (news_op _ x _ _ (by simp))
        have OW := Lib.hid AW.out.own
        rw [hL] at OW
        have gz := AW.out.grown.size
        go_wp2_with (at_builtin; refine wpList_append_own_at _ rfl _ _ 23 rfl w.heap.size 35 i0 (.agg #[.int .i64 0, .int .i64 0, .int .i64 0, .int .i64 0]) 4 32 Tryd.underlying23 hi hz0 hz1 hz2 rfl (by decide) _ _ _ rfl OW.out ⟨w2.heap.size + 1, 0, none⟩ 1 1 (ocells x) rfl rfl NW.out (by simp [ocells, Value.oneCell']) (by unfold maxLen; omega) (by omega) gz ?_)
        intro v' w4 hown hg _ _
        obtain ⟨b', c', rfl⟩ := own_formN hown
        have D4 := Lib.hid (AW.out.append (x := x) (by rw [hL]; exact hown) hg)
        clear hown hg gz
        go_wp2
        exact ⟨⟨j + 1, L ++ [x], b', c', by omega, by go_num, rfl, by simp [hL], Lib.hid (fun y hy => by rcases List.mem_append.1 hy with h | h; exact HK.out y h; (obtain rfl := List.mem_singleton.1 h; exact HX.out)), D4⟩, by simp [intOf]; omega⟩
    · obtain rfl : j = N := by omega
      go_wp2
      go_ret
      exact ⟨L, b, c, by rw [hL]; rfl, Tm.codeOk_of (by omega) (fun i hi => by
        rw [hL, List.getD_eq_getElem?_getD, List.getElem?_eq_getElem hi]; exact HK.out _ (List.getElem_mem hi)), OpR.of_own (by rw [hL]; have := D.out.own; rwa [hL] at this) rfl, D.out.cur, D.out.grown⟩
end Go.Proofs.YtfnhoiomdjmjhaaDoor

/- The circle: the trits of all Lyndon words, one after the other: the model's and the program's. -/
import Derived.Test.YtfmpnkckaceigaaQL
import Derived.Laws.Append
import Derived.Laws.AppendOwn
namespace Go.Proofs.Ytfmpnkckaceigaa
set_option maxRecDepth 20000
open Go.RowKit
namespace Tm
def flatN (L : List (List Int)) (i : Nat) : List Int := (L.take i).flatten
theorem flatN_zero (L : List (List Int)) : flatN L 0 = [] := by simp [flatN]
theorem flatN_succ {L : List (List Int)} {i : Nat} (h : i < L.length) : flatN L (i + 1) = flatN L i ++ L.getD i [] := by
  rw [flatN, List.take_succ_eq_append_getElem h, List.flatten_append, flatN]
  simp [List.getD_eq_getElem?_getD, List.getElem?_eq_getElem h]
theorem flatN_all (L : List (List Int)) : flatN L L.length = L.flatten := by rw [flatN, List.take_length]
theorem flatN_len {L : List (List Int)} (h : ∀ x ∈ L, x.length ≤ 7) (i : Nat) : (flatN L i).length ≤ 7 * i := by
  rw [flatN, List.length_flatten]
  have hl : (L.take i).length ≤ i := List.length_take_le _ _
  have : ∀ (M : List (List Int)), (∀ x ∈ M, x.length ≤ 7) → (M.map List.length).sum ≤ 7 * M.length := by
    intro M hM
    induction M with
    | nil => simp
    | cons a M ih =>
      have := ih (fun x hx => hM x (by simp [hx]))
      have := hM a (by simp)
      simp only [List.map_cons, List.sum_cons, List.length_cons]; omega
  have := this (L.take i) (fun x hx => h x (List.mem_of_mem_take hx))
  omega
end Tm
set_option maxHeartbeats 1000000 in
theorem sCircleOf (k : Int) (w : World) : Calls Try.prog 35 #[.int .i64 k] w (RetIB 3 w (Tm.circle k) (Tm.lyOk k)) := by
  obtain ⟨i0, hi, hz0, hz1, hz2⟩ := info_parts infoInt
  have LM := Lib.hid (fun x (hx : x ∈ Tm.lyW k) => Tm.lyW_mem hx)
  have LL := Tm.lyW_length k
  rw [Tm.circle]
  have CL := Lib.hid (sLyndonWords k w)
  obtain ⟨L, hL⟩ : ∃ L, L = Tm.lyW k := ⟨_, rfl⟩
  rw [← hL] at LM LL CL ⊢
  have FL := Lib.hid (Tm.flatN_len (L := L) (fun x hx => (LM.out x hx).2.1))
  clear hL
  go_enter Try.func35, Try.ntmps35
  go_wp2_with fail
  refine CL.out.mono ?_
  rintro e w1 ⟨v, rfl, O, hb⟩
  obtain ⟨a1, c1, rfl, R⟩ := O.rows
  have RR := Lib.hid R
  have B1 := Lib.hid hb
  have hs1 := hb.size
  have rm := R.2.2.1
  unfold maxLen at rm
  have rc := R.2.1
  clear O R hb CL
  go_wp2_with fail
  go_loopw [6, 17] (fun v i wr => ∃ (j : Nat) (a' : Option Addr) (c' : Nat), j ≤ L.length ∧ i = .int .i64 j ∧ v = .slice a' (Tm.flatN L j).length c' ∧ Hid (wr.ownsRow w1.heap.size 3 1 (.slice a' (Tm.flatN L j).length c') (Tm.flatN L j).length ((Tm.flatN L j).map (Value.int .i64))) ∧ Hid (Below w1.heap.size w1 wr)) (fun _ i _ => L.length - (intOf i).toNat)
  case atStart => exact ⟨0, _, 0, by omega, rfl, by rw [Tm.flatN_zero]; rfl, Lib.hid (by rw [Tm.flatN_zero]; exact own_empty w1 _ _ (Nat.le_refl _)), Lib.hid (by (repeat' (first | (with_reducible exact Below.refl _ _) | (with_reducible assumption) | (with_reducible refine below_drewN ?_ _) | (with_reducible refine Below.drew ?_) | (with_reducible refine Below.alloc ?_ ?_ _) | (with_reducible refine Below.setCell ?_ ?_ _) | (with_reducible refine below_gw ?_ ?_ _) | (with_reducible refine below_via ?_ ‹Below _ _ _› ?_) | (with_reducible exact Nat.le_refl _) | (with_reducible refine le_gw ?_ _) | (with_reducible refine le_alloc ?_ _) | (with_reducible refine le_setCell ?_ _ _) | (with_reducible refine le_drew ?_) | (with_reducible refine le_drewN ?_ _) | go_size)))⟩
  case round =>
    obtain ⟨j, a', c', hj, rfl, rfl, OO, BB⟩ := hrel
    have hs := BB.out.size
    have FJ := FL.out j
    by_cases hlt : j < L.length
    · rcases (RR.out.below BB.out).2.2.2 with h0 | ⟨b, o, rfl, hbl, hc⟩
      · omega
      obtain ⟨a0, m0, c0, z0, j0⟩ := hc j hlt
      have FS := Lib.hid (Tm.flatN_succ hlt)
      have XM := LM.out (L.getD j []) (by
        rw [List.getD_eq_getElem?_getD, List.getElem?_eq_getElem hlt]; exact List.getElem_mem hlt)
      obtain ⟨x, hx⟩ : ∃ x, x = L.getD j [] := ⟨_, rfl⟩
      rw [← hx] at FS j0 XM
      obtain ⟨x1, x7, -⟩ := XM
      obtain rfl : m0 = x.length := j0.1.symm
      rcases j0.2.2.2 with h0 | ⟨b3, o3, rfl, hbl3, -⟩
      · omega
      have J0 := Lib.hid j0
      have FLN : (Tm.flatN L (j + 1)).length = (Tm.flatN L j).length + x.length := by rw [FS.out, List.length_append]
      obtain ⟨P, hP⟩ : ∃ P, P = Tm.flatN L j := ⟨_, rfl⟩
      rw [← hP] at OO FS FJ FLN ⊢
      clear hc hx hP j0
      go_wp2_with (at_builtin; refine wpList_append_own _ rfl _ _ 22 rfl w1.heap.size 3 i0 (.int .i64 0) 1 8 Try.underlying22 hi hz0 hz1 hz2 rfl (by decide) _ _ _ rfl OO.out ⟨b3, o3, none⟩ x.length c0 (x.map (Value.int .i64)) rfl (by simp) J0.out.newsAt (news_one _) (by unfold maxLen; omega) (by omega) (by omega) ?_)
      intro v' w4 hown' hgrow _
      have B4 : Hid (Below w1.heap.size w1 w4) := Lib.hid (BB.out.grown hgrow hs (fun k hk => (OO.out.lt k hk).1))
      have h5 : w4.ownsRow w1.heap.size 3 1 v' (Tm.flatN L (j + 1)).length ((Tm.flatN L (j + 1)).map (Value.int .i64)) := by rw [FLN, FS.out, List.map_append]; exact hown'
      obtain ⟨a4, c4, rfl⟩ := own_form h5
      have O4 := Lib.hid h5
      clear hown' hgrow h5 OO BB J0
      go_wp2
      exact ⟨⟨j + 1, a4, c4, by omega, by go_num, rfl, O4, B4⟩, by simp [intOf]; omega⟩
    · obtain rfl : j = L.length := by omega
      have B5 := Lib.hid (B1.out.trans (BB.out.mono hs1))
      have O5 := Lib.hid (own_weak OO.out hs1)
      rw [Tm.flatN_all] at FJ
      go_wp2_with fail
      go_ret2
      have O6 := O5.out
      rw [Tm.flatN_all] at O6 ⊢
      exact ret_own_b O6 B5.out (by omega)
theorem run_append_zerosN {P : Program} {w : World} (base : Nat) (t u ty e : TypeId) (i : TypeInfo) (z : Value) (ht : P.underlying t = some (.slice e)) (hu : P.underlying u = some (.int .i64)) (hi : P.info? e = some i) (hz : i.zero = some z)
    (hsize : i.size = 1) (hby : i.bytes = 8) (hzs : z.cells = #[.int .i64 0]) (k : Nat) (hk1 : 1 ≤ k) (hk : k ≤ 1048576) (hbase : base ≤ w.heap.size) :
    ∃ c w', (Builtin.append_ #[t, u] ty #[.slice none 0 0, .int .i64 (k : Int)]).run P w = .ok (.slice (some ⟨w.heap.size, 0, none⟩) k c) w' ∧ w'.ownsRow base e 1 (.slice (some ⟨w.heap.size, 0, none⟩) 0 c) 0 [] ∧ w.grownBy w' none ∧ c ≤ maxLen ∧ k ≤ c := by
  have wk : IntKind.i64.wrap (k : Int) = (k : Int) := IntWalk.i64_in _ (by omega)
  have zsz : ∀ k, (Builtin.zeroCells z.cells k).size = k := fun k => by rw [size_zeroCells, hzs]; simp
  have hge := grownCap_ge w k 0 e
  have hcm : grownCap w k 0 e ≤ maxLen := grownCap_le_maxLen w k 0 e (by unfold maxLen; omega)
  refine ⟨grownCap w k 0 e, w.drew.alloc (.cells (#[] ++ Builtin.zeroCells z.cells k ++ Builtin.zeroCells z.cells (grownCap w k 0 e - k)) e), ?_, ⟨by simp, .inr ⟨w.heap.size, _, _, rfl, hbase, heap_alloc_new w.drew _, by omega, hcm, ?_, by simp⟩⟩, ⟨rfl, rfl, rfl, by simp, fun k hk _ => ((Below.drew (Below.refl w.heap.size w)).alloc (Nat.le_refl _) _).block k hk⟩, hcm, hge⟩
  · have hnx : ¬ (281474976710656 < Builtin.nextslicecap k 0 * 8) := by
      have := growslice_fits (need := k) (old := 0) (bytes := 8) (by omega) (by omega)
      omega
    have g1 : ¬ ((k : Int) < 0) := by omega
    have g2 : ¬ (281474976710656 < (k : Int) * 8) := by omega
    have g3 : ¬ (k = 0) := by omega
    simp [Builtin.append_, run_underlying ht, run_underlying hu, sizeOf, typeInfo, zeroValue, hi, hz, hsize, hby, asInt, asIntOf, wk, Question.forced, newRow, grownCap, Builtin.firstCells, hnx, g1, g2, g3]
    intro hh
    omega
  · simp only [Array.size_append, zsz, Nat.mul_one]
    simp; omega
theorem wpList_append_zerosN {P : Program} (w : World) {ops : Array Oper} {rest : List Oper} {o : Oper} {a : Act} {Q : Exit → Act → World → Prop}
    (hg : o.guard = none) (s x : Operand) (t u : TypeId) (hop : o.op = Op.call { callee := Callee.builtin Builtin.append, args := #[s, x], argTypes := #[t, u] })
    (base : Nat) (e : TypeId) (i : TypeInfo) (z : Value) (ht : P.underlying t = some (.slice e)) (hu : P.underlying u = some (.int .i64)) (hi : P.info? e = some i) (hz : i.zero = some z)
    (hsize : i.size = 1) (hby : i.bytes = 8) (hzs : z.cells = #[.int .i64 0]) (k : Nat) (hs : a.eval s = .slice none 0 0) (hx : a.eval x = .int .i64 (k : Int)) (hk1 : 1 ≤ k) (hk : k ≤ 1048576) (hbase : base ≤ w.heap.size)
    (hK : ∀ c w', k ≤ c → c ≤ maxLen → w'.ownsRow base e 1 (.slice (some ⟨w.heap.size, 0, none⟩) 0 c) 0 [] → w.grownBy w' none → wpList P ops Q rest (a.put o.dst (.slice (some ⟨w.heap.size, 0, none⟩) k c)) w') :
    wpList P ops Q (o :: rest) a w := by
  refine wpList_plain hg fun K hK' => ?_
  obtain ⟨c, w', hrun, r1, r2, r3, r4⟩ := run_append_zerosN (P := P) base t u o.type e i z ht hu hi hz hsize hby hzs k hk1 hk hbase
  unfold Oper.wp
  simp [execOp, hop, resolve, invoke, builtin, hs, hx, hrun, Result.andThen]
  exact hK' _ _ (hK c w' r4 r3 r1 r2)
theorem underInt : Try.prog.underlying 3 = some (.int .i64) := by kernel_rfl
theorem iGrow (k : Nat) (w : World) (hk : k ≤ 1048576) : Calls Try.prog 75 #[.slice none 0 0, .int .i64 (k : Int)] w fun e w' => ∃ a c, e = .returned (.slice a 0 c) ∧ w'.ownsRow w.heap.size 3 1 (.slice a 0 c) 0 [] ∧ Below w.heap.size w w' := by
  obtain ⟨i0, hi, hz0, hz1, hz2⟩ := info_parts infoInt
  have kw : IntKind.i64.wrap (k : Int) = (k : Int) := IntWalk.i64_in _ (by omega)
  rcases Nat.eq_zero_or_pos k with h0 | h0
  · subst h0
    go_enter Try.func75, Try.ntmps75
    go_wp2
    go_ret
    exact ⟨_, _, rfl, World.ownsRow_nil _ _ _ _, by (repeat' (first | (with_reducible exact Below.refl _ _) | (with_reducible assumption) | (with_reducible refine below_drewN ?_ _) | (with_reducible refine Below.drew ?_) | (with_reducible refine Below.alloc ?_ ?_ _) | (with_reducible refine Below.setCell ?_ ?_ _) | (with_reducible refine below_gw ?_ ?_ _) | (with_reducible refine below_via ?_ ‹Below _ _ _› ?_) | (with_reducible exact Nat.le_refl _) | (with_reducible refine le_gw ?_ _) | (with_reducible refine le_alloc ?_ _) | (with_reducible refine le_setCell ?_ _ _) | (with_reducible refine le_drew ?_) | (with_reducible refine le_drewN ?_ _) | go_size))⟩
  · have kp : (0 : Int) < (k : Int) := by omega
    go_enter Try.func75, Try.ntmps75
    go_wp2_with (at_builtin; refine wpList_append_zerosN _ rfl _ _ 22 3 rfl w.heap.size 3 i0 (.int .i64 0) Try.underlying22 underInt hi hz0 hz1 hz2 rfl k rfl rfl h0 hk (Nat.le_refl _) ?_)
    intro c w1 kc cm hown hgrow
    have B1 : Hid (Below w.heap.size w w1) := Lib.hid ((Below.refl _ _).grown hgrow (Nat.le_refl _) (fun k hk => by cases hk))
    have O1 := Lib.hid hown
    unfold maxLen at cm
    clear hown hgrow
    go_wp2
    go_ret
    exact ⟨_, _, rfl, O1.out, B1.out⟩
set_option maxHeartbeats 1000000 in
theorem iConcat (a : Option Addr) (n cap : Nat) (L : List (List Int)) (w : World) (h : Rows w a n cap L) (hn : n ≤ 1000) (h7 : ∀ x ∈ L, 1 ≤ x.length ∧ x.length ≤ 7) : Calls Try.prog 63 #[.slice a n cap] w (RetI 3 w L.flatten) := by
  obtain ⟨i0, hi, hz0, hz1, hz2⟩ := info_parts infoInt
  have RR := Lib.hid h
  have LM := Lib.hid h7
  have rm := h.2.2.1
  unfold maxLen at rm
  have rc := h.2.1
  obtain rfl : n = L.length := h.1.symm
  have FL := Lib.hid (Tm.flatN_len (L := L) (fun x hx => (LM.out x hx).2))
  have FA := Lib.hid (Tm.flatN_all L)
  clear h h7
  go_enter Try.func63, Try.ntmps63
  go_wp2
  go_loop [3, 11] (fun s i => ∃ j : Nat, j ≤ L.length ∧ i = .int .i64 j ∧ s = .int .i64 ((Tm.flatN L j).length : Int)) (fun _ i => L.length - (intOf i).toNat)
  case atStart => exact ⟨0, by omega, rfl, by rw [Tm.flatN_zero]; rfl⟩
  case round =>
    obtain ⟨j, hj, rfl, rfl⟩ := hrel
    have FJ := FL.out j
    by_cases hlt : j < L.length
    · rcases RR.out.2.2.2 with h0 | ⟨b, o, rfl, hbl, hc⟩
      · omega
      obtain ⟨a0, m0, c0, z0, j0⟩ := hc j hlt
      have FS := Lib.hid (Tm.flatN_succ hlt)
      have XM := LM.out (L.getD j []) (by
        rw [List.getD_eq_getElem?_getD, List.getElem?_eq_getElem hlt]; exact List.getElem_mem hlt)
      obtain ⟨x, hx⟩ : ∃ x, x = L.getD j [] := ⟨_, rfl⟩
      rw [← hx] at FS j0 XM
      obtain ⟨x1, x7⟩ := XM
      obtain rfl : m0 = x.length := j0.1.symm
      have FLN : Hid ((Tm.flatN L (j + 1)).length = (Tm.flatN L j).length + x.length) := Lib.hid (by rw [FS.out, List.length_append])
      obtain ⟨p, hp⟩ : ∃ p, p = (Tm.flatN L j).length := ⟨_, rfl⟩
      rw [← hp] at FJ FLN ⊢
      clear hc hx hp j0 FS
      go_wp2
      exact ⟨⟨j + 1, by omega, by go_num, val_int (by rw [FLN.out]; omega)⟩, by simp [intOf]; omega⟩
    · obtain rfl : j = L.length := by omega
      have GR := Lib.hid (iGrow (Tm.flatN L L.length).length w (by omega))
      go_wp2_with fail
      refine GR.out.mono ?_
      rintro e w1 ⟨a1, c1, rfl, hown, hb⟩
      have O1 := Lib.hid hown
      have B1 := Lib.hid hb
      clear hown hb GR
      go_wp2_with fail
      go_loopw [6, 27] (fun v i wr => ∃ (j : Nat) (a' : Option Addr) (c' : Nat), j ≤ L.length ∧ i = .int .i64 j ∧ v = .slice a' (Tm.flatN L j).length c' ∧ Hid (wr.ownsRow w.heap.size 3 1 (.slice a' (Tm.flatN L j).length c') (Tm.flatN L j).length ((Tm.flatN L j).map (Value.int .i64))) ∧ Hid (Below w.heap.size w wr)) (fun _ i _ => L.length - (intOf i).toNat)
      case atStart => exact ⟨0, a1, c1, by omega, rfl, by rw [Tm.flatN_zero]; rfl, by rw [Tm.flatN_zero]; exact O1, B1⟩
      case round =>
        obtain ⟨j, a', c', hj, rfl, rfl, OO, BB⟩ := hrel
        have hs := BB.out.size
        have FJ := FL.out j
        by_cases hlt : j < L.length
        · rcases (RR.out.below BB.out).2.2.2 with h0 | ⟨b, o, rfl, hbl, hc⟩
          · omega
          obtain ⟨a0, m0, c0, z0, j0⟩ := hc j hlt
          have FS := Lib.hid (Tm.flatN_succ hlt)
          have XM := LM.out (L.getD j []) (by
            rw [List.getD_eq_getElem?_getD, List.getElem?_eq_getElem hlt]; exact List.getElem_mem hlt)
          obtain ⟨x, hx⟩ : ∃ x, x = L.getD j [] := ⟨_, rfl⟩
          rw [← hx] at FS j0 XM
          obtain ⟨x1, x7⟩ := XM
          obtain rfl : m0 = x.length := j0.1.symm
          rcases j0.2.2.2 with h0 | ⟨b3, o3, rfl, hbl3, -⟩
          · omega
          have J0 := Lib.hid j0
          have FLN : (Tm.flatN L (j + 1)).length = (Tm.flatN L j).length + x.length := by rw [FS.out, List.length_append]
          obtain ⟨P, hP⟩ : ∃ P, P = Tm.flatN L j := ⟨_, rfl⟩
          rw [← hP] at OO FS FJ FLN ⊢
          clear hc hx hP j0
          go_wp2_with (at_builtin; refine wpList_append_own _ rfl _ _ 22 rfl w.heap.size 3 i0 (.int .i64 0) 1 8 Try.underlying22 hi hz0 hz1 hz2 rfl (by decide) _ _ _ rfl OO.out ⟨b3, o3, none⟩ x.length c0 (x.map (Value.int .i64)) rfl (by simp) J0.out.newsAt (news_one _) (by unfold maxLen; omega) (by omega) (by omega) ?_)
          intro v' w4 hown' hgrow _
          have B4 : Hid (Below w.heap.size w w4) := Lib.hid (BB.out.grown hgrow hs (fun k hk => (OO.out.lt k hk).1))
          have h5 : w4.ownsRow w.heap.size 3 1 v' (Tm.flatN L (j + 1)).length ((Tm.flatN L (j + 1)).map (Value.int .i64)) := by rw [FLN, FS.out, List.map_append]; exact hown'
          obtain ⟨a4, c4, rfl⟩ := own_form h5
          have O4 := Lib.hid h5
          clear hown' hgrow h5 OO BB J0
          go_wp2
          exact ⟨⟨j + 1, a4, c4, by omega, by go_num, rfl, O4, B4⟩, by simp [intOf]; omega⟩
        · obtain rfl : j = L.length := by omega
          go_wp2_with fail
          go_ret
          have O6 := OO.out
          rw [FA.out] at O6 FJ ⊢
          exact ret_own O6 BB.out (by omega)
theorem iCircleOf (k : Int) (w : World) : Calls Try.prog 36 #[.int .i64 k] w (RetIB 3 w (Tm.circle k) (Tm.lyOk k)) := by
  have LM := Lib.hid (fun x (hx : x ∈ Tm.lyW k) => Tm.lyW_mem hx)
  have LL := Tm.lyW_length k
  rw [Tm.circle]
  have CL := Lib.hid (iLyndonWords k w)
  obtain ⟨L, hL⟩ : ∃ L, L = Tm.lyW k := ⟨_, rfl⟩
  rw [← hL] at LM LL CL ⊢
  clear hL
  go_enter Try.func36, Try.ntmps36
  go_wp2_with fail
  refine CL.out.mono ?_
  rintro e w1 ⟨v, rfl, O, hb⟩
  obtain ⟨a1, c1, rfl, R⟩ := O.rows
  have CC := Lib.hid (iConcat _ _ _ _ _ R (by omega) (fun x hx => ⟨(LM.out x hx).1, (LM.out x hx).2.1⟩))
  have B1 := Lib.hid hb
  have hs1 := hb.size
  clear O R hb CL
  go_wp2_with fail
  refine CC.out.mono ?_
  rintro e w2 ⟨a2, c2, rfl, hown, hb, ln⟩
  have O2 := Lib.hid (own_weak hown hs1)
  have B2 := Lib.hid (B1.out.trans (hb.mono hs1))
  clear hown hb CC
  go_wp2
  go_ret2
  exact ⟨_, _, by simp, O2.out, B2.out, ln⟩
end Go.Proofs.Ytfmpnkckaceigaa

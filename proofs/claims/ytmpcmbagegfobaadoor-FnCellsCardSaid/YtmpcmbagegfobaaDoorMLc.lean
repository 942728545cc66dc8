/- The walk of the law on cells. -/
import Derived.Test.YtmpcmbagegfobaaDoorMCp
import Derived.Test.YtmpcmbagegfobaaDoorMI3
import Derived.Test.YtmpcmbagegfobaaDoorMS1
import Derived.Test.YtmpcmbagegfobaaDoorLaw
import Derived.Test.YtmpcmbagegfobaaDoorWVal
import Derived.Test.YtmpcmbagegfobaaDoorGBox
import Derived.Test.YtmpcmbagegfobaaDoorWS4
namespace Go.Proofs.YtmpcmbagegfobaaDoor
set_option maxRecDepth 20000
open Go.RowKit
theorem opr_prog {W : World} {B : Nat} (x a b : Int) (t : TypeId) (hB : B = W.heap.size) : OpR (W.alloc (.cells #[.int .i64 1, .int .i64 x, .int .i64 0, .int .i64 0, .int .i64 1, .int .i64 a, .int .i64 0, .int .i64 0, .int .i64 12, .int .i64 0, .int .i64 0, .int .i64 0, .int .i64 1, .int .i64 a, .int .i64 0, .int .i64 0, .int .i64 11, .int .i64 0, .int .i64 0, .int .i64 0, .int .i64 7, .int .i64 0, .int .i64 0, .int .i64 0, .int .i64 10, .int .i64 b, .int .i64 0, .int .i64 0] t)) (some ⟨B, 0, none⟩) 7 7 (Tm.cProg x a b) := by
  subst hB
  refine ⟨rfl, by omega, by unfold maxLen; omega, .inr ⟨_, 0, rfl, by simp, fun i hi j hj => ?_⟩⟩
  match i, hi with
  | 0, _ | 1, _ | 2, _ | 3, _ | 4, _ | 5, _ | 6, _ =>
    match j, hj with
    | 0, _ | 1, _ | 2, _ | 3, _ => simp [Tm.cProg, Tm.opF]
namespace Tm
theorem wordL_isW (x : Int) : isW (wordL x 9) = true := by
  have l := wordL_length x 9
  unfold isW
  rw [Bool.and_eq_true, l, List.all_eq_true]
  exact ⟨fun z hz => (isT_iff z).2 (wordL_trits x 9 z hz), by decide⟩
theorem shf_nine {x k : Int} (h1 : -9 ≤ k) (h2 : k ≤ 9) : shfOk (wordL x 9) k = true ∧ 1 ≤ (shf (wordL x 9) k).length ∧ (shf (wordL x 9) k).length ≤ 18 := by
  have l := wordL_length x 9
  have ok : shfOk (wordL x 9) k = true := by unfold shfOk; rw [wordL_isW, l]; simp; omega
  refine ⟨ok, ?_, shf_len x k h2⟩
  unfold shf
  rw [ok]
  simp only [↓reduceIte]
  split
  · rw [List.length_append, List.length_replicate, l]; omega
  · split
    · simp
    · rename_i h3 h4
      rw [l] at h4
      rw [List.length_drop, l]; omega
theorem shC_take {x k : Int} (h1 : -9 ≤ k) (h2 : k ≤ 9) : value ((shf (wordL x 9) k).take 9) = shC x k := by
  obtain ⟨-, l1, l2⟩ := shf_nine (x := x) h1 h2
  have hw : isW ((shf (wordL x 9) k).take 9) = true := by
    unfold isW
    rw [Bool.and_eq_true, List.all_eq_true, List.length_take]
    exact ⟨fun z hz => shf_trits z (List.mem_of_mem_take hz), by simp; omega⟩
  unfold value
  rw [hw]; rfl
end Tm
theorem met_same2 {P : Program} {f : FuncId} {args : Array Value} {w : World} {p : Regrown} {v : Value}
    (h : ∀ W, Below w.heap.size w W → Calls P f args W fun e w' => e = .returned v ∧ W = w') : Calls P f args (Sort.grow (redrawn w p.d) p.os) fun e w'' => e = .returned v ∧ ∃ q : Regrown, w'' = Sort.grow (redrawn w q.d) q.os :=
  (h _ (below_regrown w p.d p.os)).mono fun _ _ hh => ⟨hh.1, p, hh.2.symm⟩
theorem ints_first {w : World} {a : Option Addr} {n c m : Nat} {xs : List Int} (h : Ints w a n c xs) (hm : m ≤ n) : Ints w a m c (xs.take m) := by
  obtain ⟨h1, h2, h3, h4⟩ := h
  refine ⟨by rw [List.length_take, h1]; omega, by omega, h3, ?_⟩
  rcases h4 with h4 | ⟨b, o, e, hb, hc⟩
  · exact .inl (by omega)
  · refine .inr ⟨b, o, e, hb, fun i hi => ?_⟩
    rw [hc i (by omega), List.getD_eq_getElem?_getD, List.getD_eq_getElem?_getD, List.getElem?_take, if_pos hi]
set_option maxHeartbeats 4000000 in
theorem wFnCells (a0 : Option Addr) (len0 cap0 : Nat) (z0 : List Int) (w : World) (w0 : IsRow .u8 w a0 len0 cap0 z0) (hT : OpsTab w) : Calls Tryd.prog 9 #[.slice a0 len0 cap0] w fun e w' => e = .returned (.bool true) ∧ Below w.heap.size w w' := by
  have BY := Lib.hid (Byts.of_row w0)
  have HT := Lib.hid hT
  have m0 : len0 ≤ 9223372036854775807 := by obtain ⟨h1, h2, _⟩ := BY.out; unfold maxLen at h2; omega
  clear w0 hT
  by_cases g0 : len0 ≤ 1048576
  · go_enter Tryd.func9, Tryd.ntmps9
    go_wp2_with fail
    refine (at_any a0 len0 cap0 1 _ BY.out (by omega) (by omega) (by omega)).mono ?_
    rintro e w' ⟨y1, rfl, l1, u1, rfl⟩
    obtain ⟨q, hq⟩ : ∃ q, q = y1 % 27 := ⟨_, rfl⟩
    have q0 : 0 ≤ q := by omega
    have q1 : q ≤ 26 := by omega
    have t1 : y1.tmod 27 = q := by rw [Int.tmod_eq_emod_of_nonneg (by omega)]; exact hq.symm
    have t2 : y1 % 27 = q := hq.symm
    clear hq
    go_wp2_with fail
    refine (at_any a0 len0 cap0 2 _ BY.out (by omega) (by omega) (by omega)).mono ?_
    rintro e w' ⟨y2, rfl, l2, u2, rfl⟩
    go_wp2_with fail
    refine (iWrapCell _ _).mono ?_
    rintro e w' ⟨rfl, rfl⟩
    obtain ⟨x, hx⟩ : ∃ x, x = Tm.wrapC (y2 * 77 - 9000) := ⟨_, rfl⟩
    have xb := Tm.wrapC_bd (y2 * 77 - 9000)
    rw [← hx] at xb ⊢
    obtain ⟨x0, x1⟩ := xb
    clear hx
    go_wp2_with fail
    refine (at_any a0 len0 cap0 3 _ BY.out (by omega) (by omega) (by omega)).mono ?_
    rintro e w' ⟨y3, rfl, l3, u3, rfl⟩
    obtain ⟨r, hr⟩ : ∃ r, r = y3 % 19 := ⟨_, rfl⟩
    have r0 : 0 ≤ r := by omega
    have r1 : r ≤ 18 := by omega
    have t3 : y3.tmod 19 = r := by rw [Int.tmod_eq_emod_of_nonneg (by omega)]; exact hr.symm
    have t4 : y3 % 19 = r := hr.symm
    clear hr
    go_wp2_with fail
    have AR : (-13 ≤ q - 13 ∧ q - 13 ≤ 13) ∧ (-9 ≤ r - 9 ∧ r - 9 ≤ 9) := ⟨by omega, by omega⟩
    have RN := Lib.hid (Tm.cProg_rn (x := x) (a := q - 13) (b := r - 9) ⟨x0, x1⟩ AR.1 AR.2)
    have ML := Lib.hid (Tm.cProg_left (x := x) (a := q - 13) (b := r - 9) ⟨x0, x1⟩ AR.1 AR.2)
    have ix : (q - 13 + 13).toNat = q.toNat := by congr 1; omega
    have PR0 := opr_prog (W := w) x (q - 13) (r - 9) 51 rfl
    have AB : Below w.heap.size w (w.alloc (.cells #[.int .i64 1, .int .i64 x, .int .i64 0, .int .i64 0, .int .i64 1, .int .i64 (q - 13), .int .i64 0, .int .i64 0, .int .i64 12, .int .i64 0, .int .i64 0, .int .i64 0, .int .i64 1, .int .i64 (q - 13), .int .i64 0, .int .i64 0, .int .i64 11, .int .i64 0, .int .i64 0, .int .i64 0, .int .i64 7, .int .i64 0, .int .i64 0, .int .i64 0, .int .i64 10, .int .i64 (r - 9), .int .i64 0, .int .i64 0] 51)) := by (repeat' (first | (with_reducible exact Below.refl _ _) | (with_reducible assumption) | (with_reducible refine below_drewN ?_ _) | (with_reducible refine Below.drew ?_) | (with_reducible refine Below.alloc ?_ ?_ _) | (with_reducible refine Below.setCell ?_ ?_ _) | (with_reducible refine below_gw ?_ ?_ _) | (with_reducible refine below_via ?_ ‹Below _ _ _› ?_) | (with_reducible exact Nat.le_refl _) | (with_reducible refine le_gw ?_ _) | (with_reducible refine le_alloc ?_ _) | (with_reducible refine le_setCell ?_ _ _) | (with_reducible refine le_drew ?_) | (with_reducible refine le_drewN ?_ _) | go_size))
    generalize hA : World.alloc w _ = A at PR0 AB ⊢
    have sA : A.heap.size = w.heap.size + 1 := by rw [← hA]; simp
    have PR := Lib.hid PR0
    have BA := Lib.hid AB
    clear PR0 AB hA AR
    refine (iNewMachine _).mono ?_
    intro e w2 hh
    unfold RetM at hh
    obtain ⟨a1, c1, b1, d1, rfl, om, hb2, -, -⟩ := hh
    have s2 := hb2.size
    have P2 := Lib.hid (PR.out.below hb2)
    have B2 := Lib.hid (BA.out.trans (hb2.mono (by omega)))
    have O2 := Lib.hid om.ms
    clear om hb2
    have RM := Lib.hid (iRunMachine (some ⟨w.heap.size, 0, none⟩) 7 7 (Tm.cProg x (q - 13) (r - 9)) 0 a1 0 c1 [] b1 27 d1 Tm.zs27 50 w2 P2.out O2.out (HT.out.below B2.out))
    rw [RN.out.1, RN.out.2.1, RN.out.2.2.1, RN.out.2.2.2] at RM
    clear O2
    go_wp2_with fail
    refine RM.out.mono ?_
    intro e w3 hh
    unfold RetMI at hh
    obtain ⟨a2, c2, b2, d2, rfl, om, hb3, -, -⟩ := hh
    have s3 := hb3.size
    have P3 := Lib.hid (P2.out.below hb3)
    have B3 := Lib.hid (B2.out.trans (hb3.mono (by omega)))
    have OM := Lib.hid om
    have zl : (Tm.zs27.set (q - 13 + 13).toNat x).length = 27 := by simp [Tm.zs27]
    rw [zl] at OM ⊢
    clear om hb3 RM P2 B2 RN
    go_wp2_with fail
    have IM := Lib.hid (fun (W : World) (hW : Below w3.heap.size w3 W) => sIsMachine (some ⟨w.heap.size, 0, none⟩) 7 7 (Tm.cProg x (q - 13) (r - 9)) 7 a2 2 c2 [x, Tm.shC x (r - 9)] b2 27 d2 (Tm.zs27.set (q - 13 + 13).toNat x) W (P3.out.below hW) (OM.out.ms.below hW))
    rw [ML.out] at IM
    generalize hW : World.alloc w3 _ = w4
    obtain ⟨bx, hb4⟩ := box3_of hW
    have BX := Lib.hid bx
    clear hW bx
    refine (IM.out _ hb4).mono ?_
    rintro e w5 ⟨rfl, hb5⟩
    have s4 := hb4.size
    have s5 := hb5.size
    have l4 := BX.out.1
    have B5 := Lib.hid (B3.out.trans ((hb4.mono (by omega)).trans (hb5.mono (by omega))))
    have I5 : Hid (Ms w5 a2 2 c2 [x, Tm.shC x (r - 9)] b2 27 d2 (Tm.zs27.set (q - 13 + 13).toNat x)) := Lib.hid ((OM.out.ms.below hb4).below hb5)
    obtain ⟨l5, x5, y5, z5⟩ := BX.out.below hb5
    have BX5 := Lib.hid (BX.out.below hb5)
    obtain ⟨-, -, ic2, i1⟩ := I5.out.1
    obtain ⟨-, jd1, jd2, j1⟩ := I5.out.2
    rcases i1 with i1 | ⟨g1, o1, rfl, gl1, gc1⟩
    · omega
    rcases j1 with j1 | ⟨g2, o2, rfl, gl2, gc2⟩
    · omega
    have h0 := gc1 0 (by omega)
    have h1 := gc1 1 (by omega)
    simp only [List.getD_cons_zero, List.getD_cons_succ] at h0 h1
    rw [Nat.add_zero] at h0
    have GC := Lib.hid gc2
    obtain ⟨y, hy⟩ : ∃ y, y = Tm.shC x (r - 9) := ⟨_, rfl⟩
    have HY := Lib.hid hy
    rw [← hy] at h1
    obtain ⟨Q, rfl⟩ := Int.eq_ofNat_of_zero_le q0
    have Q1 : Q ≤ 26 := by omega
    rw [show ((Q : Int) - 13 + 13).toNat = Q by omega] at GC
    unfold maxLen at jd2 ic2
    clear gc1 gc2 hb4 hb5 IM ML hy ix t1 t2
    go_wp2
    go_loop [74] (fun i => ∃ k : Nat, k ≤ 27 ∧ i = .int .i64 k) (fun i => 27 - (intOf i).toNat)
    case atStart => exact ⟨0, by omega, rfl⟩
    case round =>
      obtain ⟨k, hk, rfl⟩ := hrel
      by_cases hlt : k < 27
      · have ck := GC.out k hlt
        rw [Tm.zs27_get x Q k hlt] at ck
        by_cases e : k = Q
        · subst e
          rw [if_pos rfl] at ck
          go_wp2
          go_round
          case rel => exact ⟨k + 1, by omega, by go_num⟩
          case measure => simp [intOf]; omega
        · rw [if_neg e] at ck
          have e1 : ((k : Int) == (Q : Int)) = false := by simp; omega
          have e2 : ((k : Int) != (Q : Int)) = true := by simp; omega
          go_wp2
          go_round
          case rel => exact ⟨k + 1, by omega, by go_num⟩
          case measure => simp [intOf]; omega
      · obtain rfl : k = 27 := by omega
        go_wp2_with fail
        have WO := Lib.hid (sWordOf x 9 w5)
        rw [Tm.word_nine ⟨x0, x1⟩] at WO
        have WL := Tm.wordL_length x 9
        obtain ⟨K1, K2, K3⟩ := Tm.shf_nine (x := x) (k := r - 9) (by omega) (by omega)
        have TK := Tm.shC_take (x := x) (k := r - 9) (by omega) (by omega)
        refine WO.out.mono ?_
        intro e w6 hh
        unfold RetIB at hh
        obtain ⟨a3, c3, rfl, o3, hb6, -⟩ := hh
        rw [WL] at o3 ⊢
        have I6 := Lib.hid (Ints.of_own o3)
        have s6 := hb6.size
        have B6 := Lib.hid (B5.out.trans (hb6.mono (by omega)))
        have hx1 := hb6.cell (p := ⟨g1, o1 + 1, none⟩) gl1
        rw [h1] at hx1
        have H6 := Lib.hid hx1
        have BX6 := Lib.hid (BX5.out.below hb6)
        have SW := Lib.hid (iShiftWord a3 9 c3 (Tm.wordL x 9) (r - 9) w6 I6.out)
        rw [K1] at SW
        obtain ⟨Y, hY⟩ : ∃ Y, Y = Tm.shf (Tm.wordL x 9) (r - 9) := ⟨_, rfl⟩
        rw [← hY] at SW K2 K3 TK
        rw [← HY.out] at TK
        clear o3 hb6 hx1 hY K1 WO WL
        go_wp2_with fail
        refine SW.out.mono ?_
        intro e w7 hh
        unfold RetIB at hh
        obtain ⟨a4, c4, rfl, o4, hb7, -⟩ := hh
        have I7 := Lib.hid (Ints.of_own o4)
        have s7 := hb7.size
        have B7 := Lib.hid (B6.out.trans (hb7.mono (by omega)))
        have h7 := hb7.cell (p := ⟨g1, o1 + 1, none⟩) (show g1 < w6.heap.size by omega)
        rw [H6.out] at h7
        obtain ⟨l7, x7, y7, z7⟩ := BX6.out.below hb7
        have gl7 : g1 < w7.heap.size := by omega
        have K20 : ((Y.length : Int) == 0) = false := by rw [beq_eq_false_iff_ne]; omega
        have IC := I7.out.2.1
        have IC2 := I7.out.2.2.1
        unfold maxLen at IC2
        have LY := Lib.hid (And.intro K2 K3)
        clear o4 hb7 h0 h1
        by_cases c9 : 9 < Y.length
        · have c9' : (9 : Int) < (Y.length : Int) := by omega
          have VO := Lib.hid (fun (W : World) (h : Below w7.heap.size w7 W) => sValueOf a4 9 c4 (Y.take 9) W ((ints_first I7.out (by omega)).below h))
          rw [TK] at VO
          clear TK
          go_wp2_with fail
          (refine wp_region_quiet_below (by kernel_rfl) (by kernel_rfl) ?_; (repeat (go_big_quiet_step ((go_at_call 38; with_reducible exact met_same2 (fun W h => VO.out W h))))); refine wpQuiet_nil ?_; intro wq hwq; obtain ⟨pq, hpq⟩ := hwq; have hpq' : wq = gw _ pq := hpq; clear hpq; subst hpq')
          go_wp2
          go_ret
          exact ⟨rfl, by have b7 := B7.out; (repeat' (first | (with_reducible exact Below.refl _ _) | (with_reducible assumption) | (with_reducible refine below_drewN ?_ _) | (with_reducible refine Below.drew ?_) | (with_reducible refine Below.alloc ?_ ?_ _) | (with_reducible refine Below.setCell ?_ ?_ _) | (with_reducible refine below_gw ?_ ?_ _) | (with_reducible refine below_via ?_ ‹Below _ _ _› ?_) | (with_reducible exact Nat.le_refl _) | (with_reducible refine le_gw ?_ _) | (with_reducible refine le_alloc ?_ _) | (with_reducible refine le_setCell ?_ _ _) | (with_reducible refine le_drew ?_) | (with_reducible refine le_drewN ?_ _) | go_size))⟩
        · have c9' : ¬ (9 : Int) < (Y.length : Int) := by omega
          have VO := Lib.hid (fun (W : World) (h : Below w7.heap.size w7 W) => sValueOf a4 Y.length c4 Y W (I7.out.below h))
          rw [show Tm.value Y = y by rw [← TK, List.take_of_length_le (by omega)]] at VO
          clear TK
          go_wp2_with fail
          (refine wp_region_quiet_below (by kernel_rfl) (by kernel_rfl) ?_; (repeat (go_big_quiet_step ((go_at_call 38; with_reducible exact met_same2 (fun W h => VO.out W h))))); refine wpQuiet_nil ?_; intro wq hwq; obtain ⟨pq, hpq⟩ := hwq; have hpq' : wq = gw _ pq := hpq; clear hpq; subst hpq')
          go_wp2
          go_ret
          exact ⟨rfl, by have b7 := B7.out; (repeat' (first | (with_reducible exact Below.refl _ _) | (with_reducible assumption) | (with_reducible refine below_drewN ?_ _) | (with_reducible refine Below.drew ?_) | (with_reducible refine Below.alloc ?_ ?_ _) | (with_reducible refine Below.setCell ?_ ?_ _) | (with_reducible refine below_gw ?_ ?_ _) | (with_reducible refine below_via ?_ ‹Below _ _ _› ?_) | (with_reducible exact Nat.le_refl _) | (with_reducible refine le_gw ?_ _) | (with_reducible refine le_alloc ?_ _) | (with_reducible refine le_setCell ?_ _ _) | (with_reducible refine le_drew ?_) | (with_reducible refine le_drewN ?_ _) | go_size))⟩
  · go_enter Tryd.func9, Tryd.ntmps9
    go_wp2
    go_ret
    exact ⟨rfl, by (repeat' (first | (with_reducible exact Below.refl _ _) | (with_reducible assumption) | (with_reducible refine below_drewN ?_ _) | (with_reducible refine Below.drew ?_) | (with_reducible refine Below.alloc ?_ ?_ _) | (with_reducible refine Below.setCell ?_ ?_ _) | (with_reducible refine below_gw ?_ ?_ _) | (with_reducible refine below_via ?_ ‹Below _ _ _› ?_) | (with_reducible exact Nat.le_refl _) | (with_reducible refine le_gw ?_ _) | (with_reducible refine le_alloc ?_ _) | (with_reducible refine le_setCell ?_ _ _) | (with_reducible refine le_drew ?_) | (with_reducible refine le_drewN ?_ _) | go_size))⟩
end Go.Proofs.YtmpcmbagegfobaaDoor

/- The model's fractions and partial products. -/
import Derived.Test.YtbdgkipakjmidaaPS
import Derived.Test.YtbdgkipakjmidaaOwn2
namespace Go.Proofs.Ytbdgkipakjmidaa
open Go.RowKit
namespace Tm
theorem th_no1 {n d k : Int} (h : ¬ (1 ≤ d ∧ d ≤ 1000000)) : thOk n d k = false := by rw [thOk, decide_eq_false_iff_not]; omega
theorem th_no2 {n d k : Int} (h : ¬ (1 ≤ k ∧ k ≤ 20)) : thOk n d k = false := by rw [thOk, decide_eq_false_iff_not]; omega
theorem th_no3 {n d k : Int} (h : ¬ (2 * absI n < d)) : thOk n d k = false := by rw [thOk, decide_eq_false_iff_not]; omega
theorem th_part {n : Int} (h1 : -500000 ≤ n) (h2 : n ≤ 500000) (j : Nat) (hj : j ≤ 20) : -1743392200500000 ≤ n * pow3 j ∧ n * pow3 j ≤ 1743392200500000 := by
  have p := pow3_le (show j ≤ 20 from hj)
  have e : pow3 20 = 3486784401 := by decide
  have q := pow3_one j
  have := mul_bd (a := n) (b := pow3 j) (A := 500000) (B := 3486784401) ⟨h1, h2⟩ ⟨by omega, by omega⟩
  omega
end Tm
theorem sThirdsOf (n d k : Int) (w : World) : Calls Try.prog 49 #[.int .i64 n, .int .i64 d, .int .i64 k] w (RetIB 3 w (Tm.thW n d k) (Tm.thOk n d k)) := by
  have NO : Tm.thOk n d k = false → Tm.thW n d k = [] := fun h => by rw [Tm.thW, h]; rfl
  by_cases hd : 1 ≤ d ∧ d ≤ 1000000
  · have e1 : Tm.inB d 1 1000000 = true := (Tm.inB_iff ..).2 hd
    obtain ⟨d1, d2⟩ := hd
    by_cases hk : 1 ≤ k ∧ k ≤ 20
    · have e2 : Tm.inB k 1 20 = true := (Tm.inB_iff ..).2 hk
      obtain ⟨k1, k2⟩ := hk
      by_cases hn : 2 * Tm.absI n < d
      · have ok : Tm.thOk n d k = true := by rw [Tm.thOk, decide_eq_true_eq]; omega
        rw [Tm.thW, if_pos ok, ok]
        have an := Tm.absI_abs n
        have AB := Lib.hid (fun w => sAbs4 n w (by omega) (by omega))
        obtain ⟨j, rfl⟩ := Int.eq_ofNat_of_zero_le (show 0 ≤ k by omega)
        rw [Int.toNat_natCast]
        have PB := Lib.hid (fun i hi => Tm.th_part (n := n) (by omega) (by omega) i hi)
        have pj := PB.out j (by omega)
        have D := Lib.hid (fun w => sDivide4 (n * Tm.pow3 j) d w (by omega) (by omega) (by omega) (by omega) (by omega))
        have sp := Tm.quo_spec (n * Tm.pow3 j) (show d ≠ 0 by omega)
        have bd := Tm.th_bd j d1 hn
        have lj := Tm.limN_le (show j ≤ 30 by omega)
        have ad : Tm.absI d = d := by unfold Tm.absI; split <;> omega
        obtain ⟨x, hx⟩ : ∃ x, x = Tm.absI n := ⟨_, rfl⟩
        rw [← hx] at AB hn an
        obtain ⟨q, hq⟩ : ∃ q, q = Tm.quo (n * Tm.pow3 j) d := ⟨_, rfl⟩
        obtain ⟨r, hr⟩ : ∃ r, r = Tm.rem (n * Tm.pow3 j) d := ⟨_, rfl⟩
        rw [← hq] at D bd sp ⊢
        rw [← hr] at D sp
        rw [Tm.IsDiv, ad] at sp
        obtain ⟨-, s1, s2⟩ := sp
        have hne : (2 * r == -d) = false := by simp; omega
        have WQ := fun w => sWordL q (j : Int) w (by omega) (by omega) (by omega)
        rw [Int.toNat_natCast] at WQ
        have WQ := Lib.hid WQ
        have P0 : Hid (n = n * Tm.pow3 0) := Lib.hid (by simp [Tm.pow3])
        have PS : Hid (∀ i, n * Tm.pow3 (i + 1) = 3 * (n * Tm.pow3 i)) := Lib.hid fun i => by rw [Tm.pow3, Tm.pow3, Int.pow_succ]; grind
        have n1 : ¬ n < -d := by omega
        have n2 : ¬ d < n := by omega
        have n3 : ¬ d ≤ 2 * x := by omega
        have x1 : 0 ≤ x := by omega
        have r1 : -1000000 ≤ r := by omega
        have r2 : r ≤ 1000000 := by omega
        clear hq hr hx ad bd lj an pj ok NO s1 s2
        go_enter Try.func49, Try.ntmps49
        go_wp2_with fail
        refine (sIn _ _ _ _).mono ?_
        rintro e w' ⟨rfl, rfl⟩
        rw [e1]
        go_wp2_with fail
        refine (sIn _ _ _ _).mono ?_
        rintro e w' ⟨rfl, rfl⟩
        rw [e2]
        go_wp2_with fail
        refine (AB.out _).mono ?_
        rintro e w' ⟨rfl, rfl⟩
        go_wp2_with fail
        go_loop [8, 9] (fun xv iv => ∃ (x : Int) (i : Nat), xv = .int .i64 x ∧ iv = .int .i64 i ∧ i ≤ j ∧ Hid (x = n * Tm.pow3 i)) (fun _ iv => j - (intOf iv).toNat)
        case atStart => exact ⟨n, 0, rfl, rfl, by omega, P0⟩
        case round =>
          obtain ⟨x, i, rfl, rfl, hi, X⟩ := hrel
          by_cases hlt : i < j
          · have xb := PB.out i (by omega)
            have xb2 := PB.out (i + 1) (by omega)
            rw [PS.out i, ← X.out] at xb2
            rw [← X.out] at xb
            obtain ⟨xb1, xb3⟩ := xb
            go_wp2_with fail
            exact ⟨⟨3 * x, i + 1, rfl, by go_num, by omega, Lib.hid (by rw [PS.out, X.out])⟩, by simp [intOf]; omega⟩
          · obtain rfl : i = j := by omega
            have D' := D.out
            rw [← X.out] at D'
            have D2 := Lib.hid D'
            clear D D'
            go_wp2_with fail
            refine (D2.out _).mono ?_
            rintro e w' ⟨rfl, rfl⟩
            go_wp2_with fail
            refine (WQ.out _).mono ?_
            rintro e w1 ⟨a1, c1, rfl, hown1, hb1, ln1⟩
            go_wp2
            go_ret2
            exact ret_own_b hown1 hb1 ln1
      · have ok := Tm.th_no3 (k := k) hn
        rw [NO ok, ok]
        clear ok NO
        have guard : ∀ (w : World), RetIB 3 w [] false (.returned (.tuple #[.slice none 0 0, .bool false])) w := fun w => ret_nil_b (by (repeat' (first | (with_reducible exact Below.refl _ _) | (with_reducible assumption) | (with_reducible refine below_drewN ?_ _) | (with_reducible refine Below.drew ?_) | (with_reducible refine Below.alloc ?_ ?_ _) | (with_reducible refine Below.setCell ?_ ?_ _) | (with_reducible refine below_gw ?_ ?_ _) | (with_reducible refine below_via ?_ ‹Below _ _ _› ?_) | (with_reducible exact Nat.le_refl _) | (with_reducible refine le_gw ?_ _) | (with_reducible refine le_alloc ?_ _) | (with_reducible refine le_setCell ?_ _ _) | (with_reducible refine le_drew ?_) | (with_reducible refine le_drewN ?_ _) | go_size)))
        by_cases c1 : n < -d
        · clear hn
          go_enter Try.func49, Try.ntmps49
          go_wp2_with fail
          refine (sIn _ _ _ _).mono ?_
          rintro e w' ⟨rfl, rfl⟩
          rw [e1]
          go_wp2_with fail
          refine (sIn _ _ _ _).mono ?_
          rintro e w' ⟨rfl, rfl⟩
          rw [e2]
          go_wp2
          go_ret2
          exact guard _
        · by_cases c2 : d < n
          · clear hn
            go_enter Try.func49, Try.ntmps49
            go_wp2_with fail
            refine (sIn _ _ _ _).mono ?_
            rintro e w' ⟨rfl, rfl⟩
            rw [e1]
            go_wp2_with fail
            refine (sIn _ _ _ _).mono ?_
            rintro e w' ⟨rfl, rfl⟩
            rw [e2]
            go_wp2
            go_ret2
            exact guard _
          · have AB := Lib.hid (fun w => sAbs4 n w (by omega) (by omega))
            have an := Tm.absI_abs n
            obtain ⟨x, hx⟩ : ∃ x, x = Tm.absI n := ⟨_, rfl⟩
            rw [← hx] at AB hn an
            have n3 : d ≤ 2 * x := by omega
            have x1 : 0 ≤ x := by omega
            have x2 : x ≤ 1000000 := by omega
            clear an hn hx
            go_enter Try.func49, Try.ntmps49
            go_wp2_with fail
            refine (sIn _ _ _ _).mono ?_
            rintro e w' ⟨rfl, rfl⟩
            rw [e1]
            go_wp2_with fail
            refine (sIn _ _ _ _).mono ?_
            rintro e w' ⟨rfl, rfl⟩
            rw [e2]
            go_wp2_with fail
            refine (AB.out _).mono ?_
            rintro e w' ⟨rfl, rfl⟩
            go_wp2
            go_ret2
            exact guard _
    · have ok := Tm.th_no2 (n := n) (d := d) hk
      have e2 : Tm.inB k 1 20 = false := (Tm.inB_no ..).2 (by omega)
      rw [NO ok, ok]
      clear ok hk NO
      go_enter Try.func49, Try.ntmps49
      go_wp2_with fail
      refine (sIn _ _ _ _).mono ?_
      rintro e w' ⟨rfl, rfl⟩
      rw [e1]
      go_wp2_with fail
      refine (sIn _ _ _ _).mono ?_
      rintro e w' ⟨rfl, rfl⟩
      rw [e2]
      go_wp2
      go_ret2
      exact ret_nil_b (by (repeat' (first | (with_reducible exact Below.refl _ _) | (with_reducible assumption) | (with_reducible refine below_drewN ?_ _) | (with_reducible refine Below.drew ?_) | (with_reducible refine Below.alloc ?_ ?_ _) | (with_reducible refine Below.setCell ?_ ?_ _) | (with_reducible refine below_gw ?_ ?_ _) | (with_reducible refine below_via ?_ ‹Below _ _ _› ?_) | (with_reducible exact Nat.le_refl _) | (with_reducible refine le_gw ?_ _) | (with_reducible refine le_alloc ?_ _) | (with_reducible refine le_setCell ?_ _ _) | (with_reducible refine le_drew ?_) | (with_reducible refine le_drewN ?_ _) | go_size)))
  · have ok := Tm.th_no1 (n := n) (k := k) hd
    have e1 : Tm.inB d 1 1000000 = false := (Tm.inB_no ..).2 (by omega)
    rw [NO ok, ok]
    clear ok hd NO
    go_enter Try.func49, Try.ntmps49
    go_wp2_with fail
    refine (sIn _ _ _ _).mono ?_
    rintro e w' ⟨rfl, rfl⟩
    rw [e1]
    go_wp2
    go_ret2
    exact ret_nil_b (by (repeat' (first | (with_reducible exact Below.refl _ _) | (with_reducible assumption) | (with_reducible refine below_drewN ?_ _) | (with_reducible refine Below.drew ?_) | (with_reducible refine Below.alloc ?_ ?_ _) | (with_reducible refine Below.setCell ?_ ?_ _) | (with_reducible refine below_gw ?_ ?_ _) | (with_reducible refine below_via ?_ ‹Below _ _ _› ?_) | (with_reducible exact Nat.le_refl _) | (with_reducible refine le_gw ?_ _) | (with_reducible refine le_alloc ?_ _) | (with_reducible refine le_setCell ?_ _ _) | (with_reducible refine le_drew ?_) | (with_reducible refine le_drewN ?_ _) | go_size)))
theorem cnt_rows {L : List (List Int)} {c : Nat} (h : ∀ j, j < L.length → (L.getD j []).length ≤ c) (k : Nat) (hk : k ≤ L.length) : cnt L k ≤ k * c := by
  induction k with
  | zero => exact Nat.zero_le _
  | succ k ih => have := ih (by omega); have := h k (by omega); rw [cnt, Nat.add_mul]; omega
theorem parts_small (xs ys : List Int) : (Tm.parts xs ys).length + cnt (Tm.parts xs ys) (Tm.parts xs ys).length ≤ 1048576 := by
  by_cases ho : Tm.mulOk xs ys = true
  · have f := Tm.part_facts ho
    have l := ((Tm.mulOk_iff _ _).1 ho).2.2
    have := cnt_rows (L := Tm.parts xs ys) (c := 30) (fun j hj => by
      rw [List.getD_eq_getElem?_getD, List.getElem?_eq_getElem hj, Option.getD_some, (f.2.1 _ (List.getElem_mem hj)).2]; exact l) _ (Nat.le_refl _)
    omega
  · rw [Tm.parts, if_neg ho]; decide
namespace Tm
theorem partF_low {xs ys : List Int} {i j : Nat} (h : j < i) : partF xs ys i j = 0 := by rw [partF, if_neg (by omega)]
theorem partF_at (xs ys : List Int) (i k : Nat) : partF xs ys i (i + k) = xs.getD k 0 * ys.getD i 0 := by rw [partF, if_pos (by omega), Nat.add_sub_cancel_left]
theorem partF_high {xs ys : List Int} {i j : Nat} (h : i + xs.length ≤ j) : partF xs ys i j = 0 := by
  rw [partF, if_pos (by omega), getD_beyond _ _ (by omega), Int.zero_mul]
end Tm
set_option maxHeartbeats 2000000 in
theorem sPartialsOf (a : Option Addr) (n cap : Nat) (xs : List Int) (b : Option Addr) (m cap2 : Nat) (ys : List Int) (w : World) (h : Ints w a n cap xs) (h2 : Ints w b m cap2 ys) : Calls Try.prog 35 #[.slice a n cap, .slice b m cap2] w (RetLB 3 23 w (Tm.parts xs ys) (Tm.mulOk xs ys)) := by
  obtain ⟨i0, hi, hz0, hz1, hz2⟩ := info_parts infoInt
  obtain ⟨j0, hj, hy0, hy1, hy2⟩ := info_parts infoOwnS
  have H := Lib.hid h
  have H2 := Lib.hid h2
  obtain rfl : n = xs.length := h.1.symm
  obtain rfl : m = ys.length := h2.1.symm
  clear h h2
  by_cases ho : Tm.mulOk xs ys = true
  · have f := (Tm.mulOk_iff _ _).1 ho
    obtain ⟨hx, hy, hl⟩ := f
    have HX := Lib.hid hx
    have HY := Lib.hid hy
    have lx := Tm.isW_pos hx
    have ly := Tm.isW_pos hy
    rw [Tm.parts, if_pos ho, ho]
    clear hx hy
    go_enter Try.func35, Try.ntmps35
    go_wp2_with fail
    refine (sFit4 a _ cap xs b _ cap2 ys _ H.out H2.out).mono ?_
    rintro e w' ⟨rfl, rfl⟩
    go_wp2_with fail
    go_loopw [6, 19] (fun v i wr => ∃ k : Nat, k ≤ ys.length ∧ i = .int .i64 k ∧ Hid (OwnL wr w.heap.size wr.heap.size 3 23 v (Tm.partL xs ys k)) ∧ Hid (Below w.heap.size w wr)) (fun _ i _ => ys.length - (intOf i).toNat)
    case atStart => exact ⟨0, by omega, rfl, Lib.hid (ownL_empty _ _ _ _ (Nat.le_refl _)), Lib.hid (by (repeat' (first | (with_reducible exact Below.refl _ _) | (with_reducible assumption) | (with_reducible refine below_drewN ?_ _) | (with_reducible refine Below.drew ?_) | (with_reducible refine Below.alloc ?_ ?_ _) | (with_reducible refine Below.setCell ?_ ?_ _) | (with_reducible refine below_gw ?_ ?_ _) | (with_reducible refine below_via ?_ ‹Below _ _ _› ?_) | (with_reducible exact Nat.le_refl _) | (with_reducible refine le_gw ?_ _) | (with_reducible refine le_alloc ?_ _) | (with_reducible refine le_setCell ?_ _ _) | (with_reducible refine le_drew ?_) | (with_reducible refine le_drewN ?_ _) | go_size)))⟩
    case round =>
      obtain ⟨k, hk, rfl, OO, BB⟩ := hrel
      by_cases hlt : k < ys.length
      · rcases H.out.2.2.2 with h0 | ⟨b1, o1, e1, hbl, -⟩
        · omega
        rcases H2.out.2.2.2 with h0 | ⟨b2, o2, e2, hbl2, -⟩
        · omega
        subst e1 e2
        have cy := Ints.cell_low H2.out hbl2 hlt BB.out
        have hs1 := BB.out.size
        have by1 := Tm.isW_at HY.out k
        obtain ⟨y, hyy⟩ : ∃ y, y = ys.getD k 0 := ⟨_, rfl⟩
        rw [← hyy] at cy by1
        obtain ⟨us, hv1, hv2, hv3⟩ := OO.out.split
        have OW := Lib.hid hv1
        have OB := Lib.hid hv2
        have OR := Lib.hid hv3
        have UL := Lib.hid hv1.1
        rw [Tm.partL_length] at OW
        have YY := Lib.hid hyy
        clear hv1 hv2 hv3 OO hyy
        go_wp2_with (at_make; refine wpList_make_full _ rfl _ _ 23 rfl wr.heap.size 3 i0 (.int .i64 0) 1 Try.underlying23 hi hz0 hz1 _ _ _ _ (xs.length + ys.length) rfl rfl (by first | rfl | omega) (by first | rfl | omega) (by rw [hz2]; omega) (by unfold maxLen; omega) (by omega) ?_)
        intro w1 hown hgrow
        have hown0 := rowV_own hown
        have B1 := Lib.hid ((Below.refl wr.heap.size wr).grown hgrow (Nat.le_refl _) (fun k hk => by cases hk))
        obtain ⟨M, hM⟩ : ∃ M, M = xs.length + ys.length := ⟨_, rfl⟩
        rw [← hM] at hown0 ⊢
        clear hown hgrow
        obtain ⟨G, hG⟩ : ∃ G, G = wr.heap.size := ⟨_, rfl⟩
        rw [← hG] at hown0 B1 hs1 ⊢
        have M1 : k + xs.length < M := by omega
        have M2 : M ≤ 30 := by omega
        have MM := Lib.hid hM
        have HG := Lib.hid hG
        clear hM hG
        go_wp2_with fail
        go_loopw [32] (fun i wt => ∃ (q : Nat) (g : Nat → Int), q ≤ xs.length ∧ i = .int .i64 q ∧ Hid (wt.ownsRow G 3 1 (.slice (some ⟨G, 0, none⟩) M M) M (rowV M g)) ∧ Hid (∀ j, j < M → g j = if j < k + q then Tm.partF xs ys k j else 0) ∧ Hid (Below G wr wt)) (fun i _ => xs.length - (intOf i).toNat)
        case atStart => exact ⟨0, _, by omega, rfl, Lib.hid hown0, Lib.hid (fun j hj => by split; exact (Tm.partF_low (by omega)).symm; rfl), B1⟩
        case round =>
          clear hown0 B1
          obtain ⟨q, g, hq, rfl, RW, GG, BT⟩ := hrel
          by_cases hqt : q < xs.length
          · have BW2 := Lib.hid (BB.out.trans (BT.out.mono hs1))
            have cx := Ints.cell_low H.out hbl hqt BW2.out
            have bx := Tm.isW_at HX.out q
            obtain ⟨x, hxx⟩ : ∃ x, x = xs.getD q 0 := ⟨_, rfl⟩
            rw [← hxx] at cx bx
            have xy := Tm.mul_bd (A := 1) (B := 1) bx by1
            obtain ⟨xy1, xy2⟩ := xy
            have EP : Hid (Tm.partF xs ys k (k + q) = x * y) := Lib.hid (by rw [Tm.partF_at, hxx, YY.out])
            have PL := Tm.partF_high (xs := xs) (ys := ys) (i := k) (j := k + q)
            clear PL
            have fz := RW.out.frozenAt (k + q)
            have ck := own_cell RW.out (k + q) (by omega)
            have PT := Lib.hid (own_put RW.out (k + q) (x * y))
            have gsz := (own_base RW.out).2
            obtain ⟨gk, hgk⟩ : ∃ gk, gk = g (k + q) := ⟨_, rfl⟩
            rw [← hgk] at ck
            have q1 : IntKind.i64.wrap ((k : Int) + (q : Int)) = (k : Int) + q := IntWalk.i64_in _ (by omega)
            have q2 : (0 : Int) ≤ (k : Int) + q := by omega
            have q3 : (k : Int) + q < (M : Int) := by omega
            have q4 : ((k : Int) + (q : Int)).toNat = k + q := by omega
            clear hxx hgk RW by1 bx
            go_wp2_with fail
            refine ⟨⟨q + 1, _, by omega, by go_num, Lib.hid PT.out.1, Lib.hid (fun j hj => ?_), Lib.hid (BT.out.grown PT.out.2 (by have := BT.out.size; rw [← HG.out] at this; exact this) (fun j hj => by cases hj; exact Nat.le_refl _))⟩, by simp [intOf]; omega⟩
            by_cases e : j = k + q
            · subst e; rw [upd_at, if_pos (by omega), EP.out]
            · rw [upd_ne _ _ _ e, GG.out j hj]
              by_cases c : j < k + q
              · rw [if_pos c, if_pos (by omega)]
              · rw [if_neg c, if_neg (by omega)]
          · obtain rfl : q = xs.length := by omega
            have ER : Hid (rowV M g = (Tm.partR xs ys k).map (Value.int .i64)) := Lib.hid (by
              rw [Tm.partR, ← MM.out, ← rowV_gen]
              refine rowV_congr fun j hj => ?_
              rw [GG.out j hj]
              split
              · rfl
              · exact (Tm.partF_high (by omega)).symm)
            have RL : Hid ((Tm.partR xs ys k).length = M) := Lib.hid (by rw [Tm.partR, genL_length, MM.out])
            have gw1 := BT.out.size
            have gw2 := (own_base RW.out).2
            have OW0 := Lib.hid (own_below OW.out (by rw [← HG.out]; exact BT.out))
            have OR1 := OR.out.stay (SameIn.of_below (by rw [← HG.out]; exact BT.out) (Nat.le_refl _))
            rw [← HG.out] at OR1
            have OR0 := Lib.hid OR1
            have B2 := Lib.hid (BB.out.trans (BT.out.mono hs1))
            have hs2 := B2.out.size
            have OB2 : Hid (∀ q, u6.ownBlock = some q → q < G) := Lib.hid (by rw [HG.out]; exact OB.out)
            have RW2 := Lib.hid RW.out
            rw [ER.out] at RW2
            have XE := Tm.partL_succ xs ys k
            have KM : Hid (us.length = (Tm.partL xs ys k).length) := Lib.hid (by have := UL.out; omega)
            clear OR1 RW OW OR OB BB BT GG H H2 ER XE UL cy lx ly by1
            go_wp2_with (at_builtin; refine wpList_append_own_at _ rfl _ _ 28 rfl (w.heap.size) 23 j0 (.slice none 0 0) 1 24 Try.underlying28 hj hy0 hy1 hy2 rfl (by decide) _ _ _ rfl (World.ownsRow.alloc OW0.out _) ⟨wr.heap.size, 0, none⟩ 1 1 [.slice (some ⟨G, 0, none⟩) M M] rfl rfl (app_s1 _ _ _) (app_s3 _ _ _) (by unfold maxLen; omega) (by omega) (by simp; omega) ?_)
            intro v' w2 hv hg _ hat
            have R3 := RW2.out
            have e6 := RL.out
            have hB3 := RW2.out.lt
            obtain ⟨zs, hzs⟩ : ∃ zs, zs = Tm.partR xs ys k := ⟨_, rfl⟩
            rw [← hzs] at R3 e6
            subst e6
            have O3 : OwnL w2 w.heap.size w2.heap.size 3 23 v' (Tm.partL xs ys (k + 1)) := by
              rw [Tm.partL_succ, ← hzs]
              exact OwnL.grow OB2.out (OR0.out.stay (SameIn.of_below ((Below.refl wr.heap.size wr).alloc (Nat.le_refl _) _) (by omega))) KM.out (own_weak ((World.ownsRow.alloc R3 _)) hs1) (fun q hq => by cases hq; exact Nat.le_refl _) (by rw [Tm.partL_length]; exact hv) hg (by rw [World.size_alloc]; exact hat)
            have O4 := Lib.hid O3
            have B4 := Lib.hid ((B2.out.alloc hs2 _).grown hg (by simp; omega) (fun j hj => (OW0.out.lt j hj).1))
            clear hv hg hat OW0 OR0 RW2 B2 O3 R3 hB3 hs2
            go_wp2_with fail
            exact ⟨⟨k + 1, by omega, by go_num, O4, B4⟩, by simp [intOf]; omega⟩
      · obtain rfl : k = ys.length := by omega
        go_wp2_with fail
        go_ret2
        exact ⟨_, rfl, OO.out, BB.out⟩
  · simp only [Bool.not_eq_true] at ho
    rw [Tm.parts, ho]
    go_enter Try.func35, Try.ntmps35
    go_wp2_with fail
    refine (sFit4 a _ cap xs b _ cap2 ys _ H.out H2.out).mono ?_
    rintro e w' ⟨rfl, rfl⟩
    go_wp2
    go_ret2
    exact ret_nil_lb (by (repeat' (first | (with_reducible exact Below.refl _ _) | (with_reducible assumption) | (with_reducible refine below_drewN ?_ _) | (with_reducible refine Below.drew ?_) | (with_reducible refine Below.alloc ?_ ?_ _) | (with_reducible refine Below.setCell ?_ ?_ _) | (with_reducible refine below_gw ?_ ?_ _) | (with_reducible refine below_via ?_ ‹Below _ _ _› ?_) | (with_reducible exact Nat.le_refl _) | (with_reducible refine le_gw ?_ _) | (with_reducible refine le_alloc ?_ _) | (with_reducible refine le_setCell ?_ _ _) | (with_reducible refine le_drew ?_) | (with_reducible refine le_drewN ?_ _) | go_size)))
end Go.Proofs.Ytbdgkipakjmidaa

/- The program's products: partial products, products, cut products. -/
import Derived.Test.YtgfgndfklonhfaaPS3
import Derived.Test.YtgfgndfklonhfaaWI4
import Derived.Test.YtgfgndfklonhfaaRowL
namespace Go.Proofs.Ytgfgndfklonhfaa
set_option maxRecDepth 20000
open Go.RowKit
namespace Tm
theorem mulOk_join (xs ys : List Int) : mulOk xs ys = joinOk xs ys := rfl
end Tm
theorem iMultiplyWords (a : Option Addr) (n cap : Nat) (xs : List Int) (b : Option Addr) (m cap2 : Nat) (ys : List Int) (w : World) (h : Ints w a n cap xs) (h2 : Ints w b m cap2 ys) : Calls Try.prog 10 #[.slice a n cap, .slice b m cap2] w (RetIB 3 w (Tm.mulW xs ys) (Tm.mulOk xs ys)) := by
  have H := Lib.hid h
  have H2 := Lib.hid h2
  obtain rfl : n = xs.length := h.1.symm
  obtain rfl : m = ys.length := h2.1.symm
  clear h h2
  have C := Lib.hid (iCanJoin a _ cap xs b _ cap2 ys w H.out H2.out)
  rw [← Tm.mulOk_join] at C
  by_cases ho : Tm.mulOk xs ys = true
  · have f := (Tm.mulOk_iff _ _).1 ho
    have pb := Tm.prod_bd ho
    have lb := Tm.limN_le f.2.2
    have hl := f.2.2
    have hp := Tm.isW_pos f.1
    rw [Tm.mulW, if_pos ho, ho]
    rw [ho] at C
    have VX := Lib.hid (iValueOf a _ cap xs w H.out)
    have VY := Lib.hid (iValueOf b _ cap2 ys w H2.out)
    rw [Tm.value_eq f.1] at VX
    rw [Tm.value_eq f.2.1] at VY
    obtain ⟨va, hva⟩ : ∃ v, v = Tm.val xs := ⟨_, rfl⟩
    obtain ⟨vb, hvb⟩ : ∃ v, v = Tm.val ys := ⟨_, rfl⟩
    rw [← hva] at VX pb ⊢
    rw [← hvb] at VY pb ⊢
    have WQ := fun w => iWordOf (va * vb) ((xs.length : Int) + (ys.length : Int)) w
    have wo : Tm.wordOk (va * vb) ((xs.length : Int) + (ys.length : Int)) = true := by
      have := Tm.wordOk_nat (n := va * vb) (k := xs.length + ys.length) (by omega) hl pb
      simpa using this
    rw [Tm.word, wo, if_pos rfl, show ((xs.length : Int) + (ys.length : Int)).toNat = xs.length + ys.length by omega] at WQ
    have WQ := Lib.hid WQ
    have pb1 : -102945566047324 ≤ va * vb := by omega
    have pb2 : va * vb ≤ 102945566047324 := by omega
    clear hva hvb f pb lb wo ho
    go_enter Try.func10, Try.ntmps10
    go_wp2_with fail
    refine C.out.mono ?_
    rintro e w' ⟨rfl, rfl⟩
    go_wp2_with fail
    refine VX.out.mono ?_
    rintro e w' ⟨rfl, rfl⟩
    go_wp2_with fail
    refine VY.out.mono ?_
    rintro e w' ⟨rfl, rfl⟩
    go_wp2_with fail
    refine (WQ.out _).mono ?_
    rintro e w1 ⟨a1, c1, rfl, hown, hb, ln⟩
    go_wp2
    go_ret2
    exact ret_own_b hown hb ln
  · simp only [Bool.not_eq_true] at ho
    rw [Tm.mulW, ho]
    rw [ho] at C
    go_enter Try.func10, Try.ntmps10
    go_wp2_with fail
    refine C.out.mono ?_
    rintro e w' ⟨rfl, rfl⟩
    go_wp2
    go_ret2
    exact ret_nil_b (by (repeat' (first | (with_reducible exact Below.refl _ _) | (with_reducible assumption) | (with_reducible refine below_drewN ?_ _) | (with_reducible refine Below.drew ?_) | (with_reducible refine Below.alloc ?_ ?_ _) | (with_reducible refine Below.setCell ?_ ?_ _) | (with_reducible refine below_gw ?_ ?_ _) | (with_reducible refine below_via ?_ ‹Below _ _ _› ?_) | (with_reducible exact Nat.le_refl _) | (with_reducible refine le_gw ?_ _) | (with_reducible refine le_alloc ?_ _) | (with_reducible refine le_setCell ?_ _ _) | (with_reducible refine le_drew ?_) | (with_reducible refine le_drewN ?_ _) | go_size)))
namespace Tm
theorem slc_cut {xs ys : List Int} (k : Int) (h : mulOk xs ys = true) : slcOk (mulW xs ys) k ((mulW xs ys).length : Int) = cutOk xs ys k ∧ slc (mulW xs ys) k ((mulW xs ys).length : Int) = cutW xs ys k := by
  have f := mul_facts h
  have e : slcOk (mulW xs ys) k ((mulW xs ys).length : Int) = cutOk xs ys k := by
    rw [slcOk, cutOk, h, f.1, f.2.2, Bool.eq_iff_iff]; simp; omega
  refine ⟨e, ?_⟩
  rw [slc, cutW, e]
  split
  · rw [part, Int.toNat_natCast, List.take_of_length_le (by rw [List.length_drop]; omega)]
  · rfl
end Tm
theorem iCutProduct (a : Option Addr) (n cap : Nat) (xs : List Int) (b : Option Addr) (m cap2 : Nat) (ys : List Int) (k : Int) (w : World) (h : Ints w a n cap xs) (h2 : Ints w b m cap2 ys) : Calls Try.prog 17 #[.slice a n cap, .slice b m cap2, .int .i64 k] w (RetIB 3 w (Tm.cutW xs ys k) (Tm.cutOk xs ys k)) := by
  have H := Lib.hid h
  have H2 := Lib.hid h2
  obtain rfl : n = xs.length := h.1.symm
  obtain rfl : m = ys.length := h2.1.symm
  clear h h2
  have M := Lib.hid (iMultiplyWords a _ cap xs b _ cap2 ys w H.out H2.out)
  by_cases ho : Tm.mulOk xs ys = true
  · have S := Tm.slc_cut k ho
    obtain ⟨zs, hzs⟩ : ∃ zs, zs = Tm.mulW xs ys := ⟨_, rfl⟩
    rw [← hzs] at M S
    rw [ho] at M
    have SS := Lib.hid S
    clear hzs S
    go_enter Try.func17, Try.ntmps17
    go_wp2_with fail
    refine (retIB_ex M.out rfl).mono ?_
    rintro e w1 ⟨zs, a1, c1, rfl, rfl, hown, hb, ln⟩
    have I1 := Lib.hid (Ints.of_own hown)
    have B1 := Lib.hid hb
    clear hown hb
    go_wp2_with fail
    refine (iSliceWord a1 _ c1 zs k zs.length _ I1.out).mono ?_
    rw [SS.out.1, SS.out.2]
    rintro e w2 ⟨a2, c2, rfl, hown, hb, ln2⟩
    go_wp2
    go_ret2
    exact ret_own_b (own_weak hown B1.out.size) (B1.out.trans (hb.mono B1.out.size)) ln2
  · simp only [Bool.not_eq_true] at ho
    have hc : Tm.cutOk xs ys k = false := by simp [Tm.cutOk, ho]
    rw [Tm.cutW, hc]
    rw [Tm.mulW, ho] at M
    clear hc
    have SL := Lib.hid (fun (a1 : Option Addr) (c1 : Nat) w h => iSliceWord a1 0 c1 [] k 0 w h)
    rw [show Tm.slcOk [] k 0 = false by simp [Tm.slcOk, Tm.isW]] at SL
    go_enter Try.func17, Try.ntmps17
    go_wp2_with fail
    refine M.out.mono ?_
    rintro e w1 ⟨a1, c1, rfl, hown, hb, ln⟩
    have I1 := Lib.hid (Ints.of_own hown)
    have B1 := Lib.hid hb
    clear hown hb
    go_wp2_with fail
    refine (SL.out a1 c1 _ I1.out).mono ?_
    rintro e w2 ⟨a2, c2, rfl, hown, hb, ln2⟩
    go_wp2
    go_ret2
    have z : Tm.slc [] k 0 = [] := by simp [Tm.slc, Tm.slcOk, Tm.isW]
    rw [z] at hown ⊢
    exact ret_own_b (xs := []) (own_weak hown B1.out.size) (B1.out.trans (hb.mono B1.out.size)) (by simp)
namespace Tm
theorem partG_low {xs ys : List Int} {i j : Nat} (h : j < i) : partF xs ys i j = 0 := by rw [partF, if_neg (by omega)]
theorem partG_at (xs ys : List Int) (i k : Nat) : partF xs ys i (i + k) = xs.getD k 0 * ys.getD i 0 := by rw [partF, if_pos (by omega), Nat.add_sub_cancel_left]
theorem partG_high {xs ys : List Int} {i j : Nat} (h : i + xs.length ≤ j) : partF xs ys i j = 0 := by
  rw [partF, if_pos (by omega), getD_beyond _ _ (by omega), Int.zero_mul]
theorem times_mul {a b : Int} (ha : -1 ≤ a ∧ a ≤ 1) (hb : -1 ≤ b ∧ b ≤ 1) : times a b = a * b := by
  rw [times, (isT_iff a).2 ha, (isT_iff b).2 hb]; rfl
end Tm
set_option maxHeartbeats 2000000 in
theorem iPartialOf (a : Option Addr) (n cap : Nat) (xs ys : List Int) (k M : Nat) (y : Int) (w : World) (h : Ints w a n cap xs) (hx : Tm.isW xs = true) (hy : Tm.isW ys = true) (hyy : y = ys.getD k 0) (hk : k < ys.length) (hM : M = xs.length + ys.length) (hl : M ≤ 30) :
    Calls Try.prog 31 #[.slice a n cap, .int .i64 y, .int .i64 k, .int .i64 M] w (RetI 3 w (Tm.partR xs ys k)) := by
  obtain ⟨i0, hi, hz0, hz1, hz2⟩ := info_parts infoInt
  have H := Lib.hid h
  obtain rfl : n = xs.length := h.1.symm
  have HX := Lib.hid hx
  have by1 := Tm.isW_at hy k
  rw [← hyy] at by1
  have BY := Lib.hid by1
  have lx := Tm.isW_pos hx
  have YY := Lib.hid hyy
  have MM := Lib.hid hM
  have M1 : k + xs.length < M := by omega
  clear h hx hy hyy by1
  rcases H.out.2.2.2 with h0 | ⟨b1, o1, e1, hbl, -⟩
  · omega
  subst e1
  obtain ⟨G, hG⟩ : ∃ G, G = w.heap.size := ⟨_, rfl⟩
  clear hM
  go_enter Try.func31, Try.ntmps31
  go_wp2_with (at_make; refine wpList_make_full _ rfl _ _ 23 rfl (w.heap.size) 3 i0 (.int .i64 0) 1 Try.underlying23 hi hz0 hz1 _ _ _ _ (M) rfl rfl (by first | rfl | omega) (by first | rfl | omega) (by rw [hz2]; omega) (by unfold maxLen; omega) (by first | go_size | (simp only [gw_size, World.size_alloc]; omega) | exact Nat.le_refl _ | omega) ?_)
  intro w1 hown hgrow
  have hown0 := rowV_own hown
  have B1 := Lib.hid ((Below.refl w.heap.size w).grown hgrow (Nat.le_refl _) (fun k hk => by cases hk))
  rw [← hG] at hown0 B1 hbl
  clear hown hgrow
  rw [← hG]
  have HG := Lib.hid hG
  clear hG
  go_wp2_with fail
  go_loopw [16] (fun i wt => ∃ (q : Nat) (g : Nat → Int), q ≤ xs.length ∧ i = .int .i64 q ∧ Hid (wt.ownsRow G 3 1 (.slice (some ⟨G, 0, none⟩) M M) M (rowV M g)) ∧ Hid (∀ j, j < M → g j = if j < k + q then Tm.partF xs ys k j else 0) ∧ Hid (Below G w wt)) (fun i _ => xs.length - (intOf i).toNat)
  case atStart => exact ⟨0, _, by omega, rfl, Lib.hid hown0, Lib.hid (fun j hj => by split; exact (Tm.partG_low (by omega)).symm; rfl), B1⟩
  case round =>
    clear hown0 B1
    obtain ⟨q, g, hq, rfl, RW, GG, BT⟩ := hrel
    by_cases hqt : q < xs.length
    · have cx := Ints.cell_low H.out hbl hqt BT.out
      have bx := Tm.isW_at HX.out q
      obtain ⟨x, hxx⟩ : ∃ x, x = xs.getD q 0 := ⟨_, rfl⟩
      rw [← hxx] at cx bx
      have TM := Lib.hid (Tm.times_mul bx BY.out)
      have EP : Hid (Tm.partF xs ys k (k + q) = x * y) := Lib.hid (by rw [Tm.partG_at, hxx, YY.out])
      have fz := RW.out.frozenAt (k + q)
      have ck := own_cell RW.out (k + q) (by omega)
      have PT := Lib.hid (own_put RW.out (k + q) (Tm.times x y))
      have gsz := (own_base RW.out).2
      obtain ⟨gk, hgk⟩ : ∃ gk, gk = g (k + q) := ⟨_, rfl⟩
      rw [← hgk] at ck
      have q1 : IntKind.i64.wrap ((k : Int) + (q : Int)) = (k : Int) + q := IntWalk.i64_in _ (by omega)
      have q2 : (0 : Int) ≤ (k : Int) + q := by omega
      have q3 : (k : Int) + q < (M : Int) := by omega
      have q4 : ((k : Int) + (q : Int)).toNat = k + q := by omega
      clear hxx hgk RW bx
      go_wp2_with ((go_at_call 52; refine (iTimesTrits _ _ _).mono ?_; rintro e w1 ⟨rfl, rfl⟩))
      refine ⟨⟨q + 1, _, by omega, by go_num, Lib.hid PT.out.1, Lib.hid (fun j hj => ?_), Lib.hid (BT.out.grown PT.out.2 (by have := BT.out.size; rw [← HG.out] at this; exact this) (fun j hj => by cases hj; exact Nat.le_refl _))⟩, by simp [intOf]; omega⟩
      by_cases e : j = k + q
      · subst e; rw [upd_at, if_pos (by omega), EP.out, TM.out]
      · rw [upd_ne _ _ _ e, GG.out j hj]
        by_cases c : j < k + q
        · rw [if_pos c, if_pos (by omega)]
        · rw [if_neg c, if_neg (by omega)]
    · obtain rfl : q = xs.length := by omega
      have ER : Hid (rowV M g = (Tm.partR xs ys k).map (Value.int .i64)) := Lib.hid (by
        rw [Tm.partR, ← MM.out, ← rowV_gen]
        refine rowV_congr fun j hj => ?_
        rw [GG.out j hj]
        split
        · rfl
        · exact (Tm.partG_high (by omega)).symm)
      have RW2 := Lib.hid RW.out
      rw [ER.out] at RW2
      go_wp2_with fail
      go_ret
      have hown := RW2.out
      have hbt := BT.out
      have e := HG.out
      subst e
      exact ret_own hown hbt (by omega)
set_option maxHeartbeats 2000000 in
theorem iPartialsOf (a : Option Addr) (n cap : Nat) (xs : List Int) (b : Option Addr) (m cap2 : Nat) (ys : List Int) (w : World) (h : Ints w a n cap xs) (h2 : Ints w b m cap2 ys) : Calls Try.prog 11 #[.slice a n cap, .slice b m cap2] w (RetLB 3 23 w (Tm.parts xs ys) (Tm.mulOk xs ys)) := by
  obtain ⟨j0, hj, hy0, hy1, hy2⟩ := info_parts infoOwnS
  have H := Lib.hid h
  have H2 := Lib.hid h2
  obtain rfl : n = xs.length := h.1.symm
  obtain rfl : m = ys.length := h2.1.symm
  clear h h2
  have C := Lib.hid (iCanJoin a _ cap xs b _ cap2 ys w H.out H2.out)
  rw [← Tm.mulOk_join] at C
  by_cases ho : Tm.mulOk xs ys = true
  · have f := (Tm.mulOk_iff _ _).1 ho
    obtain ⟨hx, hy, hl⟩ := f
    have HX := Lib.hid hx
    have HY := Lib.hid hy
    have lx := Tm.isW_pos hx
    have ly := Tm.isW_pos hy
    rw [Tm.parts, if_pos ho, ho]
    rw [ho] at C
    clear hx hy ho
    have RL : Hid (∀ k, (Tm.partR xs ys k).length = xs.length + ys.length) := Lib.hid fun k => by rw [Tm.partR, genL_length]
    rcases H2.out.2.2.2 with h0 | ⟨b2, o2, e2, hbl2, -⟩
    · omega
    subst e2
    go_enter Try.func11, Try.ntmps11
    go_wp2_with fail
    refine C.out.mono ?_
    rintro e w' ⟨rfl, rfl⟩
    go_wp2_with (at_make; refine wpList_make_full _ rfl _ _ 28 rfl w.heap.size 23 j0 (.slice none 0 0) 1 Try.underlying28 hj hy0 hy1 _ _ _ _ ys.length rfl rfl (by first | rfl | omega) (by first | rfl | omega) (by rw [hy2]; omega) (by unfold maxLen; omega) (by omega) ?_)
    intro w1 hown hgrow
    obtain ⟨n, hn⟩ : ∃ n, n = ys.length := ⟨_, rfl⟩
    rw [← hn] at hown ⊢
    have HN := Lib.hid hn
    have B1 := Lib.hid ((Below.refl w.heap.size w).grown hgrow (Nat.le_refl _) (fun k hk => by cases hk))
    have O1 : Hid (∃ us, w1.ownsRow w.heap.size 23 1 (.slice (some ⟨w.heap.size, 0, none⟩) n n) n us ∧ us.length = n ∧ (∀ j, j < 0 → ∃ u, us[j]? = some u ∧ OwnI w1 w.heap.size w1.heap.size 3 u ((Tm.partL xs ys n).getD j []) ∧ Apart u (.slice (some ⟨w.heap.size, 0, none⟩) n n)) ∧ ∀ i j, i < j → j < 0 → ∀ u u', us[i]? = some u → us[j]? = some u' → Apart u u') := Lib.hid ⟨_, hown, by have := hown.1; omega, fun j hj => by omega, fun i j _ hj => by omega⟩
    have z1 := (hown.lt _ rfl).2
    clear hown hgrow
    obtain ⟨G, hG⟩ : ∃ G, G = w.heap.size := ⟨_, rfl⟩
    rw [← hG] at O1 B1 z1 hbl2 ⊢
    have HG := Lib.hid hG
    rw [hn.symm] at ly hl
    clear hG hn
    go_wp2_with fail
    go_loopw [18] (fun i wr => ∃ k : Nat, k ≤ n ∧ i = .int .i64 k ∧ G < wr.heap.size ∧ Hid (∃ us, wr.ownsRow G 23 1 (.slice (some ⟨G, 0, none⟩) n n) n us ∧ us.length = n ∧ (∀ j, j < k → ∃ u, us[j]? = some u ∧ OwnI wr G wr.heap.size 3 u ((Tm.partL xs ys n).getD j []) ∧ Apart u (.slice (some ⟨G, 0, none⟩) n n)) ∧ ∀ i j, i < j → j < k → ∀ u u', us[i]? = some u → us[j]? = some u' → Apart u u') ∧ Hid (Below G w wr)) (fun i _ => n - (intOf i).toNat)
    case atStart => exact ⟨0, by omega, rfl, z1, O1, B1⟩
    case round =>
      clear O1 B1 z1
      obtain ⟨k, hk, rfl, z1, OO, BB⟩ := hrel
      by_cases hlt : k < n
      · have cy := Ints.cell_low H2.out hbl2 (by rw [← HN.out]; exact hlt) BB.out
        have I1 := Lib.hid (H.out.below (by rw [← HG.out]; exact BB.out))
        obtain ⟨y, hyy⟩ : ∃ y, y = ys.getD k 0 := ⟨_, rfl⟩
        rw [← hyy] at cy
        have PP := Lib.hid (fun (w : World) (h : Ints w a xs.length cap xs) => iPartialOf a _ cap xs ys k (xs.length + n) y w h HX.out HY.out hyy (by rw [← HN.out]; exact hlt) (by rw [HN.out]) hl)
        have ER : Hid ((Tm.partL xs ys n).getD k [] = Tm.partR xs ys k) := Lib.hid (by rw [Tm.partL, List.getD_eq_getElem?_getD]; simp [hlt])
        clear hyy
        go_wp2_with fail
        refine (PP.out _ I1.out).mono ?_
        rintro e w2 ⟨a2, c2, rfl, hown, hb, ln⟩
        rw [← ER.out] at hown ⊢
        obtain ⟨us, ow, ul, u1, u2⟩ := OO.out
        have hs2 := hb.size
        have ow2 := own_below ow hb
        have ck := ow2.cellAt k (by omega)
        obtain ⟨uk, huk⟩ : ∃ uk, us[k]? = some uk := ⟨_, List.getElem?_eq_getElem (by omega)⟩
        rw [huk] at ck
        clear huk
        have fz := ow2.frozenAt k
        obtain ⟨R, hR⟩ : ∃ R, R = (Tm.partL xs ys n).getD k [] := ⟨_, rfl⟩
        rw [← hR] at hown ⊢
        have HR := Lib.hid hR
        have ST := Lib.hid (ow2.stored k (.slice a2 R.length c2))
        have NB : Hid (∀ q, (Value.slice a2 R.length c2).ownBlock = some q → wr.heap.size ≤ q ∧ q < w2.heap.size) := Lib.hid hown.lt
        have gl : G < w2.heap.size := by omega
        have OU := Lib.hid (OwnI.of (own_weak2 hown (Nat.le_of_lt z1)))
        have UU : Hid ((∀ j, j < k → ∃ u, us[j]? = some u ∧ OwnI w2 G wr.heap.size 3 u ((Tm.partL xs ys n).getD j []) ∧ Apart u (.slice (some ⟨G, 0, none⟩) n n)) ∧ (∀ i j, i < j → j < k → ∀ u u', us[i]? = some u → us[j]? = some u' → Apart u u')) := Lib.hid ⟨fun j hj => by
          obtain ⟨u, e, ho, ap⟩ := u1 j hj
          exact ⟨u, e, ho.stay (SameIn.of_below hb (Nat.le_refl _)), ap⟩, u2⟩
        have UL := Lib.hid ul
        have BB2 := Lib.hid (BB.out.trans (hb.mono (by omega)))
        clear ow ul u1 u2 hown hb ow2 OO BB I1 hR cy
        go_wp2_with fail
        have GB := ST.out.2
        have AG : Apart (.slice a2 R.length c2) (.slice (some ⟨G, 0, none⟩) n n) := fun q e1 e2 => by
          have := (NB.out q e1).1
          simp [Value.ownBlock] at e2
          omega
        have keep : ∀ {E : Nat} {u : Value} {xs : List Int}, OwnI w2 G E 3 u xs → Apart u (.slice (some ⟨G, 0, none⟩) n n) → OwnI (w2.setCell ⟨G, k, none⟩ (.slice a2 R.length c2)) G E 3 u xs := fun ho ap => ⟨own_stable ho.1 fun q hq => GB.block q (ho.1.lt q hq).2 (fun e => by cases e; exact ap _ hq rfl), ho.2⟩
        refine ⟨⟨k + 1, by omega, by go_num, by simp; omega, Lib.hid ⟨us.set k (.slice a2 R.length c2), ST.out.1, by simp; exact UL.out, fun j hj => ?_, fun i j hij hj u u' e1 e2 => ?_⟩, Lib.hid (BB2.out.grown GB (by omega) (fun q hq => by cases hq; omega))⟩, by simp [intOf]; omega⟩
        · rw [World.size_setCell]
          by_cases e : j = k
          · subst e
            rw [← HR.out]
            exact ⟨_, by rw [List.getElem?_set_self (by rw [UL.out]; exact hlt)], keep OU.out AG, AG⟩
          · obtain ⟨u, e1, ho, ap⟩ := UU.out.1 j (by omega)
            exact ⟨u, by rw [List.getElem?_set_ne (by omega)]; exact e1, keep (ho.wide (Nat.le_refl _) hs2) ap, ap⟩
        · rw [List.getElem?_set_ne (by omega)] at e1
          by_cases e : j = k
          · subst e
            rw [List.getElem?_set_self (by rw [UL.out]; exact hlt)] at e2
            cases e2
            obtain ⟨u0, e3, ho, _⟩ := UU.out.1 i hij
            rw [e1] at e3
            cases e3
            intro q h1 h2
            have := (NB.out q h2).1
            have := ho.2 q h1
            omega
          · rw [List.getElem?_set_ne (by omega)] at e2
            exact UU.out.2 i j hij (by omega) _ _ e1 e2
      · obtain rfl : k = n := by omega
        have e := HN.out
        subst e
        go_wp2_with fail
        go_ret2
        obtain ⟨us, ow, ul, u1, u2⟩ := OO.out
        have PLL : (Tm.partL xs ys ys.length).length = ys.length := Tm.partL_length _ _ _
        have eG := HG.out
        subst eG
        refine ⟨_, rfl, ⟨us, by rw [PLL]; exact ow, fun q hq => by cases hq; exact z1, fun j hj => u1 j (by rw [PLL] at hj; exact hj), fun i j hij hj => u2 i j hij (by rw [PLL] at hj; exact hj)⟩, BB.out⟩
  · simp only [Bool.not_eq_true] at ho
    rw [Tm.parts, ho]
    rw [ho] at C
    go_enter Try.func11, Try.ntmps11
    go_wp2_with fail
    refine C.out.mono ?_
    rintro e w' ⟨rfl, rfl⟩
    go_wp2
    go_ret2
    exact ret_nil_lb (by (repeat' (first | (with_reducible exact Below.refl _ _) | (with_reducible assumption) | (with_reducible refine below_drewN ?_ _) | (with_reducible refine Below.drew ?_) | (with_reducible refine Below.alloc ?_ ?_ _) | (with_reducible refine Below.setCell ?_ ?_ _) | (with_reducible refine below_gw ?_ ?_ _) | (with_reducible refine below_via ?_ ‹Below _ _ _› ?_) | (with_reducible exact Nat.le_refl _) | (with_reducible refine le_gw ?_ _) | (with_reducible refine le_alloc ?_ _) | (with_reducible refine le_setCell ?_ _ _) | (with_reducible refine le_drew ?_) | (with_reducible refine le_drewN ?_ _) | go_size)))
end Go.Proofs.Ytgfgndfklonhfaa

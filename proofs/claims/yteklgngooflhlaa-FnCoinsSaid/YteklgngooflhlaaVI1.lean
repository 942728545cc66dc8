/- The program's weighings of things. The program's balances. -/
import Derived.Test.YteklgngooflhlaaVMath
import Derived.Test.YteklgngooflhlaaMs
import Derived.Test.YteklgngooflhlaaGI0
import Derived.Test.YteklgngooflhlaaBOwn
import Derived.Test.YteklgngooflhlaaAS
namespace Go.Proofs.Yteklgngooflhlaa
set_option maxRecDepth 20000
open Go.RowKit
set_option maxHeartbeats 1000000 in
theorem iPlacesWith (a : Option Addr) (n cap : Nat) (xs : List Int) (t : Int) (w : World) (h : Ints w a n cap xs) (hn : n ≤ 1048576) : Calls Try.prog 67 #[.slice a n cap, .int .i64 t] w (RetI 3 w (Tm.places xs t)) := by
  obtain ⟨i0, hi, hz0, hz1, hz2⟩ := info_parts infoInt
  have H := Lib.hid h
  obtain rfl : n = xs.length := h.1.symm
  clear h
  go_enter Try.func67, Try.ntmps67
  go_wp2
  go_loopw [5, 10] (fun v i wr => ∃ k : Nat, k ≤ xs.length ∧ i = .int .i64 k ∧ wr.ownsRow w.heap.size 3 1 v (Tm.placesF xs t k).length ((Tm.placesF xs t k).map (Value.int .i64)) ∧ Below w.heap.size w wr) (fun _ i _ => xs.length - (intOf i).toNat)
  case atStart => exact ⟨0, by omega, rfl, World.ownsRow_nil _ _ _ _, by (repeat' (first | (with_reducible exact Below.refl _ _) | (with_reducible assumption) | (with_reducible refine below_drewN ?_ _) | (with_reducible refine Below.drew ?_) | (with_reducible refine Below.alloc ?_ ?_ _) | (with_reducible refine Below.setCell ?_ ?_ _) | (with_reducible refine below_gw ?_ ?_ _) | (with_reducible refine below_via ?_ ‹Below _ _ _› ?_) | (with_reducible exact Nat.le_refl _) | (with_reducible refine le_gw ?_ _) | (with_reducible refine le_alloc ?_ _) | (with_reducible refine le_setCell ?_ _ _) | (with_reducible refine le_drew ?_) | (with_reducible refine le_drewN ?_ _) | go_size))⟩
  case round =>
    obtain ⟨k, hk, rfl, hown, hnx⟩ := hrel
    obtain ⟨x1, x2, _, x4⟩ := H.out.below hnx
    by_cases hlt : k < xs.length
    · rcases x4 with h0 | ⟨b, o, rfl, hbl, hc⟩
      · omega
      have c1 := hc k hlt
      obtain ⟨x, hx⟩ : ∃ x, x = xs.getD k 0 := ⟨_, rfl⟩
      rw [← hx] at c1
      have PL := Tm.placesF_len xs t k
      clear hc
      by_cases e : x = t
      · have PS : Hid (Tm.placesF xs t (k + 1) = Tm.placesF xs t k ++ [(k : Int)]) := Lib.hid (by rw [Tm.placesF, if_pos (by rw [← hx]; exact e)])
        have e1 : (x == t) = true := by simpa using e
        have hs := hnx.size
        obtain ⟨P, hP⟩ : ∃ P, P = Tm.placesF xs t k := ⟨_, rfl⟩
        rw [← hP] at hown PS PL
        clear hx e hP
        go_wp2_with (at_builtin; refine wpList_append_own _ rfl _ _ 24 rfl w.heap.size 3 i0 (.int .i64 0) 1 8 Try.underlying24 hi hz0 hz1 hz2 rfl (by decide) _ _ _ rfl (hown.alloc _) ⟨wr.heap.size, 0, none⟩ 1 1 [.int .i64 (k : Int)] rfl rfl (app_c1 _ _ _) (app_c2 _) (by unfold maxLen; omega) (by omega) (by have := hnx.size; simp; omega) ?_)
        intro v' w1 hown' hgrow _
        have hnx1 : Below w.heap.size w w1 := (hnx.alloc hs _).grown hgrow (by simp; omega) (fun k hk => (hown.lt k hk).1)
        have hown2 : w1.ownsRow w.heap.size 3 1 v' (Tm.placesF xs t (k + 1)).length ((Tm.placesF xs t (k + 1)).map (Value.int .i64)) := by rw [PS.out]; simpa using hown'
        clear hown hown' hgrow hnx
        go_wp2
        exact ⟨⟨k + 1, by omega, by go_num, hown2, hnx1⟩, by simp [intOf]; omega⟩
      · have PS : Tm.placesF xs t (k + 1) = Tm.placesF xs t k := by rw [Tm.placesF, if_neg (by rw [← hx]; exact e)]
        have e1 : (x == t) = false := by simpa using e
        rw [← PS] at hown
        clear hx e PS PL
        go_wp2
        exact ⟨⟨k + 1, by omega, by go_num, hown, hnx⟩, by simp [intOf]; omega⟩
    · obtain rfl : k = xs.length := by omega
      have PL := Tm.placesF_len xs t xs.length
      go_wp2
      go_ret
      exact ret_own hown hnx (by omega)
theorem iWeighThing (n : Int) (w : World) : Calls Try.prog 17 #[.int .i64 n] w (RetWB w (Tm.weighL n (-1)) (Tm.weighL n 1) (Tm.weighOk n)) := by
  have e30 : Tm.lim 30 = 102945566047324 := by decide
  have IW := Lib.hid (fun w => iWordOf n 30 w)
  by_cases ho : Tm.wordOk n 30 = true
  · rw [ho, Tm.word, if_pos ho] at IW
    have f := ho
    rw [Tm.wordOk, decide_eq_true_eq, e30] at f
    have XL : (Tm.wordL n 30).length ≤ 30 := by rw [Tm.wordL_length]; omega
    by_cases h0 : n < 0
    · have E : Tm.weighOk n = false := by rw [Tm.weighOk, decide_eq_false_iff_not]; omega
      rw [Tm.weighL, Tm.weighL, E]
      clear ho f E e30
      go_enter Try.func17, Try.ntmps17
      go_wp2_with fail
      refine (IW.out _).mono ?_
      rintro r w1 ⟨a1, c1, rfl, hown, hb, -⟩
      obtain ⟨p, rfl⟩ := gw_of_below hb
      clear hb hown
      go_wp2
      go_returns
      exact ⟨none, 0, none, 0, rfl, ownM_nil _ _ _, by (repeat' (first | (with_reducible exact Below.refl _ _) | (with_reducible assumption) | (with_reducible refine below_drewN ?_ _) | (with_reducible refine Below.drew ?_) | (with_reducible refine Below.alloc ?_ ?_ _) | (with_reducible refine Below.setCell ?_ ?_ _) | (with_reducible refine below_gw ?_ ?_ _) | (with_reducible refine below_via ?_ ‹Below _ _ _› ?_) | (with_reducible exact Nat.le_refl _) | (with_reducible refine le_gw ?_ _) | (with_reducible refine le_alloc ?_ _) | (with_reducible refine le_setCell ?_ _ _) | (with_reducible refine le_drew ?_) | (with_reducible refine le_drewN ?_ _) | go_size)), by simp, by simp⟩
    · have E : Tm.weighOk n = true := by rw [Tm.weighOk, decide_eq_true_eq]; omega
      rw [Tm.weighL, Tm.weighL, E, if_pos rfl, if_pos rfl]
      have P1 := Tm.places_len (Tm.wordL n 30) (-1)
      have P2 := Tm.places_len (Tm.wordL n 30) 1
      rw [show (30 : Int).toNat = 30 from rfl] at IW
      obtain ⟨xs, hxs⟩ : ∃ xs, xs = Tm.wordL n 30 := ⟨_, rfl⟩
      rw [← hxs] at XL IW P1 P2 ⊢
      have Q1 := Lib.hid (fun (a : Option Addr) (c : Nat) (w : World) (h : Ints w a xs.length c xs) => iPlacesWith a _ c xs (-1) w h (by omega))
      have Q2 := Lib.hid (fun (a : Option Addr) (c : Nat) (w : World) (h : Ints w a xs.length c xs) => iPlacesWith a _ c xs 1 w h (by omega))
      obtain ⟨ys, hys⟩ : ∃ ys, ys = Tm.places xs (-1) := ⟨_, rfl⟩
      obtain ⟨zs, hzs⟩ : ∃ zs, zs = Tm.places xs 1 := ⟨_, rfl⟩
      rw [← hys] at P1 Q1 ⊢
      rw [← hzs] at P2 Q2 ⊢
      clear ho f E e30 hxs hys hzs
      go_enter Try.func17, Try.ntmps17
      go_wp2_with fail
      refine (IW.out _).mono ?_
      rintro r w1 ⟨a1, c1, rfl, hown, hb, -⟩
      have I1 := Lib.hid (Ints.of_own hown)
      obtain ⟨p, rfl⟩ := gw_of_below hb
      clear hb hown
      go_wp2_with fail
      refine (Q1.out a1 c1 _ I1.out).mono ?_
      rintro r w1 ⟨a2, c2, rfl, hown, hb, -⟩
      have O2 := Lib.hid (OwnI.of hown)
      obtain ⟨q, rfl⟩ := gw_of_below hb
      have I2 := Lib.hid (I1.out.below hb)
      clear hb hown
      go_wp2_with fail
      refine (Q2.out a1 c1 _ (by have := I2.out; simp only [gw_gw] at this ⊢; exact this)).mono ?_
      rintro r w1 ⟨a3, c3, rfl, hown, hb, -⟩
      have O3 := Lib.hid (OwnI.of hown)
      obtain ⟨u, rfl⟩ := gw_of_below hb
      clear hb hown
      go_wp2
      go_returns
      have o1 := own_weak2 O2.out.1 (le_gw (Nat.le_refl _) p)
      have o2 := O3.out.1
      rw [gw_gw] at o1 o2
      exact ⟨a2, c2, a3, c3, rfl, ownM_two (by simp only [World.size_alloc]) (by simp only [World.size_alloc]) (by simp only [World.size_alloc]; omega) o1 o2 rfl rfl, by (repeat' (first | (with_reducible exact Below.refl _ _) | (with_reducible assumption) | (with_reducible refine below_drewN ?_ _) | (with_reducible refine Below.drew ?_) | (with_reducible refine Below.alloc ?_ ?_ _) | (with_reducible refine Below.setCell ?_ ?_ _) | (with_reducible refine below_gw ?_ ?_ _) | (with_reducible refine below_via ?_ ‹Below _ _ _› ?_) | (with_reducible exact Nat.le_refl _) | (with_reducible refine le_gw ?_ _) | (with_reducible refine le_alloc ?_ _) | (with_reducible refine le_setCell ?_ _ _) | (with_reducible refine le_drew ?_) | (with_reducible refine le_drewN ?_ _) | go_size)), by omega, by omega⟩
  · simp only [Bool.not_eq_true] at ho
    have E : Tm.weighOk n = false := by
      rw [Tm.weighOk, decide_eq_false_iff_not]
      intro h
      rw [Tm.wordOk, decide_eq_false_iff_not, e30] at ho
      exact ho ⟨by omega, by omega, by omega, by omega⟩
    rw [ho, Tm.word, ho] at IW
    rw [Tm.weighL, Tm.weighL, E]
    clear ho E e30
    go_enter Try.func17, Try.ntmps17
    go_wp2_with fail
    refine (IW.out _).mono ?_
    rintro r w1 ⟨a1, c1, rfl, hown, hb, -⟩
    obtain ⟨p, rfl⟩ := gw_of_below hb
    clear hb hown
    go_wp2
    go_returns
    exact ⟨none, 0, none, 0, rfl, ownM_nil _ _ _, by (repeat' (first | (with_reducible exact Below.refl _ _) | (with_reducible assumption) | (with_reducible refine below_drewN ?_ _) | (with_reducible refine Below.drew ?_) | (with_reducible refine Below.alloc ?_ ?_ _) | (with_reducible refine Below.setCell ?_ ?_ _) | (with_reducible refine below_gw ?_ ?_ _) | (with_reducible refine below_via ?_ ‹Below _ _ _› ?_) | (with_reducible exact Nat.le_refl _) | (with_reducible refine le_gw ?_ _) | (with_reducible refine le_alloc ?_ _) | (with_reducible refine le_setCell ?_ _ _) | (with_reducible refine le_drew ?_) | (with_reducible refine le_drewN ?_ _) | go_size)), by simp, by simp⟩
set_option maxHeartbeats 2000000 in
theorem iPutTrits (G : Nat) (g : Nat → Int) (b : Option Addr) (m c : Nat) (ps : List Int) (t : Int) (W0 w : World) (h : Ints W0 b m c ps) (hb : Below W0.heap.size W0 w) (hown : w.ownsRow W0.heap.size 3 1 (.slice (some ⟨G, 0, none⟩) 30 30) 30 (rowV 30 g)) :
    Calls Try.prog 69 #[.slice (some ⟨G, 0, none⟩) 30 30, .slice b m c, .int .i64 t] w fun e w' => e = .returned (.bool (Tm.putF t ps g).1) ∧ w'.ownsRow W0.heap.size 3 1 (.slice (some ⟨G, 0, none⟩) 30 30) 30 (rowV 30 (Tm.putF t ps g).2) ∧ Below W0.heap.size W0 w' ∧ w.heap.size ≤ w'.heap.size := by
  have H := Lib.hid h
  obtain rfl : m = ps.length := h.1.symm
  have m2 := h.2.1
  have m3 := h.2.2.1
  unfold maxLen at m3
  have G0 := (hown.lt G rfl)
  have O0 := Lib.hid hown
  have B0 := Lib.hid hb
  clear h hb hown
  go_enter Try.func69, Try.ntmps69
  go_wp2
  go_loopw [11] (fun i wr => ∃ (k : Nat) (f : Nat → Int), k ≤ ps.length ∧ i = .int .i64 k ∧ w.heap.size ≤ wr.heap.size ∧ Hid (wr.ownsRow W0.heap.size 3 1 (.slice (some ⟨G, 0, none⟩) 30 30) 30 (rowV 30 f)) ∧ Hid (Tm.putF t ps g = Tm.putF t (ps.drop k) f) ∧ Hid (Below W0.heap.size W0 wr)) (fun i _ => ps.length - (intOf i).toNat)
  case atStart => exact ⟨0, g, by omega, rfl, Nat.le_refl _, O0, Lib.hid rfl, B0⟩
  case round =>
    clear O0 B0
    obtain ⟨k, f, hk, rfl, hz, OO, FF, BB⟩ := hrel
    by_cases hlt : k < ps.length
    · rcases (H.out.below BB.out).2.2.2 with e | ⟨bb, o, rfl, hbl, hc⟩
      · omega
      have c1 := hc k hlt
      have PY := Lib.hid (fun h => Tm.putF_yes (t := t) (ps := ps) (g := f) hlt h)
      have PN := Lib.hid (fun h => Tm.putF_no (t := t) (ps := ps) (g := f) hlt h)
      obtain ⟨x, hx⟩ : ∃ x, x = ps.getD k 0 := ⟨_, rfl⟩
      rw [← hx] at c1 PY PN
      have hs := BB.out.size
      have i1 := Lib.hid (ints_one wr x 3)
      have LB := Lib.hid (fun W h => iAreBefore 30 (some ⟨wr.heap.size, 0, none⟩) 1 1 [x] W h)
      clear hc hx
      by_cases cx : 0 ≤ x ∧ x < 30
      · have LO : Tm.linesOk 30 [x] = true := by simp [Tm.linesOk, Tm.inB]; omega
        rw [LO] at LB
        obtain ⟨q, rfl⟩ : ∃ q : Nat, x = (q : Int) := ⟨x.toNat, by omega⟩
        rw [Int.toNat_natCast] at PY PN
        have q30 : q < 30 := by omega
        have q0 : (0 : Int) ≤ (q : Int) := by omega
        have q1 : (q : Int) < 30 := by omega
        have ck := own_cell (own_below OO.out ((Below.refl wr.heap.size wr).alloc (Nat.le_refl _) (.cells #[.int .i64 (q : Int)] 3))) q q30
        obtain ⟨z, hz⟩ : ∃ z, z = f q := ⟨_, rfl⟩
        rw [← hz] at ck PY PN
        by_cases z0 : z = 0
        · have PE := Lib.hid (PY.out ⟨cx.1, cx.2, z0⟩)
          have z1 : (z != 0) = false := by simpa using z0
          have OA := own_below OO.out ((Below.refl wr.heap.size wr).alloc (Nat.le_refl _) (.cells #[.int .i64 (q : Int)] 3))
          have fz := OA.frozenAt q
          obtain ⟨s1, s2⟩ := own_put OA q t
          have S1 := Lib.hid s1
          have hB := Lib.hid ((BB.out.alloc hs (.cells #[.int .i64 (q : Int)] 3)).grown s2 (by rw [World.size_alloc]; omega) (fun q hq => by cases hq; exact G0.1))
          clear PY PN LO cx hz OA s1 s2
          go_wp2_with fail
          refine (LB.out _ i1.out).mono ?_
          rintro e w1 ⟨rfl, rfl⟩
          go_wp2_with fail
          exact ⟨⟨k + 1, _, by omega, by go_num, by simp; omega, S1, Lib.hid (by rw [FF.out, PE.out]), hB⟩, by simp [intOf]; omega⟩
        · have PE := Lib.hid (PN.out (fun h => z0 h.2.2))
          have z1 : (z != 0) = true := by simpa using z0
          clear PY PN LO cx hz
          go_wp2_with fail
          refine (LB.out _ i1.out).mono ?_
          rintro e w1 ⟨rfl, rfl⟩
          go_wp2
          go_ret
          exact ⟨by rw [FF.out, PE.out]; rfl, by rw [FF.out, PE.out]; exact own_below OO.out ((Below.refl wr.heap.size wr).alloc (Nat.le_refl _) _), BB.out.alloc hs _, by simp; omega⟩
      · have LO : Tm.linesOk 30 [x] = false := by simp [Tm.linesOk, Tm.inB]; omega
        rw [LO] at LB
        have PE := Lib.hid (PN.out (fun h => cx ⟨h.1, h.2.1⟩))
        clear PY PN LO cx
        go_wp2_with fail
        refine (LB.out _ i1.out).mono ?_
        rintro e w1 ⟨rfl, rfl⟩
        go_wp2
        go_ret
        exact ⟨by rw [FF.out, PE.out]; rfl, by rw [FF.out, PE.out]; exact own_below OO.out ((Below.refl wr.heap.size wr).alloc (Nat.le_refl _) _), BB.out.alloc hs _, by simp; omega⟩
    · obtain rfl : k = ps.length := by omega
      have PE := Lib.hid (Tm.putF_end (t := t) (ps := ps) (g := f) (k := ps.length) (Nat.le_refl _))
      go_wp2
      go_ret
      exact ⟨by rw [FF.out, PE.out]; rfl, by rw [FF.out, PE.out]; exact OO.out, BB.out, hz⟩
set_option maxHeartbeats 1000000 in
theorem iBalanceOf (a : Option Addr) (n c : Nat) (s : List Int) (b : Option Addr) (m d : Nat) (o : List Int) (x : Int) (w : World) (h : Ms w a n c s b m d o) : Calls Try.prog 18 #[weigV a n c b m d, .int .i64 x] w fun e w' => e = .returned (.tuple #[.int .i64 (Tm.bal s o x), .bool (Tm.balOk s o x)]) ∧ Below w.heap.size w w' := by
  obtain ⟨i0, hi, hz0, hz1, hz2⟩ := info_parts infoInt
  have H := Lib.hid h
  clear h
  have e30 : Tm.lim 30 = 102945566047324 := by decide
  obtain ⟨W0, hW⟩ : ∃ W0, W0 = w.alloc (.cells #[.slice a n c, .slice b m d] 27) := ⟨_, rfl⟩
  have H0 : Hid (Ms W0 a n c s b m d o) := Lib.hid (by rw [hW]; exact H.out.alloc _)
  have BX := (box2_of hW.symm).1
  have BW := Lib.hid (box2_of hW.symm).2
  have SW : W0.heap.size = w.heap.size + 1 := by rw [hW]; simp
  have KC : Hid (∀ W, Below (w.heap.size + 1) W0 W → W.cell? ⟨w.heap.size, 0, none⟩ = some (.slice a n c) ∧ W.cell? ⟨w.heap.size, 1, none⟩ = some (.slice b m d)) := Lib.hid fun W hh => (BX.below (by rw [SW]; exact hh)).2
  have DONE : Hid (∀ W, Below (w.heap.size + 1) W0 W → Below w.heap.size w W) := Lib.hid fun W hh => BW.out.trans (hh.mono (by omega))
  clear BX
  go_enter Try.func18, Try.ntmps18
  go_wp2_with (at_make; refine wpList_make_full _ rfl _ _ 24 rfl (w.heap.size + 1) 3 i0 (.int .i64 0) 1 Try.underlying24 hi hz0 hz1 _ _ _ _ (30) rfl rfl (by first | rfl | omega) (by first | rfl | omega) (by rw [hz2]; omega) (by unfold maxLen; omega) (by first | go_size | (simp only [gw_size, World.size_alloc]; omega) | exact Nat.le_refl _ | omega) ?_)
  intro w1 hown hgrow
  rw [← hW] at hgrow
  have O1 : Hid (w1.ownsRow W0.heap.size 3 1 (.slice (some ⟨W0.heap.size, 0, none⟩) 30 30) 30 (rowV 30 fun _ => 0)) := Lib.hid (by rw [SW]; exact rowV_own hown)
  have B1 : Hid (Below (w.heap.size + 1) W0 w1) := Lib.hid ((Below.refl _ _).grown hgrow (by omega) (fun k hk => by cases hk))
  clear hown hgrow hW
  cases hw : Tm.wordOk x 30 with
  | false =>
    have E : Tm.balOk s o x = false := by rw [Tm.balOk, hw]; rfl
    have E2 : Tm.bal s o x = 0 := by rw [Tm.bal, E]; rfl
    have IH := Lib.hid (iHasWord x 30 w1)
    rw [hw] at IH
    go_wp2_with (go_at_call 68; refine IH.out.mono ?_; rintro e w2 ⟨rfl, rfl⟩)
    go_ret2
    exact ⟨by rw [E, E2]; rfl, DONE.out _ B1.out⟩
  | true =>
    have f := hw
    rw [Tm.wordOk, decide_eq_true_eq, e30] at f
    have IH := Lib.hid (iHasWord x 30 w1)
    rw [hw] at IH
    have k1 := KC.out _ B1.out
    obtain ⟨k1a, k1b⟩ := k1
    have P1 := Lib.hid (iPutTrits W0.heap.size Tm.g00 a n c s 1 W0 w1 H0.out.1 (by rw [SW]; exact B1.out) O1.out)
    have E1 : Hid (Tm.putF 1 s Tm.g00 = Tm.pan1 s) := Lib.hid rfl
    rw [E1.out, SW] at P1
    cases h1 : (Tm.pan1 s).1 with
    | false =>
      have E : Tm.balOk s o x = false := by rw [Tm.balOk, h1]; simp
      have E2 : Tm.bal s o x = 0 := by rw [Tm.bal, E]; rfl
      rw [h1] at P1
      go_wp2_with (first | (go_at_call 68; refine IH.out.mono ?_; rintro e w2 ⟨rfl, rfl⟩) | (go_at_call 69; refine P1.out.mono ?_; rintro e w2 ⟨rfl, o2, b2, z2⟩; clear o2; replace b2 := Lib.hid b2))
      go_ret2
      exact ⟨by rw [E, E2]; rfl, DONE.out _ b2.out⟩
    | true =>
      rw [h1] at P1
      obtain ⟨g1, hg1⟩ : ∃ g1, g1 = (Tm.pan1 s).2 := ⟨_, rfl⟩
      rw [← hg1] at P1
      have P2 := Lib.hid (fun w2 o2 b2 => iPutTrits W0.heap.size g1 b m d o (-1) W0 w2 H0.out.2 b2 o2)
      have E2 : Hid (Tm.putF (-1) o g1 = Tm.pan2 s o) := Lib.hid (by rw [hg1]; rfl)
      rw [E2.out, SW] at P2
      have PI := Lib.hid (Tm.pans_isW s o)
      have PV := Tm.val30 PI.out
      have PD : Hid (Tm.pans s o = genL 30 (Tm.pan2 s o).2) := Lib.hid rfl
      cases h2 : (Tm.pan2 s o).1 with
      | false =>
        have E : Tm.balOk s o x = false := by rw [Tm.balOk, h2]; simp
        have E2 : Tm.bal s o x = 0 := by rw [Tm.bal, E]; rfl
        rw [h2] at P2
        go_wp2_with (go_at_call 68; refine IH.out.mono ?_; rintro e w2 ⟨rfl, rfl⟩)
        refine P1.out.mono ?_
        rintro e w2 ⟨rfl, o2, b2, z2⟩
        have k2 := KC.out _ b2
        obtain ⟨k2a, k2b⟩ := k2
        have Q2 := Lib.hid (P2.out w2 o2 b2)
        clear o2 b2 k1a k1b
        go_wp2_with fail
        refine Q2.out.mono ?_
        rintro e w3 ⟨rfl, o3, b3, z3⟩
        clear o3
        replace b3 := Lib.hid b3
        go_wp2_with fail
        go_ret2
        exact ⟨by rw [E, E2]; rfl, DONE.out _ b3.out⟩
      | true =>
        have E : Tm.balOk s o x = true := by rw [Tm.balOk, hw, h1, h2]; rfl
        have EB : Tm.bal s o x = Tm.sgn (x + Tm.val (Tm.pans s o)) := by rw [Tm.bal, E, if_pos rfl]
        rw [h2] at P2
        have VE : Hid (Tm.value (Tm.pans s o) = Tm.val (Tm.pans s o)) := Lib.hid (by rw [Tm.value, if_pos PI.out])
        have IV := Lib.hid (fun (W9 : World) (h : Ints W9 (some ⟨w.heap.size + 1, 0, none⟩) 30 30 (Tm.pans s o)) => iValueOf (some ⟨w.heap.size + 1, 0, none⟩) 30 30 (Tm.pans s o) W9 h)
        rw [VE.out] at IV
        have RE : Hid (∀ w3, w3.ownsRow (w.heap.size + 1) 3 1 (.slice (some ⟨w.heap.size + 1, 0, none⟩) 30 30) 30 (rowV 30 (Tm.pan2 s o).2) → Ints w3 (some ⟨w.heap.size + 1, 0, none⟩) 30 30 (Tm.pans s o)) := Lib.hid fun w3 h3 => by
          rw [rowV_gen, ← PD.out] at h3
          exact Ints.of_own h3
        obtain ⟨v, hv⟩ : ∃ v, v = Tm.val (Tm.pans s o) := ⟨_, rfl⟩
        rw [← hv] at PV IV EB
        have WR : IntKind.i64.wrap (x + v) = x + v := IntWalk.i64_in _ (by omega)
        go_wp2_with (go_at_call 68; refine IH.out.mono ?_; rintro e w2 ⟨rfl, rfl⟩)
        refine P1.out.mono ?_
        rintro e w2 ⟨rfl, o2, b2, z2⟩
        have k2 := KC.out _ b2
        obtain ⟨k2a, k2b⟩ := k2
        have Q2 := Lib.hid (P2.out w2 o2 b2)
        clear o2 b2 k1a k1b
        go_wp2_with fail
        refine Q2.out.mono ?_
        rintro e w3 ⟨rfl, o3, b3, z3⟩
        have I3 := Lib.hid (RE.out _ o3)
        have B3 := Lib.hid b3
        clear o3 b3 k2a k2b
        go_wp2_with fail
        refine (IV.out _ I3.out).mono ?_
        rintro e w4 ⟨rfl, rfl⟩
        go_wp2_with fail
        refine (iSignOf _ _).mono ?_
        rintro e w4 ⟨rfl, rfl⟩
        go_wp2_with fail
        go_ret2
        exact ⟨by rw [E, EB, hv]; rfl, DONE.out _ B3.out⟩
theorem iPanWeight (a : Option Addr) (n c : Nat) (ws : List Int) (b : Option Addr) (m d : Nat) (ps : List Int) (w : World) (h : Ints w a n c ws) (h' : Ints w b m d ps) (hw : Tm.coinsIn ws = true) (hp : Tm.linesOk (ws.length : Int) ps = true) (hm : m ≤ 1048576) : Calls Try.prog 82 #[.slice a n c, .slice b m d] w fun e w' => e = .returned (.int .i64 (Tm.panW ws ps)) ∧ w = w' := by
  obtain ⟨x1, x2, x3, x4⟩ := h
  obtain ⟨y1, y2, y3, y4⟩ := h'
  subst x1
  subst y1
  unfold maxLen at x3 y3
  have HW := Lib.hid hw
  have HP := Lib.hid (Tm.linesOk_at hp)
  clear hw hp
  go_enter Try.func82, Try.ntmps82
  go_wp2
  go_loop [5, 10] (fun q i => ∃ k : Nat, k ≤ ps.length ∧ i = .int .i64 k ∧ q = .int .i64 (Tm.panF ws ps k)) (fun _ i => ps.length - (intOf i).toNat)
  case atStart => exact ⟨0, by omega, rfl, rfl⟩
  case round =>
    obtain ⟨k, hk, rfl, rfl⟩ := hrel
    by_cases hlt : k < ps.length
    · rcases y4 with h0 | ⟨b', o', rfl, hbl', hc'⟩
      · omega
      have c2 := hc' k hlt
      have lk := HP.out k hlt
      have PS : Tm.panF ws ps (k + 1) = Tm.panF ws ps k + ws.getD (ps.getD k 0).toNat 0 := rfl
      have BD := Tm.panF_bd HW.out ps k
      have BX := Tm.coinsIn_at HW.out (ps.getD k 0).toNat
      obtain ⟨x, hx⟩ : ∃ x, x = ps.getD k 0 := ⟨_, rfl⟩
      rw [← hx] at c2 lk PS BX
      obtain ⟨q, rfl⟩ : ∃ q : Nat, x = (q : Int) := ⟨x.toNat, by omega⟩
      rw [Int.toNat_natCast] at PS BX
      rcases x4 with h0 | ⟨b, o, rfl, hbl, hc⟩
      · omega
      have c1 := hc q (by omega)
      obtain ⟨z, hz⟩ : ∃ z, z = ws.getD q 0 := ⟨_, rfl⟩
      rw [← hz] at c1 PS BX
      have q1 : (q : Int) < (ws.length : Int) := by omega
      have q0 : (0 : Int) ≤ (q : Int) := by omega
      obtain ⟨P, hP⟩ : ∃ P, P = Tm.panF ws ps k := ⟨_, rfl⟩
      rw [← hP] at PS BD ⊢
      have WR : IntKind.i64.wrap (P + z) = P + z := IntWalk.i64_in _ (by omega)
      have PS' := Lib.hid PS
      clear hc hc' hx hz hP PS
      go_wp2
      go_round
      case rel => exact ⟨k + 1, by omega, by go_num, by rw [PS'.out]⟩
      case measure => simp [intOf]; omega
    · obtain rfl : k = ps.length := by omega
      go_wp2
      go_ret
      exact ⟨rfl, rfl⟩
namespace Tm
theorem outs_coins (ws : List Int) : outs 0 1000000 ws = !coinsIn ws := by
  rw [outs, coinsIn]
  induction ws with
  | nil => rfl
  | cons x t ih => rw [List.any_cons, List.all_cons, ih, Bool.not_and]
end Tm
set_option maxHeartbeats 1000000 in
theorem iWeighCoins (a0 : Option Addr) (n0 c0 : Nat) (ws : List Int) (a : Option Addr) (n c : Nat) (s : List Int) (b : Option Addr) (m d : Nat) (o : List Int) (w : World) (h0 : Ints w a0 n0 c0 ws) (h : Ms w a n c s b m d o) (hn : n ≤ 1048576) (hm : m ≤ 1048576) : Calls Try.prog 28 #[.slice a0 n0 c0, weigV a n c b m d] w fun e w' => e = .returned (.tuple #[.int .i64 (Tm.weighed ws s o), .bool (Tm.weighC ws s o)]) ∧ Below w.heap.size w w' := by
  have H := Lib.hid h
  have J := Lib.hid h0
  obtain rfl : n = s.length := h.1.1.symm
  obtain rfl : m = o.length := h.2.1.symm
  obtain rfl : n0 = ws.length := h0.1.symm
  have j2 := h0.2.1
  have j3 := h0.2.2.1
  unfold maxLen at j3
  clear h h0
  obtain ⟨W0, hW⟩ : ∃ W0, W0 = w.alloc (.cells #[.slice a s.length c, .slice b o.length d] 27) := ⟨_, rfl⟩
  have H0 : Hid (Ms W0 a s.length c s b o.length d o) := Lib.hid (by rw [hW]; exact H.out.alloc _)
  have J0 : Hid (Ints W0 a0 ws.length c0 ws) := Lib.hid (by rw [hW]; exact J.out.alloc _)
  have BX := (box2_of hW.symm).1
  have BW := Lib.hid (box2_of hW.symm).2
  have SW : W0.heap.size = w.heap.size + 1 := by rw [hW]; simp
  have KC : Hid (∀ W, Below W0.heap.size W0 W → W.cell? ⟨w.heap.size, 0, none⟩ = some (.slice a s.length c) ∧ W.cell? ⟨w.heap.size, 1, none⟩ = some (.slice b o.length d)) := Lib.hid fun W hh => (BX.below hh).2
  have DONE : Hid (∀ W, Below W0.heap.size W0 W → Below w.heap.size w W) := Lib.hid fun W hh => BW.out.trans (hh.mono (by omega))
  have HL := Lib.hid (iHasLacks 0 1000000 a0 _ c0 ws W0 J0.out)
  have CE := Tm.outs_coins ws
  rw [CE] at HL
  clear BX CE
  cases hc : Tm.coinsIn ws with
  | false =>
    have E : Tm.weighC ws s o = false := by rw [Tm.weighC, hc]; rfl
    have E2 : Tm.weighed ws s o = 0 := by rw [Tm.weighed, E]; rfl
    rw [hc] at HL
    go_enter Try.func28, Try.ntmps28
    go_wp2_with fail
    rw [← hW]
    refine HL.out.mono ?_
    rintro e w1 ⟨rfl, hb⟩
    go_wp2
    go_ret2
    exact ⟨by rw [E, E2]; rfl, DONE.out _ hb⟩
  | true =>
    rw [hc] at HL
    have A1 := Lib.hid (fun (W : World) (h : Below W0.heap.size W0 W) => iAreBefore (ws.length : Int) a _ c s W (H0.out.1.below h))
    have A2 := Lib.hid (fun (W : World) (h : Below W0.heap.size W0 W) => iAreBefore (ws.length : Int) b _ d o W (H0.out.2.below h))
    cases h1 : Tm.linesOk (ws.length : Int) s with
    | false =>
      have E : Tm.weighC ws s o = false := by rw [Tm.weighC, h1]; simp
      have E2 : Tm.weighed ws s o = 0 := by rw [Tm.weighed, E]; rfl
      rw [h1] at A1
      go_enter Try.func28, Try.ntmps28
      go_wp2_with fail
      rw [← hW]
      refine HL.out.mono ?_
      rintro e w1 ⟨rfl, hb⟩
      obtain ⟨k1, k2⟩ := KC.out _ hb
      have HB := Lib.hid hb
      clear hb
      go_wp2_with fail
      refine (A1.out _ HB.out).mono ?_
      rintro e w2 ⟨rfl, rfl⟩
      go_wp2
      go_ret2
      exact ⟨by rw [E, E2]; rfl, DONE.out _ HB.out⟩
    | true =>
      rw [h1] at A1
      cases h2 : Tm.linesOk (ws.length : Int) o with
      | false =>
        have E : Tm.weighC ws s o = false := by rw [Tm.weighC, h2]; simp
        have E2 : Tm.weighed ws s o = 0 := by rw [Tm.weighed, E]; rfl
        rw [h2] at A2
        go_enter Try.func28, Try.ntmps28
        go_wp2_with fail
        rw [← hW]
        refine HL.out.mono ?_
        rintro e w1 ⟨rfl, hb⟩
        obtain ⟨k1, k2⟩ := KC.out _ hb
        have HB := Lib.hid hb
        clear hb
        go_wp2_with fail
        refine (A1.out _ HB.out).mono ?_
        rintro e w2 ⟨rfl, rfl⟩
        go_wp2_with fail
        refine (A2.out _ HB.out).mono ?_
        rintro e w2 ⟨rfl, rfl⟩
        go_wp2
        go_ret2
        exact ⟨by rw [E, E2]; rfl, DONE.out _ HB.out⟩
      | true =>
        have E : Tm.weighC ws s o = true := by rw [Tm.weighC, hc, h1, h2]; rfl
        have E2 : Tm.weighed ws s o = Tm.sgn (Tm.panW ws s - Tm.panW ws o) := by rw [Tm.weighed, E]; rfl
        rw [h2] at A2
        have P1 := Lib.hid (fun (W : World) (h : Below W0.heap.size W0 W) => iPanWeight a0 _ c0 ws a _ c s W (J0.out.below h) (H0.out.1.below h) hc h1 hn)
        have P2 := Lib.hid (fun (W : World) (h : Below W0.heap.size W0 W) => iPanWeight a0 _ c0 ws b _ d o W (J0.out.below h) (H0.out.2.below h) hc h2 hm)
        have B1 := Tm.panF_bd hc s s.length
        have B2 := Tm.panF_bd hc o o.length
        rw [← Tm.panW] at B1 B2
        obtain ⟨x, hx⟩ : ∃ x, x = Tm.panW ws s := ⟨_, rfl⟩
        obtain ⟨y, hy⟩ : ∃ y, y = Tm.panW ws o := ⟨_, rfl⟩
        rw [← hx] at P1 B1 E2
        rw [← hy] at P2 B2 E2
        have WR : IntKind.i64.wrap (x - y) = x - y := IntWalk.i64_in _ (by omega)
        have HX := Lib.hid hx
        have HY := Lib.hid hy
        clear hx hy
        go_enter Try.func28, Try.ntmps28
        go_wp2_with fail
        rw [← hW]
        refine HL.out.mono ?_
        rintro e w1 ⟨rfl, hb⟩
        obtain ⟨k1, k2⟩ := KC.out _ hb
        have HB := Lib.hid hb
        clear hb
        go_wp2_with fail
        refine (A1.out _ HB.out).mono ?_
        rintro e w2 ⟨rfl, rfl⟩
        go_wp2_with fail
        refine (A2.out _ HB.out).mono ?_
        rintro e w2 ⟨rfl, rfl⟩
        go_wp2
        go_quiet ((first | (go_at_call 70; exact quiet_same fun _ => iSignOf _ _) | (go_at_call 82; with_reducible exact quietB (fun W h => P1.out W (HB.out.trans (h.mono HB.out.size)))) | (go_at_call 82; with_reducible exact quietB (fun W h => P2.out W (HB.out.trans (h.mono HB.out.size))))))
        go_wp2
        go_ret2
        exact ⟨by rw [E, E2]; rfl, DONE.out _ (below_drewN HB.out _)⟩
end Go.Proofs.Yteklgngooflhlaa

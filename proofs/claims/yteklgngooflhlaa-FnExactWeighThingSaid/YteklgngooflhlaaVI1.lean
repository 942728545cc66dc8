/- The program's weighings of things. -/
import Derived.Test.YteklgngooflhlaaVMath
import Derived.Test.YteklgngooflhlaaVRow
import Derived.Test.YteklgngooflhlaaGI0
import Derived.Test.YteklgngooflhlaaBOwn
namespace Go.Proofs.Yteklgngooflhlaa
set_option maxRecDepth 20000
open Go.RowKit
set_option maxHeartbeats 1000000 in
theorem iPlacesWith (a : Option Addr) (n cap : Nat) (xs : List Int) (t : Int) (w : World) (h : Ints w a n cap xs) (hn : n ≤ 1048576) : Calls Try.prog 67 #[.slice a n cap, .int .i64 t] w (RetI 3 w (Tm.places xs t)) := by
  obtain ⟨i0, hi, hz0, hz1, hz2⟩ := info_parts infoInt
  have H := Lib.hid h
  obtain rfl : n = xs.length := h.1.symm
  clear h
  go_enter Try.func67, Try.ntmps67
  go_wp2
  go_loopw [5, 10] (fun v i wr => ∃ k : Nat, k ≤ xs.length ∧ i = .int .i64 k ∧ wr.ownsRow w.heap.size 3 1 v (Tm.placesF xs t k).length ((Tm.placesF xs t k).map (Value.int .i64)) ∧ Below w.heap.size w wr) (fun _ i _ => xs.length - (intOf i).toNat)
  case atStart => exact ⟨0, by omega, rfl, World.ownsRow_nil _ _ _ _, by (repeat' (first | (with_reducible exact Below.refl _ _) | (with_reducible assumption) | (with_reducible refine below_drewN ?_ _) | (with_reducible refine Below.drew ?_) | (with_reducible refine Below.alloc ?_ ?_ _) | (with_reducible refine Below.setCell ?_ ?_ _) | (with_reducible refine below_gw ?_ ?_ _) | (with_reducible refine below_via ?_ ‹Below _ _ _› ?_) | (with_reducible exact Nat.le_refl _) | (with_reducible refine le_gw ?_ _) | (with_reducible refine le_alloc ?_ _) | (with_reducible refine le_setCell ?_ _ _) | (with_reducible refine le_drew ?_) | (with_reducible refine le_drewN ?_ _) | go_size))⟩
  case round =>
    obtain ⟨k, hk, rfl, hown, hnx⟩ := hrel
    obtain ⟨x1, x2, _, x4⟩ := H.out.below hnx
    by_cases hlt : k < xs.length
    · rcases x4 with h0 | ⟨b, o, rfl, hbl, hc⟩
      · omega
      have c1 := hc k hlt
      obtain ⟨x, hx⟩ : ∃ x, x = xs.getD k 0 := ⟨_, rfl⟩
      rw [← hx] at c1
      have PL := Tm.placesF_len xs t k
      clear hc
      by_cases e : x = t
      · have PS : Hid (Tm.placesF xs t (k + 1) = Tm.placesF xs t k ++ [(k : Int)]) := Lib.hid (by rw [Tm.placesF, if_pos (by rw [← hx]; exact e)])
        have e1 : (x == t) = true := by simpa using e
        have hs := hnx.size
        obtain ⟨P, hP⟩ : ∃ P, P = Tm.placesF xs t k := ⟨_, rfl⟩
        rw [← hP] at hown PS PL
        clear hx e hP
        go_wp2_with (at_builtin; refine wpList_append_own _ rfl _ _ 24 rfl w.heap.size 3 i0 (.int .i64 0) 1 8 Try.underlying24 hi hz0 hz1 hz2 rfl (by decide) _ _ _ rfl (hown.alloc _) ⟨wr.heap.size, 0, none⟩ 1 1 [.int .i64 (k : Int)] rfl rfl (app_c1 _ _ _) (app_c2 _) (by unfold maxLen; omega) (by omega) (by have := hnx.size; simp; omega) ?_)
        intro v' w1 hown' hgrow _
        have hnx1 : Below w.heap.size w w1 := (hnx.alloc hs _).grown hgrow (by simp; omega) (fun k hk => (hown.lt k hk).1)
        have hown2 : w1.ownsRow w.heap.size 3 1 v' (Tm.placesF xs t (k + 1)).length ((Tm.placesF xs t (k + 1)).map (Value.int .i64)) := by rw [PS.out]; simpa using hown'
        clear hown hown' hgrow hnx
        go_wp2
        exact ⟨⟨k + 1, by omega, by go_num, hown2, hnx1⟩, by simp [intOf]; omega⟩
      · have PS : Tm.placesF xs t (k + 1) = Tm.placesF xs t k := by rw [Tm.placesF, if_neg (by rw [← hx]; exact e)]
        have e1 : (x == t) = false := by simpa using e
        rw [← PS] at hown
        clear hx e PS PL
        go_wp2
        exact ⟨⟨k + 1, by omega, by go_num, hown, hnx⟩, by simp [intOf]; omega⟩
    · obtain rfl : k = xs.length := by omega
      have PL := Tm.placesF_len xs t xs.length
      go_wp2
      go_ret
      exact ret_own hown hnx (by omega)
theorem iWeighThing (n : Int) (w : World) : Calls Try.prog 17 #[.int .i64 n] w (RetWB w (Tm.weighL n (-1)) (Tm.weighL n 1) (Tm.weighOk n)) := by
  have e30 : Tm.lim 30 = 102945566047324 := by decide
  have IW := Lib.hid (fun w => iWordOf n 30 w)
  by_cases ho : Tm.wordOk n 30 = true
  · rw [ho, Tm.word, if_pos ho] at IW
    have f := ho
    rw [Tm.wordOk, decide_eq_true_eq, e30] at f
    have XL : (Tm.wordL n 30).length ≤ 30 := by rw [Tm.wordL_length]; omega
    by_cases h0 : n < 0
    · have E : Tm.weighOk n = false := by rw [Tm.weighOk, decide_eq_false_iff_not]; omega
      rw [Tm.weighL, Tm.weighL, E]
      clear ho f E e30
      go_enter Try.func17, Try.ntmps17
      go_wp2_with fail
      refine (IW.out _).mono ?_
      rintro r w1 ⟨a1, c1, rfl, hown, hb, -⟩
      obtain ⟨p, rfl⟩ := gw_of_below hb
      clear hb hown
      go_wp2
      go_returns
      exact ⟨none, 0, none, 0, rfl, ownM_nil _ _ _, by (repeat' (first | (with_reducible exact Below.refl _ _) | (with_reducible assumption) | (with_reducible refine below_drewN ?_ _) | (with_reducible refine Below.drew ?_) | (with_reducible refine Below.alloc ?_ ?_ _) | (with_reducible refine Below.setCell ?_ ?_ _) | (with_reducible refine below_gw ?_ ?_ _) | (with_reducible refine below_via ?_ ‹Below _ _ _› ?_) | (with_reducible exact Nat.le_refl _) | (with_reducible refine le_gw ?_ _) | (with_reducible refine le_alloc ?_ _) | (with_reducible refine le_setCell ?_ _ _) | (with_reducible refine le_drew ?_) | (with_reducible refine le_drewN ?_ _) | go_size)), by simp, by simp⟩
    · have E : Tm.weighOk n = true := by rw [Tm.weighOk, decide_eq_true_eq]; omega
      rw [Tm.weighL, Tm.weighL, E, if_pos rfl, if_pos rfl]
      have P1 := Tm.places_len (Tm.wordL n 30) (-1)
      have P2 := Tm.places_len (Tm.wordL n 30) 1
      rw [show (30 : Int).toNat = 30 from rfl] at IW
      obtain ⟨xs, hxs⟩ : ∃ xs, xs = Tm.wordL n 30 := ⟨_, rfl⟩
      rw [← hxs] at XL IW P1 P2 ⊢
      have Q1 := Lib.hid (fun (a : Option Addr) (c : Nat) (w : World) (h : Ints w a xs.length c xs) => iPlacesWith a _ c xs (-1) w h (by omega))
      have Q2 := Lib.hid (fun (a : Option Addr) (c : Nat) (w : World) (h : Ints w a xs.length c xs) => iPlacesWith a _ c xs 1 w h (by omega))
      obtain ⟨ys, hys⟩ : ∃ ys, ys = Tm.places xs (-1) := ⟨_, rfl⟩
      obtain ⟨zs, hzs⟩ : ∃ zs, zs = Tm.places xs 1 := ⟨_, rfl⟩
      rw [← hys] at P1 Q1 ⊢
      rw [← hzs] at P2 Q2 ⊢
      clear ho f E e30 hxs hys hzs
      go_enter Try.func17, Try.ntmps17
      go_wp2_with fail
      refine (IW.out _).mono ?_
      rintro r w1 ⟨a1, c1, rfl, hown, hb, -⟩
      have I1 := Lib.hid (Ints.of_own hown)
      obtain ⟨p, rfl⟩ := gw_of_below hb
      clear hb hown
      go_wp2_with fail
      refine (Q1.out a1 c1 _ I1.out).mono ?_
      rintro r w1 ⟨a2, c2, rfl, hown, hb, -⟩
      have O2 := Lib.hid (OwnI.of hown)
      obtain ⟨q, rfl⟩ := gw_of_below hb
      have I2 := Lib.hid (I1.out.below hb)
      clear hb hown
      go_wp2_with fail
      refine (Q2.out a1 c1 _ (by have := I2.out; simp only [gw_gw] at this ⊢; exact this)).mono ?_
      rintro r w1 ⟨a3, c3, rfl, hown, hb, -⟩
      have O3 := Lib.hid (OwnI.of hown)
      obtain ⟨u, rfl⟩ := gw_of_below hb
      clear hb hown
      go_wp2
      go_returns
      have o1 := own_weak2 O2.out.1 (le_gw (Nat.le_refl _) p)
      have o2 := O3.out.1
      rw [gw_gw] at o1 o2
      exact ⟨a2, c2, a3, c3, rfl, ownM_two (by simp only [World.size_alloc]) (by simp only [World.size_alloc]) (by simp only [World.size_alloc]; omega) o1 o2 rfl rfl, by (repeat' (first | (with_reducible exact Below.refl _ _) | (with_reducible assumption) | (with_reducible refine below_drewN ?_ _) | (with_reducible refine Below.drew ?_) | (with_reducible refine Below.alloc ?_ ?_ _) | (with_reducible refine Below.setCell ?_ ?_ _) | (with_reducible refine below_gw ?_ ?_ _) | (with_reducible refine below_via ?_ ‹Below _ _ _› ?_) | (with_reducible exact Nat.le_refl _) | (with_reducible refine le_gw ?_ _) | (with_reducible refine le_alloc ?_ _) | (with_reducible refine le_setCell ?_ _ _) | (with_reducible refine le_drew ?_) | (with_reducible refine le_drewN ?_ _) | go_size)), by omega, by omega⟩
  · simp only [Bool.not_eq_true] at ho
    have E : Tm.weighOk n = false := by
      rw [Tm.weighOk, decide_eq_false_iff_not]
      intro h
      rw [Tm.wordOk, decide_eq_false_iff_not, e30] at ho
      exact ho ⟨by omega, by omega, by omega, by omega⟩
    rw [ho, Tm.word, ho] at IW
    rw [Tm.weighL, Tm.weighL, E]
    clear ho E e30
    go_enter Try.func17, Try.ntmps17
    go_wp2_with fail
    refine (IW.out _).mono ?_
    rintro r w1 ⟨a1, c1, rfl, hown, hb, -⟩
    obtain ⟨p, rfl⟩ := gw_of_below hb
    clear hb hown
    go_wp2
    go_returns
    exact ⟨none, 0, none, 0, rfl, ownM_nil _ _ _, by (repeat' (first | (with_reducible exact Below.refl _ _) | (with_reducible assumption) | (with_reducible refine below_drewN ?_ _) | (with_reducible refine Below.drew ?_) | (with_reducible refine Below.alloc ?_ ?_ _) | (with_reducible refine Below.setCell ?_ ?_ _) | (with_reducible refine below_gw ?_ ?_ _) | (with_reducible refine below_via ?_ ‹Below _ _ _› ?_) | (with_reducible exact Nat.le_refl _) | (with_reducible refine le_gw ?_ _) | (with_reducible refine le_alloc ?_ _) | (with_reducible refine le_setCell ?_ _ _) | (with_reducible refine le_drew ?_) | (with_reducible refine le_drewN ?_ _) | go_size)), by simp, by simp⟩
set_option maxHeartbeats 2000000 in
theorem iPutTrits (G : Nat) (g : Nat → Int) (b : Option Addr) (m c : Nat) (ps : List Int) (t : Int) (W0 w : World) (h : Ints W0 b m c ps) (hb : Below W0.heap.size W0 w) (hown : w.ownsRow W0.heap.size 3 1 (.slice (some ⟨G, 0, none⟩) 30 30) 30 (rowV 30 g)) :
    Calls Try.prog 69 #[.slice (some ⟨G, 0, none⟩) 30 30, .slice b m c, .int .i64 t] w fun e w' => e = .returned (.bool (Tm.putF t ps g).1) ∧ w'.ownsRow W0.heap.size 3 1 (.slice (some ⟨G, 0, none⟩) 30 30) 30 (rowV 30 (Tm.putF t ps g).2) ∧ Below W0.heap.size W0 w' ∧ w.heap.size ≤ w'.heap.size := by
  have H := Lib.hid h
  obtain rfl : m = ps.length := h.1.symm
  have m2 := h.2.1
  have m3 := h.2.2.1
  unfold maxLen at m3
  have G0 := (hown.lt G rfl)
  have O0 := Lib.hid hown
  have B0 := Lib.hid hb
  clear h hb hown
  go_enter Try.func69, Try.ntmps69
  go_wp2
  go_loopw [11] (fun i wr => ∃ (k : Nat) (f : Nat → Int), k ≤ ps.length ∧ i = .int .i64 k ∧ w.heap.size ≤ wr.heap.size ∧ Hid (wr.ownsRow W0.heap.size 3 1 (.slice (some ⟨G, 0, none⟩) 30 30) 30 (rowV 30 f)) ∧ Hid (Tm.putF t ps g = Tm.putF t (ps.drop k) f) ∧ Hid (Below W0.heap.size W0 wr)) (fun i _ => ps.length - (intOf i).toNat)
  case atStart => exact ⟨0, g, by omega, rfl, Nat.le_refl _, O0, Lib.hid rfl, B0⟩
  case round =>
    clear O0 B0
    obtain ⟨k, f, hk, rfl, hz, OO, FF, BB⟩ := hrel
    by_cases hlt : k < ps.length
    · rcases (H.out.below BB.out).2.2.2 with e | ⟨bb, o, rfl, hbl, hc⟩
      · omega
      have c1 := hc k hlt
      have PY := Lib.hid (fun h => Tm.putF_yes (t := t) (ps := ps) (g := f) hlt h)
      have PN := Lib.hid (fun h => Tm.putF_no (t := t) (ps := ps) (g := f) hlt h)
      obtain ⟨x, hx⟩ : ∃ x, x = ps.getD k 0 := ⟨_, rfl⟩
      rw [← hx] at c1 PY PN
      have hs := BB.out.size
      have i1 := Lib.hid (ints_one wr x 3)
      have LB := Lib.hid (fun W h => iAreBefore 30 (some ⟨wr.heap.size, 0, none⟩) 1 1 [x] W h)
      clear hc hx
      by_cases cx : 0 ≤ x ∧ x < 30
      · have LO : Tm.linesOk 30 [x] = true := by simp [Tm.linesOk, Tm.inB]; omega
        rw [LO] at LB
        obtain ⟨q, rfl⟩ : ∃ q : Nat, x = (q : Int) := ⟨x.toNat, by omega⟩
        rw [Int.toNat_natCast] at PY PN
        have q30 : q < 30 := by omega
        have q0 : (0 : Int) ≤ (q : Int) := by omega
        have q1 : (q : Int) < 30 := by omega
        have ck := own_cell (own_below OO.out ((Below.refl wr.heap.size wr).alloc (Nat.le_refl _) (.cells #[.int .i64 (q : Int)] 3))) q q30
        obtain ⟨z, hz⟩ : ∃ z, z = f q := ⟨_, rfl⟩
        rw [← hz] at ck PY PN
        by_cases z0 : z = 0
        · have PE := Lib.hid (PY.out ⟨cx.1, cx.2, z0⟩)
          have z1 : (z != 0) = false := by simpa using z0
          have OA := own_below OO.out ((Below.refl wr.heap.size wr).alloc (Nat.le_refl _) (.cells #[.int .i64 (q : Int)] 3))
          have fz := OA.frozenAt q
          obtain ⟨s1, s2⟩ := own_put OA q t
          have S1 := Lib.hid s1
          have hB := Lib.hid ((BB.out.alloc hs (.cells #[.int .i64 (q : Int)] 3)).grown s2 (by rw [World.size_alloc]; omega) (fun q hq => by cases hq; exact G0.1))
          clear PY PN LO cx hz OA s1 s2
          go_wp2_with fail
          refine (LB.out _ i1.out).mono ?_
          rintro e w1 ⟨rfl, rfl⟩
          go_wp2_with fail
          exact ⟨⟨k + 1, _, by omega, by go_num, by simp; omega, S1, Lib.hid (by rw [FF.out, PE.out]), hB⟩, by simp [intOf]; omega⟩
        · have PE := Lib.hid (PN.out (fun h => z0 h.2.2))
          have z1 : (z != 0) = true := by simpa using z0
          clear PY PN LO cx hz
          go_wp2_with fail
          refine (LB.out _ i1.out).mono ?_
          rintro e w1 ⟨rfl, rfl⟩
          go_wp2
          go_ret
          exact ⟨by rw [FF.out, PE.out]; rfl, by rw [FF.out, PE.out]; exact own_below OO.out ((Below.refl wr.heap.size wr).alloc (Nat.le_refl _) _), BB.out.alloc hs _, by simp; omega⟩
      · have LO : Tm.linesOk 30 [x] = false := by simp [Tm.linesOk, Tm.inB]; omega
        rw [LO] at LB
        have PE := Lib.hid (PN.out (fun h => cx ⟨h.1, h.2.1⟩))
        clear PY PN LO cx
        go_wp2_with fail
        refine (LB.out _ i1.out).mono ?_
        rintro e w1 ⟨rfl, rfl⟩
        go_wp2
        go_ret
        exact ⟨by rw [FF.out, PE.out]; rfl, by rw [FF.out, PE.out]; exact own_below OO.out ((Below.refl wr.heap.size wr).alloc (Nat.le_refl _) _), BB.out.alloc hs _, by simp; omega⟩
    · obtain rfl : k = ps.length := by omega
      have PE := Lib.hid (Tm.putF_end (t := t) (ps := ps) (g := f) (k := ps.length) (Nat.le_refl _))
      go_wp2
      go_ret
      exact ⟨by rw [FF.out, PE.out]; rfl, by rw [FF.out, PE.out]; exact OO.out, BB.out, hz⟩
end Go.Proofs.Yteklgngooflhlaa

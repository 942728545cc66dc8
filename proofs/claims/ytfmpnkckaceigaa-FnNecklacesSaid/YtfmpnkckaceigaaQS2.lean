/- The model's rotations, necklaces and Lyndon words. -/
import Derived.Test.YtfmpnkckaceigaaQMath2
import Derived.Test.YtfmpnkckaceigaaWS3
import Derived.Test.YtfmpnkckaceigaaFill
import Derived.Test.YtfmpnkckaceigaaStep
namespace Go.Proofs.Ytfmpnkckaceigaa
set_option maxRecDepth 20000
open Go.RowKit
theorem Ints.tail {w : World} {b o n cap : Nat} {xs : List Int} (h : Ints w (some ⟨b, o, none⟩) n cap xs) (m : Nat) (h1 : m < n) : Ints w (some ⟨b, o + m, none⟩) (n - m) (cap - m) (xs.drop m) := by
  have := h.part m n h1 (Nat.le_refl _)
  rwa [Tm.part, List.take_of_length_le (by rw [List.length_drop, h.1]; exact Nat.le_refl _)] at this
theorem Ints.head {w : World} {b o n cap : Nat} {xs : List Int} (h : Ints w (some ⟨b, o, none⟩) n cap xs) (m : Nat) (h1 : m ≤ n) : Ints w (some ⟨b, o, none⟩) m cap (xs.take m) := by
  obtain ⟨x1, x2, x3, x4⟩ := h
  refine ⟨by rw [List.length_take, x1]; omega, by omega, x3, ?_⟩
  rcases x4 with h0 | ⟨b', o', e, hb, hc⟩
  · exact .inl (by omega)
  · refine .inr ⟨b', o', e, hb, fun i hi => ?_⟩
    rw [hc i (by omega)]
    simp [List.getD_eq_getElem?_getD, hi]
theorem Ints.newsAt {w : World} {b o n cap : Nat} {xs : List Int} (h : Ints w (some ⟨b, o, none⟩) n cap xs) : ∀ j u, (xs.map (Value.int .i64))[j]? = some u → w.cell? ((⟨b, o, none⟩ : Addr).add j) = some u := by
  intro j u hj
  have hjl := (List.getElem?_eq_some_iff.1 hj).1
  rw [List.length_map, h.1] at hjl
  rcases h.2.2.2 with h0 | ⟨b, o, e1, _, hc⟩
  · omega
  · cases e1; exact news_of h.1 hc j u hj
set_option maxHeartbeats 1000000 in
theorem sRotate (a : Option Addr) (n cap : Nat) (xs : List Int) (m : Nat) (w : World) (h : Ints w a n cap xs) (hm : m < n) (hn : n ≤ 1048576) : Calls Try.prog 57 #[.slice a n cap, .int .i64 (m : Int)] w (RetI 3 w (Tm.rot xs m)) := by
  obtain ⟨i0, hi, hz0, hz1, hz2⟩ := info_parts infoInt
  rcases h.2.2.2 with h0 | ⟨b, o, rfl, hbl, -⟩
  · omega
  have I_hd := Lib.hid (h.head m (by omega))
  have I_tl := Lib.hid (h.tail m hm)
  have HN := Lib.hid h.1
  have cp := h.2.1
  have mx := h.2.2.1
  unfold maxLen at mx
  have fw : IntKind.i64.wrap (m : Int) = (m : Int) := IntWalk.i64_in m ⟨by omega, by omega⟩
  have f1 : m ≤ cap := by omega
  have f3 : m ≤ n := by omega
  have f4 : ¬ (cap = m) := by omega
  have f5 : ¬ (m = cap) := by omega
  clear h
  go_enter Try.func57, Try.ntmps57
  go_wp2_with fail
  go_region_law (first
    | (go_simp; go_at_call 58; refine (sCopy (some ⟨b, o + m, none⟩) (n - m) (cap - m) (xs.drop m) w.drew I_tl.out.drew (by omega) (by omega)).mono ?_; rintro e w1 ⟨a1, c1, rfl, hown, hb0, -⟩; rw [List.length_drop] at hown; have hb : Below w.heap.size w w1 := (Below.drew (Below.refl w.heap.size w)).trans hb0; clear hb0)
    | (refine step_append_own rfl (.tmp 8) (.tmp 11) 22 rfl w.heap.size 3 i0 (.int .i64 0) 1 8 Try.underlying22 hi hz0 hz1 hz2 rfl (by decide) (.slice a1 (xs.length - m) c1) (xs.length - m) ((xs.drop m).map (Value.int .i64)) rfl hown ⟨b, o, none⟩ m cap ((xs.take m).map (Value.int .i64)) (by simp [Act.eval]) (by rw [List.length_map, List.length_take, HN.out]; omega) ((I_hd.out.below (by (repeat' (first | (with_reducible exact Below.refl _ _) | (with_reducible assumption) | (with_reducible refine below_drewN ?_ _) | (with_reducible refine Below.drew ?_) | (with_reducible refine Below.alloc ?_ ?_ _) | (with_reducible refine Below.setCell ?_ ?_ _) | (with_reducible refine below_gw ?_ ?_ _) | (with_reducible refine below_via ?_ ‹Below _ _ _› ?_) | (with_reducible exact Nat.le_refl _) | (with_reducible refine le_gw ?_ _) | (with_reducible refine le_alloc ?_ _) | (with_reducible refine le_setCell ?_ _ _) | (with_reducible refine le_drew ?_) | (with_reducible refine le_drewN ?_ _) | go_size)))).newsAt) (news_one _) (by rw [HN.out]; unfold maxLen; omega) (by rw [HN.out]; omega) hb.size ?_; intro v2 w2 hown2 hg2; have hb2 : Below w.heap.size w w2 := Below.grown (by (repeat' (first | (with_reducible exact Below.refl _ _) | (with_reducible assumption) | (with_reducible refine below_drewN ?_ _) | (with_reducible refine Below.drew ?_) | (with_reducible refine Below.alloc ?_ ?_ _) | (with_reducible refine Below.setCell ?_ ?_ _) | (with_reducible refine below_gw ?_ ?_ _) | (with_reducible refine below_via ?_ ‹Below _ _ _› ?_) | (with_reducible exact Nat.le_refl _) | (with_reducible refine le_gw ?_ _) | (with_reducible refine le_alloc ?_ _) | (with_reducible refine le_setCell ?_ _ _) | (with_reducible refine le_drew ?_) | (with_reducible refine le_drewN ?_ _) | go_size))) hg2 hb.size (fun k hk => hown.lt k hk |>.1)))
  rw [← List.map_append] at hown2
  go_wp2
  go_ret
  rw [← Tm.rot] at hown2
  exact ret_own hown2 hb2 (by rw [HN.out]; omega)
theorem sRotateWord (a : Option Addr) (n cap : Nat) (xs : List Int) (by' : Int) (w : World) (h : Ints w a n cap xs) : Calls Try.prog 24 #[.slice a n cap, .int .i64 by'] w (RetI 3 w (Tm.rotW xs by')) := by
  have H := Lib.hid h
  obtain rfl : n = xs.length := h.1.symm
  clear h
  cases hw : Tm.isW xs with
  | false =>
    rw [Tm.rotW, hw]
    go_enter Try.func24, Try.ntmps24
    go_wp2_with ((go_at_call 47; refine (sIsWord _ _ _ xs _ H.out).mono ?_; rintro e w1 ⟨rfl, rfl⟩))
    go_ret
    exact ret_nil (by (repeat' (first | (with_reducible exact Below.refl _ _) | (with_reducible assumption) | (with_reducible refine below_drewN ?_ _) | (with_reducible refine Below.drew ?_) | (with_reducible refine Below.alloc ?_ ?_ _) | (with_reducible refine Below.setCell ?_ ?_ _) | (with_reducible refine below_gw ?_ ?_ _) | (with_reducible refine below_via ?_ ‹Below _ _ _› ?_) | (with_reducible exact Nat.le_refl _) | (with_reducible refine le_gw ?_ _) | (with_reducible refine le_alloc ?_ _) | (with_reducible refine le_setCell ?_ _ _) | (with_reducible refine le_drew ?_) | (with_reducible refine le_drewN ?_ _) | go_size)))
  | true =>
    have hl := (Tm.isW_iff xs).1 hw
    obtain ⟨-, l1, l2⟩ := hl
    rw [Tm.rotW, if_pos hw, Tm.rotM]
    obtain ⟨e1, e2, t1, t2⟩ := Tm.tmod_rot by' (xs.length : Int) (by omega)
    have m0 := Int.emod_nonneg by' (show (xs.length : Int) ≠ 0 by omega)
    have m1 := Int.emod_lt_of_pos by' (show (0 : Int) < (xs.length : Int) by omega)
    obtain ⟨m, hm⟩ : ∃ m : Nat, by' % (xs.length : Int) = (m : Int) := ⟨(by' % (xs.length : Int)).toNat, by omega⟩
    rw [hm] at e1 m1 ⊢
    rw [Int.toNat_natCast]
    have CR := Lib.hid (sRotate a _ cap xs m w H.out (by omega) (by omega))
    obtain ⟨r, hr⟩ : ∃ r, r = by'.tmod (xs.length : Int) := ⟨_, rfl⟩
    rw [← hr] at e1 t1 t2
    have HR := Lib.hid hr
    have nz : ¬ ((xs.length : Int) = 0) := by omega
    clear m0 hm e2
    by_cases c : r < 0
    · rw [if_pos c] at e1
      rw [← e1] at CR
      go_enter Try.func24, Try.ntmps24
      go_wp2_with ((go_at_call 47; refine (sIsWord _ _ _ xs _ H.out).mono ?_; rintro e w1 ⟨rfl, rfl⟩))
      rw [← HR.out]
      refine CR.out.mono ?_
      rintro e w1 ⟨a1, c1, rfl, hown, hb, ln⟩
      go_wp2
      go_ret
      exact ret_own hown hb ln
    · rw [if_neg c] at e1
      rw [← e1] at CR
      go_enter Try.func24, Try.ntmps24
      go_wp2_with ((go_at_call 47; refine (sIsWord _ _ _ xs _ H.out).mono ?_; rintro e w1 ⟨rfl, rfl⟩))
      rw [← HR.out]
      refine CR.out.mono ?_
      rintro e w1 ⟨a1, c1, rfl, hown, hb, ln⟩
      go_wp2
      go_ret
      exact ret_own hown hb ln
set_option maxHeartbeats 1000000 in
theorem sLess (a : Option Addr) (n cap : Nat) (xs : List Int) (a' : Option Addr) (n' cap' : Nat) (ys : List Int) (w : World) (h : Ints w a n cap xs) (h' : Ints w a' n' cap' ys) : Calls Try.prog 59 #[.slice a n cap, .slice a' n' cap'] w fun e w' => e = .returned (.bool (decide (Tm.lexC xs ys < 0))) ∧ Below w.heap.size w w' := by
  obtain ⟨x1, x2, x3, x4⟩ := h
  obtain ⟨y1, y2, y3, y4⟩ := h'
  subst x1
  subst y1
  unfold maxLen at x3 y3
  go_enter Try.func59, Try.ntmps59
  go_wp2
  go_loopw [8] (fun i wr => ∃ k : Nat, k ≤ xs.length ∧ i = .int .i64 k ∧ Hid (Tm.lexC xs ys = Tm.lexC (xs.drop k) (ys.drop k)) ∧ ∃ d, wr = w.drewN d) (fun i _ => xs.length - (intOf i).toNat)
  case atStart => exact ⟨0, by omega, rfl, Lib.hid rfl, 0, rfl⟩
  case round =>
    obtain ⟨k, hk, rfl, AG, dd, rfl⟩ := hrel
    by_cases hlt : k < xs.length
    · by_cases hlt2 : k < ys.length
      · rcases x4 with h0 | ⟨b, o, rfl, hbl, hc⟩
        · omega
        rcases y4 with h0 | ⟨b', o', rfl, hbl', hc'⟩
        · omega
        have c1 := hc k hlt
        have c2 := hc' k (by omega)
        have LA := Lib.hid (Tm.lexC_at (xs := xs) (ys := ys) hlt hlt2)
        obtain ⟨x, hx⟩ : ∃ x, x = xs.getD k 0 := ⟨_, rfl⟩
        obtain ⟨y, hy⟩ : ∃ y, y = ys.getD k 0 := ⟨_, rfl⟩
        rw [← hx] at c1 LA
        rw [← hy] at c2 LA
        clear hc hc' hx hy
        by_cases exy : x = y
        · have ne : (x != y) = false := by simpa using exy
          have AG2 : Hid (Tm.lexC xs ys = Tm.lexC (xs.drop (k + 1)) (ys.drop (k + 1))) := Lib.hid (by rw [AG.out, LA.out, if_neg (by omega), if_neg (by omega)])
          clear AG LA exy
          go_wp2
          go_quiet (fail)
          go_wp2
          exact ⟨⟨k + 1, by omega, by go_num, AG2, dd + nq, rfl⟩, by simp [intOf]; omega⟩
        · have ne : (x != y) = true := by simpa using exy
          have RE : Hid (decide (Tm.lexC xs ys < 0) = decide (x < y)) := Lib.hid (by
            rw [AG.out, LA.out]
            by_cases c : x < y
            · rw [if_pos c, decide_eq_true c]; rfl
            · rw [if_neg c, if_pos (by omega), decide_eq_false c]; rfl)
          clear AG LA exy
          go_wp2
          go_quiet (fail)
          go_wp2
          go_quiet (fail)
          go_wp2
          go_ret
          exact ⟨ret_bool RE.out.symm, by (repeat' (first | (with_reducible exact Below.refl _ _) | (with_reducible assumption) | (with_reducible refine below_drewN ?_ _) | (with_reducible refine Below.drew ?_) | (with_reducible refine Below.alloc ?_ ?_ _) | (with_reducible refine Below.setCell ?_ ?_ _) | (with_reducible refine below_gw ?_ ?_ _) | (with_reducible refine below_via ?_ ‹Below _ _ _› ?_) | (with_reducible exact Nat.le_refl _) | (with_reducible refine le_gw ?_ _) | (with_reducible refine le_alloc ?_ _) | (with_reducible refine le_setCell ?_ _ _) | (with_reducible refine le_drew ?_) | (with_reducible refine le_drewN ?_ _) | go_size))⟩
      · have RE : Hid (decide (Tm.lexC xs ys < 0) = false) := Lib.hid (by rw [AG.out, Tm.lexC_out hlt (by omega)]; rfl)
        go_wp2
        go_ret
        exact ⟨ret_bool RE.out.symm, by (repeat' (first | (with_reducible exact Below.refl _ _) | (with_reducible assumption) | (with_reducible refine below_drewN ?_ _) | (with_reducible refine Below.drew ?_) | (with_reducible refine Below.alloc ?_ ?_ _) | (with_reducible refine Below.setCell ?_ ?_ _) | (with_reducible refine below_gw ?_ ?_ _) | (with_reducible refine below_via ?_ ‹Below _ _ _› ?_) | (with_reducible exact Nat.le_refl _) | (with_reducible refine le_gw ?_ _) | (with_reducible refine le_alloc ?_ _) | (with_reducible refine le_setCell ?_ _ _) | (with_reducible refine le_drew ?_) | (with_reducible refine le_drewN ?_ _) | go_size))⟩
    · obtain rfl : k = xs.length := by omega
      have RE : Hid (decide (Tm.lexC xs ys < 0) = decide (xs.length < ys.length)) := Lib.hid (by
        rw [AG.out, Tm.lexC_end (Nat.le_refl _)]
        by_cases c : xs.length < ys.length
        · rw [if_pos c, decide_eq_true c]; rfl
        · rw [if_neg c, decide_eq_false c]; rfl)
      go_wp2
      go_ret
      exact ⟨ret_bool (by rw [RE.out]; try simp), by (repeat' (first | (with_reducible exact Below.refl _ _) | (with_reducible assumption) | (with_reducible refine below_drewN ?_ _) | (with_reducible refine Below.drew ?_) | (with_reducible refine Below.alloc ?_ ?_ _) | (with_reducible refine Below.setCell ?_ ?_ _) | (with_reducible refine below_gw ?_ ?_ _) | (with_reducible refine below_via ?_ ‹Below _ _ _› ?_) | (with_reducible exact Nat.le_refl _) | (with_reducible refine le_gw ?_ _) | (with_reducible refine le_alloc ?_ _) | (with_reducible refine le_setCell ?_ _ _) | (with_reducible refine le_drew ?_) | (with_reducible refine le_drewN ?_ _) | go_size))⟩
set_option maxHeartbeats 1000000 in
theorem sNecklaceOf (a : Option Addr) (n cap : Nat) (xs : List Int) (w : World) (h : Ints w a n cap xs) : Calls Try.prog 26 #[.slice a n cap] w (RetI 3 w (Tm.nk xs)) := by
  have H := Lib.hid h
  obtain rfl : n = xs.length := h.1.symm
  clear h
  cases hw : Tm.isW xs with
  | false =>
    rw [Tm.nk, hw]
    go_enter Try.func26, Try.ntmps26
    go_wp2_with ((go_at_call 47; refine (sIsWord _ _ _ xs _ H.out).mono ?_; rintro e w1 ⟨rfl, rfl⟩))
    go_ret
    exact ret_nil (by (repeat' (first | (with_reducible exact Below.refl _ _) | (with_reducible assumption) | (with_reducible refine below_drewN ?_ _) | (with_reducible refine Below.drew ?_) | (with_reducible refine Below.alloc ?_ ?_ _) | (with_reducible refine Below.setCell ?_ ?_ _) | (with_reducible refine below_gw ?_ ?_ _) | (with_reducible refine below_via ?_ ‹Below _ _ _› ?_) | (with_reducible exact Nat.le_refl _) | (with_reducible refine le_gw ?_ _) | (with_reducible refine le_alloc ?_ _) | (with_reducible refine le_setCell ?_ _ _) | (with_reducible refine le_drew ?_) | (with_reducible refine le_drewN ?_ _) | go_size)))
  | true =>
    have hl := (Tm.isW_iff xs).1 hw
    obtain ⟨-, l1, l2⟩ := hl
    rw [Tm.nk, if_pos hw]
    go_enter Try.func26, Try.ntmps26
    go_wp2_with (first | (go_at_call 47; refine (sIsWord _ _ _ xs _ H.out).mono ?_; rintro e w1 ⟨rfl, rfl⟩) | (go_at_call 58; refine (sCopy _ _ _ xs _ H.out (by omega) (by omega)).mono ?_; rintro e w1 ⟨a1, c1, rfl, hown, hb, -⟩))
    have O1 := Lib.hid hown
    have B1 := Lib.hid hb
    have N1 := Tm.nkN_one xs
    clear hown hb hw
    go_loopw [3, 4] (fun v i wr => ∃ (m : Nat) (a' : Option Addr) (c' : Nat), 1 ≤ m ∧ m ≤ xs.length ∧ i = .int .i64 m ∧ v = .slice a' xs.length c' ∧ Hid (wr.ownsRow w.heap.size 3 1 (.slice a' xs.length c') xs.length ((Tm.nkN xs m).map (Value.int .i64))) ∧ Hid (Below w.heap.size w wr)) (fun _ i _ => xs.length - (intOf i).toNat)
    case atStart => exact ⟨1, a1, c1, by omega, by omega, rfl, rfl, Lib.hid (by rw [N1]; exact O1.out), B1⟩
    case round =>
      obtain ⟨m, a', c', m1, hm, rfl, rfl, OO, BB⟩ := hrel
      have hs := BB.out.size
      by_cases hlt : m < xs.length
      · have CR := Lib.hid (sRotate a _ cap xs m wr (H.out.below BB.out) hlt (by omega))
        have I0 : Hid (Ints wr a' xs.length c' (Tm.nkN xs m)) := Lib.hid (by
          have := Tm.nkN_length xs m
          have q := OO.out
          rw [← this] at q ⊢
          exact Ints.of_own q)
        have NS : Hid (Tm.nkN xs (m + 1) = if Tm.lexC (Tm.rot xs m) (Tm.nkN xs m) < 0 then Tm.rot xs m else Tm.nkN xs m) := Lib.hid rfl
        have RL := Lib.hid (Tm.rot_length xs m)
        obtain ⟨L, hL⟩ : ∃ L, L = Tm.nkN xs m := ⟨_, rfl⟩
        obtain ⟨R, hR⟩ : ∃ R, R = Tm.rot xs m := ⟨_, rfl⟩
        rw [← hL] at OO I0 NS
        rw [← hR] at CR NS RL
        clear hL hR
        go_wp2_with fail
        refine CR.out.mono ?_
        rintro e w3 ⟨a3, c3, rfl, hown, hb, -⟩
        have O3 : Hid (w3.ownsRow w.heap.size 3 1 (.slice a3 xs.length c3) xs.length (R.map (Value.int .i64))) := Lib.hid (by have := own_weak hown hs; rwa [RL.out] at this)
        have I3 := Lib.hid (Ints.of_own hown)
        have I4 := Lib.hid (I0.out.below hb)
        have O4 := Lib.hid (own_below OO.out hb)
        have B3 := Lib.hid (BB.out.trans (hb.mono hs))
        have hs3 := B3.out.size
        have LS := Lib.hid (sLess _ _ _ _ _ _ _ _ _ I3.out I4.out)
        rw [RL.out] at LS
        have RL2 := RL.out
        clear hown hb CR I0 OO BB
        by_cases c : Tm.lexC R L < 0
        · rw [decide_eq_true c] at LS
          rw [if_pos c] at NS
          clear c
          go_wp2_with fail
          refine LS.out.mono ?_
          rintro e w5 ⟨rfl, hb5⟩
          go_wp2
          exact ⟨⟨m + 1, a3, c3, by omega, by omega, by go_num, rfl, Lib.hid (by rw [NS.out]; exact own_below O3.out hb5), Lib.hid (B3.out.trans (hb5.mono hs3))⟩, by simp [intOf]; omega⟩
        · rw [decide_eq_false c] at LS
          rw [if_neg c] at NS
          clear c
          go_wp2_with fail
          refine LS.out.mono ?_
          rintro e w5 ⟨rfl, hb5⟩
          go_wp2
          exact ⟨⟨m + 1, a', c', by omega, by omega, by go_num, rfl, Lib.hid (by rw [NS.out]; exact own_below O4.out hb5), Lib.hid (B3.out.trans (hb5.mono hs3))⟩, by simp [intOf]; omega⟩
      · obtain rfl : m = xs.length := by omega
        go_wp2
        go_ret
        exact ret_own OO.out BB.out (by omega)
set_option maxHeartbeats 1000000 in
theorem sIsLyndon (a : Option Addr) (n cap : Nat) (xs : List Int) (w : World) (h : Ints w a n cap xs) : Calls Try.prog 28 #[.slice a n cap] w fun e w' => e = .returned (.bool (Tm.lyn xs)) ∧ Below w.heap.size w w' := by
  have H := Lib.hid h
  obtain rfl : n = xs.length := h.1.symm
  clear h
  cases hw : Tm.isW xs with
  | false =>
    rw [Tm.lyn, hw]
    go_enter Try.func28, Try.ntmps28
    go_wp2_with ((go_at_call 47; refine (sIsWord _ _ _ xs _ H.out).mono ?_; rintro e w1 ⟨rfl, rfl⟩))
    go_ret
    exact ⟨rfl, by (repeat' (first | (with_reducible exact Below.refl _ _) | (with_reducible assumption) | (with_reducible refine below_drewN ?_ _) | (with_reducible refine Below.drew ?_) | (with_reducible refine Below.alloc ?_ ?_ _) | (with_reducible refine Below.setCell ?_ ?_ _) | (with_reducible refine below_gw ?_ ?_ _) | (with_reducible refine below_via ?_ ‹Below _ _ _› ?_) | (with_reducible exact Nat.le_refl _) | (with_reducible refine le_gw ?_ _) | (with_reducible refine le_alloc ?_ _) | (with_reducible refine le_setCell ?_ _ _) | (with_reducible refine le_drew ?_) | (with_reducible refine le_drewN ?_ _) | go_size))⟩
  | true =>
    have hl := (Tm.isW_iff xs).1 hw
    obtain ⟨-, l1, l2⟩ := hl
    rw [Tm.lyn, hw, Bool.true_and]
    go_enter Try.func28, Try.ntmps28
    go_wp2_with (first | (go_at_call 47; refine (sIsWord _ _ _ xs _ H.out).mono ?_; rintro e w1 ⟨rfl, rfl⟩))
    clear hw
    go_loopw [3] (fun i wr => ∃ (m : Nat), 1 ≤ m ∧ m ≤ xs.length ∧ i = .int .i64 m ∧ Hid (Tm.lynN xs m = true) ∧ Hid (Below w.heap.size w wr)) (fun i _ => xs.length - (intOf i).toNat)
    case atStart => exact ⟨1, by omega, by omega, rfl, Lib.hid (Tm.lynN_one xs), Lib.hid (by (repeat' (first | (with_reducible exact Below.refl _ _) | (with_reducible assumption) | (with_reducible refine below_drewN ?_ _) | (with_reducible refine Below.drew ?_) | (with_reducible refine Below.alloc ?_ ?_ _) | (with_reducible refine Below.setCell ?_ ?_ _) | (with_reducible refine below_gw ?_ ?_ _) | (with_reducible refine below_via ?_ ‹Below _ _ _› ?_) | (with_reducible exact Nat.le_refl _) | (with_reducible refine le_gw ?_ _) | (with_reducible refine le_alloc ?_ _) | (with_reducible refine le_setCell ?_ _ _) | (with_reducible refine le_drew ?_) | (with_reducible refine le_drewN ?_ _) | go_size)))⟩
    case round =>
      obtain ⟨m, m1, hm, rfl, LY, BB⟩ := hrel
      have hs := BB.out.size
      by_cases hlt : m < xs.length
      · have CR := Lib.hid (sRotate a _ cap xs m wr (H.out.below BB.out) hlt (by omega))
        have NS := Lib.hid (Tm.lynN_step m1 LY.out)
        have NN := Lib.hid (fun h => Tm.lynN_no (xs := xs) (m := m + 1) (n := xs.length) h (by omega))
        have RL := Lib.hid (Tm.rot_length xs m)
        obtain ⟨R, hR⟩ : ∃ R, R = Tm.rot xs m := ⟨_, rfl⟩
        rw [← hR] at CR NS RL
        clear hR
        go_wp2_with fail
        refine CR.out.mono ?_
        rintro e w3 ⟨a3, c3, rfl, hown, hb, -⟩
        have I3 := Lib.hid (Ints.of_own hown)
        have B3 := Lib.hid (BB.out.trans (hb.mono hs))
        have I4 := Lib.hid (H.out.below B3.out)
        have hs3 := B3.out.size
        have LS := Lib.hid (sLess _ _ _ _ _ _ _ _ _ I4.out I3.out)
        clear hown hb CR BB
        by_cases c : Tm.lexC xs R < 0
        · rw [decide_eq_true c] at LS NS
          clear c NN
          go_wp2_with fail
          refine LS.out.mono ?_
          rintro e w5 ⟨rfl, hb5⟩
          go_wp2
          exact ⟨⟨m + 1, by omega, by omega, by go_num, NS, Lib.hid (B3.out.trans (hb5.mono hs3))⟩, by simp [intOf]; omega⟩
        · rw [decide_eq_false c] at LS NS
          have RE := Lib.hid (NN.out NS.out)
          clear c NN
          go_wp2_with fail
          refine LS.out.mono ?_
          rintro e w5 ⟨rfl, hb5⟩
          go_wp2
          go_ret
          exact ⟨ret_bool RE.out.symm, B3.out.trans (hb5.mono hs3)⟩
      · obtain rfl : m = xs.length := by omega
        go_wp2
        go_ret
        exact ⟨ret_bool LY.out.symm, BB.out⟩
end Go.Proofs.Ytfmpnkckaceigaa

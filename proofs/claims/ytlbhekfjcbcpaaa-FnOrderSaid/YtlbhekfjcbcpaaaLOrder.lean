/- Walks of laws: FnOrder. -/
import Derived.Test.YtlbhekfjcbcpaaaWVal
import Derived.Test.YtlbhekfjcbcpaaaWI4
import Derived.Test.YtlbhekfjcbcpaaaWI3
import Derived.Test.YtlbhekfjcbcpaaaWI2
import Derived.Test.YtlbhekfjcbcpaaaLaw2
import Derived.Test.YtlbhekfjcbcpaaaStep
import Derived.Test.YtlbhekfjcbcpaaaTr
namespace Go.Proofs.Ytlbhekfjcbcpaaa
set_option maxRecDepth 20000
open Go.RowKit
namespace Tm
theorem sgn_neg (n : Int) : sgn (-n) = -sgn n := by unfold sgn; split <;> split <;> first | omega | (split <;> omega) | skip
theorem sgn_bd (n : Int) : -1 ≤ sgn n ∧ sgn n ≤ 1 := by unfold sgn; split; omega; split <;> omega
/-- The order of two words is that of the highest place at which they differ. -/
theorem sgn_diff {xs ys : List Int} (h : isW xs = true) (h' : isW ys = true) (e : ys.length = xs.length) {j : Nat} (hj : j < xs.length) :
    sgn (val (xs.take (j + 1)) - val (ys.take (j + 1))) = if xs.getD j 0 = ys.getD j 0 then sgn (val (xs.take j) - val (ys.take j)) else if xs.getD j 0 < ys.getD j 0 then -1 else 1 := by
  have ex : val (xs.take (j + 1)) = val (xs.take j) + pow3 j * xs.getD j 0 := by
    rw [List.take_succ_eq_append_getElem hj, val_append, List.length_take, Nat.min_eq_left (by omega), ← getD_at xs j hj]
    simp [val]
  have ey : val (ys.take (j + 1)) = val (ys.take j) + pow3 j * ys.getD j 0 := by
    rw [List.take_succ_eq_append_getElem (by omega), val_append, List.length_take, Nat.min_eq_left (by omega), ← getD_at ys j (by omega)]
    simp [val]
  have bx := val_bd _ (trits_take (isW_trits h) j)
  have bY := val_bd _ (trits_take (isW_trits h') j)
  rw [List.length_take, Nat.min_eq_left (by omega)] at bx bY
  have pl := pow3_limN j
  have tx := isW_at h j
  have ty := isW_at h' j
  rw [ex, ey]
  generalize xs.getD j 0 = x at *
  generalize ys.getD j 0 = y at *
  clear ex ey
  by_cases h1 : x = y
  · subst h1; rw [if_pos rfl]; congr 1; omega
  · rw [if_neg h1]
    by_cases h2 : x < y
    · rw [if_pos h2, sgn, if_pos]
      rcases (show x = -1 ∧ y = 0 ∨ x = -1 ∧ y = 1 ∨ x = 0 ∧ y = 1 by omega) with ⟨rfl, rfl⟩ | ⟨rfl, rfl⟩ | ⟨rfl, rfl⟩ <;> omega
    · have : 0 < val (xs.take j) + pow3 j * x - (val (ys.take j) + pow3 j * y) := by
        rcases (show y = -1 ∧ x = 0 ∨ y = -1 ∧ x = 1 ∨ y = 0 ∧ x = 1 by omega) with ⟨rfl, rfl⟩ | ⟨rfl, rfl⟩ | ⟨rfl, rfl⟩ <;> omega
      rw [if_neg h2, sgn, if_neg (by omega), if_pos this]
end Tm
theorem news_part {w : World} {b o n cap take drop : Nat} {xs : List Int} (h : Ints w (some ⟨b, o, none⟩) n cap xs) :
    ∀ j u, (((xs.take take).drop drop).map (Value.int .i64))[j]? = some u → w.cell? ((⟨b, o + drop, none⟩ : Addr).add j) = some u := by
  intro j u hu
  rw [List.getElem?_map, Option.map_eq_some_iff] at hu
  obtain ⟨x, hx, rfl⟩ := hu
  rw [List.getElem?_drop, List.getElem?_take] at hx
  split at hx
  · have h1 : drop + j < xs.length := by
      rcases Nat.lt_or_ge (drop + j) xs.length with h | h
      · exact h
      · rw [List.getElem?_eq_none h] at hx; cases hx
    rw [List.getElem?_eq_getElem h1] at hx
    obtain rfl := Option.some.inj hx
    have h2 := h.1
    rcases h.2.2.2 with e | ⟨b', o', e, _, hc⟩
    · omega
    cases e
    have := hc (drop + j) (by omega)
    rw [List.getD_eq_getElem?_getD, List.getElem?_eq_getElem h1] at this
    rw [Go.WideShapes.add_plain, Nat.add_assoc, this]; rfl
  · cases hx
set_option maxHeartbeats 4000000 in
theorem wFnOrder (a0 : Option Addr) (len0 cap0 : Nat) (z0 : List Int) (w : World) (w0 : IsRow .u8 w a0 len0 cap0 z0) : Calls Try.prog 4 #[.slice a0 len0 cap0] w fun e w' => e = .returned (.bool true) ∧ Below w.heap.size w w' := by
  have BY := Lib.hid (Byts.of_row w0)
  have m0 : len0 ≤ 9223372036854775807 := by obtain ⟨h1, h2, _⟩ := BY.out; unfold maxLen at h2; omega
  clear w0
  have B := Lib.hid (Below.refl w.heap.size w)
  by_cases g0 : len0 ≤ 1048576
  · skip
    go_enter Try.func4, Try.ntmps4
    go_wp2_with fail
    refine (at_any a0 len0 cap0 1 _ BY.out (by omega) (by omega) (by omega)).mono ?_
    rintro e w' ⟨x, rfl, x_0, x_1, rfl⟩
    obtain ⟨j, hj⟩ : ∃ j : Nat, x.tmod 20 = (j : Int) := ⟨_, (Int.toNat_of_nonneg (Int.tmod_nonneg _ x_0)).symm⟩
    have hjl : j < 20 := by have := Int.tmod_lt_of_pos x (show (0 : Int) < 20 by omega); omega
    go_wp2_with fail
    rw [show (1 + (j : Int)) = ((j + 1 : Nat) : Int) from by omega]
    refine (makeExact_any a0 len0 cap0 (j + 1) _ BY.out (by omega) (by omega) (by omega)).mono ?_
    rintro e w0 ⟨xs, b0, c0, rfl, hw, hp, ho, hb⟩
    have hsz := hb.size
    replace BY := Lib.hid (BY.out.below hb)
    replace B := Lib.hid (B.out.trans (hb.mono B.out.size))
    clear hb hsz
    have I_xs := Lib.hid (Ints.of_own ho)
    clear ho
    have W := Lib.hid hw
    clear hw
    have HP := Lib.hid hp
    clear hp
    have LX := HP.out
    have LX1 : 1 ≤ xs.length ∧ xs.length ≤ 20 := by omega
    obtain ⟨LX1, LX2⟩ := LX1
    clear LX
    go_wp2_with fail
    refine (fresh_any a0 len0 cap0 3 _ BY.out (by omega) (by omega) (by omega)).mono ?_
    rintro e w9 ⟨a9, len9, cap9, rfl, m9, by9, hb⟩
    have BZ := Lib.hid by9
    clear by9
    have hsz := hb.size
    replace I_xs := Lib.hid (I_xs.out.below hb)
    replace BY := Lib.hid (BY.out.below hb)
    replace B := Lib.hid (B.out.trans (hb.mono B.out.size))
    clear hb hsz
    go_wp2_with fail
    refine (makeExact_any a9 len9 cap9 xs.length _ BZ.out (by omega) (by omega) (by omega)).mono ?_
    rintro e w10 ⟨ys, b10, c10, rfl, hw, hp, ho, hb⟩
    clear BZ
    have hsz := hb.size
    replace I_xs := Lib.hid (I_xs.out.below hb)
    replace BY := Lib.hid (BY.out.below hb)
    replace B := Lib.hid (B.out.trans (hb.mono B.out.size))
    clear hb hsz
    have I_ys := Lib.hid (Ints.of_own ho)
    clear ho
    have V := Lib.hid hw
    have HQ := Lib.hid hp
    clear hw hp
    go_wp2_with fail
    refine (at_any a0 len0 cap0 2 _ BY.out (by omega) (by omega) (by omega)).mono ?_
    rintro e w' ⟨y, rfl, y_0, y_1, rfl⟩
    have LY := HQ.out
    have LY1 : 1 ≤ ys.length ∧ ys.length ≤ 20 := by omega
    obtain ⟨LY1, LY2⟩ := LY1
    clear LY
    by_cases y3 : y.tmod 3 = 0
    · skip
      obtain ⟨i0, hi, hz0, hz1, hz2⟩ := info_parts infoInt
      obtain ⟨h, hh⟩ : ∃ h : Nat, (ys.length : Int).tdiv 2 = (h : Int) := ⟨_, (Int.toNat_of_nonneg (Int.tdiv_nonneg (by omega) (by omega))).symm⟩
      have hhl : h < ys.length := by have := Int.tdiv_eq_ediv_of_nonneg (b := 2) (show (0 : Int) ≤ ys.length by omega); omega
      rcases I_xs.out.2.2.2 with h0 | ⟨bx, ox, rfl, hbx, hcx⟩
      · omega
      rcases I_ys.out.2.2.2 with h0 | ⟨b, o, rfl, hby, hcy⟩
      · omega
      have cpx : xs.length ≤ _ := I_xs.out.2.1
      have cpy : ys.length ≤ _ := I_ys.out.2.1
      have ly0 := HQ.out
      have fw : IntKind.i64.wrap (h : Int) = (h : Int) := IntWalk.i64_in h ⟨by omega, by omega⟩
      have f1 : h ≤ c10 := by omega
      have f2 : h ≤ c0 := by omega
      have f3 : h ≤ xs.length := by omega
      have f4 : ¬ (c0 = h) := by omega
      have f5 : ¬ (h = c0) := by omega
      clear ly0
      have mx := I_xs.out.2.2.1
      have my := I_ys.out.2.2.1
      unfold maxLen at mx my
      clear hcx hcy
      go_wp2_with fail
      go_region_law (first
        | (refine step_append_own rfl (.tmp 25) (.tmp 30) 23 rfl w10.heap.size 3 i0 (.int .i64 0) 1 8 Try.underlying23 hi hz0 hz1 hz2 rfl (by decide) _ 0 [] rfl (own_empty _ _ 3 (Nat.le_refl _)) ⟨b, o, none⟩ h c10 ((ys.take h).map (Value.int .i64)) (by simp [Act.eval]) (by rw [List.length_map, List.length_take]; omega) (news_part (take := h) (drop := 0) (I_ys.out.below (by (repeat' (first | (with_reducible exact Below.refl _ _) | (with_reducible assumption) | (with_reducible refine below_drewN ?_ _) | (with_reducible refine Below.drew ?_) | (with_reducible refine Below.alloc ?_ ?_ _) | (with_reducible refine Below.setCell ?_ ?_ _) | (with_reducible refine below_gw ?_ ?_ _) | (with_reducible refine below_via ?_ ‹Below _ _ _› ?_) | (with_reducible exact Nat.le_refl _) | (with_reducible refine le_gw ?_ _) | (with_reducible refine le_alloc ?_ _) | (with_reducible refine le_setCell ?_ _ _) | (with_reducible refine le_drew ?_) | (with_reducible refine le_drewN ?_ _) | go_size))))) (news_one _) (by unfold maxLen; omega) (by omega) (by simp) ?_; intro v1 w11 hown hg; have hb11 : Below w10.heap.size w10 w11 := Below.grown (by (repeat' (first | (with_reducible exact Below.refl _ _) | (with_reducible assumption) | (with_reducible refine below_drewN ?_ _) | (with_reducible refine Below.drew ?_) | (with_reducible refine Below.alloc ?_ ?_ _) | (with_reducible refine Below.setCell ?_ ?_ _) | (with_reducible refine below_gw ?_ ?_ _) | (with_reducible refine below_via ?_ ‹Below _ _ _› ?_) | (with_reducible exact Nat.le_refl _) | (with_reducible refine le_gw ?_ _) | (with_reducible refine le_alloc ?_ _) | (with_reducible refine le_setCell ?_ _ _) | (with_reducible refine le_drew ?_) | (with_reducible refine le_drewN ?_ _) | go_size))) hg (by simp) (fun k hk => ((own_empty w10.drew w10.heap.size 3 (Nat.le_refl _)).lt k hk).1); rw [List.nil_append, Nat.zero_add] at hown)
        | (refine step_append_own rfl (.tmp 31) (.tmp 36) 23 rfl w10.heap.size 3 i0 (.int .i64 0) 1 8 Try.underlying23 hi hz0 hz1 hz2 rfl (by decide) _ h ((ys.take h).map (Value.int .i64)) rfl hown ⟨bx, ox + h, none⟩ (xs.length - h) (c0 - h) (((xs.take xs.length).drop h).map (Value.int .i64)) (by simp [Act.eval]) (by simp only [List.length_map, List.length_drop, List.length_take]; omega) (news_part (take := xs.length) (drop := h) (I_xs.out.below hb11)) (news_one _) (by unfold maxLen; omega) (by omega) hb11.size ?_; intro v2 w12 hown2 hg2; have hb12 : Below w10.heap.size w10 w12 := hb11.grown hg2 hb11.size (fun k hk => hown.lt k hk |>.1); obtain ⟨a12, c12, rfl⟩ := own_form hown2))
      rw [List.take_of_length_le (Nat.le_refl _), ← List.map_append] at hown2
      obtain ⟨us, hus⟩ : ∃ us, us = ys.take h ++ xs.drop h := ⟨_, rfl⟩
      rw [← hus] at hown2
      have HU : Hid (Tm.isW us = true ∧ us.length = xs.length) := Lib.hid (by
        have ll : us.length = xs.length := by rw [hus, List.length_append, List.length_take, List.length_drop, HQ.out]; omega
        exact ⟨by rw [hus]; exact Tm.isW_mk (fun x hx => (List.mem_append.1 hx).elim (fun h => Tm.isW_trits V.out x (List.mem_of_mem_take h)) (fun h => Tm.isW_trits W.out x (List.mem_of_mem_drop h))) (by rw [← hus]; omega) (by rw [← hus]; omega), ll⟩)
      have VU := Lib.hid HU.out.1
      have HQU := Lib.hid HU.out.2
      clear hus
      have hn2 : h + (xs.length - h) = xs.length := by omega
      rw [hn2] at hown2
      have hb := hb12
      clear hb11 hb12 hown hg hg2 hn2
      have hsz := hb.size
      replace I_xs := Lib.hid (I_xs.out.below hb)
      replace I_ys := Lib.hid (I_ys.out.below hb)
      replace BY := Lib.hid (BY.out.below hb)
      replace B := Lib.hid (B.out.trans (hb.mono B.out.size))
      clear hb hsz
      have I_us := Lib.hid (Ints.of_own hown2)
      clear hown2
      clear fw f1 f2 f3 f4 f5 hh
      have EL1 : us.length = xs.length := by rw [HQU.out]
      have EL := Lib.hid EL1
      have EL2 : xs.length ≤ us.length := by omega
      have EL3 : us.length ≤ xs.length := by omega
      clear EL1
      go_wp2
      go_loopw [5, 40] (fun s i wr => ∃ q : Nat, q ≤ xs.length ∧ i = .int .i64 q ∧ s = .int .i64 (Tm.sgn (Tm.val (xs.take q) - Tm.val (us.take q))) ∧ Hid (Ints wr (some ⟨bx, ox, none⟩) xs.length c0 xs) ∧ Hid (Ints wr a12 xs.length c12 us) ∧ Hid (Below w.heap.size w wr)) (fun _ i _ => xs.length - (intOf i).toNat)
      case atStart => exact ⟨0, by omega, rfl, rfl, I_xs, I_us, B⟩
      case round =>
        clear I_xs I_us B BY
        obtain ⟨q, hq, rfl, rfl, I_xs, I_us, B⟩ := hrel
        by_cases hlt : q < xs.length
        · rcases I_xs.out.2.2.2 with h0 | ⟨b1, o1, e1, hbl, hc⟩
          · omega
          rcases I_us.out.2.2.2 with h0 | ⟨b2, o2, e2, hbl', hc'⟩
          · omega
          cases e1
          cases e2
          have c1 := hc q hlt
          have c2 := hc' q (by omega)
          have ST := Lib.hid (Tm.sgn_diff W.out VU.out EL.out hlt)
          rw [← getD_at xs q hlt] at c1
          rw [← getD_at us q (by omega)] at c2
          rw [← getD_at xs q hlt, ← getD_at us q (by omega)] at ST
          clear hc hc'
          by_cases h0 : xs[q] = us[q]'(by omega)
          · have h0' : (xs[q] != us[q]'(by omega)) = false := by simpa using h0
            have ST' := Lib.hid (ST.out.trans (if_pos h0))
            clear h0 ST
            go_wp2_with fail
            go_quiet (fail)
            go_wp2
            exact ⟨⟨q + 1, by omega, by go_num, val_int ST'.out.symm, Lib.hid (I_xs.out.drewN _), Lib.hid (I_us.out.drewN _), Lib.hid (below_drewN B.out _)⟩, by simp [intOf]; omega⟩
          · have h0' : (xs[q] != us[q]'(by omega)) = true := by simpa using h0
            have ST' := Lib.hid (ST.out.trans (if_neg h0))
            clear h0 ST
            by_cases h1 : xs[q] < us[q]'(by omega)
            · have ST2 := Lib.hid (ST'.out.trans (if_pos h1))
              have h1' : decide (xs[q] < us[q]'(by omega)) = true := decide_eq_true h1
              clear h1 ST'
              go_wp2_with fail
              go_quiet (fail)
              go_wp2_with fail
              go_quiet (fail)
              go_wp2
              exact ⟨⟨q + 1, by omega, by go_num, val_int ST2.out.symm, Lib.hid (I_xs.out.drewN _), Lib.hid (I_us.out.drewN _), Lib.hid (below_drewN B.out _)⟩, by simp [intOf]; omega⟩
            · have ST2 := Lib.hid (ST'.out.trans (if_neg h1))
              have h1' : decide (xs[q] < us[q]'(by omega)) = false := decide_eq_false h1
              clear h1 ST'
              go_wp2_with fail
              go_quiet (fail)
              go_wp2_with fail
              go_quiet (fail)
              go_wp2
              exact ⟨⟨q + 1, by omega, by go_num, val_int ST2.out.symm, Lib.hid (I_xs.out.drewN _), Lib.hid (I_us.out.drewN _), Lib.hid (below_drewN B.out _)⟩, by simp [intOf]; omega⟩
        · obtain rfl : q = xs.length := by omega
          rw [List.take_of_length_le (Nat.le_refl _), List.take_of_length_le (show us.length ≤ xs.length by omega)]
          obtain ⟨s0, hs0⟩ : ∃ s, s = Tm.sgn (Tm.val xs - Tm.val us) := ⟨_, rfl⟩
          rw [← hs0]
          have S0 := Lib.hid hs0
          have S1 := Lib.hid (Tm.sgn_bd (Tm.val xs - Tm.val us))
          rw [← hs0] at S1
          obtain ⟨s00, s01⟩ := S1.out
          clear hs0 S1
          go_wp2_with fail
          refine (iCompareWords (some ⟨bx, ox, none⟩) xs.length c0 xs a12 xs.length c12 us _ I_xs.out I_us.out).mono ?_
          rintro e w' ⟨h0, rfl⟩
          obtain ⟨p0, hv⟩ : ∃ r_, r_ = Tm.cmpW xs us := ⟨_, rfl⟩
          rw [← hv] at h0
          subst h0
          have H_p0 : Hid (p0 = Tm.cmpW xs us) := Lib.hid hv
          clear hv
          have e1 : p0 = s0 := by rw [H_p0.out, S0.out, Tm.cmpW, W.out, VU.out]; rfl
          clear H_p0
          subst e1
          go_wp2_with fail
          refine (iCompareWords a12 xs.length c12 us (some ⟨bx, ox, none⟩) xs.length c0 xs _ I_us.out I_xs.out).mono ?_
          rintro e w' ⟨h0, rfl⟩
          obtain ⟨p1, hv⟩ : ∃ r_, r_ = Tm.cmpW us xs := ⟨_, rfl⟩
          rw [← hv] at h0
          subst h0
          have H_p1 : Hid (p1 = Tm.cmpW us xs) := Lib.hid hv
          clear hv
          have e1 : p1 = -p0 := by rw [H_p1.out, S0.out, Tm.cmpW, W.out, VU.out]; simp only [Bool.and_self, if_true]; rw [← Tm.sgn_neg]; congr 1; omega
          clear H_p1
          subst e1
          go_wp2_with fail
          refine (iValueOf (some ⟨bx, ox, none⟩) xs.length c0 xs _ I_xs.out).mono ?_
          rintro e w' ⟨h0, rfl⟩
          obtain ⟨n1, hv⟩ : ∃ r_, r_ = Tm.value xs := ⟨_, rfl⟩
          rw [← hv] at h0
          subst h0
          have H_n1 : Hid (n1 = Tm.value xs) := Lib.hid hv
          have bd : -102945566047324 ≤ n1 ∧ n1 ≤ 102945566047324 := by rw [hv, Tm.value_eq W.out]; exact Tm.val_bd_len W.out 30 (by omega)
          obtain ⟨n1_0, n1_1⟩ := bd
          clear hv
          go_wp2_with fail
          refine (iValueOf a12 xs.length c12 us _ I_us.out).mono ?_
          rintro e w' ⟨h0, rfl⟩
          obtain ⟨n2, hv⟩ : ∃ r_, r_ = Tm.value us := ⟨_, rfl⟩
          rw [← hv] at h0
          subst h0
          have H_n2 : Hid (n2 = Tm.value us) := Lib.hid hv
          have bd : -102945566047324 ≤ n2 ∧ n2 ≤ 102945566047324 := by rw [hv, Tm.value_eq VU.out]; exact Tm.val_bd_len VU.out 30 (by omega)
          obtain ⟨n2_0, n2_1⟩ := bd
          clear hv
          go_wp2_with fail
          refine (iSignOf (n1 - n2) _).mono ?_
          rintro e w' ⟨h0, rfl⟩
          obtain ⟨sg, hv⟩ : ∃ r_, r_ = Tm.sgn (n1 - n2) := ⟨_, rfl⟩
          rw [← hv] at h0
          subst h0
          have H_sg : Hid (sg = Tm.sgn (n1 - n2)) := Lib.hid hv
          clear hv
          have e1 : sg = p0 := by rw [H_sg.out, S0.out, H_n1.out, H_n2.out, Tm.value_eq W.out, Tm.value_eq VU.out]
          clear H_sg
          subst e1
          go_wp2
          go_ret
          exact ⟨rfl, B.out⟩
    · skip
      have y4 : ¬ (y % 3 = 0) := by rw [← Int.tmod_eq_emod_of_nonneg y_0]; exact y3
      have y3' : (y % 3 == 0) = false := by simpa using y4
      clear y3
      have EL1 : ys.length = xs.length := by rw [HQ.out]
      have EL := Lib.hid EL1
      have EL2 : xs.length ≤ ys.length := by omega
      have EL3 : ys.length ≤ xs.length := by omega
      clear EL1
      go_wp2
      go_loopw [5, 40] (fun s i wr => ∃ q : Nat, q ≤ xs.length ∧ i = .int .i64 q ∧ s = .int .i64 (Tm.sgn (Tm.val (xs.take q) - Tm.val (ys.take q))) ∧ Hid (Ints wr b0 xs.length c0 xs) ∧ Hid (Ints wr b10 ys.length c10 ys) ∧ Hid (Below w.heap.size w wr)) (fun _ i _ => xs.length - (intOf i).toNat)
      case atStart => exact ⟨0, by omega, rfl, rfl, I_xs, I_ys, B⟩
      case round =>
        clear I_xs I_ys B BY
        obtain ⟨q, hq, rfl, rfl, I_xs, I_ys, B⟩ := hrel
        by_cases hlt : q < xs.length
        · rcases I_xs.out.2.2.2 with h0 | ⟨b1, o1, e1, hbl, hc⟩
          · omega
          rcases I_ys.out.2.2.2 with h0 | ⟨b2, o2, e2, hbl', hc'⟩
          · omega
          cases e1
          cases e2
          have c1 := hc q hlt
          have c2 := hc' q (by omega)
          have ST := Lib.hid (Tm.sgn_diff W.out V.out EL.out hlt)
          rw [← getD_at xs q hlt] at c1
          rw [← getD_at ys q (by omega)] at c2
          rw [← getD_at xs q hlt, ← getD_at ys q (by omega)] at ST
          clear hc hc'
          by_cases h0 : xs[q] = ys[q]'(by omega)
          · have h0' : (xs[q] != ys[q]'(by omega)) = false := by simpa using h0
            have ST' := Lib.hid (ST.out.trans (if_pos h0))
            clear h0 ST
            go_wp2_with fail
            go_quiet (fail)
            go_wp2
            exact ⟨⟨q + 1, by omega, by go_num, val_int ST'.out.symm, Lib.hid (I_xs.out.drewN _), Lib.hid (I_ys.out.drewN _), Lib.hid (below_drewN B.out _)⟩, by simp [intOf]; omega⟩
          · have h0' : (xs[q] != ys[q]'(by omega)) = true := by simpa using h0
            have ST' := Lib.hid (ST.out.trans (if_neg h0))
            clear h0 ST
            by_cases h1 : xs[q] < ys[q]'(by omega)
            · have ST2 := Lib.hid (ST'.out.trans (if_pos h1))
              have h1' : decide (xs[q] < ys[q]'(by omega)) = true := decide_eq_true h1
              clear h1 ST'
              go_wp2_with fail
              go_quiet (fail)
              go_wp2_with fail
              go_quiet (fail)
              go_wp2
              exact ⟨⟨q + 1, by omega, by go_num, val_int ST2.out.symm, Lib.hid (I_xs.out.drewN _), Lib.hid (I_ys.out.drewN _), Lib.hid (below_drewN B.out _)⟩, by simp [intOf]; omega⟩
            · have ST2 := Lib.hid (ST'.out.trans (if_neg h1))
              have h1' : decide (xs[q] < ys[q]'(by omega)) = false := decide_eq_false h1
              clear h1 ST'
              go_wp2_with fail
              go_quiet (fail)
              go_wp2_with fail
              go_quiet (fail)
              go_wp2
              exact ⟨⟨q + 1, by omega, by go_num, val_int ST2.out.symm, Lib.hid (I_xs.out.drewN _), Lib.hid (I_ys.out.drewN _), Lib.hid (below_drewN B.out _)⟩, by simp [intOf]; omega⟩
        · obtain rfl : q = xs.length := by omega
          rw [List.take_of_length_le (Nat.le_refl _), List.take_of_length_le (show ys.length ≤ xs.length by omega)]
          obtain ⟨s0, hs0⟩ : ∃ s, s = Tm.sgn (Tm.val xs - Tm.val ys) := ⟨_, rfl⟩
          rw [← hs0]
          have S0 := Lib.hid hs0
          have S1 := Lib.hid (Tm.sgn_bd (Tm.val xs - Tm.val ys))
          rw [← hs0] at S1
          obtain ⟨s00, s01⟩ := S1.out
          clear hs0 S1
          go_wp2_with fail
          refine (iCompareWords b0 xs.length c0 xs b10 ys.length c10 ys _ I_xs.out I_ys.out).mono ?_
          rintro e w' ⟨h0, rfl⟩
          obtain ⟨p0, hv⟩ : ∃ r_, r_ = Tm.cmpW xs ys := ⟨_, rfl⟩
          rw [← hv] at h0
          subst h0
          have H_p0 : Hid (p0 = Tm.cmpW xs ys) := Lib.hid hv
          clear hv
          have e1 : p0 = s0 := by rw [H_p0.out, S0.out, Tm.cmpW, W.out, V.out]; rfl
          clear H_p0
          subst e1
          go_wp2_with fail
          refine (iCompareWords b10 ys.length c10 ys b0 xs.length c0 xs _ I_ys.out I_xs.out).mono ?_
          rintro e w' ⟨h0, rfl⟩
          obtain ⟨p1, hv⟩ : ∃ r_, r_ = Tm.cmpW ys xs := ⟨_, rfl⟩
          rw [← hv] at h0
          subst h0
          have H_p1 : Hid (p1 = Tm.cmpW ys xs) := Lib.hid hv
          clear hv
          have e1 : p1 = -p0 := by rw [H_p1.out, S0.out, Tm.cmpW, W.out, V.out]; simp only [Bool.and_self, if_true]; rw [← Tm.sgn_neg]; congr 1; omega
          clear H_p1
          subst e1
          go_wp2_with fail
          refine (iValueOf b0 xs.length c0 xs _ I_xs.out).mono ?_
          rintro e w' ⟨h0, rfl⟩
          obtain ⟨n1, hv⟩ : ∃ r_, r_ = Tm.value xs := ⟨_, rfl⟩
          rw [← hv] at h0
          subst h0
          have H_n1 : Hid (n1 = Tm.value xs) := Lib.hid hv
          have bd : -102945566047324 ≤ n1 ∧ n1 ≤ 102945566047324 := by rw [hv, Tm.value_eq W.out]; exact Tm.val_bd_len W.out 30 (by omega)
          obtain ⟨n1_0, n1_1⟩ := bd
          clear hv
          go_wp2_with fail
          refine (iValueOf b10 ys.length c10 ys _ I_ys.out).mono ?_
          rintro e w' ⟨h0, rfl⟩
          obtain ⟨n2, hv⟩ : ∃ r_, r_ = Tm.value ys := ⟨_, rfl⟩
          rw [← hv] at h0
          subst h0
          have H_n2 : Hid (n2 = Tm.value ys) := Lib.hid hv
          have bd : -102945566047324 ≤ n2 ∧ n2 ≤ 102945566047324 := by rw [hv, Tm.value_eq V.out]; exact Tm.val_bd_len V.out 30 (by omega)
          obtain ⟨n2_0, n2_1⟩ := bd
          clear hv
          go_wp2_with fail
          refine (iSignOf (n1 - n2) _).mono ?_
          rintro e w' ⟨h0, rfl⟩
          obtain ⟨sg, hv⟩ : ∃ r_, r_ = Tm.sgn (n1 - n2) := ⟨_, rfl⟩
          rw [← hv] at h0
          subst h0
          have H_sg : Hid (sg = Tm.sgn (n1 - n2)) := Lib.hid hv
          clear hv
          have e1 : sg = p0 := by rw [H_sg.out, S0.out, H_n1.out, H_n2.out, Tm.value_eq W.out, Tm.value_eq V.out]
          clear H_sg
          subst e1
          go_wp2
          go_ret
          exact ⟨rfl, B.out⟩
  · go_enter Try.func4, Try.ntmps4
    go_wp2
    go_ret
    exact ⟨rfl, B.out⟩
end Go.Proofs.Ytlbhekfjcbcpaaa

/- The program's coin words. The program's guesses. -/
import Derived.Test.YteklgngooflhlaaBI1
namespace Go.Proofs.Yteklgngooflhlaa
set_option maxRecDepth 20000
open Go.RowKit
set_option maxHeartbeats 2000000 in
theorem iCoinWords (c k : Int) (w : World) : Calls Try.prog 25 #[.int .i64 c, .int .i64 k] w (RetLB 3 24 w (Tm.coinW c k) (Tm.coinOk c k)) := by
  obtain ⟨j0, hj, hy0, hy1, hy2⟩ := info_parts infoOwnS
  have CB := Tm.coinsFor_bd k
  by_cases ho : Tm.coinOk c k = true
  · have f := (Tm.coinOk_iff _ _).1 ho
    obtain ⟨k2, k5, c3, c4, c5⟩ := f
    obtain ⟨K, rfl⟩ : ∃ K : Nat, k = (K : Int) := ⟨k.toNat, by omega⟩
    have K2 : 2 ≤ K := by omega
    have K5 : K ≤ 5 := by omega
    have i3 : c.tmod 3 = 0 := by rw [Int.tmod_eq_emod_of_nonneg (by omega)]; exact c5
    have l1 : Tm.lim (K : Int) = Tm.limN K := Tm.lim_nat (by omega) (by omega)
    have LB := Tm.limN_5b K5
    have e1 : IntKind.i64.wrap (-(Tm.limN K)) = -(Tm.limN K) := IntWalk.i64_in _ (by omega)
    rw [Tm.coinW, if_pos ho, ho, Int.toNat_natCast]
    have JB := Tm.coinJ_bd K5
    clear ho
    have g1 : ¬ c < 3 := by omega
    have g2 : ¬ Tm.coinsFor (K : Int) < c := by omega
    go_enter Try.func25, Try.ntmps25
    go_wp2_with (first | (go_at_call 36; refine (iCoinsFor _ _).mono ?_; rintro e w1 ⟨rfl, rfl⟩) | (go_at_call 35; refine (iLimitOf _ _).mono ?_; rw [l1]; rintro e w1 ⟨rfl, rfl⟩))
    go_loopw [6, 7] (fun v i wr => ∃ (j : Nat) (a' : Option Addr) (c' : Nat), v = .slice a' (Tm.coinL K j).length c' ∧ i = .int .i64 (-(Tm.limN K) + (j : Int)) ∧ j ≤ Tm.coinJ K ∧ ((Tm.coinL K j).length : Int) ≤ c ∧ Hid (OwnL wr w.heap.size wr.heap.size 3 24 v (Tm.coinL K j)) ∧ Hid (Below w.heap.size w wr)) (fun _ i _ => Tm.coinJ K - (intOf i + Tm.limN K).toNat)
    case atStart => exact ⟨0, _, 0, rfl, val_int (by simp), by omega, by simp [Tm.coinL]; omega, Lib.hid (ownL_nil _ _ _ _ _), Lib.hid (by (repeat' (first | (with_reducible exact Below.refl _ _) | (with_reducible assumption) | (with_reducible refine below_drewN ?_ _) | (with_reducible refine Below.drew ?_) | (with_reducible refine Below.alloc ?_ ?_ _) | (with_reducible refine Below.setCell ?_ ?_ _) | (with_reducible refine below_gw ?_ ?_ _) | (with_reducible refine below_via ?_ ‹Below _ _ _› ?_) | (with_reducible exact Nat.le_refl _) | (with_reducible refine le_gw ?_ _) | (with_reducible refine le_alloc ?_ _) | (with_reducible refine le_setCell ?_ _ _) | (with_reducible refine le_drew ?_) | (with_reducible refine le_drewN ?_ _) | go_size)))⟩
    case round =>
      obtain ⟨j, a', c', rfl, rfl, hjJ, hc, OO, BB⟩ := hrel
      by_cases hlt : ((Tm.coinL K j).length : Int) < c
      · have hjlt := Tm.coin_left K2 K5 c4 hjJ hlt
        have hs := BB.out.size
        have L3 := Tm.coinL_three K j
        have CY := Lib.hid (fun h => Tm.coinL_yes (k := K) (j := j) h)
        have CN := Lib.hid (fun h => Tm.coinL_no (k := K) (j := j) h)
        have WL := Lib.hid (iWordOf (-(Tm.limN K) + (j : Int)) (K : Int))
        have WE : Hid (Tm.word (-(Tm.limN K) + (j : Int)) (K : Int) = Tm.wordL (-(Tm.limN K) + (j : Int)) K ∧ Tm.wordOk (-(Tm.limN K) + (j : Int)) (K : Int) = true) := Lib.hid (by
          have e : Tm.wordOk (-(Tm.limN K) + (j : Int)) (K : Int) = true := Tm.wordOk_nat (by omega) (by omega) ⟨by omega, by have := Tm.coinJ_lim K2 K5; omega⟩
          exact ⟨by rw [Tm.word, if_pos e, Int.toNat_natCast], e⟩)
        rw [WE.out.1, WE.out.2] at WL
        have XW := Lib.hid (Tm.wordL_isW (n := -(Tm.limN K) + (j : Int)) (k := K) (by omega) (by omega))
        have XL : (Tm.wordL (-(Tm.limN K) + (j : Int)) K).length ≤ 5 := by rw [Tm.wordL_length]; exact K5
        have e2 : IntKind.i64.wrap (-(Tm.limN K) + (j : Int) + 1) = -(Tm.limN K) + (j : Int) + 1 := IntWalk.i64_in _ (by omega)
        clear WE
        obtain ⟨xs, hxs⟩ : ∃ xs, xs = Tm.wordL (-(Tm.limN K) + (j : Int)) K := ⟨_, rfl⟩
        rw [← hxs] at CY CN WL XW XL
        obtain ⟨L, hL⟩ : ∃ L, L = Tm.coinL K j := ⟨_, rfl⟩
        rw [← hL] at CY CN OO L3 hlt hc ⊢
        have HL := Lib.hid hL
        clear hxs hL
        go_wp2_with fail
        refine (WL.out _).mono ?_
        rintro e w2 ⟨a2, c2, rfl, hown, hb, -⟩
        have I2 := Lib.hid (Ints.of_own hown)
        have O2 := Lib.hid hown
        have B2 := Lib.hid hb
        clear hown hb
        have TF : Hid (Tm.turnsF xs = Tm.fwd xs) := Lib.hid (by rw [Tm.turnsF, XW.out]; rfl)
        have IT := Lib.hid (iTurnsForward _ _ _ xs w2 I2.out)
        rw [TF.out] at IT
        clear TF
        cases hf : Tm.fwd xs with
        | false =>
          have CE := Lib.hid (CN.out hf)
          rw [hf] at IT
          clear CN CY
          go_wp2_with fail
          refine IT.out.mono ?_
          rintro e w3 ⟨rfl, hb3⟩
          have hs2 := B2.out.size
          have B3 : Hid (Below wr.heap.size wr w3) := Lib.hid (B2.out.trans (hb3.mono hs2))
          have hs3 := B3.out.size
          clear hb3
          go_wp2_with fail
          exact ⟨⟨j + 1, a', c', by rw [CE.out], val_int (by omega), by omega, by rw [CE.out]; exact hc, Lib.hid (by rw [CE.out]; exact (OO.out.stay (SameIn.of_below B3.out (Nat.le_refl _))).wide hs3), Lib.hid (BB.out.trans (B3.out.mono hs))⟩, by simp [intOf]; omega⟩
        | true =>
          have CE := Lib.hid (CY.out hf)
          rw [hf] at IT
          clear CN CY
          go_wp2_with fail
          refine IT.out.mono ?_
          rintro e w3 ⟨rfl, hb3⟩
          have hs2 := B2.out.size
          have O3 : Hid (w3.ownsRow wr.heap.size 3 1 (.slice a2 xs.length c2) xs.length (xs.map (Value.int .i64))) := Lib.hid (own_below O2.out hb3)
          have B3 : Hid (Below wr.heap.size wr w3) := Lib.hid (B2.out.trans (hb3.mono hs2))
          clear hb3
          clear O2 B2 I2 IT
          have I3 := Lib.hid (Ints.of_own O3.out)
          have hs3 := B3.out.size
          go_wp2_with fail
          refine (iTurnedWord _ _ _ xs _ I3.out (by omega)).mono ?_
          rintro e w5 ⟨a5, c5, rfl, hown, hb, -⟩
          have O5 := Lib.hid hown
          have B5 := Lib.hid hb
          have I5 := Lib.hid (Ints.of_own hown)
          have hs5 := hb.size
          have tl : (Tm.turned xs).length ≤ 5 := by rw [Tm.turned_length]; exact XL
          obtain ⟨ys, hys⟩ : ∃ ys, ys = Tm.turned xs := ⟨_, rfl⟩
          rw [← hys] at O5 I5 CE tl ⊢
          clear hys hown hb I3
          go_wp2_with fail
          refine (iTurnedWord _ _ _ ys _ I5.out (by omega)).mono ?_
          rintro e w6 ⟨a6, c6, rfl, hown, hb, -⟩
          have O6 := Lib.hid hown
          have B6 := Lib.hid hb
          have hs6 := hb.size
          have tl2 : (Tm.turned ys).length ≤ 5 := by rw [Tm.turned_length]; exact tl
          obtain ⟨zs, hzs⟩ : ∃ zs, zs = Tm.turned ys := ⟨_, rfl⟩
          rw [← hzs] at O6 CE tl2 ⊢
          clear hzs hown hb I5
          have BW : Hid (Below wr.heap.size wr w6) := Lib.hid (B3.out.trans ((B5.out.trans (B6.out.mono hs5)).mono hs3))
          have P3 := Lib.hid (own_below (own_below O3.out B5.out) B6.out)
          have P5 := Lib.hid (own_below O5.out B6.out)
          obtain ⟨us, ow, ol, ri⟩ := (OO.out.stay (SameIn.of_below BW.out (Nat.le_refl _))).split
          have hsW := BW.out.size
          have r1 := ri.snoc (by have := ow.1; simpa using this) (own_weak P3.out hs) (E' := w3.heap.size) (fun q hq => ⟨(O3.out.lt q hq).1, (O3.out.lt q hq).2⟩) ol hs3
          have r2 := r1.snoc (by have := ow.1; simp at this ⊢; omega) (own_weak P5.out (by omega)) (E' := w5.heap.size) (fun q hq => ⟨(O5.out.lt q hq).1, (O5.out.lt q hq).2⟩) (fun q hq => Nat.lt_of_lt_of_le (ol q hq) hs3) hs5
          have r3 := r2.snoc (by have := ow.1; simp at this ⊢; omega) (own_weak O6.out (by omega)) (E' := w6.heap.size) (fun q hq => ⟨(O6.out.lt q hq).1, (O6.out.lt q hq).2⟩) (fun q hq => Nat.lt_of_lt_of_le (ol q hq) (by omega)) hs6
          rw [List.append_assoc, List.append_assoc, List.append_assoc, List.append_assoc] at r3
          have OW0 := Lib.hid ow
          have RI := Lib.hid r3
          have B7 := Lib.hid (BB.out.trans (BW.out.mono hs))
          have hs7 := B7.out.size
          clear ow ol ri r1 r2 r3 BW P3 P5 O3 O5 O6 B3 B5 B6 OO
          go_wp2_with (at_builtin; refine wpList_append_own_at _ rfl _ _ 37 rfl (w.heap.size) 24 j0 (.slice none 0 0) 1 24 Try.underlying37 hj hy0 hy1 hy2 rfl (by decide) _ _ _ rfl (World.ownsRow.alloc OW0.out _) ⟨w6.heap.size, 0, none⟩ 3 3 [.slice a2 _ c2, .slice a5 _ c5, .slice a6 _ c6] rfl rfl (app_t1 _ _ _ _ _) (app_t2 _ _ _ _ _ _ _ _ _) (by unfold maxLen; omega) (by omega) (by simp; omega) ?_)
          intro v' w8 hv hg _ hat
          have O8 : OwnL w8 w.heap.size w8.heap.size 3 24 v' (Tm.coinL K (j + 1)) := by
            rw [CE.out]
            exact OwnL.grown (RI.out.stay (SameIn.of_below ((Below.refl w6.heap.size w6).alloc (Nat.le_refl _) _) (Nat.le_refl _))) (by simpa using hv) hg (by rw [World.size_alloc]; exact hat)
          have B8 := Lib.hid ((B7.out.alloc hs7 _).grown hg (by simp; omega) (fun j hj => (OW0.out.lt j hj).1))
          obtain ⟨a8, c8, ev, -⟩ := O8.rows
          subst ev
          have O9 := Lib.hid O8
          have EL : (Tm.coinL K (j + 1)).length = L.length + 3 := by rw [CE.out]; simp
          clear hv hg hat OW0 RI B7 O8 hs7
          go_wp2_with fail
          exact ⟨⟨j + 1, a8, c8, rfl, val_int (by omega), by omega, by rw [EL]; omega, O9, B8⟩, by simp [intOf]; omega⟩
      · have DE := Lib.hid (Tm.coin_done (k := K) (j := j) (c := c) hjJ (by omega))
        go_wp2_with fail
        go_ret2
        exact ⟨_, rfl, by rw [← DE.out]; exact OO.out, BB.out⟩
  · have NO := Lib.hid (fun h => ho ((Tm.coinOk_iff c k).2 h))
    simp only [Bool.not_eq_true] at ho
    rw [Tm.coinW, ho]
    clear ho
    by_cases h1 : c < 3
    · go_enter Try.func25, Try.ntmps25
      go_wp2
      go_ret2
      exact ret_nil_lb (by (repeat' (first | (with_reducible exact Below.refl _ _) | (with_reducible assumption) | (with_reducible refine below_drewN ?_ _) | (with_reducible refine Below.drew ?_) | (with_reducible refine Below.alloc ?_ ?_ _) | (with_reducible refine Below.setCell ?_ ?_ _) | (with_reducible refine below_gw ?_ ?_ _) | (with_reducible refine below_via ?_ ‹Below _ _ _› ?_) | (with_reducible exact Nat.le_refl _) | (with_reducible refine le_gw ?_ _) | (with_reducible refine le_alloc ?_ _) | (with_reducible refine le_setCell ?_ _ _) | (with_reducible refine le_drew ?_) | (with_reducible refine le_drewN ?_ _) | go_size)))
    · by_cases h2 : c.tmod 3 = 0
      · have h3 : Tm.coinsFor k < c := by
          rcases Int.lt_or_le (Tm.coinsFor k) c with g | g
          · exact g
          · exfalso
            rw [Int.tmod_eq_emod_of_nonneg (by omega)] at h2
            by_cases hk : 2 ≤ k ∧ k ≤ 5
            · exact NO.out ⟨hk.1, hk.2, by omega, g, h2⟩
            · rw [Tm.coinsFor, if_neg hk] at g; omega
        have h4 : (c.tmod 3 != 0) = false := by simpa using h2
        go_enter Try.func25, Try.ntmps25
        have IC := Lib.hid (iCoinsFor k w)
        obtain ⟨F, hF⟩ : ∃ F, F = Tm.coinsFor k := ⟨_, rfl⟩
        rw [← hF] at IC h3
        clear hF CB NO
        go_wp2_with (go_at_call 36; refine IC.out.mono ?_; rintro e w1 ⟨rfl, rfl⟩)
        go_ret2
        exact ret_nil_lb (by (repeat' (first | (with_reducible exact Below.refl _ _) | (with_reducible assumption) | (with_reducible refine below_drewN ?_ _) | (with_reducible refine Below.drew ?_) | (with_reducible refine Below.alloc ?_ ?_ _) | (with_reducible refine Below.setCell ?_ ?_ _) | (with_reducible refine below_gw ?_ ?_ _) | (with_reducible refine below_via ?_ ‹Below _ _ _› ?_) | (with_reducible exact Nat.le_refl _) | (with_reducible refine le_gw ?_ _) | (with_reducible refine le_alloc ?_ _) | (with_reducible refine le_setCell ?_ _ _) | (with_reducible refine le_drew ?_) | (with_reducible refine le_drewN ?_ _) | go_size)))
      · have h4 : (c.tmod 3 != 0) = true := by simpa using h2
        have h5 : ¬ (c % 3 = 0) := by intro h; rw [Int.tmod_eq_emod_of_nonneg (by omega)] at h2; exact h2 h
        go_enter Try.func25, Try.ntmps25
        go_wp2
        go_ret2
        exact ret_nil_lb (by (repeat' (first | (with_reducible exact Below.refl _ _) | (with_reducible assumption) | (with_reducible refine below_drewN ?_ _) | (with_reducible refine Below.drew ?_) | (with_reducible refine Below.alloc ?_ ?_ _) | (with_reducible refine Below.setCell ?_ ?_ _) | (with_reducible refine below_gw ?_ ?_ _) | (with_reducible refine below_via ?_ ‹Below _ _ _› ?_) | (with_reducible exact Nat.le_refl _) | (with_reducible refine le_gw ?_ _) | (with_reducible refine le_alloc ?_ _) | (with_reducible refine le_setCell ?_ _ _) | (with_reducible refine le_drew ?_) | (with_reducible refine le_drewN ?_ _) | go_size)))
theorem cnt_thirty {L : List (List Int)} (h : ∀ x ∈ L, x.length ≤ 30) (n : Nat) : cnt L n ≤ 30 * n := by
  induction n with
  | zero => simp [cnt]
  | succ n ih =>
    have : (L.getD n []).length ≤ 30 := by
      rw [List.getD_eq_getElem?_getD]
      by_cases e : n < L.length
      · rw [List.getElem?_eq_getElem e]; exact h _ (List.getElem_mem e)
      · rw [List.getElem?_eq_none (by omega)]; simp
    rw [cnt]; omega
theorem coinW_len (c k : Int) : (Tm.coinW c k).length ≤ 120 := by
  rw [Tm.coinW]
  split
  · rename_i h
    have := (Tm.coinOk_iff c k).1 h
    have b := Tm.coinsFor_bd k
    rw [List.length_take]; omega
  · simp
theorem coinW_isW (c k : Int) : ∀ x ∈ Tm.coinW c k, Tm.isW x = true := by
  intro x hx
  rw [Tm.coinW] at hx
  split at hx
  · rename_i h
    have := (Tm.coinOk_iff c k).1 h
    exact Tm.coinL_isW (k := k.toNat) (by omega) (by omega) _ x (List.mem_of_mem_take hx)
  · cases hx
theorem coin_small (c k : Int) : (Tm.coinW c k).length + cnt (Tm.coinW c k) (Tm.coinW c k).length ≤ 1048576 := by
  have h1 := coinW_len c k
  have h2 := cnt_thirty (L := Tm.coinW c k) (fun x hx => Tm.isW_len (coinW_isW c k x hx)) (Tm.coinW c k).length
  omega
/-- A guess as the results that a call hands back. -/
def gsI (g : Int × Int × Bool) : Ending := .returned (.tuple #[.int .i64 g.1, .int .i64 g.2.1, .bool g.2.2])
set_option maxHeartbeats 2000000 in
theorem iGuessOf0 (a : Option Addr) (n cap : Nat) (L : List (List Int)) (a' : Option Addr) (n' cap' : Nat) (os : List Int) (w : World) (h : Rows w a n cap L) (h' : Ints w a' n' cap' os) : Calls Try.prog 30 #[.slice a n cap, .slice a' n' cap'] w fun e w' => e = gsI (Tm.guess L os) ∧ Below w.heap.size w w' := by
  have H := Lib.hid h
  have H2 := Lib.hid h'
  have m3 := h.2.2.1
  have m2 := h.2.1
  obtain rfl : n = L.length := h.1.symm
  unfold maxLen at m3
  have x4 := h.2.2.2
  clear h h'
  have SW := Lib.hid (iCoinWordsOk a _ cap L w H.out)
  cases hc : Tm.coinsOk L with
  | false =>
    have E : Tm.guess L os = (0, 0, false) := by rw [Tm.guess, hc]; rfl
    rw [hc] at SW
    rw [E]
    clear E
    go_enter Try.func30, Try.ntmps30
    go_wp2_with fail
    refine SW.out.mono ?_
    rintro e w1 ⟨rfl, rfl⟩
    go_wp2
    go_ret3
    exact ⟨rfl, by (repeat' (first | (with_reducible exact Below.refl _ _) | (with_reducible assumption) | (with_reducible refine below_drewN ?_ _) | (with_reducible refine Below.drew ?_) | (with_reducible refine Below.alloc ?_ ?_ _) | (with_reducible refine Below.setCell ?_ ?_ _) | (with_reducible refine below_gw ?_ ?_ _) | (with_reducible refine below_via ?_ ‹Below _ _ _› ?_) | (with_reducible exact Nat.le_refl _) | (with_reducible refine le_gw ?_ _) | (with_reducible refine le_alloc ?_ _) | (with_reducible refine le_setCell ?_ _ _) | (with_reducible refine le_drew ?_) | (with_reducible refine le_drewN ?_ _) | go_size))⟩
  | true =>
    obtain ⟨h0, ha⟩ := Tm.coinsOk_at hc
    rw [hc] at SW
    rcases x4 with e0 | ⟨b, o, rfl, hbl, hcl⟩
    · omega
    obtain ⟨a0, m0, c0, z0, j0⟩ := hcl 0 h0
    rw [Nat.add_zero] at z0
    have w0 := ha 0 h0
    have GZ : Hid (Tm.guess L os = if os = List.replicate (L.getD 0 []).length 0 then (-1, 0, true) else Tm.guessF L os 0) := Lib.hid (by rw [Tm.guess, hc, if_pos rfl])
    have GU := Lib.hid (fun h => Tm.guess_unfit (L := L) (os := os) h)
    obtain ⟨x0, hx0⟩ : ∃ x0, x0 = L.getD 0 [] := ⟨_, rfl⟩
    rw [← hx0] at j0 w0 GZ GU
    have hl0 : (0 : Int) < (L.length : Int) := by omega
    have hn0 : L ≠ [] := by intro e; subst e; simp at h0
    have R2 := Lib.hid (rows_two j0 H2.out 24)
    have AL := Lib.hid (fun W h => iAreAlike (some ⟨w.heap.size, 0, none⟩) 2 2 [x0, os] W h)
    have AE : Tm.alike [x0, os] = Tm.fit x0 os := by
      rw [Tm.alike, Tm.fit, Bool.eq_iff_iff]
      simp only [List.all_cons, List.all_nil, Bool.and_true, Bool.and_eq_true, decide_eq_true_eq, List.getD_cons_zero]
      constructor
      · rintro ⟨⟨q1, -⟩, q2, q3⟩; exact ⟨⟨q1, q2⟩, q3.symm⟩
      · rintro ⟨⟨q1, q2⟩, q3⟩; exact ⟨⟨q1, trivial⟩, q2, q3.symm⟩
    rw [AE] at AL
    clear AE ha hc hx0
    cases hf : Tm.fit x0 os with
    | false =>
      have G0 := GU.out hf
      rw [hf] at AL
      rw [G0]
      clear G0 GU GZ w0 j0 hcl
      go_enter Try.func30, Try.ntmps30
      go_wp2_with fail
      refine SW.out.mono ?_
      rintro e w1 ⟨rfl, rfl⟩
      go_wp2_with fail
      refine (AL.out _ R2.out).mono ?_
      rintro e w1 ⟨rfl, rfl⟩
      go_wp2
      go_ret3
      exact ⟨rfl, by (repeat' (first | (with_reducible exact Below.refl _ _) | (with_reducible assumption) | (with_reducible refine below_drewN ?_ _) | (with_reducible refine Below.drew ?_) | (with_reducible refine Below.alloc ?_ ?_ _) | (with_reducible refine Below.setCell ?_ ?_ _) | (with_reducible refine below_gw ?_ ?_ _) | (with_reducible refine below_via ?_ ‹Below _ _ _› ?_) | (with_reducible exact Nat.le_refl _) | (with_reducible refine le_gw ?_ _) | (with_reducible refine le_alloc ?_ _) | (with_reducible refine le_setCell ?_ _ _) | (with_reducible refine le_drew ?_) | (with_reducible refine le_drewN ?_ _) | go_size))⟩
    | true =>
      rw [hf] at AL
      obtain ⟨f1, f2, f3⟩ := (Tm.fit_iff _ _).1 hf
      have W2 := Lib.hid f2
      have OL := Tm.isW_len f2
      have WZ := Tm.wgt_zero f2
      rw [← f3] at WZ
      have H3 := Lib.hid (H2.out.alloc (.cells #[.slice a0 m0 c0, .slice a' n' cap'] 24))
      clear GU w0 j0 f1 f3 hcl
      by_cases hz : Tm.wgtW os = 0
      · have G1 := GZ.out
        rw [if_pos (WZ.1 hz)] at G1
        rw [G1]
        have IW := Lib.hid (fun W h => iWeightOf a' n' cap' os W h)
        rw [hz] at IW
        clear G1 WZ f2
        go_enter Try.func30, Try.ntmps30
        go_wp2_with fail
        refine SW.out.mono ?_
        rintro e w1 ⟨rfl, rfl⟩
        go_wp2_with fail
        refine (AL.out _ R2.out).mono ?_
        rintro e w1 ⟨rfl, rfl⟩
        go_wp2_with fail
        refine (IW.out _ H3.out).mono ?_
        rintro e w1 ⟨rfl, rfl⟩
        go_wp2
        go_ret3
        exact ⟨rfl, by (repeat' (first | (with_reducible exact Below.refl _ _) | (with_reducible assumption) | (with_reducible refine below_drewN ?_ _) | (with_reducible refine Below.drew ?_) | (with_reducible refine Below.alloc ?_ ?_ _) | (with_reducible refine Below.setCell ?_ ?_ _) | (with_reducible refine below_gw ?_ ?_ _) | (with_reducible refine below_via ?_ ‹Below _ _ _› ?_) | (with_reducible exact Nat.le_refl _) | (with_reducible refine le_gw ?_ _) | (with_reducible refine le_alloc ?_ _) | (with_reducible refine le_setCell ?_ _ _) | (with_reducible refine le_drew ?_) | (with_reducible refine le_drewN ?_ _) | go_size))⟩
      · have G1 := Lib.hid GZ.out
        rw [if_neg (fun e => hz (WZ.2 e))] at G1
        rw [G1.out]
        have IW := Lib.hid (fun W h => iWeightOf a' n' cap' os W h)
        obtain ⟨z, hzz⟩ : ∃ z, z = Tm.wgtW os := ⟨_, rfl⟩
        rw [← hzz] at IW hz
        have z1 : (z == 0) = false := by simpa using hz
        have NE : Tm.negW os = Tm.negL os := by rw [Tm.negW, if_pos f2]
        have IN := Lib.hid (fun W h => iNegateWord a' n' cap' os W h)
        rw [NE] at IN
        have NN := Lib.hid (fun xs => show Tm.negL xs = os ↔ xs = Tm.negL os from ⟨fun e => by rw [← e, Tm.negL_negL], fun e => by rw [e, Tm.negL_negL]⟩)
        obtain ⟨ns, hns⟩ : ∃ ns, ns = Tm.negL os := ⟨_, rfl⟩
        rw [← hns] at IN NN
        clear hzz WZ f2 GZ NE hns
        go_enter Try.func30, Try.ntmps30
        go_wp2_with fail
        refine SW.out.mono ?_
        rintro e w1 ⟨rfl, rfl⟩
        go_wp2_with fail
        refine (AL.out _ R2.out).mono ?_
        rintro e w1 ⟨rfl, rfl⟩
        go_wp2_with fail
        refine (IW.out _ H3.out).mono ?_
        rintro e w1 ⟨rfl, rfl⟩
        go_wp2_with fail
        refine (IN.out _ H3.out).mono ?_
        rintro e w1 ⟨a5, c5, rfl, ho, hb, -⟩
        have I5 := Lib.hid (Ints.of_own ho)
        have B1 := Lib.hid (((Below.refl w.heap.size w).alloc (Nat.le_refl _) (.cells #[.slice a0 m0 c0, .slice a' n' cap'] 24)).trans (hb.mono (by simp)))
        clear ho hb IN IW AL R2 H3
        go_wp2_with fail
        go_loopw [29] (fun i wr => ∃ k : Nat, k ≤ L.length ∧ i = .int .i64 k ∧ Hid (Tm.guessF L os 0 = Tm.guessF (L.drop k) os (k : Int)) ∧ Hid (Below w1.heap.size w1 wr)) (fun i _ => L.length - (intOf i).toNat)
        case atStart => exact ⟨0, by omega, rfl, Lib.hid rfl, Lib.hid (Below.refl _ _)⟩
        case round =>
          obtain ⟨k, hk, rfl, GF, BB⟩ := hrel
          have B2 := Lib.hid (B1.out.trans (BB.out.mono B1.out.size))
          by_cases hlt : k < L.length
          · have GA := Lib.hid (Tm.guessF_at (os := os) hlt)
            obtain ⟨-, -, -, y4⟩ := H.out.below B2.out
            rcases y4 with e0 | ⟨b', o', e1, hbl', hcl⟩
            · omega
            cases e1
            obtain ⟨ak, mk, ck, zk, jk⟩ := hcl k hlt
            obtain ⟨xs, hxs⟩ : ∃ xs, xs = L.getD k [] := ⟨_, rfl⟩
            rw [← hxs] at jk GA
            have JK := Lib.hid jk
            have O2 := Lib.hid (H2.out.below B2.out)
            have N2 := Lib.hid (I5.out.below BB.out)
            have hs := B2.out.size
            have hs2 := BB.out.size
            clear hcl hxs jk
            go_wp2_with fail
            refine (iEqualS _ _ _ xs _ _ _ os _ JK.out O2.out).mono ?_
            by_cases e1 : xs = os
            · rw [decide_eq_true e1]
              rintro e w4 ⟨rfl, hb4⟩
              have B4 := B2.out.trans (hb4.mono hs)
              have E1 := Lib.hid e1
              clear e1
              go_wp2
              go_ret3
              exact ⟨by rw [GF.out, GA.out, if_pos E1.out]; rfl, B4⟩
            · rw [decide_eq_false e1]
              rintro e w4 ⟨rfl, hb4⟩
              have B4 := Lib.hid (BB.out.trans (hb4.mono hs2))
              have B5 := Lib.hid (B2.out.trans (hb4.mono hs))
              have JK4 := Lib.hid (JK.out.below hb4)
              have N4 := Lib.hid (N2.out.below hb4)
              have E1 := Lib.hid e1
              have hs5 := B5.out.size
              have hs4 := B4.out.size
              clear e1 hb4 JK O2 N2
              go_wp2_with fail
              refine (iEqualS _ _ _ xs _ _ _ ns _ JK4.out N4.out).mono ?_
              by_cases e2 : xs = ns
              · rw [decide_eq_true e2]
                rintro e w6 ⟨rfl, hb6⟩
                have B6 := B5.out.trans (hb6.mono hs5)
                have E2 := Lib.hid e2
                clear e2
                go_wp2
                go_ret3
                exact ⟨by rw [GF.out, GA.out, if_neg E1.out, if_pos ((NN.out xs).2 E2.out)]; rfl, B6⟩
              · rw [decide_eq_false e2]
                rintro e w6 ⟨rfl, hb6⟩
                have B6 := Lib.hid (B4.out.trans (hb6.mono hs4))
                have E2 := Lib.hid e2
                clear e2 hb6
                go_wp2
                exact ⟨⟨k + 1, by omega, by go_num, Lib.hid (by rw [GF.out, GA.out, if_neg E1.out, if_neg (fun e => E2.out ((NN.out xs).1 e))]), B6⟩, by simp [intOf]; omega⟩
          · obtain rfl : k = L.length := by omega
            go_wp2
            go_ret3
            exact ⟨by rw [GF.out, List.drop_of_length_le (Nat.le_refl _)]; rfl, B2.out⟩
theorem iGuessOf (a : Option Addr) (n cap : Nat) (L : List (List Int)) (a' : Option Addr) (n' cap' : Nat) (os : List Int) (w : World) (h : Rows w a n cap L) (h' : Ints w a' n' cap' os) : Calls Try.prog 30 #[.slice a n cap, .slice a' n' cap'] w fun e w' => e = .returned (.tuple #[.int .i64 (Tm.guess L os).1, .int .i64 (Tm.guess L os).2.1, .bool (Tm.guess L os).2.2]) ∧ Below w.heap.size w w' := iGuessOf0 a n cap L a' n' cap' os w h h'
end Go.Proofs.Yteklgngooflhlaa

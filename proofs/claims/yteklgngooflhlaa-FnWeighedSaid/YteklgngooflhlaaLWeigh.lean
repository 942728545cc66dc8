/- Walks of laws: FnWeighed. -/
import Derived.Test.YteklgngooflhlaaVI1
import Derived.Test.YteklgngooflhlaaLaw
import Derived.Test.YteklgngooflhlaaWS4
namespace Go.Proofs.Yteklgngooflhlaa
set_option maxRecDepth 20000
open Go.RowKit
namespace Tm
theorem putF_append (t p : Int) (ps : List Int) (g : Nat → Int) : putF t (ps ++ [p]) g = if (putF t ps g).1 then (if 0 ≤ p ∧ p < 30 ∧ (putF t ps g).2 p.toNat = 0 then (true, upd (putF t ps g).2 p.toNat t) else (false, (putF t ps g).2)) else putF t ps g := by
  induction ps generalizing g with
  | nil => rw [List.nil_append, putF, putF, putF]; rfl
  | cons x ps ih =>
    rw [List.cons_append, putF, putF]
    by_cases c : 0 ≤ x ∧ x < 30 ∧ g x.toNat = 0
    · rw [if_pos c, if_pos c, ih]
    · rw [if_neg c, if_neg c]; rfl
/-- A trit at all places of another one. -/
theorem putF_places {xs : List Int} {s t : Int} {g : Nat → Int} (k : Nat) (hk : k ≤ 30) (hg : ∀ i, i < k → xs.getD i 0 = s → g i = 0) : putF t (placesF xs s k) g = (true, fun i => if i < k ∧ xs.getD i 0 = s then t else g i) := by
  induction k with
  | zero =>
    have e : (fun i => if i < 0 ∧ xs.getD i 0 = s then t else g i) = g := funext fun i => if_neg (by omega)
    rw [placesF, putF, e]
  | succ k ih =>
    have ih := ih (by omega) (fun i hi h => hg i (by omega) h)
    rw [placesF]
    by_cases c : xs.getD k 0 = s
    · rw [if_pos c, putF_append, ih, if_pos rfl]
      have e : (fun i => if i < k ∧ xs.getD i 0 = s then t else g i) k = 0 := by
        show (if k < k ∧ xs.getD k 0 = s then t else g k) = 0
        rw [if_neg (by omega)]; exact hg k (by omega) c
      rw [if_pos ⟨by omega, by omega, by rw [Int.toNat_natCast]; exact e⟩, Int.toNat_natCast]
      congr 1
      funext i
      rw [upd]
      by_cases h : i = k
      · subst h; rw [if_pos rfl, if_pos ⟨by omega, c⟩]
      · rw [if_neg h]
        show (if i < k ∧ xs.getD i 0 = s then t else g i) = (if i < k + 1 ∧ xs.getD i 0 = s then t else g i)
        by_cases h2 : i < k ∧ xs.getD i 0 = s
        · rw [if_pos h2, if_pos ⟨by omega, h2.2⟩]
        · rw [if_neg h2, if_neg (fun h3 => h2 ⟨by omega, h3.2⟩)]
    · rw [if_neg c, ih]
      congr 1
      funext i
      by_cases h2 : i < k ∧ xs.getD i 0 = s
      · rw [if_pos h2, if_pos ⟨by omega, h2.2⟩]
      · rw [if_neg h2, if_neg (fun h3 => h2 ⟨by
          have : i ≠ k := fun e => by subst e; exact c h3.2
          omega, h3.2⟩)]
/-- The weights of a thing make up for it. -/
theorem weigh_pans {n : Int} (h : weighOk n = true) : (pan1 (weighL n (-1))).1 = true ∧ (pan2 (weighL n (-1)) (weighL n 1)).1 = true ∧ val (pans (weighL n (-1)) (weighL n 1)) = -n := by
  have h' := h
  rw [weighOk, decide_eq_true_eq] at h'
  have L30 := limN_30
  have vx := val_wordL n 30 (by rw [L30]; omega)
  have lx := wordL_length n 30
  have tx := (isW_iff _).1 (wordL_isW (n := n) (k := 30) (by omega) (by omega))
  rw [weighL, if_pos h, weighL, if_pos h]
  obtain ⟨xs, hxs⟩ : ∃ xs, xs = wordL n 30 := ⟨_, rfl⟩
  rw [← hxs] at vx lx tx ⊢
  have p1 := putF_places (xs := xs) (s := -1) (t := 1) (g := g00) xs.length (by omega) (fun i _ _ => rfl)
  have e1 : pan1 (places xs (-1)) = (true, fun i => if i < xs.length ∧ xs.getD i 0 = -1 then 1 else g00 i) := p1
  have p2 := putF_places (xs := xs) (s := 1) (t := -1) (g := fun i => if i < xs.length ∧ xs.getD i 0 = -1 then 1 else g00 i) xs.length (by omega) (fun i _ h => by
    show (if i < xs.length ∧ xs.getD i 0 = -1 then (1 : Int) else g00 i) = 0
    rw [if_neg (by omega)]; rfl)
  have e2 : pan2 (places xs (-1)) (places xs 1) = (true, fun i => if i < xs.length ∧ xs.getD i 0 = 1 then -1 else if i < xs.length ∧ xs.getD i 0 = -1 then 1 else g00 i) := by
    rw [pan2, e1]; exact p2
  refine ⟨by rw [e1], by rw [e2], ?_⟩
  have e3 : pans (places xs (-1)) (places xs 1) = negL xs := by
    rw [pans, e2]
    apply List.ext_getElem (by simp [genL, negL, lx])
    intro i q1 q2
    have hi : i < xs.length := by simpa [negL] using q2
    have b := tx.1 (xs[i]) (List.getElem_mem hi)
    simp only [genL, negL, List.getElem_map, List.getElem_range]
    rw [← getD_at xs i hi]
    have : xs[i] = -1 ∨ xs[i] = 0 ∨ xs[i] = 1 := by omega
    rcases this with e | e | e <;> rw [e] <;> simp [hi, g00]
  rw [e3, val_neg, vx]
/-- The weights of the first k places that hold t. -/
def powF (xs : List Int) (t : Int) : Nat → Int
  | 0 => 0
  | k + 1 => if xs.getD k 0 = t then powF xs t k + pow3 k else powF xs t k
theorem powF_val {xs : List Int} (h : ∀ x ∈ xs, -1 ≤ x ∧ x ≤ 1) (k : Nat) (hk : k ≤ xs.length) : val (xs.take k) = powF xs 1 k - powF xs (-1) k := by
  induction k with
  | zero => rw [List.take_zero]; rfl
  | succ k ih =>
    have e : val (xs.take (k + 1)) = val (xs.take k) + pow3 k * xs.getD k 0 := by
      rw [List.take_succ_eq_append_getElem (by omega), val_append, List.length_take, Nat.min_eq_left (by omega), ← getD_at xs k (by omega)]
      simp [val]
    have b := h xs[k] (List.getElem_mem (by omega))
    rw [getD_at xs k (by omega)] at b
    rw [e, ih (by omega), powF, powF]
    have : xs.getD k 0 = -1 ∨ xs.getD k 0 = 0 ∨ xs.getD k 0 = 1 := by omega
    rcases this with e | e | e <;> rw [e] <;> simp <;> omega
theorem powF_bd (xs : List Int) (t : Int) (k : Nat) : 0 ≤ powF xs t k ∧ powF xs t k ≤ limN k := by
  induction k with
  | zero => exact ⟨Int.le_refl _, Int.le_refl _⟩
  | succ k ih =>
    have p := pow3_limN k
    have e : limN (k + 1) = 3 * limN k + 1 := rfl
    have l := limN_nonneg k
    rw [powF]
    split <;> omega
/-- Each place is a number below the length; the weights up to one of them. -/
theorem placesF_at (xs : List Int) (t : Int) (k : Nat) : ∀ j, j < (placesF xs t k).length → ∃ q : Nat, q < k ∧ (placesF xs t k).getD j 0 = (q : Int) ∧ (placesF xs t q).length = j ∧ xs.getD q 0 = t := by
  induction k with
  | zero => intro j hj; simp [placesF] at hj
  | succ k ih =>
    intro j hj
    rw [placesF] at hj ⊢
    by_cases c : xs.getD k 0 = t
    · rw [if_pos c] at hj ⊢
      rw [List.length_append, List.length_singleton] at hj
      by_cases h : j < (placesF xs t k).length
      · obtain ⟨q, q1, q2, q3, q4⟩ := ih j h
        exact ⟨q, by omega, by rw [List.getD_eq_getElem?_getD, List.getElem?_append_left h, ← List.getD_eq_getElem?_getD]; exact q2, q3, q4⟩
      · obtain rfl : j = (placesF xs t k).length := by omega
        exact ⟨k, by omega, by rw [List.getD_eq_getElem?_getD, List.getElem?_append_right (Nat.le_refl _)]; simp, rfl, c⟩
    · rw [if_neg c] at hj ⊢
      obtain ⟨q, q1, q2, q3, q4⟩ := ih j hj
      exact ⟨q, by omega, q2, q3, q4⟩
/-- The weights of the first j of some places. -/
def sumP (ps : List Int) : Nat → Int
  | 0 => 0
  | j + 1 => sumP ps j + pow3 (ps.getD j 0).toNat
theorem sumP_prefix (ps qs : List Int) (j : Nat) (hj : j ≤ ps.length) : sumP (ps ++ qs) j = sumP ps j := by
  induction j with
  | zero => rfl
  | succ j ih => rw [sumP, sumP, ih (by omega), List.getD_eq_getElem?_getD, List.getElem?_append_left (by omega), ← List.getD_eq_getElem?_getD]
theorem sumP_all (xs : List Int) (t : Int) (k : Nat) : sumP (placesF xs t k) (placesF xs t k).length = powF xs t k := by
  induction k with
  | zero => rfl
  | succ k ih =>
    rw [placesF, powF]
    by_cases c : xs.getD k 0 = t
    · rw [if_pos c, if_pos c, List.length_append, List.length_singleton, sumP, sumP_prefix _ _ _ (Nat.le_refl _), ih, List.getD_eq_getElem?_getD, List.getElem?_append_right (Nat.le_refl _)]
      simp
    · rw [if_neg c, if_neg c]; exact ih
theorem sumP_mono (ps : List Int) {i j : Nat} (h : i ≤ j) : sumP ps i ≤ sumP ps j ∧ 0 ≤ sumP ps i := by
  have pos : ∀ k : Nat, 0 ≤ pow3 k := fun k => by have := pow3_limN k; have := limN_nonneg k; omega
  have n0 : ∀ i, 0 ≤ sumP ps i := by
    intro i
    induction i with
    | zero => exact Int.le_refl _
    | succ i ih => have := pos (ps.getD i 0).toNat; rw [sumP]; omega
  refine ⟨?_, n0 i⟩
  induction j with
  | zero => obtain rfl : i = 0 := by omega
            exact Int.le_refl _
  | succ j ih =>
    by_cases e : i = j + 1
    · subst e; exact Int.le_refl _
    · have := ih (by omega)
      have := pos (ps.getD j 0).toNat
      rw [sumP]; omega
theorem sqT_places {xs : List Int} (h : ∀ x ∈ xs, -1 ≤ x ∧ x ≤ 1) (k : Nat) (hk : k ≤ xs.length) : sqT xs k = ((placesF xs (-1) k).length : Int) + ((placesF xs 1 k).length : Int) := by
  induction k with
  | zero => rfl
  | succ k ih =>
    have b := h xs[k] (List.getElem_mem (by omega))
    rw [getD_at xs k (by omega)] at b
    rw [sqT, ih (by omega), placesF, placesF]
    have : xs.getD k 0 = -1 ∨ xs.getD k 0 = 0 ∨ xs.getD k 0 = 1 := by omega
    rcases this with e | e | e <;> rw [e] <;> simp <;> omega
/-- What the law asks of a thing's weights. -/
theorem weigh_law {n : Int} (h : weighOk n = true) : n + sumP (weighL n (-1)) (weighL n (-1)).length - sumP (weighL n 1) (weighL n 1).length = 0 ∧ sumP (weighL n (-1)) (weighL n (-1)).length ≤ 102945566047324 ∧ sumP (weighL n 1) (weighL n 1).length ≤ 102945566047324
    ∧ ((weighL n (-1)).length : Int) + ((weighL n 1).length : Int) = wgtW (wordL n (lenN n)) ∧ ∀ t j, j < (weighL n t).length → ∃ q : Nat, q < 30 ∧ (weighL n t).getD j 0 = (q : Int) := by
  have h' := h
  rw [weighOk, decide_eq_true_eq] at h'
  have L30 := limN_30
  refine ⟨?_, ?_, ?_, ?_, ?_⟩
  · have vx := val_wordL n 30 (by rw [L30]; omega)
    have tx := (isW_iff _).1 (wordL_isW (n := n) (k := 30) (by omega) (by omega))
    have p := powF_val tx.1 (wordL n 30).length (Nat.le_refl _)
    rw [List.take_length, vx] at p
    rw [weighL, if_pos h, weighL, if_pos h, places, places, sumP_all, sumP_all]
    omega
  · have := powF_bd (wordL n 30) (-1) 30
    rw [weighL, if_pos h, places, wordL_length, sumP_all]; omega
  · have := powF_bd (wordL n 30) 1 30
    rw [weighL, if_pos h, places, wordL_length, sumP_all]; omega
  · obtain ⟨-, s1, s2, s3, -⟩ := lenN_spec (n := n) ⟨by omega, by omega⟩
    have W := wordL_isW (n := n) s1 s2
    rw [weigh_word h (by decide), weigh_word h (by decide), wgtW, if_pos W, sqT_places ((isW_iff _).1 W).1 _ (Nat.le_refl _)]; rfl
  · intro t j hj
    rw [weighL, if_pos h, places, wordL_length] at hj ⊢
    obtain ⟨q, q1, q2, -, -⟩ := placesF_at (wordL n 30) t 30 j hj
    exact ⟨q, q1, q2⟩
end Tm
set_option maxRecDepth 20000 in
set_option maxHeartbeats 4000000 in
theorem wFnWeighed (a0 : Option Addr) (len0 cap0 : Nat) (z0 : List Int) (w : World) (w0 : IsRow .u8 w a0 len0 cap0 z0) : Calls Try.prog 3 #[.slice a0 len0 cap0] w fun e w' => e = .returned (.bool true) ∧ Below w.heap.size w w' := by
  have BY := Lib.hid (Byts.of_row w0)
  have m0 : len0 ≤ 9223372036854775807 := by obtain ⟨h1, h2, _⟩ := BY.out; unfold maxLen at h2; omega
  clear w0
  have B := Lib.hid (Below.refl w.heap.size w)
  by_cases g0 : len0 ≤ 1048576
  · go_enter Try.func3, Try.ntmps3
    go_wp2_with fail
    refine (makeWord_any a0 len0 cap0 29 _ BY.out (by omega) (by omega) (by omega)).mono ?_
    rintro e w0 ⟨xs, b0, c0, rfl, hw, hp, ho, hb⟩
    have I_xs := Lib.hid (Ints.of_own ho)
    have W := Lib.hid hw
    have NB : -34315188682441 ≤ Tm.value xs ∧ Tm.value xs ≤ 34315188682441 := by
      have := Tm.val_bd_len hw 29 (by omega)
      have e : Tm.limN 29 = 34315188682441 := by decide
      rw [Tm.value_eq hw]; omega
    replace B := Lib.hid (B.out.trans (hb.mono B.out.size))
    clear ho hw hp hb BY
    go_wp2_with fail
    refine (sValueOf _ _ _ xs _ I_xs.out).mono ?_
    rintro e w1 ⟨rfl, rfl⟩
    obtain ⟨n, hn⟩ : ∃ n, n = Tm.value xs := ⟨_, rfl⟩
    rw [← hn] at NB ⊢
    obtain ⟨N1, N2⟩ := NB
    clear hn I_xs W
    go_wp2_with fail
    by_cases hn0 : n < 0
    · have WO : Tm.weighOk n = false := by rw [Tm.weighOk, decide_eq_false_iff_not]; omega
      refine (iWeighThing n _).mono ?_
      rw [WO]
      rintro e w1 ⟨aa, ac, ba, bc, rfl, o, hb, l1, l2⟩
      have B1 := B.out.trans (hb.mono B.out.size)
      clear o hb
      have hg : ¬ (n ≥ 0) := by omega
      go_wp2
      go_ret
      exact ⟨rfl, B1.alloc B1.size _⟩
    · have WO : Tm.weighOk n = true := by rw [Tm.weighOk, decide_eq_true_eq]; omega
      have PN := Tm.weigh_pans WO
      have LW := Lib.hid (Tm.weigh_law WO)
      have l1 := Tm.weighL_len n (-1)
      have l2 := Tm.weighL_len n 1
      have IT := Lib.hid (iWeighThing n w0)
      rw [WO] at IT
      have e30 : Tm.lim 30 = 102945566047324 := by decide
      have BL : Hid (∀ m, m = n ∨ m = n + 1 ∨ m = n - 1 → Tm.balOk (Tm.weighL n (-1)) (Tm.weighL n 1) m = true ∧ Tm.bal (Tm.weighL n (-1)) (Tm.weighL n 1) m = Tm.sgn (m - n)) := Lib.hid fun m hm => by
        have e : Tm.balOk (Tm.weighL n (-1)) (Tm.weighL n 1) m = true := by
          rw [Tm.balOk, PN.1, PN.2.1]
          have : Tm.wordOk m 30 = true := by rw [Tm.wordOk, decide_eq_true_eq, e30]; omega
          rw [this]; rfl
        exact ⟨e, by rw [Tm.bal, if_pos e, PN.2.2]; rfl⟩
      have E0 := BL.out n (.inl rfl)
      have E1 := BL.out (n + 1) (.inr (.inl rfl))
      have E2 := BL.out (n - 1) (.inr (.inr rfl))
      rw [show n - n = 0 from by omega, show Tm.sgn 0 = 0 from rfl] at E0
      rw [show n + 1 - n = 1 from by omega, show Tm.sgn 1 = 1 from rfl] at E1
      rw [show n - 1 - n = -1 from by omega, show Tm.sgn (-1) = -1 from rfl] at E2
      obtain ⟨ls, hls⟩ : ∃ ls, ls = Tm.weighL n (-1) := ⟨_, rfl⟩
      obtain ⟨rs, hrs⟩ : ∃ rs, rs = Tm.weighL n 1 := ⟨_, rfl⟩
      have AT1 := Lib.hid (fun j h => LW.out.2.2.2.2 (-1) j h)
      have AT2 := Lib.hid (fun j h => LW.out.2.2.2.2 1 j h)
      rw [← hls] at AT1
      rw [← hrs] at AT2
      have LA := LW.out.1
      have LB := LW.out.2.1
      have LC := LW.out.2.2.1
      have LD := LW.out.2.2.2.1
      rw [← hls] at IT E0 E1 E2 LA LB LD l1
      rw [← hrs] at IT E0 E1 E2 LA LC LD l2
      have J0 := Lib.hid (fun (a b : Option Addr) (c d : Nat) (w : World) (h : Ms w a ls.length c ls b rs.length d rs) => iBalanceOf a _ c ls b _ d rs n w h)
      have J1 := Lib.hid (fun (a b : Option Addr) (c d : Nat) (w : World) (h : Ms w a ls.length c ls b rs.length d rs) => iBalanceOf a _ c ls b _ d rs (n + 1) w h)
      have J2 := Lib.hid (fun (a b : Option Addr) (c d : Nat) (w : World) (h : Ms w a ls.length c ls b rs.length d rs) => iBalanceOf a _ c ls b _ d rs (n - 1) w h)
      rw [E0.1, E0.2] at J0
      rw [E1.1, E1.2] at J1
      rw [E2.1, E2.2] at J2
      obtain ⟨s0, s1, s2, s3, -⟩ := Tm.lenN_spec (n := n) ⟨by omega, by omega⟩
      have SL := Lib.hid (fun w => sLengthOf n w)
      rw [s0] at SL
      have SWD := Lib.hid (fun w => sWordOf n (Tm.lenN n : Int) w)
      have wok : Tm.wordOk n (Tm.lenN n : Int) = true := Tm.wordOk_nat s1 s2 s3
      rw [Tm.word, if_pos wok, wok, Int.toNat_natCast] at SWD
      obtain ⟨K, hK⟩ : ∃ K, K = Tm.lenN n := ⟨_, rfl⟩
      rw [← hK] at SL SWD LD
      obtain ⟨ws, hws⟩ : ∃ ws, ws = Tm.wordL n K := ⟨_, rfl⟩
      rw [← hws] at SWD LD
      have MP := Lib.hid (fun (q : Nat) (w : World) (h : q ≤ 30) => makePower q w h)
      have SM1 := Lib.hid (fun i j h => Tm.sumP_mono ls (i := i) (j := j) h)
      have SM2 := Lib.hid (fun i j h => Tm.sumP_mono rs (i := i) (j := j) h)
      have hg : n ≥ 0 := by omega
      have W1 : IntKind.i64.wrap (n + 1) = n + 1 := IntWalk.i64_in _ (by omega)
      have W2 : IntKind.i64.wrap (n - 1) = n - 1 := IntWalk.i64_in _ (by omega)
      clear PN LW e30 BL E0 E1 E2 hls hrs s0 s1 s2 s3 wok hK hws WO
      refine IT.out.mono ?_
      rintro e w1 ⟨aa, ac, ba, bc, rfl, o, hb, -, -⟩
      have M1 := Lib.hid o.ms
      have B1 := Lib.hid (B.out.trans (hb.mono B.out.size))
      clear o hb IT B
      have s1 := B1.out.size
      go_wp2_with fail
      generalize hW : World.alloc w1 _ = w2
      obtain ⟨bx, hb⟩ := box2_of hW
      have hp2 := bx.1
      have BX := Lib.hid bx
      have M2 := Lib.hid (M1.out.below hb)
      have B2 := Lib.hid (B1.out.trans (hb.mono s1))
      clear hW bx hb M1 B1
      obtain ⟨-, x0, x1⟩ := BX.out
      go_wp2_with fail
      refine (J0.out _ _ _ _ _ M2.out).mono ?_
      rintro e w3 ⟨rfl, hb⟩
      have M3 := Lib.hid (M2.out.below hb)
      have B3 := Lib.hid (B2.out.trans (hb.mono B2.out.size))
      replace BX := Lib.hid (BX.out.below hb)
      clear hb x0 x1
      obtain ⟨lt3, x0, x1⟩ := BX.out
      go_wp2_with fail
      refine (J1.out _ _ _ _ _ M3.out).mono ?_
      rintro e w4 ⟨rfl, hb⟩
      have M4 := Lib.hid (M3.out.below hb)
      have B4 := Lib.hid (B3.out.trans (hb.mono B3.out.size))
      replace BX := Lib.hid (BX.out.below hb)
      clear hb x0 x1
      obtain ⟨lt4, x0, x1⟩ := BX.out
      go_wp2_with fail
      refine (J2.out _ _ _ _ _ M4.out).mono ?_
      rintro e w5 ⟨rfl, hb⟩
      have M5 := Lib.hid (M4.out.below hb)
      have B5 := Lib.hid (B4.out.trans (hb.mono B4.out.size))
      replace BX := Lib.hid (BX.out.below hb)
      clear hb x0 x1
      obtain ⟨lt5, x0, x1⟩ := BX.out
      go_wp2_with fail
      obtain ⟨-, -, -, y1⟩ := M5.out.1
      obtain ⟨-, -, -, y2⟩ := M5.out.2
      have lsb : ls.length ≤ 9223372036854775807 := by omega
      clear J0 J1 J2 M2 M3 M4 B2 B3 B4
      go_loop [12, 60] (fun q i => ∃ k : Nat, k ≤ ls.length ∧ i = .int .i64 k ∧ q = .int .i64 (n + Tm.sumP ls k)) (fun _ i => ls.length - (intOf i).toNat)
      case atStart => exact ⟨0, by omega, rfl, val_int (by simp [Tm.sumP])⟩
      case round =>
        obtain ⟨k, hk, rfl, rfl⟩ := hrel
        by_cases hlt : k < ls.length
        · rcases y1 with e0 | ⟨b1, o1, rfl, hbl1, hc1⟩
          · omega
          have cx := hc1 k hlt
          obtain ⟨q, q30, hq⟩ := AT1.out k hlt
          rw [hq] at cx
          have SS : Tm.sumP ls (k + 1) = Tm.sumP ls k + Tm.pow3 q := by rw [Tm.sumP, hq, Int.toNat_natCast]
          have s1 := SM1.out k (k + 1) (by omega)
          have s2 := SM1.out (k + 1) ls.length (by omega)
          rw [SS] at s1 s2
          have P := Lib.hid (fun w => MP.out q w (by omega))
          obtain ⟨S, hS⟩ : ∃ S, S = Tm.sumP ls k := ⟨_, rfl⟩
          obtain ⟨T, hT⟩ : ∃ T, T = Tm.pow3 q := ⟨_, rfl⟩
          rw [← hS] at SS s1 s2 ⊢
          rw [← hT] at SS s1 s2 P
          have WR : IntKind.i64.wrap (n + S + T) = n + S + T := IntWalk.i64_in _ (by omega)
          have SH := Lib.hid SS
          clear hc1 hq SS hS hT
          go_wp2_with fail
          refine (P.out _).mono ?_
          rintro e w6 ⟨rfl, rfl⟩
          go_wp2
          go_round
          case rel => exact ⟨k + 1, by omega, by go_num, val_int (by rw [SH.out]; omega)⟩
          case measure => simp [intOf]; omega
        · obtain rfl : k = ls.length := by omega
          obtain ⟨S1, hS1⟩ : ∃ S1, S1 = Tm.sumP ls ls.length := ⟨_, rfl⟩
          obtain ⟨S2, hS2⟩ : ∃ S2, S2 = Tm.sumP rs rs.length := ⟨_, rfl⟩
          rw [← hS1] at LA LB ⊢
          rw [← hS2] at LA LC
          have nn := (SM2.out 0 rs.length (by omega)).2
          have SL2 := Lib.hid hS2
          clear hS1 hS2
          go_wp2_with fail
          go_loop [12, 72] (fun q i => ∃ k : Nat, k ≤ rs.length ∧ i = .int .i64 k ∧ q = .int .i64 (n + S1 - Tm.sumP rs k)) (fun _ i => rs.length - (intOf i).toNat)
          case atStart => exact ⟨0, by omega, rfl, val_int (by simp [Tm.sumP])⟩
          case round =>
            obtain ⟨k, hk, rfl, rfl⟩ := hrel
            by_cases hlt : k < rs.length
            · rcases y2 with e0 | ⟨b1, o1, rfl, hbl1, hc1⟩
              · omega
              have cx := hc1 k hlt
              obtain ⟨q, q30, hq⟩ := AT2.out k hlt
              rw [hq] at cx
              have SS : Tm.sumP rs (k + 1) = Tm.sumP rs k + Tm.pow3 q := by rw [Tm.sumP, hq, Int.toNat_natCast]
              have s1 := SM2.out k (k + 1) (by omega)
              have s2 := SM2.out (k + 1) rs.length (by omega)
              rw [SS] at s1 s2
              rw [← SL2.out] at s2
              have P := Lib.hid (fun w => MP.out q w (by omega))
              obtain ⟨S, hS⟩ : ∃ S, S = Tm.sumP rs k := ⟨_, rfl⟩
              obtain ⟨T, hT⟩ : ∃ T, T = Tm.pow3 q := ⟨_, rfl⟩
              rw [← hS] at SS s1 s2 ⊢
              rw [← hT] at SS s1 s2 P
              have WR : IntKind.i64.wrap (n + S1 - S - T) = n + S1 - S - T := IntWalk.i64_in _ (by omega)
              have SH := Lib.hid SS
              clear hc1 hq SS hS hT
              go_wp2_with fail
              refine (P.out _).mono ?_
              rintro e w6 ⟨rfl, rfl⟩
              go_wp2
              go_round
              case rel => exact ⟨k + 1, by omega, by go_num, val_int (by rw [SH.out]; omega)⟩
              case measure => simp [intOf]; omega
            · obtain rfl : k = rs.length := by omega
              rw [← SL2.out, show n + S1 - S2 = 0 from by omega]
              clear SL2 LA
              go_wp2_with fail
              refine (SL.out _).mono ?_
              rintro e w6 ⟨rfl, rfl⟩
              go_wp2_with fail
              refine (SWD.out _).mono ?_
              rintro e w6 ⟨a6, c6, rfl, ho, hb, -⟩
              have I6 := Lib.hid (Ints.of_own ho)
              have B6 := Lib.hid (B5.out.trans (hb.mono B5.out.size))
              replace BX := Lib.hid (BX.out.below hb)
              clear hb ho x0 x1
              obtain ⟨lt6, x0, x1⟩ := BX.out
              have WT := Lib.hid (fun (W : World) (h : Ints W a6 ws.length c6 ws) => sWeightOf a6 _ c6 ws W h)
              rw [← LD] at WT
              have WR2 : IntKind.i64.wrap ((ls.length : Int) + (rs.length : Int)) = (ls.length : Int) + (rs.length : Int) := IntWalk.i64_in _ (by omega)
              clear LD
              go_wp2_with fail
              go_quiet ((go_at_call 22; exact quietB (fun W h => WT.out W (I6.out.below h))))
              go_wp2
              go_ret
              exact ⟨by simp, below_drewN B6.out _⟩
  · go_enter Try.func3, Try.ntmps3
    go_wp2
    go_ret
    exact ⟨rfl, B.out⟩
end Go.Proofs.Yteklgngooflhlaa

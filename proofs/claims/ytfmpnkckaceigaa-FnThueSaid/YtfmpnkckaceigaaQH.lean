/- Squares in lists: the model's test and the program's. -/
import Derived.Test.YtfmpnkckaceigaaQMath2
import Derived.Test.YtfmpnkckaceigaaQS2
import Derived.Test.YtfmpnkckaceigaaEqL
namespace Go.Proofs.Ytfmpnkckaceigaa
set_option maxRecDepth 20000
open Go.RowKit
namespace Tm
theorem part_sq {xs : List Int} {f s : Nat} (h : f + 2 * s ≤ xs.length) : part xs f (f + s) = part xs (f + s) (f + 2 * s) ↔ SqAt xs f s := by
  have l1 : (part xs f (f + s)).length = s := by rw [part_length _ _ _ (by omega)]; omega
  have l2 : (part xs (f + s) (f + 2 * s)).length = s := by rw [part_length _ _ _ (by omega)]; omega
  constructor
  · intro e
    refine ⟨h, fun j hj => ?_⟩
    have e1 := part_get xs f (f + s) j (by omega)
    have e2 := part_get xs (f + s) (f + 2 * s) j (by omega)
    rw [← e1, ← e2, e]
  · rintro ⟨-, e⟩
    apply List.ext_getElem (by omega)
    intro j h1 h2
    rw [getD_at _ j h1, getD_at _ j h2, part_get _ _ _ _ (by omega), part_get _ _ _ _ (by omega)]
    exact e j (by omega)
end Tm
theorem met_below3 {P : Program} {f : FuncId} {args : Array Value} {w : World} {p : Regrown} {v : Value}
    (h : ∀ W, Below w.heap.size w W → Calls P f args W fun e w' => e = .returned v ∧ Below W.heap.size W w') : Calls P f args (Sort.grow (redrawn w p.d) p.os) fun e w'' => e = .returned v ∧ ∃ q : Regrown, w'' = Sort.grow (redrawn w q.d) q.os :=
  Calls.regrown_of (h _ (below_regrown w p.d p.os))
set_option maxHeartbeats 1000000 in
theorem sHasSquare (a : Option Addr) (n cap : Nat) (xs : List Int) (w : World) (h : Ints w a n cap xs) (hn : n ≤ 1048576 := by omega) : Calls Try.prog 39 #[.slice a n cap] w fun e w' => e = .returned (.bool (Tm.hsq xs)) ∧ Below w.heap.size w w' := by
  have H := Lib.hid h
  have HL := Lib.hid h.1
  have cp := h.2.1
  have mx := h.2.2.1
  unfold maxLen at mx
  clear h
  go_enter Try.func39, Try.ntmps39
  go_wp2
  go_loopw [7] (fun i wr => ∃ k : Nat, k ≤ n ∧ i = .int .i64 k ∧ Hid (∀ f s, f < k → 1 ≤ s → ¬ Tm.SqAt xs f s) ∧ Hid (Below w.heap.size w wr)) (fun i _ => n - (intOf i).toNat)
  case atStart => exact ⟨0, by omega, rfl, Lib.hid (fun f s hf => by omega), Lib.hid (by (repeat' (first | (with_reducible exact Below.refl _ _) | (with_reducible assumption) | (with_reducible refine below_drewN ?_ _) | (with_reducible refine Below.drew ?_) | (with_reducible refine Below.alloc ?_ ?_ _) | (with_reducible refine Below.setCell ?_ ?_ _) | (with_reducible refine below_gw ?_ ?_ _) | (with_reducible refine below_via ?_ ‹Below _ _ _› ?_) | (with_reducible exact Nat.le_refl _) | (with_reducible refine le_gw ?_ _) | (with_reducible refine le_alloc ?_ _) | (with_reducible refine le_setCell ?_ _ _) | (with_reducible refine le_drew ?_) | (with_reducible refine le_drewN ?_ _) | go_size)))⟩
  case round =>
    obtain ⟨k, hk, rfl, NO, BB⟩ := hrel
    by_cases hlt : k < n
    · obtain ⟨wo, hwo⟩ : ∃ wo, wo = wr := ⟨_, rfl⟩
      subst hwo
      go_wp2_with fail
      go_loopw [4] (fun i wr => ∃ s : Nat, 1 ≤ s ∧ s ≤ n + 1 ∧ i = .int .i64 s ∧ Hid (∀ s', 1 ≤ s' → s' < s → ¬ Tm.SqAt xs k s') ∧ Hid (Below w.heap.size w wr)) (fun i _ => n + 1 - (intOf i).toNat)
      case atStart => exact ⟨1, by omega, by omega, rfl, Lib.hid (fun s' h1 h2 => by omega), BB⟩
      case round =>
        obtain ⟨s, s1, s2, rfl, NS, BS⟩ := hrel
        have e1 : IntKind.i64.wrap (2 * (s : Int)) = 2 * (s : Int) := IntWalk.i64_in _ (by omega)
        have e2 : IntKind.i64.wrap ((k : Int) + 2 * (s : Int)) = (k : Int) + 2 * (s : Int) := IntWalk.i64_in _ (by omega)
        have e3 : IntKind.i64.wrap ((k : Int) + (s : Int)) = (k : Int) + (s : Int) := IntWalk.i64_in _ (by omega)
        by_cases hle : k + 2 * s ≤ n
        · have hle' : (k : Int) + 2 * (s : Int) ≤ (n : Int) := by omega
          rcases H.out.2.2.2 with h0 | ⟨b, o, rfl, hbl, -⟩
          · omega
          have I1 := Lib.hid (fun W (h : Below w.heap.size w W) => (H.out.below h).part k (k + s) (by omega) (by omega))
          have I2 := Lib.hid (fun W (h : Below w.heap.size w W) => (H.out.below h).part (k + s) (k + 2 * s) (by omega) (by omega))
          have EQ := Lib.hid (fun W (h : Below w.heap.size w W) => sEqL _ _ _ _ _ _ _ _ W (I1.out W h) (I2.out W h))
          have SQ := Lib.hid (Tm.part_sq (xs := xs) (f := k) (s := s) (by rw [HL.out]; exact hle))
          rw [show k + s - k = s from by omega] at EQ
          have hs := BS.out.size
          have f1 : ¬ (cap = k) := by omega
          have f2 : ¬ (k = cap) := by omega
          have f3 : ¬ (cap = k + s) := by omega
          have f4 : ¬ (k + s = cap) := by omega
          clear I1 I2
          by_cases c : Tm.SqAt xs k s
          · rw [decide_eq_true (SQ.out.2 c)] at EQ
            have YES := Lib.hid (Tm.hsq_at s1 c)
            clear c SQ
            go_wp2_with fail
            (refine wp_region_quiet_below (by kernel_rfl) (by kernel_rfl) ?_; (repeat (go_big_quiet_step ((go_at_call 65; with_reducible exact met_below3 (fun W h => EQ.out W (BS.out.trans (h.mono hs))))))); refine wpQuiet_nil ?_; intro wq hwq; obtain ⟨pq, hpq⟩ := hwq; have hpq' : wq = gw _ pq := hpq; clear hpq; subst hpq')
            go_wp2
            go_ret
            exact ⟨ret_bool YES.out.symm, below_gw BS.out hs _⟩
          · rw [decide_eq_false (fun e => c (SQ.out.1 e))] at EQ
            have N2 : Hid (∀ s', 1 ≤ s' → s' < s + 1 → ¬ Tm.SqAt xs k s') := Lib.hid (fun s' h1 h2 => by
              by_cases e : s' = s
              · subst e; exact c
              · exact NS.out s' h1 (by omega))
            clear c SQ
            go_wp2_with fail
            (refine wp_region_quiet_below (by kernel_rfl) (by kernel_rfl) ?_; (repeat (go_big_quiet_step ((go_at_call 65; with_reducible exact met_below3 (fun W h => EQ.out W (BS.out.trans (h.mono hs))))))); refine wpQuiet_nil ?_; intro wq hwq; obtain ⟨pq, hpq⟩ := hwq; have hpq' : wq = gw _ pq := hpq; clear hpq; subst hpq')
            go_wp2
            exact ⟨⟨s + 1, by omega, by omega, by go_num, N2, Lib.hid (below_gw BS.out hs _)⟩, by simp [intOf]; omega⟩
        · have hle' : ¬ ((k : Int) + 2 * (s : Int) ≤ (n : Int)) := by omega
          have NO2 : Hid (∀ f s, f < k + 1 → 1 ≤ s → ¬ Tm.SqAt xs f s) := Lib.hid (fun f s' hf h1 hq => by
            by_cases e : f = k
            · subst e
              by_cases e2 : s' < s
              · exact NS.out s' h1 e2 hq
              · have := hq.1; rw [HL.out] at this; omega
            · exact NO.out f s' (by omega) h1 hq)
          go_wp2
          exact ⟨⟨k + 1, by omega, by go_num, NO2, BS⟩, by simp [intOf]; omega⟩
    · obtain rfl : k = n := by omega
      have RE : Hid (Tm.hsq xs = false) := Lib.hid (Tm.hsq_none (fun f s h1 h2 hq => NO.out f s (by rw [HL.out] at h2; omega) h1 hq))
      go_wp2
      go_ret
      exact ⟨ret_bool RE.out.symm, BB.out⟩
set_option maxHeartbeats 1000000 in
theorem iHasSquareOf (a : Option Addr) (n cap : Nat) (xs : List Int) (s : Nat) (w : World) (h : Ints w a n cap xs) (h1 : 1 ≤ s) (h2 : 2 * s ≤ n) : Calls Try.prog 66 #[.slice a n cap, .int .i64 (s : Int)] w fun e w' => e = .returned (.bool (Tm.hsqOf xs s)) ∧ w = w' := by
  have HL := Lib.hid h.1
  have cp := h.2.1
  have mx := h.2.2.1
  unfold maxLen at mx
  rcases h.2.2.2 with h0 | ⟨b, o, rfl, hbl, hc⟩
  · omega
  have HC := Lib.hid hc
  clear h hc
  have f1 : s ≤ n := by omega
  have f2 : ¬ (cap = s) := by omega
  have f3 : ¬ (s = cap) := by omega
  have f4 : s ≤ cap := by omega
  go_enter Try.func66, Try.ntmps66
  go_wp2
  go_loop [5, 12] (fun e i => ∃ k : Nat, k ≤ n - s ∧ i = .int .i64 k ∧ e = .int .i64 (Tm.rowN xs s k : Int) ∧ Hid (∀ j, j ≤ k → Tm.rowN xs s j < s)) (fun _ i => n - s - (intOf i).toNat)
  case atStart => exact ⟨0, by omega, rfl, rfl, Lib.hid (fun j hj => by rw [show j = 0 from by omega]; exact h1)⟩
  case round =>
    obtain ⟨k, hk, rfl, rfl, NO⟩ := hrel
    by_cases hlt : k < n - s
    · have c1 := HC.out k (by omega)
      have c2 := HC.out (s + k) (by omega)
      rw [← Nat.add_assoc] at c2
      have RS : Hid (Tm.rowN xs s (k + 1) = if xs.getD (s + k) 0 = xs.getD k 0 then Tm.rowN xs s k + 1 else 0) := Lib.hid rfl
      have YES := Lib.hid (fun h => Tm.hsqOf_yes (xs := xs) (s := s) (i := k + 1) h (by rw [HL.out]; omega))
      have b0 := NO.out k (Nat.le_refl _)
      obtain ⟨x, hx⟩ : ∃ x, x = xs.getD k 0 := ⟨_, rfl⟩
      obtain ⟨y, hy⟩ : ∃ y, y = xs.getD (s + k) 0 := ⟨_, rfl⟩
      rw [← hx] at c1 RS
      rw [← hy] at c2 RS
      clear hx hy
      obtain ⟨r, hr⟩ : ∃ r, r = Tm.rowN xs s k := ⟨_, rfl⟩
      rw [← hr] at b0 RS ⊢
      clear hr
      have NX : Hid (∀ q, q = Tm.rowN xs s (k + 1) → q < s → ∀ j, j ≤ k + 1 → Tm.rowN xs s j < s) := Lib.hid (fun q e h j hj => by
        by_cases ej : j = k + 1
        · subst ej; omega
        · exact NO.out j (by omega))
      by_cases exy : y = x
      · rw [if_pos exy] at RS
        have ne : (y == x) = true := by simpa using exy
        clear exy NO
        by_cases es : r + 1 = s
        · have RE := Lib.hid (YES.out (by rw [RS.out]; omega))
          have ee : ((r : Int) + 1 == (s : Int)) = true := by rw [beq_iff_eq]; omega
          go_wp2
          go_ret
          exact ⟨ret_bool RE.out.symm, rfl⟩
        · have N2 := Lib.hid (NX.out (r + 1) RS.out.symm (by omega))
          have ee : ((r : Int) + 1 == (s : Int)) = false := by rw [beq_eq_false_iff_ne]; omega
          go_wp2
          exact ⟨⟨k + 1, by omega, by go_num, val_int (by rw [RS.out]; omega), N2⟩, by simp [intOf]; omega⟩
      · rw [if_neg exy] at RS
        have ne : (y == x) = false := by simpa using exy
        clear exy NO
        have N2 := Lib.hid (NX.out 0 RS.out.symm (by omega))
        have ee : ((0 : Int) == (s : Int)) = false := by rw [beq_eq_false_iff_ne]; omega
        go_wp2
        exact ⟨⟨k + 1, by omega, by go_num, val_int (by rw [RS.out]; rfl), N2⟩, by simp [intOf]; omega⟩
    · obtain rfl : k = n - s := by omega
      have RE := Lib.hid (Tm.hsqOf_no (xs := xs) (s := s) (fun i hi => NO.out i (by rw [HL.out] at hi; omega)))
      go_wp2
      go_ret
      exact ⟨ret_bool RE.out.symm, rfl⟩
theorem iHasSquare0 (a : Option Addr) (n cap : Nat) (xs : List Int) (w : World) (h : Ints w a n cap xs) (hn : n ≤ 1048576) : Calls Try.prog 40 #[.slice a n cap] w fun e w' => e = .returned (.bool (Tm.hsq xs)) ∧ w = w' := by
  have H := Lib.hid h
  have HL := Lib.hid h.1
  clear h
  obtain ⟨m, hm⟩ : ∃ m : Nat, n / 2 = m := ⟨_, rfl⟩
  have d1 : (n : Int).tdiv 2 = (m : Int) := by rw [Int.tdiv_eq_ediv_of_nonneg (by omega)]; omega
  have d2 : (n : Int) / 2 = (m : Int) := by omega
  have HM := Lib.hid hm
  have m2 : 2 * m ≤ n := by omega
  clear hm
  go_enter Try.func40, Try.ntmps40
  go_wp2
  go_loop [3] (fun i => ∃ s : Nat, 1 ≤ s ∧ s ≤ m + 1 ∧ i = .int .i64 s ∧ Hid (∀ s', 1 ≤ s' → s' < s → Tm.hsqOf xs s' = false)) (fun i => m + 1 - (intOf i).toNat)
  case atStart => exact ⟨1, by omega, by omega, rfl, Lib.hid (fun s' h1 h2 => by omega)⟩
  case round =>
    obtain ⟨s, s1, s2, rfl, NS⟩ := hrel
    by_cases hlt : s ≤ m
    · have CS := Lib.hid (iHasSquareOf a n cap xs s w H.out s1 (by omega))
      have c1 : (s : Int) ≤ (m : Int) := by omega
      cases hq : Tm.hsqOf xs s with
      | true =>
        rw [hq] at CS
        have RE := Lib.hid (Tm.hsq_yes s1 hq)
        clear hq
        go_wp2_with fail
        refine CS.out.mono ?_
        rintro e w1 ⟨rfl, rfl⟩
        go_wp2
        go_ret
        exact ⟨ret_bool RE.out.symm, rfl⟩
      | false =>
        rw [hq] at CS
        have N2 : Hid (∀ s', 1 ≤ s' → s' < s + 1 → Tm.hsqOf xs s' = false) := Lib.hid (fun s' h1 h2 => by
          by_cases e : s' = s
          · subst e; exact hq
          · exact NS.out s' h1 (by omega))
        clear hq
        go_wp2_with fail
        refine CS.out.mono ?_
        rintro e w1 ⟨rfl, rfl⟩
        go_wp2
        exact ⟨⟨s + 1, by omega, by omega, by go_num, N2⟩, by simp [intOf]; omega⟩
    · have c1 : ¬ ((s : Int) ≤ (m : Int)) := by omega
      have RE := Lib.hid (Tm.hsq_no (xs := xs) (fun s' h1 h2 => NS.out s' h1 (by rw [HL.out, HM.out] at h2; omega)))
      go_wp2
      go_ret
      exact ⟨ret_bool RE.out.symm, rfl⟩
theorem iHasSquare (a : Option Addr) (n cap : Nat) (xs : List Int) (w : World) (h : Ints w a n cap xs) (hn : n ≤ 1048576 := by omega) : Calls Try.prog 40 #[.slice a n cap] w fun e w' => e = .returned (.bool (Tm.hsq xs)) ∧ Below w.heap.size w w' :=
  (iHasSquare0 a n cap xs w h hn).mono fun _ _ ⟨e, q⟩ => ⟨e, q ▸ Below.refl _ _⟩
end Go.Proofs.Ytfmpnkckaceigaa

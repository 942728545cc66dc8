/- Walks of laws: FnForward. Walks of laws: FnWeighed. -/
import Derived.Test.YteklgngooflhlaaBI1
import Derived.Test.YteklgngooflhlaaBMath
import Derived.Test.YteklgngooflhlaaLaw
import Derived.Test.YteklgngooflhlaaWS4
import Derived.Test.YteklgngooflhlaaWI2
import Derived.Test.YteklgngooflhlaaVI1
namespace Go.Proofs.Yteklgngooflhlaa
set_option maxRecDepth 20000
open Go.RowKit
namespace Tm
/-- All elements are the first one. -/
def eqF (xs : List Int) (k : Nat) : Prop := ∀ q, q < k → xs.getD q 0 = xs.getD 0 0
theorem fwd_flat {xs : List Int} (h : eqF xs xs.length) : fwd xs = false := by
  have key : ∀ (l : List Int) (a : Int), (∀ x ∈ l, x = a) → fwd l = false := by
    intro l
    induction l with
    | nil => intro a _; rfl
    | cons x l ih =>
      intro a h
      match l, ih with
      | [], _ => rfl
      | y :: t, ih =>
        have e1 := h x (by simp)
        have e2 := h y (by simp)
        rw [fwd, if_pos (by omega)]
        exact ih a (fun z hz => h z (by simp only [List.mem_cons] at hz ⊢; exact .inr hz))
  refine key xs (xs.getD 0 0) fun x hx => ?_
  obtain ⟨i, hi, rfl⟩ := List.mem_iff_getElem.1 hx
  rw [getD_at xs i hi]; exact h i hi
theorem turn_cases {a b : Int} (ha : -1 ≤ a ∧ a ≤ 1) (hb : -1 ≤ b ∧ b ≤ 1) (h : b ≠ a) : decide (-b = turn (-a)) = !decide (b = turn a) ∧ decide (turn b = turn (turn a)) = decide (b = turn a) ∧ turn b ≠ turn a := by
  have e1 : a = -1 ∨ a = 0 ∨ a = 1 := by omega
  have e2 : b = -1 ∨ b = 0 ∨ b = 1 := by omega
  rcases e1 with rfl | rfl | rfl <;> rcases e2 with rfl | rfl | rfl <;> first | (exact absurd rfl h) | decide
theorem fwd_both {xs : List Int} (h : ∀ x ∈ xs, -1 ≤ x ∧ x ≤ 1) : (fwd xs = false → fwd (negL xs) = false → ∀ x ∈ xs, x = xs.getD 0 0) ∧ ¬ (fwd xs = true ∧ fwd (negL xs) = true) ∧ fwd (turned xs) = fwd xs := by
  induction xs with
  | nil => exact ⟨fun _ _ x hx => (by cases hx), by decide, rfl⟩
  | cons a l ih =>
    have ih := ih (fun x hx => h x (by simp [hx]))
    match l, ih, h with
    | [], _, _ => exact ⟨fun _ _ x hx => by simpa using hx, by simp [fwd], rfl⟩
    | b :: t, ih, h =>
      have ha := h a (by simp)
      have hb := h b (by simp)
      have en : negL (a :: b :: t) = -a :: -b :: negL t := rfl
      have et : turned (a :: b :: t) = turn a :: turn b :: turned t := rfl
      have en2 : negL (b :: t) = -b :: negL t := rfl
      have et2 : turned (b :: t) = turn b :: turned t := rfl
      rw [en, et, fwd, fwd, fwd]
      by_cases e : b = a
      · subst e
        rw [if_pos rfl, if_pos rfl, if_pos rfl, ← en2, ← et2]
        refine ⟨fun h1 h2 x hx => ?_, ih.2.1, ih.2.2⟩
        rw [List.mem_cons] at hx
        rcases hx with rfl | hx
        · rfl
        · exact ih.1 h1 h2 x hx
      · have t := turn_cases ha hb e
        rw [if_neg e, if_neg (by omega), if_neg t.2.2, t.1, t.2.1]
        refine ⟨fun h1 h2 => ?_, ?_, rfl⟩
        · rw [h1] at h2; simp at h2
        · rintro ⟨h1, h2⟩; rw [h1] at h2; simp at h2
/-- Of the first j words of k trits, how many turn forward. -/
def cntF (k : Nat) : Nat → Int
  | 0 => 0
  | j + 1 => if fwd (wordL (-(limN k) + (j : Int)) k) then cntF k j + 1 else cntF k j
theorem cntF_all : ∀ k : Fin 6, 2 ≤ k.1 → cntF k.1 (2 * (limN k.1).toNat + 1) = coinsFor (k.1 : Int) := by decide +kernel
theorem cntF_bd (k j : Nat) : 0 ≤ cntF k j ∧ cntF k j ≤ j := by
  induction j with
  | zero => exact ⟨Int.le_refl _, Int.le_refl _⟩
  | succ j ih => rw [cntF]; split <;> omega
end Tm
set_option maxRecDepth 20000 in
set_option maxHeartbeats 4000000 in
theorem wFnForward (a0 : Option Addr) (len0 cap0 : Nat) (z0 : List Int) (w : World) (w0 : IsRow .u8 w a0 len0 cap0 z0) : Calls Try.prog 5 #[.slice a0 len0 cap0] w fun e w' => e = .returned (.bool true) ∧ Below w.heap.size w w' := by
  obtain ⟨i0, hi, hz0, hz1, hz2⟩ := info_parts infoInt
  have BY := Lib.hid (Byts.of_row w0)
  have m0 : len0 ≤ 9223372036854775807 := by obtain ⟨h1, h2, _⟩ := BY.out; unfold maxLen at h2; omega
  clear w0
  have B := Lib.hid (Below.refl w.heap.size w)
  by_cases g0 : len0 ≤ 1048576
  · go_enter Try.func5, Try.ntmps5
    go_wp2_with fail
    refine (makeWord_any a0 len0 cap0 8 _ BY.out (by omega) (by omega) (by omega)).mono ?_
    rintro e w0 ⟨xs, b0, c0, rfl, hw, hp, ho, hb⟩
    have I_xs := Lib.hid (Ints.of_own ho)
    have W := Lib.hid hw
    have x1 := Tm.isW_pos hw
    have x2 : xs.length ≤ 8 := by omega
    replace BY := Lib.hid (BY.out.below hb)
    replace B := Lib.hid (B.out.trans (hb.mono B.out.size))
    clear ho hw hp hb
    have BW := Lib.hid (Below.refl w0.heap.size w0)
    obtain ⟨y1, y2, y3, y4⟩ := I_xs.out
    rcases y4 with e0 | ⟨gb, go, rfl, hbl, hcl⟩
    · omega
    have CL := Lib.hid hcl
    clear hcl y1 y2 y3
    go_wp2
    go_loopw [4, 5, 23] (fun q v i wr => ∃ (k : Nat) (E : Bool), k ≤ xs.length ∧ i = .int .i64 k ∧ q = .bool E ∧ (E = true ↔ Tm.eqF xs k) ∧ wr.ownsRow w0.heap.size 3 1 v k ((Tm.turned (xs.take k)).map (Value.int .i64)) ∧ Below w0.heap.size w0 wr) (fun _ _ i _ => xs.length - (intOf i).toNat)
    case atStart => exact ⟨0, true, by omega, rfl, rfl, ⟨fun _ q hq => by omega, fun _ => rfl⟩, own_empty w0 _ _ (Nat.le_refl _), by (repeat' (first | (with_reducible exact Below.refl _ _) | (with_reducible assumption) | (with_reducible refine below_drewN ?_ _) | (with_reducible refine Below.drew ?_) | (with_reducible refine Below.alloc ?_ ?_ _) | (with_reducible refine Below.setCell ?_ ?_ _) | (with_reducible refine below_gw ?_ ?_ _) | (with_reducible refine below_via ?_ ‹Below _ _ _› ?_) | (with_reducible exact Nat.le_refl _) | (with_reducible refine le_gw ?_ _) | (with_reducible refine le_alloc ?_ _) | (with_reducible refine le_setCell ?_ _ _) | (with_reducible refine le_drew ?_) | (with_reducible refine le_drewN ?_ _) | go_size))⟩
    case round =>
      obtain ⟨k, E, hk, rfl, rfl, hE, hown, hnx⟩ := hrel
      by_cases hlt : k < xs.length
      · have ck := (World.cell?_of_block (a := ⟨gb, go + k, none⟩) (hnx.block gb hbl)).trans (CL.out k hlt)
        have c0' := (World.cell?_of_block (a := ⟨gb, go + 0, none⟩) (hnx.block gb hbl)).trans (CL.out 0 (by omega))
        rw [Nat.add_zero] at c0'
        have EN : Hid (∀ b : Bool, (b = true ↔ xs.getD k 0 = xs.getD 0 0) → ((E && b) = true ↔ Tm.eqF xs (k + 1))) := Lib.hid (fun b hb => by
          rw [Bool.and_eq_true, hE, hb]
          constructor
          · rintro ⟨h1, h2⟩ q hq
            by_cases e : q = k
            · subst e; exact h2
            · exact h1 q (by omega)
          · intro h; exact ⟨fun q hq => h q (by omega), h k (by omega)⟩)
        have TS : Hid ((Tm.turned (xs.take k)).map (Value.int .i64) ++ [Value.int .i64 (Tm.turn (xs.getD k 0))] = (Tm.turned (xs.take (k + 1))).map (Value.int .i64)) := Lib.hid (by
          rw [List.take_succ_eq_append_getElem hlt, Tm.turned, Tm.turned, List.map_append, List.map_append, ← getD_at xs k hlt]; rfl)
        obtain ⟨x, hx⟩ : ∃ x, x = xs.getD k 0 := ⟨_, rfl⟩
        obtain ⟨y, hy⟩ : ∃ y, y = xs.getD 0 0 := ⟨_, rfl⟩
        rw [← hx] at ck EN TS
        rw [← hy] at c0' EN
        have hs := hnx.size
        have lt2 : gb < wr.heap.size := by omega
        have hx0 : (0 : Int) < (xs.length : Int) := by omega
        have hn0 : xs ≠ [] := by intro e; subst e; simp at hlt
        clear hx hy hE
        cases E with
        | true =>
          have EV := Lib.hid (EN.out (x == y) (by simp))
          clear EN
          go_wp2_with (first | (go_at_call 32; refine (iTurnTrit _ _).mono ?_; rintro e w1 ⟨rfl, rfl⟩) | (at_builtin; refine wpList_append_own _ rfl _ _ 24 rfl (w0.heap.size) 3 i0 (.int .i64 0) 1 8 Try.underlying24 hi hz0 hz1 hz2 rfl (by decide) _ _ _ rfl (World.ownsRow.alloc hown _) ⟨wr.heap.size, 0, none⟩ 1 1 [.int .i64 ((Tm.turn x))] rfl rfl (app_c1 (wr) ((Tm.turn x)) _) (app_c2 _) (by unfold maxLen; omega) (by omega) (by simp; omega) ?_))
          intro v' w1 hown' hgrow _
          have hnx1 : Below w0.heap.size w0 w1 := (hnx.alloc hs _).grown hgrow (by simp; omega) (fun k hk => (hown.lt k hk).1)
          rw [TS.out] at hown'
          clear hown hgrow hnx
          go_wp2
          exact ⟨⟨k + 1, _, by omega, by go_num, rfl, by simpa using EV.out, hown', hnx1⟩, by simp [intOf]; omega⟩
        | false =>
          have EV := Lib.hid (EN.out (x == y) (by simp))
          clear EN
          go_wp2_with (first | (go_at_call 32; refine (iTurnTrit _ _).mono ?_; rintro e w1 ⟨rfl, rfl⟩) | (at_builtin; refine wpList_append_own _ rfl _ _ 24 rfl (w0.heap.size) 3 i0 (.int .i64 0) 1 8 Try.underlying24 hi hz0 hz1 hz2 rfl (by decide) _ _ _ rfl (World.ownsRow.alloc hown _) ⟨wr.heap.size, 0, none⟩ 1 1 [.int .i64 ((Tm.turn x))] rfl rfl (app_c1 (wr) ((Tm.turn x)) _) (app_c2 _) (by unfold maxLen; omega) (by omega) (by simp; omega) ?_))
          intro v' w1 hown' hgrow _
          have hnx1 : Below w0.heap.size w0 w1 := (hnx.alloc hs _).grown hgrow (by simp; omega) (fun k hk => (hown.lt k hk).1)
          rw [TS.out] at hown'
          clear hown hgrow hnx
          go_wp2
          exact ⟨⟨k + 1, false, by omega, by go_num, rfl, by simpa using EV.out, hown', hnx1⟩, by simp [intOf]; omega⟩
      · obtain rfl : k = xs.length := by omega
        rw [List.take_length] at hown
        obtain ⟨ta, tc, rfl⟩ := own_form hown
        have FB := Lib.hid (Tm.fwd_both (xs := xs) ((Tm.isW_iff _).1 W.out).1)
        have EQ : Hid ((E = true → Tm.fwd xs = false ∧ Tm.fwd (Tm.negL xs) = false) ∧ (E = false → Tm.fwd xs = !Tm.fwd (Tm.negL xs))) := Lib.hid (by
          constructor
          · intro e
            have a1 := hE.1 e
            refine ⟨Tm.fwd_flat a1, Tm.fwd_flat fun q hq => ?_⟩
            rw [Tm.negL_length] at hq
            have g : ∀ j, j < xs.length → (Tm.negL xs).getD j 0 = -xs.getD j 0 := fun j hj => by
              rw [Tm.negL, List.getD_eq_getElem?_getD, List.getElem?_map, List.getElem?_eq_getElem hj, ← getD_at xs j hj]; rfl
            rw [g q hq, g 0 (by omega), a1 q hq]
          · intro e
            have n1 : ¬ Tm.eqF xs xs.length := fun h => by have := hE.2 h; rw [e] at this; cases this
            obtain ⟨f1, f2, -⟩ := FB.out
            cases c1 : Tm.fwd xs <;> cases c2 : Tm.fwd (Tm.negL xs)
            · exfalso
              apply n1
              intro q hq
              have := f1 c1 c2 xs[q] (List.getElem_mem hq)
              rw [getD_at xs q hq] at this
              exact this
            · rfl
            · rfl
            · exact absurd ⟨c1, c2⟩ f2)
        have TT : Hid (Tm.turnsF (Tm.turned xs) = Tm.fwd xs) := Lib.hid (by rw [Tm.turnsF, Tm.turned_isW W.out, FB.out.2.2]; rfl)
        have TX : Hid (Tm.turnsF xs = Tm.fwd xs) := Lib.hid (by rw [Tm.turnsF, W.out]; rfl)
        have TN : Hid (Tm.turnsF (Tm.negL xs) = Tm.fwd (Tm.negL xs)) := Lib.hid (by rw [Tm.turnsF, Tm.negL_isW W.out]; rfl)
        have NW : Hid (Tm.negW xs = Tm.negL xs) := Lib.hid (by rw [Tm.negW, if_pos W.out])
        have F1 := Lib.hid (fun (w : World) (h : Ints w (some ⟨gb, go, none⟩) xs.length c0 xs) => iTurnsForward _ _ _ xs w h)
        have N1 := Lib.hid (fun (w : World) (h : Ints w (some ⟨gb, go, none⟩) xs.length c0 xs) => iNegateWord _ _ _ xs w h)
        rw [TX.out] at F1
        rw [NW.out] at N1
        obtain ⟨ts, hts⟩ : ∃ ts, ts = Tm.turned xs := ⟨_, rfl⟩
        obtain ⟨ns, hns⟩ : ∃ ns, ns = Tm.negL xs := ⟨_, rfl⟩
        have F2 := Lib.hid (fun (a : Option Addr) (n c : Nat) (w : World) (h : Ints w a n c ts) => iTurnsForward a n c ts w h)
        have F3 := Lib.hid (fun (a : Option Addr) (n c : Nat) (w : World) (h : Ints w a n c ns) => iTurnsForward a n c ns w h)
        rw [← hts] at TT hown
        rw [← hns] at TN N1 EQ
        rw [TT.out] at F2
        rw [TN.out] at F3
        have tl : ts.length = xs.length := by rw [hts, Tm.turned_length]
        have IT : Hid (Ints wr ta xs.length tc ts) := Lib.hid (Ints.of_own hown)
        have B1 := Lib.hid (B.out.trans (hnx.mono B.out.size))
        have BY1 := Lib.hid (BY.out.below hnx)
        have IX := Lib.hid (I_xs.out.below hnx)
        obtain ⟨A, hA⟩ : ∃ A, A = Tm.fwd xs := ⟨_, rfl⟩
        obtain ⟨D, hD⟩ : ∃ D, D = Tm.fwd ns := ⟨_, rfl⟩
        rw [← hA] at F1 F2 EQ
        rw [← hD] at F3 EQ
        have EQ2 := EQ.out
        clear hts hns tl hown hnx FB TT TX TN NW hA hD hE EQ B BY I_xs
        go_wp2_with fail
        refine (F1.out _ IX.out).mono ?_
        rintro e w1 ⟨rfl, hb⟩
        replace IX := Lib.hid (IX.out.below hb)
        replace IT := Lib.hid (IT.out.below hb)
        replace BY1 := Lib.hid (BY1.out.below hb)
        replace B1 := Lib.hid (B1.out.trans (hb.mono B1.out.size))
        clear hb
        go_wp2_with fail
        refine (N1.out _ IX.out).mono ?_
        rintro e w2 ⟨na, nc, rfl, ho, hb, -⟩
        have IN := Lib.hid (Ints.of_own ho)
        replace IT := Lib.hid (IT.out.below hb)
        replace BY1 := Lib.hid (BY1.out.below hb)
        replace B1 := Lib.hid (B1.out.trans (hb.mono B1.out.size))
        clear hb ho IX
        go_wp2_with fail
        refine (F3.out _ _ _ _ IN.out).mono ?_
        rintro e w3 ⟨rfl, hb⟩
        replace IT := Lib.hid (IT.out.below hb)
        replace BY1 := Lib.hid (BY1.out.below hb)
        replace B1 := Lib.hid (B1.out.trans (hb.mono B1.out.size))
        clear hb IN
        have key : (E = true → A = false ∧ D = false) ∧ (E = false → A = !D) := EQ2
        have key2 : (E = true ∧ A = false ∧ D = false) ∨ (E = false ∧ A = true ∧ D = false) ∨ (E = false ∧ A = false ∧ D = true) := by
          cases E
          · have := key.2 rfl
            subst this
            cases D
            · exact .inr (.inl ⟨rfl, rfl, rfl⟩)
            · exact .inr (.inr ⟨rfl, rfl, rfl⟩)
          · obtain ⟨rfl, rfl⟩ := key.1 rfl
            exact .inl ⟨rfl, rfl, rfl⟩
        clear key EQ2
        rcases key2 with ⟨rfl, rfl, rfl⟩ | ⟨rfl, rfl, rfl⟩ | ⟨rfl, rfl, rfl⟩
        all_goals
          go_wp2_with fail
          refine (F2.out _ _ _ _ IT.out).mono ?_
          rintro e w4 ⟨rfl, hb⟩
          replace BY1 := Lib.hid (BY1.out.below hb)
          replace B1 := Lib.hid (B1.out.trans (hb.mono B1.out.size))
          clear hb IT F1 F2 F3 N1 CL
          go_wp2_with fail
          refine (at_any a0 len0 cap0 1 _ BY1.out (by omega) (by omega) (by omega)).mono ?_
          rintro e w' ⟨y, rfl, y_0, y_1, rfl⟩
          obtain ⟨r, hr, r0, r3⟩ : ∃ r : Int, r = y % 4 ∧ 0 ≤ r ∧ r ≤ 3 := ⟨_, rfl, by omega, by omega⟩
          have r1 : y.tmod 4 = r := by rw [Int.tmod_eq_emod_of_nonneg y_0]; exact hr.symm
          have r2 : y % 4 = r := hr.symm
          obtain ⟨K, hK⟩ : ∃ K : Nat, 2 + r = (K : Int) := ⟨(2 + r).toNat, by omega⟩
          have K2 : 2 ≤ K := by omega
          have K5 : K ≤ 5 := by omega
          have e3 : IntKind.i64.wrap (2 + r) = (K : Int) := by rw [IntWalk.i64_in _ (by omega)]; exact hK
          have l1 : Tm.lim (K : Int) = Tm.limN K := Tm.lim_nat (by omega) (by omega)
          have LB := Tm.limN_5b K5
          have e1 : IntKind.i64.wrap (-(Tm.limN K)) = -(Tm.limN K) := IntWalk.i64_in _ (by omega)
          have LI := Lib.hid (fun w => iLimitOf (K : Int) w)
          rw [l1] at LI
          have CA : Hid (Tm.cntF K (2 * (Tm.limN K).toNat + 1) = Tm.coinsFor (K : Int)) := Lib.hid (Tm.cntF_all ⟨K, by omega⟩ K2)
          have CF := Lib.hid (fun w => iCoinsFor (K : Int) w)
          clear hr hK l1
          go_wp2_with (go_at_call 35; refine (LI.out _).mono ?_; rintro e w1 ⟨rfl, rfl⟩)
          go_loopw [11, 12] (fun q i wr => ∃ j : Nat, (j : Int) ≤ 2 * Tm.limN K + 1 ∧ i = .int .i64 (-(Tm.limN K) + (j : Int)) ∧ q = .int .i64 (Tm.cntF K j) ∧ Hid (Below w.heap.size w wr)) (fun _ i _ => (Tm.limN K + 1 - intOf i).toNat)
          case atStart => exact ⟨0, by omega, val_int (by simp), rfl, B1⟩
          case round =>
            clear B1 BY1
            obtain ⟨j, hj, rfl, rfl, BB⟩ := hrel
            by_cases hlt : (j : Int) ≤ 2 * Tm.limN K
            · have WO : Tm.wordOk (-(Tm.limN K) + (j : Int)) (K : Int) = true := Tm.wordOk_nat (by omega) (by omega) ⟨by omega, by omega⟩
              have WE : Tm.word (-(Tm.limN K) + (j : Int)) (K : Int) = Tm.wordL (-(Tm.limN K) + (j : Int)) K := by rw [Tm.word, if_pos WO, Int.toNat_natCast]
              have SW := Lib.hid (fun w => sWordOf (-(Tm.limN K) + (j : Int)) (K : Int) w)
              rw [WO, WE] at SW
              have XW := Tm.wordL_isW (n := -(Tm.limN K) + (j : Int)) (k := K) (by omega) (by omega)
              have CS : Hid (Tm.cntF K (j + 1) = if Tm.fwd (Tm.wordL (-(Tm.limN K) + (j : Int)) K) then Tm.cntF K j + 1 else Tm.cntF K j) := Lib.hid rfl
              have CB := Tm.cntF_bd K j
              have TF : Tm.turnsF (Tm.wordL (-(Tm.limN K) + (j : Int)) K) = Tm.fwd (Tm.wordL (-(Tm.limN K) + (j : Int)) K) := by rw [Tm.turnsF, XW]; rfl
              have e5 : IntKind.i64.wrap (-(Tm.limN K) + (j : Int) + 1) = -(Tm.limN K) + (j : Int) + 1 := IntWalk.i64_in _ (by omega)
              have hle : -(Tm.limN K) + (j : Int) ≤ Tm.limN K := by omega
              obtain ⟨ws, hws⟩ : ∃ ws, ws = Tm.wordL (-(Tm.limN K) + (j : Int)) K := ⟨_, rfl⟩
              rw [← hws] at SW CS TF
              have IT2 := Lib.hid (fun (a : Option Addr) (n c : Nat) (w : World) (h : Ints w a n c ws) => iTurnsForward a n c ws w h)
              rw [TF] at IT2
              obtain ⟨P, hP⟩ : ∃ P, P = Tm.cntF K j := ⟨_, rfl⟩
              rw [← hP] at CS CB ⊢
              have e6 : IntKind.i64.wrap (P + 1) = P + 1 := IntWalk.i64_in _ (by omega)
              have hs := BB.out.size
              clear WO WE XW TF hws hP
              go_wp2_with (go_at_call 35; refine (LI.out _).mono ?_; rintro e w1 ⟨rfl, rfl⟩)
              refine (SW.out _).mono ?_
              rintro e w5 ⟨a5, c5, rfl, ho, hb, -⟩
              have I5 := Lib.hid (Ints.of_own ho)
              have B5 := Lib.hid (BB.out.trans (hb.mono hs))
              clear ho hb
              cases hf : Tm.fwd ws with
              | true =>
                rw [hf] at IT2 CS
                go_wp2_with fail
                refine (IT2.out _ _ _ _ I5.out).mono ?_
                rintro e w6 ⟨rfl, hb⟩
                have B6 := Lib.hid (B5.out.trans (hb.mono B5.out.size))
                clear hb
                go_wp2
                exact ⟨⟨j + 1, by omega, val_int (by first | omega | (rw [e5]; omega)), val_int (by rw [CS.out]; rfl), B6⟩, by simp [intOf]; omega⟩
              | false =>
                rw [hf] at IT2 CS
                go_wp2_with fail
                refine (IT2.out _ _ _ _ I5.out).mono ?_
                rintro e w6 ⟨rfl, hb⟩
                have B6 := Lib.hid (B5.out.trans (hb.mono B5.out.size))
                clear hb
                go_wp2
                exact ⟨⟨j + 1, by omega, val_int (by first | omega | (rw [e5]; omega)), val_int (by rw [CS.out]; rfl), B6⟩, by simp [intOf]; omega⟩
            · have je : j = 2 * (Tm.limN K).toNat + 1 := by omega
              have CE : Tm.cntF K j = Tm.coinsFor (K : Int) := by rw [je]; exact CA.out
              have hgt : ¬ (-(Tm.limN K) + (j : Int) ≤ Tm.limN K) := by omega
              rw [CE]
              obtain ⟨F, hF⟩ : ∃ F, F = Tm.coinsFor (K : Int) := ⟨_, rfl⟩
              rw [← hF] at CF ⊢
              clear CE je hF
              go_wp2_with (first | (go_at_call 35; refine (LI.out _).mono ?_; rintro e w1 ⟨rfl, rfl⟩) | (go_at_call 36; refine (CF.out _).mono ?_; rintro e w1 ⟨rfl, rfl⟩))
              go_ret
              exact ⟨by simp, BB.out⟩
  · go_enter Try.func5, Try.ntmps5
    go_wp2
    go_ret
    exact ⟨rfl, B.out⟩
namespace Tm
theorem putF_append (t p : Int) (ps : List Int) (g : Nat → Int) : putF t (ps ++ [p]) g = if (putF t ps g).1 then (if 0 ≤ p ∧ p < 30 ∧ (putF t ps g).2 p.toNat = 0 then (true, upd (putF t ps g).2 p.toNat t) else (false, (putF t ps g).2)) else putF t ps g := by
  induction ps generalizing g with
  | nil => rw [List.nil_append, putF, putF, putF]; rfl
  | cons x ps ih =>
    rw [List.cons_append, putF, putF]
    by_cases c : 0 ≤ x ∧ x < 30 ∧ g x.toNat = 0
    · rw [if_pos c, if_pos c, ih]
    · rw [if_neg c, if_neg c]; rfl
/-- A trit at all places of another one. -/
theorem putF_places {xs : List Int} {s t : Int} {g : Nat → Int} (k : Nat) (hk : k ≤ 30) (hg : ∀ i, i < k → xs.getD i 0 = s → g i = 0) : putF t (placesF xs s k) g = (true, fun i => if i < k ∧ xs.getD i 0 = s then t else g i) := by
  induction k with
  | zero =>
    have e : (fun i => if i < 0 ∧ xs.getD i 0 = s then t else g i) = g := funext fun i => if_neg (by omega)
    rw [placesF, putF, e]
  | succ k ih =>
    have ih := ih (by omega) (fun i hi h => hg i (by omega) h)
    rw [placesF]
    by_cases c : xs.getD k 0 = s
    · rw [if_pos c, putF_append, ih, if_pos rfl]
      have e : (fun i => if i < k ∧ xs.getD i 0 = s then t else g i) k = 0 := by
        show (if k < k ∧ xs.getD k 0 = s then t else g k) = 0
        rw [if_neg (by omega)]; exact hg k (by omega) c
      rw [if_pos ⟨by omega, by omega, by rw [Int.toNat_natCast]; exact e⟩, Int.toNat_natCast]
      congr 1
      funext i
      rw [upd]
      by_cases h : i = k
      · subst h; rw [if_pos rfl, if_pos ⟨by omega, c⟩]
      · rw [if_neg h]
        show (if i < k ∧ xs.getD i 0 = s then t else g i) = (if i < k + 1 ∧ xs.getD i 0 = s then t else g i)
        by_cases h2 : i < k ∧ xs.getD i 0 = s
        · rw [if_pos h2, if_pos ⟨by omega, h2.2⟩]
        · rw [if_neg h2, if_neg (fun h3 => h2 ⟨by omega, h3.2⟩)]
    · rw [if_neg c, ih]
      congr 1
      funext i
      by_cases h2 : i < k ∧ xs.getD i 0 = s
      · rw [if_pos h2, if_pos ⟨by omega, h2.2⟩]
      · rw [if_neg h2, if_neg (fun h3 => h2 ⟨by
          have : i ≠ k := fun e => by subst e; exact c h3.2
          omega, h3.2⟩)]
/-- The weights of a thing make up for it. -/
theorem weigh_pans {n : Int} (h : weighOk n = true) : (pan1 (weighL n (-1))).1 = true ∧ (pan2 (weighL n (-1)) (weighL n 1)).1 = true ∧ val (pans (weighL n (-1)) (weighL n 1)) = -n := by
  have h' := h
  rw [weighOk, decide_eq_true_eq] at h'
  have L30 := limN_30
  have vx := val_wordL n 30 (by rw [L30]; omega)
  have lx := wordL_length n 30
  have tx := (isW_iff _).1 (wordL_isW (n := n) (k := 30) (by omega) (by omega))
  rw [weighL, if_pos h, weighL, if_pos h]
  obtain ⟨xs, hxs⟩ : ∃ xs, xs = wordL n 30 := ⟨_, rfl⟩
  rw [← hxs] at vx lx tx ⊢
  have p1 := putF_places (xs := xs) (s := -1) (t := 1) (g := g00) xs.length (by omega) (fun i _ _ => rfl)
  have e1 : pan1 (places xs (-1)) = (true, fun i => if i < xs.length ∧ xs.getD i 0 = -1 then 1 else g00 i) := p1
  have p2 := putF_places (xs := xs) (s := 1) (t := -1) (g := fun i => if i < xs.length ∧ xs.getD i 0 = -1 then 1 else g00 i) xs.length (by omega) (fun i _ h => by
    show (if i < xs.length ∧ xs.getD i 0 = -1 then (1 : Int) else g00 i) = 0
    rw [if_neg (by omega)]; rfl)
  have e2 : pan2 (places xs (-1)) (places xs 1) = (true, fun i => if i < xs.length ∧ xs.getD i 0 = 1 then -1 else if i < xs.length ∧ xs.getD i 0 = -1 then 1 else g00 i) := by
    rw [pan2, e1]; exact p2
  refine ⟨by rw [e1], by rw [e2], ?_⟩
  have e3 : pans (places xs (-1)) (places xs 1) = negL xs := by
    rw [pans, e2]
    apply List.ext_getElem (by simp [genL, negL, lx])
    intro i q1 q2
    have hi : i < xs.length := by simpa [negL] using q2
    have b := tx.1 (xs[i]) (List.getElem_mem hi)
    simp only [genL, negL, List.getElem_map, List.getElem_range]
    rw [← getD_at xs i hi]
    have : xs[i] = -1 ∨ xs[i] = 0 ∨ xs[i] = 1 := by omega
    rcases this with e | e | e <;> rw [e] <;> simp [hi, g00]
  rw [e3, val_neg, vx]
/-- The weights of the first k places that hold t. -/
def powF (xs : List Int) (t : Int) : Nat → Int
  | 0 => 0
  | k + 1 => if xs.getD k 0 = t then powF xs t k + pow3 k else powF xs t k
theorem powF_val {xs : List Int} (h : ∀ x ∈ xs, -1 ≤ x ∧ x ≤ 1) (k : Nat) (hk : k ≤ xs.length) : val (xs.take k) = powF xs 1 k - powF xs (-1) k := by
  induction k with
  | zero => rw [List.take_zero]; rfl
  | succ k ih =>
    have e : val (xs.take (k + 1)) = val (xs.take k) + pow3 k * xs.getD k 0 := by
      rw [List.take_succ_eq_append_getElem (by omega), val_append, List.length_take, Nat.min_eq_left (by omega), ← getD_at xs k (by omega)]
      simp [val]
    have b := h xs[k] (List.getElem_mem (by omega))
    rw [getD_at xs k (by omega)] at b
    rw [e, ih (by omega), powF, powF]
    have : xs.getD k 0 = -1 ∨ xs.getD k 0 = 0 ∨ xs.getD k 0 = 1 := by omega
    rcases this with e | e | e <;> rw [e] <;> simp <;> omega
theorem powF_bd (xs : List Int) (t : Int) (k : Nat) : 0 ≤ powF xs t k ∧ powF xs t k ≤ limN k := by
  induction k with
  | zero => exact ⟨Int.le_refl _, Int.le_refl _⟩
  | succ k ih =>
    have p := pow3_limN k
    have e : limN (k + 1) = 3 * limN k + 1 := rfl
    have l := limN_nonneg k
    rw [powF]
    split <;> omega
/-- Each place is a number below the length; the weights up to one of them. -/
theorem placesF_at (xs : List Int) (t : Int) (k : Nat) : ∀ j, j < (placesF xs t k).length → ∃ q : Nat, q < k ∧ (placesF xs t k).getD j 0 = (q : Int) ∧ (placesF xs t q).length = j ∧ xs.getD q 0 = t := by
  induction k with
  | zero => intro j hj; simp [placesF] at hj
  | succ k ih =>
    intro j hj
    rw [placesF] at hj ⊢
    by_cases c : xs.getD k 0 = t
    · rw [if_pos c] at hj ⊢
      rw [List.length_append, List.length_singleton] at hj
      by_cases h : j < (placesF xs t k).length
      · obtain ⟨q, q1, q2, q3, q4⟩ := ih j h
        exact ⟨q, by omega, by rw [List.getD_eq_getElem?_getD, List.getElem?_append_left h, ← List.getD_eq_getElem?_getD]; exact q2, q3, q4⟩
      · obtain rfl : j = (placesF xs t k).length := by omega
        exact ⟨k, by omega, by rw [List.getD_eq_getElem?_getD, List.getElem?_append_right (Nat.le_refl _)]; simp, rfl, c⟩
    · rw [if_neg c] at hj ⊢
      obtain ⟨q, q1, q2, q3, q4⟩ := ih j hj
      exact ⟨q, by omega, q2, q3, q4⟩
/-- The weights of the first j of some places. -/
def sumP (ps : List Int) : Nat → Int
  | 0 => 0
  | j + 1 => sumP ps j + pow3 (ps.getD j 0).toNat
theorem sumP_prefix (ps qs : List Int) (j : Nat) (hj : j ≤ ps.length) : sumP (ps ++ qs) j = sumP ps j := by
  induction j with
  | zero => rfl
  | succ j ih => rw [sumP, sumP, ih (by omega), List.getD_eq_getElem?_getD, List.getElem?_append_left (by omega), ← List.getD_eq_getElem?_getD]
theorem sumP_all (xs : List Int) (t : Int) (k : Nat) : sumP (placesF xs t k) (placesF xs t k).length = powF xs t k := by
  induction k with
  | zero => rfl
  | succ k ih =>
    rw [placesF, powF]
    by_cases c : xs.getD k 0 = t
    · rw [if_pos c, if_pos c, List.length_append, List.length_singleton, sumP, sumP_prefix _ _ _ (Nat.le_refl _), ih, List.getD_eq_getElem?_getD, List.getElem?_append_right (Nat.le_refl _)]
      simp
    · rw [if_neg c, if_neg c]; exact ih
theorem sumP_mono (ps : List Int) {i j : Nat} (h : i ≤ j) : sumP ps i ≤ sumP ps j ∧ 0 ≤ sumP ps i := by
  have pos : ∀ k : Nat, 0 ≤ pow3 k := fun k => by have := pow3_limN k; have := limN_nonneg k; omega
  have n0 : ∀ i, 0 ≤ sumP ps i := by
    intro i
    induction i with
    | zero => exact Int.le_refl _
    | succ i ih => have := pos (ps.getD i 0).toNat; rw [sumP]; omega
  refine ⟨?_, n0 i⟩
  induction j with
  | zero => obtain rfl : i = 0 := by omega
            exact Int.le_refl _
  | succ j ih =>
    by_cases e : i = j + 1
    · subst e; exact Int.le_refl _
    · have := ih (by omega)
      have := pos (ps.getD j 0).toNat
      rw [sumP]; omega
theorem sqT_places {xs : List Int} (h : ∀ x ∈ xs, -1 ≤ x ∧ x ≤ 1) (k : Nat) (hk : k ≤ xs.length) : sqT xs k = ((placesF xs (-1) k).length : Int) + ((placesF xs 1 k).length : Int) := by
  induction k with
  | zero => rfl
  | succ k ih =>
    have b := h xs[k] (List.getElem_mem (by omega))
    rw [getD_at xs k (by omega)] at b
    rw [sqT, ih (by omega), placesF, placesF]
    have : xs.getD k 0 = -1 ∨ xs.getD k 0 = 0 ∨ xs.getD k 0 = 1 := by omega
    rcases this with e | e | e <;> rw [e] <;> simp <;> omega
/-- What the law asks of a thing's weights. -/
theorem weigh_law {n : Int} (h : weighOk n = true) : n + sumP (weighL n (-1)) (weighL n (-1)).length - sumP (weighL n 1) (weighL n 1).length = 0 ∧ sumP (weighL n (-1)) (weighL n (-1)).length ≤ 102945566047324 ∧ sumP (weighL n 1) (weighL n 1).length ≤ 102945566047324
    ∧ ((weighL n (-1)).length : Int) + ((weighL n 1).length : Int) = wgtW (wordL n (lenN n)) ∧ ∀ t j, j < (weighL n t).length → ∃ q : Nat, q < 30 ∧ (weighL n t).getD j 0 = (q : Int) := by
  have h' := h
  rw [weighOk, decide_eq_true_eq] at h'
  have L30 := limN_30
  refine ⟨?_, ?_, ?_, ?_, ?_⟩
  · have vx := val_wordL n 30 (by rw [L30]; omega)
    have tx := (isW_iff _).1 (wordL_isW (n := n) (k := 30) (by omega) (by omega))
    have p := powF_val tx.1 (wordL n 30).length (Nat.le_refl _)
    rw [List.take_length, vx] at p
    rw [weighL, if_pos h, weighL, if_pos h, places, places, sumP_all, sumP_all]
    omega
  · have := powF_bd (wordL n 30) (-1) 30
    rw [weighL, if_pos h, places, wordL_length, sumP_all]; omega
  · have := powF_bd (wordL n 30) 1 30
    rw [weighL, if_pos h, places, wordL_length, sumP_all]; omega
  · obtain ⟨-, s1, s2, s3, -⟩ := lenN_spec (n := n) ⟨by omega, by omega⟩
    have W := wordL_isW (n := n) s1 s2
    rw [weigh_word h (by decide), weigh_word h (by decide), wgtW, if_pos W, sqT_places ((isW_iff _).1 W).1 _ (Nat.le_refl _)]; rfl
  · intro t j hj
    rw [weighL, if_pos h, places, wordL_length] at hj ⊢
    obtain ⟨q, q1, q2, -, -⟩ := placesF_at (wordL n 30) t 30 j hj
    exact ⟨q, q1, q2⟩
end Tm
set_option maxRecDepth 20000 in
set_option maxHeartbeats 4000000 in
theorem wFnWeighed (a0 : Option Addr) (len0 cap0 : Nat) (z0 : List Int) (w : World) (w0 : IsRow .u8 w a0 len0 cap0 z0) : Calls Try.prog 3 #[.slice a0 len0 cap0] w fun e w' => e = .returned (.bool true) ∧ Below w.heap.size w w' := by
  have BY := Lib.hid (Byts.of_row w0)
  have m0 : len0 ≤ 9223372036854775807 := by obtain ⟨h1, h2, _⟩ := BY.out; unfold maxLen at h2; omega
  clear w0
  have B := Lib.hid (Below.refl w.heap.size w)
  by_cases g0 : len0 ≤ 1048576
  · go_enter Try.func3, Try.ntmps3
    go_wp2_with fail
    refine (makeWord_any a0 len0 cap0 29 _ BY.out (by omega) (by omega) (by omega)).mono ?_
    rintro e w0 ⟨xs, b0, c0, rfl, hw, hp, ho, hb⟩
    have I_xs := Lib.hid (Ints.of_own ho)
    have W := Lib.hid hw
    have NB : -34315188682441 ≤ Tm.value xs ∧ Tm.value xs ≤ 34315188682441 := by
      have := Tm.val_bd_len hw 29 (by omega)
      have e : Tm.limN 29 = 34315188682441 := by decide
      rw [Tm.value_eq hw]; omega
    replace B := Lib.hid (B.out.trans (hb.mono B.out.size))
    clear ho hw hp hb BY
    go_wp2_with fail
    refine (sValueOf _ _ _ xs _ I_xs.out).mono ?_
    rintro e w1 ⟨rfl, rfl⟩
    obtain ⟨n, hn⟩ : ∃ n, n = Tm.value xs := ⟨_, rfl⟩
    rw [← hn] at NB ⊢
    obtain ⟨N1, N2⟩ := NB
    clear hn I_xs W
    go_wp2_with fail
    by_cases hn0 : n < 0
    · have WO : Tm.weighOk n = false := by rw [Tm.weighOk, decide_eq_false_iff_not]; omega
      refine (iWeighThing n _).mono ?_
      rw [WO]
      rintro e w1 ⟨aa, ac, ba, bc, rfl, o, hb, l1, l2⟩
      have B1 := B.out.trans (hb.mono B.out.size)
      clear o hb
      have hg : ¬ (n ≥ 0) := by omega
      go_wp2
      go_ret
      exact ⟨rfl, B1.alloc B1.size _⟩
    · have WO : Tm.weighOk n = true := by rw [Tm.weighOk, decide_eq_true_eq]; omega
      have PN := Tm.weigh_pans WO
      have LW := Lib.hid (Tm.weigh_law WO)
      have l1 := Tm.weighL_len n (-1)
      have l2 := Tm.weighL_len n 1
      have IT := Lib.hid (iWeighThing n w0)
      rw [WO] at IT
      have e30 : Tm.lim 30 = 102945566047324 := by decide
      have BL : Hid (∀ m, m = n ∨ m = n + 1 ∨ m = n - 1 → Tm.balOk (Tm.weighL n (-1)) (Tm.weighL n 1) m = true ∧ Tm.bal (Tm.weighL n (-1)) (Tm.weighL n 1) m = Tm.sgn (m - n)) := Lib.hid fun m hm => by
        have e : Tm.balOk (Tm.weighL n (-1)) (Tm.weighL n 1) m = true := by
          rw [Tm.balOk, PN.1, PN.2.1]
          have : Tm.wordOk m 30 = true := by rw [Tm.wordOk, decide_eq_true_eq, e30]; omega
          rw [this]; rfl
        exact ⟨e, by rw [Tm.bal, if_pos e, PN.2.2]; rfl⟩
      have E0 := BL.out n (.inl rfl)
      have E1 := BL.out (n + 1) (.inr (.inl rfl))
      have E2 := BL.out (n - 1) (.inr (.inr rfl))
      rw [show n - n = 0 from by omega, show Tm.sgn 0 = 0 from rfl] at E0
      rw [show n + 1 - n = 1 from by omega, show Tm.sgn 1 = 1 from rfl] at E1
      rw [show n - 1 - n = -1 from by omega, show Tm.sgn (-1) = -1 from rfl] at E2
      obtain ⟨ls, hls⟩ : ∃ ls, ls = Tm.weighL n (-1) := ⟨_, rfl⟩
      obtain ⟨rs, hrs⟩ : ∃ rs, rs = Tm.weighL n 1 := ⟨_, rfl⟩
      have AT1 := Lib.hid (fun j h => LW.out.2.2.2.2 (-1) j h)
      have AT2 := Lib.hid (fun j h => LW.out.2.2.2.2 1 j h)
      rw [← hls] at AT1
      rw [← hrs] at AT2
      have LA := LW.out.1
      have LB := LW.out.2.1
      have LC := LW.out.2.2.1
      have LD := LW.out.2.2.2.1
      rw [← hls] at IT E0 E1 E2 LA LB LD l1
      rw [← hrs] at IT E0 E1 E2 LA LC LD l2
      have J0 := Lib.hid (fun (a b : Option Addr) (c d : Nat) (w : World) (h : Ms w a ls.length c ls b rs.length d rs) => iBalanceOf a _ c ls b _ d rs n w h)
      have J1 := Lib.hid (fun (a b : Option Addr) (c d : Nat) (w : World) (h : Ms w a ls.length c ls b rs.length d rs) => iBalanceOf a _ c ls b _ d rs (n + 1) w h)
      have J2 := Lib.hid (fun (a b : Option Addr) (c d : Nat) (w : World) (h : Ms w a ls.length c ls b rs.length d rs) => iBalanceOf a _ c ls b _ d rs (n - 1) w h)
      rw [E0.1, E0.2] at J0
      rw [E1.1, E1.2] at J1
      rw [E2.1, E2.2] at J2
      obtain ⟨s0, s1, s2, s3, -⟩ := Tm.lenN_spec (n := n) ⟨by omega, by omega⟩
      have SL := Lib.hid (fun w => sLengthOf n w)
      rw [s0] at SL
      have SWD := Lib.hid (fun w => sWordOf n (Tm.lenN n : Int) w)
      have wok : Tm.wordOk n (Tm.lenN n : Int) = true := Tm.wordOk_nat s1 s2 s3
      rw [Tm.word, if_pos wok, wok, Int.toNat_natCast] at SWD
      obtain ⟨K, hK⟩ : ∃ K, K = Tm.lenN n := ⟨_, rfl⟩
      rw [← hK] at SL SWD LD
      obtain ⟨ws, hws⟩ : ∃ ws, ws = Tm.wordL n K := ⟨_, rfl⟩
      rw [← hws] at SWD LD
      have MP := Lib.hid (fun (q : Nat) (w : World) (h : q ≤ 30) => makePower q w h)
      have SM1 := Lib.hid (fun i j h => Tm.sumP_mono ls (i := i) (j := j) h)
      have SM2 := Lib.hid (fun i j h => Tm.sumP_mono rs (i := i) (j := j) h)
      have hg : n ≥ 0 := by omega
      have W1 : IntKind.i64.wrap (n + 1) = n + 1 := IntWalk.i64_in _ (by omega)
      have W2 : IntKind.i64.wrap (n - 1) = n - 1 := IntWalk.i64_in _ (by omega)
      clear PN LW e30 BL E0 E1 E2 hls hrs s0 s1 s2 s3 wok hK hws WO
      refine IT.out.mono ?_
      rintro e w1 ⟨aa, ac, ba, bc, rfl, o, hb, -, -⟩
      have M1 := Lib.hid o.ms
      have B1 := Lib.hid (B.out.trans (hb.mono B.out.size))
      clear o hb IT B
      have s1 := B1.out.size
      go_wp2_with fail
      generalize hW : World.alloc w1 _ = w2
      obtain ⟨bx, hb⟩ := box2_of hW
      have hp2 := bx.1
      have BX := Lib.hid bx
      have M2 := Lib.hid (M1.out.below hb)
      have B2 := Lib.hid (B1.out.trans (hb.mono s1))
      clear hW bx hb M1 B1
      obtain ⟨-, x0, x1⟩ := BX.out
      go_wp2_with fail
      refine (J0.out _ _ _ _ _ M2.out).mono ?_
      rintro e w3 ⟨rfl, hb⟩
      have M3 := Lib.hid (M2.out.below hb)
      have B3 := Lib.hid (B2.out.trans (hb.mono B2.out.size))
      replace BX := Lib.hid (BX.out.below hb)
      clear hb x0 x1
      obtain ⟨lt3, x0, x1⟩ := BX.out
      go_wp2_with fail
      refine (J1.out _ _ _ _ _ M3.out).mono ?_
      rintro e w4 ⟨rfl, hb⟩
      have M4 := Lib.hid (M3.out.below hb)
      have B4 := Lib.hid (B3.out.trans (hb.mono B3.out.size))
      replace BX := Lib.hid (BX.out.below hb)
      clear hb x0 x1
      obtain ⟨lt4, x0, x1⟩ := BX.out
      go_wp2_with fail
      refine (J2.out _ _ _ _ _ M4.out).mono ?_
      rintro e w5 ⟨rfl, hb⟩
      have M5 := Lib.hid (M4.out.below hb)
      have B5 := Lib.hid (B4.out.trans (hb.mono B4.out.size))
      replace BX := Lib.hid (BX.out.below hb)
      clear hb x0 x1
      obtain ⟨lt5, x0, x1⟩ := BX.out
      go_wp2_with fail
      obtain ⟨-, -, -, y1⟩ := M5.out.1
      obtain ⟨-, -, -, y2⟩ := M5.out.2
      have lsb : ls.length ≤ 9223372036854775807 := by omega
      clear J0 J1 J2 M2 M3 M4 B2 B3 B4
      go_loop [12, 60] (fun q i => ∃ k : Nat, k ≤ ls.length ∧ i = .int .i64 k ∧ q = .int .i64 (n + Tm.sumP ls k)) (fun _ i => ls.length - (intOf i).toNat)
      case atStart => exact ⟨0, by omega, rfl, val_int (by simp [Tm.sumP])⟩
      case round =>
        obtain ⟨k, hk, rfl, rfl⟩ := hrel
        by_cases hlt : k < ls.length
        · rcases y1 with e0 | ⟨b1, o1, rfl, hbl1, hc1⟩
          · omega
          have cx := hc1 k hlt
          obtain ⟨q, q30, hq⟩ := AT1.out k hlt
          rw [hq] at cx
          have SS : Tm.sumP ls (k + 1) = Tm.sumP ls k + Tm.pow3 q := by rw [Tm.sumP, hq, Int.toNat_natCast]
          have s1 := SM1.out k (k + 1) (by omega)
          have s2 := SM1.out (k + 1) ls.length (by omega)
          rw [SS] at s1 s2
          have P := Lib.hid (fun w => MP.out q w (by omega))
          obtain ⟨S, hS⟩ : ∃ S, S = Tm.sumP ls k := ⟨_, rfl⟩
          obtain ⟨T, hT⟩ : ∃ T, T = Tm.pow3 q := ⟨_, rfl⟩
          rw [← hS] at SS s1 s2 ⊢
          rw [← hT] at SS s1 s2 P
          have WR : IntKind.i64.wrap (n + S + T) = n + S + T := IntWalk.i64_in _ (by omega)
          have SH := Lib.hid SS
          clear hc1 hq SS hS hT
          go_wp2_with fail
          refine (P.out _).mono ?_
          rintro e w6 ⟨rfl, rfl⟩
          go_wp2
          go_round
          case rel => exact ⟨k + 1, by omega, by go_num, val_int (by rw [SH.out]; omega)⟩
          case measure => simp [intOf]; omega
        · obtain rfl : k = ls.length := by omega
          obtain ⟨S1, hS1⟩ : ∃ S1, S1 = Tm.sumP ls ls.length := ⟨_, rfl⟩
          obtain ⟨S2, hS2⟩ : ∃ S2, S2 = Tm.sumP rs rs.length := ⟨_, rfl⟩
          rw [← hS1] at LA LB ⊢
          rw [← hS2] at LA LC
          have nn := (SM2.out 0 rs.length (by omega)).2
          have SL2 := Lib.hid hS2
          clear hS1 hS2
          go_wp2_with fail
          go_loop [12, 72] (fun q i => ∃ k : Nat, k ≤ rs.length ∧ i = .int .i64 k ∧ q = .int .i64 (n + S1 - Tm.sumP rs k)) (fun _ i => rs.length - (intOf i).toNat)
          case atStart => exact ⟨0, by omega, rfl, val_int (by simp [Tm.sumP])⟩
          case round =>
            obtain ⟨k, hk, rfl, rfl⟩ := hrel
            by_cases hlt : k < rs.length
            · rcases y2 with e0 | ⟨b1, o1, rfl, hbl1, hc1⟩
              · omega
              have cx := hc1 k hlt
              obtain ⟨q, q30, hq⟩ := AT2.out k hlt
              rw [hq] at cx
              have SS : Tm.sumP rs (k + 1) = Tm.sumP rs k + Tm.pow3 q := by rw [Tm.sumP, hq, Int.toNat_natCast]
              have s1 := SM2.out k (k + 1) (by omega)
              have s2 := SM2.out (k + 1) rs.length (by omega)
              rw [SS] at s1 s2
              rw [← SL2.out] at s2
              have P := Lib.hid (fun w => MP.out q w (by omega))
              obtain ⟨S, hS⟩ : ∃ S, S = Tm.sumP rs k := ⟨_, rfl⟩
              obtain ⟨T, hT⟩ : ∃ T, T = Tm.pow3 q := ⟨_, rfl⟩
              rw [← hS] at SS s1 s2 ⊢
              rw [← hT] at SS s1 s2 P
              have WR : IntKind.i64.wrap (n + S1 - S - T) = n + S1 - S - T := IntWalk.i64_in _ (by omega)
              have SH := Lib.hid SS
              clear hc1 hq SS hS hT
              go_wp2_with fail
              refine (P.out _).mono ?_
              rintro e w6 ⟨rfl, rfl⟩
              go_wp2
              go_round
              case rel => exact ⟨k + 1, by omega, by go_num, val_int (by rw [SH.out]; omega)⟩
              case measure => simp [intOf]; omega
            · obtain rfl : k = rs.length := by omega
              rw [← SL2.out, show n + S1 - S2 = 0 from by omega]
              clear SL2 LA
              go_wp2_with fail
              refine (SL.out _).mono ?_
              rintro e w6 ⟨rfl, rfl⟩
              go_wp2_with fail
              refine (SWD.out _).mono ?_
              rintro e w6 ⟨a6, c6, rfl, ho, hb, -⟩
              have I6 := Lib.hid (Ints.of_own ho)
              have B6 := Lib.hid (B5.out.trans (hb.mono B5.out.size))
              replace BX := Lib.hid (BX.out.below hb)
              clear hb ho x0 x1
              obtain ⟨lt6, x0, x1⟩ := BX.out
              have WT := Lib.hid (fun (W : World) (h : Ints W a6 ws.length c6 ws) => sWeightOf a6 _ c6 ws W h)
              rw [← LD] at WT
              have WR2 : IntKind.i64.wrap ((ls.length : Int) + (rs.length : Int)) = (ls.length : Int) + (rs.length : Int) := IntWalk.i64_in _ (by omega)
              clear LD
              go_wp2_with fail
              go_quiet ((go_at_call 22; exact quietB (fun W h => WT.out W (I6.out.below h))))
              go_wp2
              go_ret
              exact ⟨by simp, below_drewN B6.out _⟩
  · go_enter Try.func3, Try.ntmps3
    go_wp2
    go_ret
    exact ⟨rfl, B.out⟩
end Go.Proofs.Yteklgngooflhlaa

/- Walks of laws: FnForward. -/
import Derived.Test.YteklgngooflhlaaBI1
import Derived.Test.YteklgngooflhlaaBMath
import Derived.Test.YteklgngooflhlaaLaw
import Derived.Test.YteklgngooflhlaaWS4
import Derived.Test.YteklgngooflhlaaWI2
namespace Go.Proofs.Yteklgngooflhlaa
set_option maxRecDepth 20000
open Go.RowKit
namespace Tm
/-- All elements are the first one. -/
def eqF (xs : List Int) (k : Nat) : Prop := ∀ q, q < k → xs.getD q 0 = xs.getD 0 0
theorem fwd_flat {xs : List Int} (h : eqF xs xs.length) : fwd xs = false := by
  have key : ∀ (l : List Int) (a : Int), (∀ x ∈ l, x = a) → fwd l = false := by
    intro l
    induction l with
    | nil => intro a _; rfl
    | cons x l ih =>
      intro a h
      match l, ih with
      | [], _ => rfl
      | y :: t, ih =>
        have e1 := h x (by simp)
        have e2 := h y (by simp)
        rw [fwd, if_pos (by omega)]
        exact ih a (fun z hz => h z (by simp only [List.mem_cons] at hz ⊢; exact .inr hz))
  refine key xs (xs.getD 0 0) fun x hx => ?_
  obtain ⟨i, hi, rfl⟩ := List.mem_iff_getElem.1 hx
  rw [getD_at xs i hi]; exact h i hi
theorem turn_cases {a b : Int} (ha : -1 ≤ a ∧ a ≤ 1) (hb : -1 ≤ b ∧ b ≤ 1) (h : b ≠ a) : decide (-b = turn (-a)) = !decide (b = turn a) ∧ decide (turn b = turn (turn a)) = decide (b = turn a) ∧ turn b ≠ turn a := by
  have e1 : a = -1 ∨ a = 0 ∨ a = 1 := by omega
  have e2 : b = -1 ∨ b = 0 ∨ b = 1 := by omega
  rcases e1 with rfl | rfl | rfl <;> rcases e2 with rfl | rfl | rfl <;> first | (exact absurd rfl h) | decide
theorem fwd_both {xs : List Int} (h : ∀ x ∈ xs, -1 ≤ x ∧ x ≤ 1) : (fwd xs = false → fwd (negL xs) = false → ∀ x ∈ xs, x = xs.getD 0 0) ∧ ¬ (fwd xs = true ∧ fwd (negL xs) = true) ∧ fwd (turned xs) = fwd xs := by
  induction xs with
  | nil => exact ⟨fun _ _ x hx => (by cases hx), by decide, rfl⟩
  | cons a l ih =>
    have ih := ih (fun x hx => h x (by simp [hx]))
    match l, ih, h with
    | [], _, _ => exact ⟨fun _ _ x hx => by simpa using hx, by simp [fwd], rfl⟩
    | b :: t, ih, h =>
      have ha := h a (by simp)
      have hb := h b (by simp)
      have en : negL (a :: b :: t) = -a :: -b :: negL t := rfl
      have et : turned (a :: b :: t) = turn a :: turn b :: turned t := rfl
      have en2 : negL (b :: t) = -b :: negL t := rfl
      have et2 : turned (b :: t) = turn b :: turned t := rfl
      rw [en, et, fwd, fwd, fwd]
      by_cases e : b = a
      · subst e
        rw [if_pos rfl, if_pos rfl, if_pos rfl, ← en2, ← et2]
        refine ⟨fun h1 h2 x hx => ?_, ih.2.1, ih.2.2⟩
        rw [List.mem_cons] at hx
        rcases hx with rfl | hx
        · rfl
        · exact ih.1 h1 h2 x hx
      · have t := turn_cases ha hb e
        rw [if_neg e, if_neg (by omega), if_neg t.2.2, t.1, t.2.1]
        refine ⟨fun h1 h2 => ?_, ?_, rfl⟩
        · rw [h1] at h2; simp at h2
        · rintro ⟨h1, h2⟩; rw [h1] at h2; simp at h2
/-- Of the first j words of k trits, how many turn forward. -/
def cntF (k : Nat) : Nat → Int
  | 0 => 0
  | j + 1 => if fwd (wordL (-(limN k) + (j : Int)) k) then cntF k j + 1 else cntF k j
theorem cntF_all : ∀ k : Fin 6, 2 ≤ k.1 → cntF k.1 (2 * (limN k.1).toNat + 1) = coinsFor (k.1 : Int) := by decide +kernel
theorem cntF_bd (k j : Nat) : 0 ≤ cntF k j ∧ cntF k j ≤ j := by
  induction j with
  | zero => exact ⟨Int.le_refl _, Int.le_refl _⟩
  | succ j ih => rw [cntF]; split <;> omega
end Tm
set_option maxRecDepth 20000 in
set_option maxHeartbeats 4000000 in
theorem wFnForward (a0 : Option Addr) (len0 cap0 : Nat) (z0 : List Int) (w : World) (w0 : IsRow .u8 w a0 len0 cap0 z0) : Calls Try.prog 5 #[.slice a0 len0 cap0] w fun e w' => e = .returned (.bool true) ∧ Below w.heap.size w w' := by
  obtain ⟨i0, hi, hz0, hz1, hz2⟩ := info_parts infoInt
  have BY := Lib.hid (Byts.of_row w0)
  have m0 : len0 ≤ 9223372036854775807 := by obtain ⟨h1, h2, _⟩ := BY.out; unfold maxLen at h2; omega
  clear w0
  have B := Lib.hid (Below.refl w.heap.size w)
  by_cases g0 : len0 ≤ 1048576
  · go_enter Try.func5, Try.ntmps5
    go_wp2_with fail
    refine (makeWord_any a0 len0 cap0 8 _ BY.out (by omega) (by omega) (by omega)).mono ?_
    rintro e w0 ⟨xs, b0, c0, rfl, hw, hp, ho, hb⟩
    have I_xs := Lib.hid (Ints.of_own ho)
    have W := Lib.hid hw
    have x1 := Tm.isW_pos hw
    have x2 : xs.length ≤ 8 := by omega
    replace BY := Lib.hid (BY.out.below hb)
    replace B := Lib.hid (B.out.trans (hb.mono B.out.size))
    clear ho hw hp hb
    have BW := Lib.hid (Below.refl w0.heap.size w0)
    obtain ⟨y1, y2, y3, y4⟩ := I_xs.out
    rcases y4 with e0 | ⟨gb, go, rfl, hbl, hcl⟩
    · omega
    have CL := Lib.hid hcl
    clear hcl y1 y2 y3
    go_wp2
    go_loopw [4, 5, 23] (fun q v i wr => ∃ (k : Nat) (E : Bool), k ≤ xs.length ∧ i = .int .i64 k ∧ q = .bool E ∧ (E = true ↔ Tm.eqF xs k) ∧ wr.ownsRow w0.heap.size 3 1 v k ((Tm.turned (xs.take k)).map (Value.int .i64)) ∧ Below w0.heap.size w0 wr) (fun _ _ i _ => xs.length - (intOf i).toNat)
    case atStart => exact ⟨0, true, by omega, rfl, rfl, ⟨fun _ q hq => by omega, fun _ => rfl⟩, own_empty w0 _ _ (Nat.le_refl _), by (repeat' (first | (with_reducible exact Below.refl _ _) | (with_reducible assumption) | (with_reducible refine below_drewN ?_ _) | (with_reducible refine Below.drew ?_) | (with_reducible refine Below.alloc ?_ ?_ _) | (with_reducible refine Below.setCell ?_ ?_ _) | (with_reducible refine below_gw ?_ ?_ _) | (with_reducible refine below_via ?_ ‹Below _ _ _› ?_) | (with_reducible exact Nat.le_refl _) | (with_reducible refine le_gw ?_ _) | (with_reducible refine le_alloc ?_ _) | (with_reducible refine le_setCell ?_ _ _) | (with_reducible refine le_drew ?_) | (with_reducible refine le_drewN ?_ _) | go_size))⟩
    case round =>
      obtain ⟨k, E, hk, rfl, rfl, hE, hown, hnx⟩ := hrel
      by_cases hlt : k < xs.length
      · have ck := (World.cell?_of_block (a := ⟨gb, go + k, none⟩) (hnx.block gb hbl)).trans (CL.out k hlt)
        have c0' := (World.cell?_of_block (a := ⟨gb, go + 0, none⟩) (hnx.block gb hbl)).trans (CL.out 0 (by omega))
        rw [Nat.add_zero] at c0'
        have EN : Hid (∀ b : Bool, (b = true ↔ xs.getD k 0 = xs.getD 0 0) → ((E && b) = true ↔ Tm.eqF xs (k + 1))) := Lib.hid (fun b hb => by
          rw [Bool.and_eq_true, hE, hb]
          constructor
          · rintro ⟨h1, h2⟩ q hq
            by_cases e : q = k
            · subst e; exact h2
            · exact h1 q (by omega)
          · intro h; exact ⟨fun q hq => h q (by omega), h k (by omega)⟩)
        have TS : Hid ((Tm.turned (xs.take k)).map (Value.int .i64) ++ [Value.int .i64 (Tm.turn (xs.getD k 0))] = (Tm.turned (xs.take (k + 1))).map (Value.int .i64)) := Lib.hid (by
          rw [List.take_succ_eq_append_getElem hlt, Tm.turned, Tm.turned, List.map_append, List.map_append, ← getD_at xs k hlt]; rfl)
        obtain ⟨x, hx⟩ : ∃ x, x = xs.getD k 0 := ⟨_, rfl⟩
        obtain ⟨y, hy⟩ : ∃ y, y = xs.getD 0 0 := ⟨_, rfl⟩
        rw [← hx] at ck EN TS
        rw [← hy] at c0' EN
        have hs := hnx.size
        have lt2 : gb < wr.heap.size := by omega
        have hx0 : (0 : Int) < (xs.length : Int) := by omega
        have hn0 : xs ≠ [] := by intro e; subst e; simp at hlt
        clear hx hy hE
        cases E with
        | true =>
          have EV := Lib.hid (EN.out (x == y) (by simp))
          clear EN
          go_wp2_with (first | (go_at_call 32; refine (iTurnTrit _ _).mono ?_; rintro e w1 ⟨rfl, rfl⟩) | (at_builtin; refine wpList_append_own _ rfl _ _ 24 rfl (w0.heap.size) 3 i0 (.int .i64 0) 1 8 Try.underlying24 hi hz0 hz1 hz2 rfl (by decide) _ _ _ rfl (World.ownsRow.alloc hown _) ⟨wr.heap.size, 0, none⟩ 1 1 [.int .i64 ((Tm.turn x))] rfl rfl (app_c1 (wr) ((Tm.turn x)) _) (app_c2 _) (by unfold maxLen; omega) (by omega) (by simp; omega) ?_))
          intro v' w1 hown' hgrow _
          have hnx1 : Below w0.heap.size w0 w1 := (hnx.alloc hs _).grown hgrow (by simp; omega) (fun k hk => (hown.lt k hk).1)
          rw [TS.out] at hown'
          clear hown hgrow hnx
          go_wp2
          exact ⟨⟨k + 1, _, by omega, by go_num, rfl, by simpa using EV.out, hown', hnx1⟩, by simp [intOf]; omega⟩
        | false =>
          have EV := Lib.hid (EN.out (x == y) (by simp))
          clear EN
          go_wp2_with (first | (go_at_call 32; refine (iTurnTrit _ _).mono ?_; rintro e w1 ⟨rfl, rfl⟩) | (at_builtin; refine wpList_append_own _ rfl _ _ 24 rfl (w0.heap.size) 3 i0 (.int .i64 0) 1 8 Try.underlying24 hi hz0 hz1 hz2 rfl (by decide) _ _ _ rfl (World.ownsRow.alloc hown _) ⟨wr.heap.size, 0, none⟩ 1 1 [.int .i64 ((Tm.turn x))] rfl rfl (app_c1 (wr) ((Tm.turn x)) _) (app_c2 _) (by unfold maxLen; omega) (by omega) (by simp; omega) ?_))
          intro v' w1 hown' hgrow _
          have hnx1 : Below w0.heap.size w0 w1 := (hnx.alloc hs _).grown hgrow (by simp; omega) (fun k hk => (hown.lt k hk).1)
          rw [TS.out] at hown'
          clear hown hgrow hnx
          go_wp2
          exact ⟨⟨k + 1, false, by omega, by go_num, rfl, by simpa using EV.out, hown', hnx1⟩, by simp [intOf]; omega⟩
      · obtain rfl : k = xs.length := by omega
        rw [List.take_length] at hown
        obtain ⟨ta, tc, rfl⟩ := own_form hown
        have FB := Lib.hid (Tm.fwd_both (xs := xs) ((Tm.isW_iff _).1 W.out).1)
        have EQ : Hid ((E = true → Tm.fwd xs = false ∧ Tm.fwd (Tm.negL xs) = false) ∧ (E = false → Tm.fwd xs = !Tm.fwd (Tm.negL xs))) := Lib.hid (by
          constructor
          · intro e
            have a1 := hE.1 e
            refine ⟨Tm.fwd_flat a1, Tm.fwd_flat fun q hq => ?_⟩
            rw [Tm.negL_length] at hq
            have g : ∀ j, j < xs.length → (Tm.negL xs).getD j 0 = -xs.getD j 0 := fun j hj => by
              rw [Tm.negL, List.getD_eq_getElem?_getD, List.getElem?_map, List.getElem?_eq_getElem hj, ← getD_at xs j hj]; rfl
            rw [g q hq, g 0 (by omega), a1 q hq]
          · intro e
            have n1 : ¬ Tm.eqF xs xs.length := fun h => by have := hE.2 h; rw [e] at this; cases this
            obtain ⟨f1, f2, -⟩ := FB.out
            cases c1 : Tm.fwd xs <;> cases c2 : Tm.fwd (Tm.negL xs)
            · exfalso
              apply n1
              intro q hq
              have := f1 c1 c2 xs[q] (List.getElem_mem hq)
              rw [getD_at xs q hq] at this
              exact this
            · rfl
            · rfl
            · exact absurd ⟨c1, c2⟩ f2)
        have TT : Hid (Tm.turnsF (Tm.turned xs) = Tm.fwd xs) := Lib.hid (by rw [Tm.turnsF, Tm.turned_isW W.out, FB.out.2.2]; rfl)
        have TX : Hid (Tm.turnsF xs = Tm.fwd xs) := Lib.hid (by rw [Tm.turnsF, W.out]; rfl)
        have TN : Hid (Tm.turnsF (Tm.negL xs) = Tm.fwd (Tm.negL xs)) := Lib.hid (by rw [Tm.turnsF, Tm.negL_isW W.out]; rfl)
        have NW : Hid (Tm.negW xs = Tm.negL xs) := Lib.hid (by rw [Tm.negW, if_pos W.out])
        have F1 := Lib.hid (fun (w : World) (h : Ints w (some ⟨gb, go, none⟩) xs.length c0 xs) => iTurnsForward _ _ _ xs w h)
        have N1 := Lib.hid (fun (w : World) (h : Ints w (some ⟨gb, go, none⟩) xs.length c0 xs) => iNegateWord _ _ _ xs w h)
        rw [TX.out] at F1
        rw [NW.out] at N1
        obtain ⟨ts, hts⟩ : ∃ ts, ts = Tm.turned xs := ⟨_, rfl⟩
        obtain ⟨ns, hns⟩ : ∃ ns, ns = Tm.negL xs := ⟨_, rfl⟩
        have F2 := Lib.hid (fun (a : Option Addr) (n c : Nat) (w : World) (h : Ints w a n c ts) => iTurnsForward a n c ts w h)
        have F3 := Lib.hid (fun (a : Option Addr) (n c : Nat) (w : World) (h : Ints w a n c ns) => iTurnsForward a n c ns w h)
        rw [← hts] at TT hown
        rw [← hns] at TN N1 EQ
        rw [TT.out] at F2
        rw [TN.out] at F3
        have tl : ts.length = xs.length := by rw [hts, Tm.turned_length]
        have IT : Hid (Ints wr ta xs.length tc ts) := Lib.hid (Ints.of_own hown)
        have B1 := Lib.hid (B.out.trans (hnx.mono B.out.size))
        have BY1 := Lib.hid (BY.out.below hnx)
        have IX := Lib.hid (I_xs.out.below hnx)
        obtain ⟨A, hA⟩ : ∃ A, A = Tm.fwd xs := ⟨_, rfl⟩
        obtain ⟨D, hD⟩ : ∃ D, D = Tm.fwd ns := ⟨_, rfl⟩
        rw [← hA] at F1 F2 EQ
        rw [← hD] at F3 EQ
        have EQ2 := EQ.out
        clear hts hns tl hown hnx FB TT TX TN NW hA hD hE EQ B BY I_xs
        go_wp2_with fail
        refine (F1.out _ IX.out).mono ?_
        rintro e w1 ⟨rfl, hb⟩
        replace IX := Lib.hid (IX.out.below hb)
        replace IT := Lib.hid (IT.out.below hb)
        replace BY1 := Lib.hid (BY1.out.below hb)
        replace B1 := Lib.hid (B1.out.trans (hb.mono B1.out.size))
        clear hb
        go_wp2_with fail
        refine (N1.out _ IX.out).mono ?_
        rintro e w2 ⟨na, nc, rfl, ho, hb, -⟩
        have IN := Lib.hid (Ints.of_own ho)
        replace IT := Lib.hid (IT.out.below hb)
        replace BY1 := Lib.hid (BY1.out.below hb)
        replace B1 := Lib.hid (B1.out.trans (hb.mono B1.out.size))
        clear hb ho IX
        go_wp2_with fail
        refine (F3.out _ _ _ _ IN.out).mono ?_
        rintro e w3 ⟨rfl, hb⟩
        replace IT := Lib.hid (IT.out.below hb)
        replace BY1 := Lib.hid (BY1.out.below hb)
        replace B1 := Lib.hid (B1.out.trans (hb.mono B1.out.size))
        clear hb IN
        have key : (E = true → A = false ∧ D = false) ∧ (E = false → A = !D) := EQ2
        have key2 : (E = true ∧ A = false ∧ D = false) ∨ (E = false ∧ A = true ∧ D = false) ∨ (E = false ∧ A = false ∧ D = true) := by
          cases E
          · have := key.2 rfl
            subst this
            cases D
            · exact .inr (.inl ⟨rfl, rfl, rfl⟩)
            · exact .inr (.inr ⟨rfl, rfl, rfl⟩)
          · obtain ⟨rfl, rfl⟩ := key.1 rfl
            exact .inl ⟨rfl, rfl, rfl⟩
        clear key EQ2
        rcases key2 with ⟨rfl, rfl, rfl⟩ | ⟨rfl, rfl, rfl⟩ | ⟨rfl, rfl, rfl⟩
        all_goals
          go_wp2_with fail
          refine (F2.out _ _ _ _ IT.out).mono ?_
          rintro e w4 ⟨rfl, hb⟩
          replace BY1 := Lib.hid (BY1.out.below hb)
          replace B1 := Lib.hid (B1.out.trans (hb.mono B1.out.size))
          clear hb IT F1 F2 F3 N1 CL
          go_wp2_with fail
          refine (at_any a0 len0 cap0 1 _ BY1.out (by omega) (by omega) (by omega)).mono ?_
          rintro e w' ⟨y, rfl, y_0, y_1, rfl⟩
          obtain ⟨r, hr, r0, r3⟩ : ∃ r : Int, r = y % 4 ∧ 0 ≤ r ∧ r ≤ 3 := ⟨_, rfl, by omega, by omega⟩
          have r1 : y.tmod 4 = r := by rw [Int.tmod_eq_emod_of_nonneg y_0]; exact hr.symm
          have r2 : y % 4 = r := hr.symm
          obtain ⟨K, hK⟩ : ∃ K : Nat, 2 + r = (K : Int) := ⟨(2 + r).toNat, by omega⟩
          have K2 : 2 ≤ K := by omega
          have K5 : K ≤ 5 := by omega
          have e3 : IntKind.i64.wrap (2 + r) = (K : Int) := by rw [IntWalk.i64_in _ (by omega)]; exact hK
          have l1 : Tm.lim (K : Int) = Tm.limN K := Tm.lim_nat (by omega) (by omega)
          have LB := Tm.limN_5b K5
          have e1 : IntKind.i64.wrap (-(Tm.limN K)) = -(Tm.limN K) := IntWalk.i64_in _ (by omega)
          have LI := Lib.hid (fun w => iLimitOf (K : Int) w)
          rw [l1] at LI
          have CA : Hid (Tm.cntF K (2 * (Tm.limN K).toNat + 1) = Tm.coinsFor (K : Int)) := Lib.hid (Tm.cntF_all ⟨K, by omega⟩ K2)
          have CF := Lib.hid (fun w => iCoinsFor (K : Int) w)
          clear hr hK l1
          go_wp2_with (go_at_call 35; refine (LI.out _).mono ?_; rintro e w1 ⟨rfl, rfl⟩)
          go_loopw [11, 12] (fun q i wr => ∃ j : Nat, (j : Int) ≤ 2 * Tm.limN K + 1 ∧ i = .int .i64 (-(Tm.limN K) + (j : Int)) ∧ q = .int .i64 (Tm.cntF K j) ∧ Hid (Below w.heap.size w wr)) (fun _ i _ => (Tm.limN K + 1 - intOf i).toNat)
          case atStart => exact ⟨0, by omega, val_int (by simp), rfl, B1⟩
          case round =>
            clear B1 BY1
            obtain ⟨j, hj, rfl, rfl, BB⟩ := hrel
            by_cases hlt : (j : Int) ≤ 2 * Tm.limN K
            · have WO : Tm.wordOk (-(Tm.limN K) + (j : Int)) (K : Int) = true := Tm.wordOk_nat (by omega) (by omega) ⟨by omega, by omega⟩
              have WE : Tm.word (-(Tm.limN K) + (j : Int)) (K : Int) = Tm.wordL (-(Tm.limN K) + (j : Int)) K := by rw [Tm.word, if_pos WO, Int.toNat_natCast]
              have SW := Lib.hid (fun w => sWordOf (-(Tm.limN K) + (j : Int)) (K : Int) w)
              rw [WO, WE] at SW
              have XW := Tm.wordL_isW (n := -(Tm.limN K) + (j : Int)) (k := K) (by omega) (by omega)
              have CS : Hid (Tm.cntF K (j + 1) = if Tm.fwd (Tm.wordL (-(Tm.limN K) + (j : Int)) K) then Tm.cntF K j + 1 else Tm.cntF K j) := Lib.hid rfl
              have CB := Tm.cntF_bd K j
              have TF : Tm.turnsF (Tm.wordL (-(Tm.limN K) + (j : Int)) K) = Tm.fwd (Tm.wordL (-(Tm.limN K) + (j : Int)) K) := by rw [Tm.turnsF, XW]; rfl
              have e5 : IntKind.i64.wrap (-(Tm.limN K) + (j : Int) + 1) = -(Tm.limN K) + (j : Int) + 1 := IntWalk.i64_in _ (by omega)
              have hle : -(Tm.limN K) + (j : Int) ≤ Tm.limN K := by omega
              obtain ⟨ws, hws⟩ : ∃ ws, ws = Tm.wordL (-(Tm.limN K) + (j : Int)) K := ⟨_, rfl⟩
              rw [← hws] at SW CS TF
              have IT2 := Lib.hid (fun (a : Option Addr) (n c : Nat) (w : World) (h : Ints w a n c ws) => iTurnsForward a n c ws w h)
              rw [TF] at IT2
              obtain ⟨P, hP⟩ : ∃ P, P = Tm.cntF K j := ⟨_, rfl⟩
              rw [← hP] at CS CB ⊢
              have e6 : IntKind.i64.wrap (P + 1) = P + 1 := IntWalk.i64_in _ (by omega)
              have hs := BB.out.size
              clear WO WE XW TF hws hP
              go_wp2_with (go_at_call 35; refine (LI.out _).mono ?_; rintro e w1 ⟨rfl, rfl⟩)
              refine (SW.out _).mono ?_
              rintro e w5 ⟨a5, c5, rfl, ho, hb, -⟩
              have I5 := Lib.hid (Ints.of_own ho)
              have B5 := Lib.hid (BB.out.trans (hb.mono hs))
              clear ho hb
              cases hf : Tm.fwd ws with
              | true =>
                rw [hf] at IT2 CS
                go_wp2_with fail
                refine (IT2.out _ _ _ _ I5.out).mono ?_
                rintro e w6 ⟨rfl, hb⟩
                have B6 := Lib.hid (B5.out.trans (hb.mono B5.out.size))
                clear hb
                go_wp2
                exact ⟨⟨j + 1, by omega, val_int (by first | omega | (rw [e5]; omega)), val_int (by rw [CS.out]; rfl), B6⟩, by simp [intOf]; omega⟩
              | false =>
                rw [hf] at IT2 CS
                go_wp2_with fail
                refine (IT2.out _ _ _ _ I5.out).mono ?_
                rintro e w6 ⟨rfl, hb⟩
                have B6 := Lib.hid (B5.out.trans (hb.mono B5.out.size))
                clear hb
                go_wp2
                exact ⟨⟨j + 1, by omega, val_int (by first | omega | (rw [e5]; omega)), val_int (by rw [CS.out]; rfl), B6⟩, by simp [intOf]; omega⟩
            · have je : j = 2 * (Tm.limN K).toNat + 1 := by omega
              have CE : Tm.cntF K j = Tm.coinsFor (K : Int) := by rw [je]; exact CA.out
              have hgt : ¬ (-(Tm.limN K) + (j : Int) ≤ Tm.limN K) := by omega
              rw [CE]
              obtain ⟨F, hF⟩ : ∃ F, F = Tm.coinsFor (K : Int) := ⟨_, rfl⟩
              rw [← hF] at CF ⊢
              clear CE je hF
              go_wp2_with (first | (go_at_call 35; refine (LI.out _).mono ?_; rintro e w1 ⟨rfl, rfl⟩) | (go_at_call 36; refine (CF.out _).mono ?_; rintro e w1 ⟨rfl, rfl⟩))
              go_ret
              exact ⟨by simp, BB.out⟩
  · go_enter Try.func5, Try.ntmps5
    go_wp2
    go_ret
    exact ⟨rfl, B.out⟩
end Go.Proofs.Yteklgngooflhlaa

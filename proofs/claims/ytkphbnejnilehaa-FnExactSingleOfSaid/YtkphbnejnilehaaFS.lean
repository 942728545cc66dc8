/- The model's floating numbers. -/
import Derived.Test.YtkphbnejnilehaaFMath
import Derived.Test.YtkphbnejnilehaaPS
import Derived.Test.YtkphbnejnilehaaOwn
namespace Go.Proofs.Ytkphbnejnilehaa
open Go.RowKit
@[go_sem] theorem lt_one (a s : Nat) : (a < a + 1 + s) = True := by simp; omega
@[go_sem] theorem lt_two (a s t : Nat) : (a < a + 1 + s + t) = True := by simp; omega
@[go_sem] theorem lt_three (a s t u : Nat) : (a < a + 1 + s + t + u) = True := by simp; omega
@[go_sem] theorem lt_one2 (a s : Nat) : (a + 1 < a + 1 + 1 + s) = True := by simp; omega
@[go_sem] theorem lt_two2 (a s t : Nat) : (a + 1 < a + 1 + 1 + s + t) = True := by simp; omega
@[go_sem] theorem lt_zero2 (a s : Nat) : (a < a + 1 + 1 + s) = True := by simp; omega
@[go_sem] theorem lt_zero3 (a s t : Nat) : (a < a + 1 + 1 + s + t) = True := by simp; omega
/-- A float is handed back, its digits new. -/
def RetF (e : Nat) (w : World) (xs : List Int) (x : Int) (r : Ending) (w' : World) : Prop :=
  ∃ a cap, r = .returned (.agg #[.slice a xs.length cap, .int .i64 x]) ∧ w'.ownsRow w.heap.size e 1 (.slice a xs.length cap) xs.length (xs.map (Value.int .i64)) ∧ Below w.heap.size w w' ∧ xs.length ≤ 1048576
def RetFB (e : Nat) (w : World) (xs : List Int) (x : Int) (ok : Bool) (r : Ending) (w' : World) : Prop :=
  ∃ a cap, r = .returned (.tuple #[.agg #[.slice a xs.length cap, .int .i64 x], .bool ok]) ∧ w'.ownsRow w.heap.size e 1 (.slice a xs.length cap) xs.length (xs.map (Value.int .i64)) ∧ Below w.heap.size w w' ∧ xs.length ≤ 1048576
theorem ret_own_f {e : Nat} {w w' : World} {xs : List Int} {x : Int} {v : Value} {n : Nat} (h : w'.ownsRow w.heap.size e 1 v n (xs.map (Value.int .i64))) (hb : Below w.heap.size w w') (hl : n ≤ 1048576 := by omega) : RetF e w xs x (.returned (.agg #[v, .int .i64 x])) w' := by
  obtain ⟨a, cap, rfl⟩ := own_form h
  have hn : n = xs.length := by have := h.1; simp at this; omega
  subst hn
  exact ⟨a, cap, rfl, h, hb, hl⟩
theorem ret_own_fb {e : Nat} {w w' : World} {xs : List Int} {x : Int} {v : Value} {n : Nat} {ok : Bool} (h : w'.ownsRow w.heap.size e 1 v n (xs.map (Value.int .i64))) (hb : Below w.heap.size w w') (hl : n ≤ 1048576 := by omega) : RetFB e w xs x ok (.returned (.tuple #[.agg #[v, .int .i64 x], .bool ok])) w' := by
  obtain ⟨a, cap, rfl⟩ := own_form h
  have hn : n = xs.length := by have := h.1; simp at this; omega
  subst hn
  exact ⟨a, cap, rfl, h, hb, hl⟩
theorem ret_nil_f {e : Nat} {w w' : World} (hb : Below w.heap.size w w') {x : Int} : RetF e w [] x (.returned (.agg #[.slice none 0 0, .int .i64 x])) w' := ret_own_f (World.ownsRow_nil _ _ _ _) hb
theorem ret_nil_fb {e : Nat} {w w' : World} (hb : Below w.heap.size w w') {x : Int} {ok : Bool} : RetFB e w [] x ok (.returned (.tuple #[.agg #[.slice none 0 0, .int .i64 x], .bool ok])) w' := ret_own_fb (World.ownsRow_nil _ _ _ _) hb
/-- A cell of the call's own that holds the result: what it holds makes no difference to the blocks behind it. -/
theorem gw_alloc_heap (w : World) (o1 o2 : Obj) (p : Regrown) (k : Nat) (h : k ≠ w.heap.size) : (gw (w.alloc o2) p).heap[k]? = (gw (w.alloc o1) p).heap[k]? := by
  have e : ∀ o : Obj, (gw (w.alloc o) p).heap = (w.heap.push o) ++ p.os := fun o => rfl
  rw [e, e]
  rcases Nat.lt_or_ge k w.heap.size with c | c
  · rw [Array.getElem?_append_left (by simp; omega), Array.getElem?_append_left (by simp; omega), Array.getElem?_push_lt c, Array.getElem?_push_lt c]
  · rw [Array.getElem?_append_right (by simp; omega), Array.getElem?_append_right (by simp; omega)]; simp
theorem own_gw {w : World} {o1 o2 : Obj} {p : Regrown} {B e s n : Nat} {v : Value} {xs : List Value} (h : (gw (w.alloc o1) p).ownsRow B e s v n xs) (hB : w.heap.size + 1 ≤ B) : (gw (w.alloc o2) p).ownsRow B e s v n xs :=
  own_stable h fun k hk => gw_alloc_heap w o1 o2 p k (by have := (h.lt k hk).1; omega)
theorem sIsFloat (a : Option Addr) (n cap : Nat) (xs : List Int) (e : Int) (w : World) (h : Ints w a n cap xs) : Calls Try.prog 15 #[.agg #[.slice a n cap, .int .i64 e]] w fun r w' => r = .returned (.bool (Tm.isF xs e)) ∧ Below w.heap.size w w' := by
  have H := Lib.hid h
  obtain rfl : n = xs.length := h.1.symm
  clear h
  by_cases hx : Tm.isW xs = true
  · by_cases h6 : xs.length = 6
    · by_cases he : Tm.inB e (-20) 20 = true
      · have HX := Lib.hid hx
        have I6 : Hid (Ints w a 6 cap xs) := Lib.hid (by rw [← h6]; exact H.out)
        have e1 := (Tm.inB_iff _ _ _).1 he
        obtain ⟨e1, e2⟩ := e1
        rcases H.out.2.2.2 with h0 | ⟨b, o, rfl, hbl, hc⟩
        · omega
        have c5 := hc 5 (by omega)
        have VX := Lib.hid (fun (w : World) (h : Ints w (some ⟨b, o, none⟩) xs.length cap xs) => sValue2 (some ⟨b, o, none⟩) _ cap xs w h hx)
        have e6 : ((xs.length : Int) != 6) = false := by rw [h6]; rfl
        have l5 : 5 < xs.length := by omega
        obtain ⟨x, hx5⟩ : ∃ x, x = xs.getD 5 0 := ⟨_, rfl⟩
        rw [← hx5] at c5
        obtain ⟨v, hv⟩ : ∃ v, v = Tm.val xs := ⟨_, rfl⟩
        rw [← hv] at VX
        have RR : Hid (Tm.isF xs e = (decide (x ≠ 0) || (decide (e = 0) && decide (v = 0)))) := Lib.hid (by rw [Tm.isF, hx, he, ← hx5, ← hv, decide_eq_true h6]; simp)
        clear hx5 hv hc h6
        by_cases x0 : x = 0
        · subst x0
          by_cases ee : e = 0
          · subst ee
            go_enter Try.func15, Try.ntmps15
            go_wp2_with fail
            refine (sIsWord _ _ cap xs _ (H.out.alloc _)).mono ?_
            rw [hx]
            rintro e w' ⟨rfl, rfl⟩
            go_wp2_with fail
            refine (sIn _ _ _ _).mono ?_
            rw [he]
            rintro e w' ⟨rfl, rfl⟩
            go_wp2_with fail
            refine (VX.out _ (H.out.alloc _)).mono ?_
            rintro e w' ⟨rfl, rfl⟩
            go_wp2
            go_ret
            exact ⟨ret_bool (by rw [RR.out]; simp; rfl), by (repeat' (first | (with_reducible exact Below.refl _ _) | (with_reducible assumption) | (with_reducible refine below_drewN ?_ _) | (with_reducible refine Below.drew ?_) | (with_reducible refine Below.alloc ?_ ?_ _) | (with_reducible refine Below.setCell ?_ ?_ _) | (with_reducible refine below_gw ?_ ?_ _) | (with_reducible refine below_via ?_ ‹Below _ _ _› ?_) | (with_reducible exact Nat.le_refl _) | (with_reducible refine le_gw ?_ _) | (with_reducible refine le_alloc ?_ _) | (with_reducible refine le_setCell ?_ _ _) | (with_reducible refine le_drew ?_) | (with_reducible refine le_drewN ?_ _) | go_size))⟩
          · go_enter Try.func15, Try.ntmps15
            go_wp2_with fail
            refine (sIsWord _ _ cap xs _ (H.out.alloc _)).mono ?_
            rw [hx]
            rintro e w' ⟨rfl, rfl⟩
            go_wp2_with fail
            refine (sIn _ _ _ _).mono ?_
            rw [he]
            rintro e w' ⟨rfl, rfl⟩
            go_wp2
            go_ret
            exact ⟨ret_bool (by rw [RR.out]; simp [ee]), by (repeat' (first | (with_reducible exact Below.refl _ _) | (with_reducible assumption) | (with_reducible refine below_drewN ?_ _) | (with_reducible refine Below.drew ?_) | (with_reducible refine Below.alloc ?_ ?_ _) | (with_reducible refine Below.setCell ?_ ?_ _) | (with_reducible refine below_gw ?_ ?_ _) | (with_reducible refine below_via ?_ ‹Below _ _ _› ?_) | (with_reducible exact Nat.le_refl _) | (with_reducible refine le_gw ?_ _) | (with_reducible refine le_alloc ?_ _) | (with_reducible refine le_setCell ?_ _ _) | (with_reducible refine le_drew ?_) | (with_reducible refine le_drewN ?_ _) | go_size))⟩
        · go_enter Try.func15, Try.ntmps15
          go_wp2_with fail
          refine (sIsWord _ _ cap xs _ (H.out.alloc _)).mono ?_
          rw [hx]
          rintro e w' ⟨rfl, rfl⟩
          go_wp2_with fail
          refine (sIn _ _ _ _).mono ?_
          rw [he]
          rintro e w' ⟨rfl, rfl⟩
          go_wp2
          go_ret
          exact ⟨ret_bool (by rw [RR.out]; simp [x0]), by (repeat' (first | (with_reducible exact Below.refl _ _) | (with_reducible assumption) | (with_reducible refine below_drewN ?_ _) | (with_reducible refine Below.drew ?_) | (with_reducible refine Below.alloc ?_ ?_ _) | (with_reducible refine Below.setCell ?_ ?_ _) | (with_reducible refine below_gw ?_ ?_ _) | (with_reducible refine below_via ?_ ‹Below _ _ _› ?_) | (with_reducible exact Nat.le_refl _) | (with_reducible refine le_gw ?_ _) | (with_reducible refine le_alloc ?_ _) | (with_reducible refine le_setCell ?_ _ _) | (with_reducible refine le_drew ?_) | (with_reducible refine le_drewN ?_ _) | go_size))⟩
      · simp only [Bool.not_eq_true] at he
        have RR : Tm.isF xs e = false := by rw [Tm.isF, he]; simp
        rw [RR]
        clear RR
        have e6 : ((xs.length : Int) != 6) = false := by rw [h6]; rfl
        clear h6
        go_enter Try.func15, Try.ntmps15
        go_wp2_with fail
        refine (sIsWord _ _ cap xs _ (H.out.alloc _)).mono ?_
        rw [hx]
        rintro e w' ⟨rfl, rfl⟩
        go_wp2_with fail
        refine (sIn _ _ _ _).mono ?_
        rw [he]
        rintro e w' ⟨rfl, rfl⟩
        go_wp2
        go_ret
        exact ⟨rfl, by (repeat' (first | (with_reducible exact Below.refl _ _) | (with_reducible assumption) | (with_reducible refine below_drewN ?_ _) | (with_reducible refine Below.drew ?_) | (with_reducible refine Below.alloc ?_ ?_ _) | (with_reducible refine Below.setCell ?_ ?_ _) | (with_reducible refine below_gw ?_ ?_ _) | (with_reducible refine below_via ?_ ‹Below _ _ _› ?_) | (with_reducible exact Nat.le_refl _) | (with_reducible refine le_gw ?_ _) | (with_reducible refine le_alloc ?_ _) | (with_reducible refine le_setCell ?_ _ _) | (with_reducible refine le_drew ?_) | (with_reducible refine le_drewN ?_ _) | go_size))⟩
    · have RR : Tm.isF xs e = false := by rw [Tm.isF, decide_eq_false h6]; simp
      rw [RR]
      clear RR
      have e6 : ((xs.length : Int) != 6) = true := by simp; omega
      clear h6
      go_enter Try.func15, Try.ntmps15
      go_wp2_with fail
      refine (sIsWord _ _ cap xs _ (H.out.alloc _)).mono ?_
      rw [hx]
      rintro e w' ⟨rfl, rfl⟩
      go_wp2
      go_ret
      exact ⟨rfl, by (repeat' (first | (with_reducible exact Below.refl _ _) | (with_reducible assumption) | (with_reducible refine below_drewN ?_ _) | (with_reducible refine Below.drew ?_) | (with_reducible refine Below.alloc ?_ ?_ _) | (with_reducible refine Below.setCell ?_ ?_ _) | (with_reducible refine below_gw ?_ ?_ _) | (with_reducible refine below_via ?_ ‹Below _ _ _› ?_) | (with_reducible exact Nat.le_refl _) | (with_reducible refine le_gw ?_ _) | (with_reducible refine le_alloc ?_ _) | (with_reducible refine le_setCell ?_ _ _) | (with_reducible refine le_drew ?_) | (with_reducible refine le_drewN ?_ _) | go_size))⟩
  · simp only [Bool.not_eq_true] at hx
    have RR : Tm.isF xs e = false := by rw [Tm.isF, hx]; simp
    rw [RR]
    clear RR
    go_enter Try.func15, Try.ntmps15
    go_wp2_with fail
    refine (sIsWord _ _ cap xs _ (H.out.alloc _)).mono ?_
    rw [hx]
    rintro e w' ⟨rfl, rfl⟩
    go_wp2
    go_ret
    exact ⟨rfl, by (repeat' (first | (with_reducible exact Below.refl _ _) | (with_reducible assumption) | (with_reducible refine below_drewN ?_ _) | (with_reducible refine Below.drew ?_) | (with_reducible refine Below.alloc ?_ ?_ _) | (with_reducible refine Below.setCell ?_ ?_ _) | (with_reducible refine below_gw ?_ ?_ _) | (with_reducible refine below_via ?_ ‹Below _ _ _› ?_) | (with_reducible exact Nat.le_refl _) | (with_reducible refine le_gw ?_ _) | (with_reducible refine le_alloc ?_ _) | (with_reducible refine le_setCell ?_ _ _) | (with_reducible refine le_drew ?_) | (with_reducible refine le_drewN ?_ _) | go_size))⟩
theorem sZero5 (w : World) : Calls Try.prog 75 #[] w (RetF 3 w (List.replicate 6 0) 0) := by
  obtain ⟨i0, hi, hz0, hz1, hz2⟩ := info_parts infoInt
  go_enter Try.func75, Try.ntmps75
  go_wp2_with (at_make; refine wpList_make_full _ rfl _ _ 22 rfl (w.heap.size + 1) 3 i0 (.int .i64 0) 1 Try.underlying22 hi hz0 hz1 _ _ _ _ (6) rfl rfl (by first | rfl | omega) (by first | rfl | omega) (by rw [hz2]; omega) (by unfold maxLen; omega) (by go_size) ?_)
  intro w1 hown hgrow
  have hb1 := (Below.refl (w.alloc (.cells #[.slice none 0 0, .int .i64 0] 27)).heap.size _).grown hgrow (Nat.le_refl _) (fun k hk => by cases hk)
  obtain ⟨p, rfl⟩ := gw_of_below hb1
  clear hgrow hb1
  have HO := Lib.hid hown
  clear hown
  go_wp2
  go_returns
  exact ret_own_f (xs := List.replicate 6 0) (n := 6) (own_weak (own_gw (by have := HO.out; rw [toList_madeCells_one] at this; exact this) (Nat.le_refl _)) (by omega)) (by (repeat' (first | (with_reducible exact Below.refl _ _) | (with_reducible assumption) | (with_reducible refine below_drewN ?_ _) | (with_reducible refine Below.drew ?_) | (with_reducible refine Below.alloc ?_ ?_ _) | (with_reducible refine Below.setCell ?_ ?_ _) | (with_reducible refine below_gw ?_ ?_ _) | (with_reducible refine below_via ?_ ‹Below _ _ _› ?_) | (with_reducible exact Nat.le_refl _) | (with_reducible refine le_gw ?_ _) | (with_reducible refine le_alloc ?_ _) | (with_reducible refine le_setCell ?_ _ _) | (with_reducible refine le_drew ?_) | (with_reducible refine le_drewN ?_ _) | go_size))) (by omega)
namespace Tm
theorem top6_pad (n : Int) (k j : Nat) (h : j = 6 - k) : (List.replicate j 0 ++ wordL n k).drop (j + k - 6) = top6 n k := by
  subst h
  rw [top6]; congr 1; omega
end Tm
theorem sOf5 (n e : Int) (w : World) (hn : Tm.fits n) (e1 : -1000 ≤ e) (e2 : e ≤ 1000) : Calls Try.prog 51 #[.int .i64 n, .int .i64 e] w (RetFB 3 w (Tm.fD n e) (Tm.fE n e) (Tm.ofOk n e)) := by
  obtain ⟨i0, hi, hz0, hz1, hz2⟩ := info_parts infoInt
  obtain ⟨o0, ho0⟩ : ∃ o0, o0 = Obj.cells #[.slice none 0 0, .int .i64 0] 27 := ⟨_, rfl⟩
  by_cases h0 : n = 0
  · subst h0
    have z : Tm.ofOk 0 e = true := by rw [Tm.ofOk, Tm.ofE, if_pos rfl]; rfl
    rw [Tm.fD, Tm.fE, if_pos z, if_pos z, z, Tm.ofE, Tm.ofD, if_pos rfl, if_pos rfl]
    go_enter Try.func51, Try.ntmps51
    go_wp2_with fail
    refine (sZero5 _).mono ?_
    rintro e w1 ⟨a1, c1, rfl, hown, hb, ln⟩
    obtain ⟨p, rfl⟩ := gw_of_below hb
    have HO := Lib.hid hown
    clear hown hb
    go_wp2
    go_returns
    refine ret_own_fb (own_weak (own_gw HO.out ?_) ?_) (by (repeat' (first | (with_reducible exact Below.refl _ _) | (with_reducible assumption) | (with_reducible refine below_drewN ?_ _) | (with_reducible refine Below.drew ?_) | (with_reducible refine Below.alloc ?_ ?_ _) | (with_reducible refine Below.setCell ?_ ?_ _) | (with_reducible refine below_gw ?_ ?_ _) | (with_reducible refine below_via ?_ ‹Below _ _ _› ?_) | (with_reducible exact Nat.le_refl _) | (with_reducible refine le_gw ?_ _) | (with_reducible refine le_alloc ?_ _) | (with_reducible refine le_setCell ?_ _ _) | (with_reducible refine le_drew ?_) | (with_reducible refine le_drewN ?_ _) | go_size))) ln
    · rw [World.size_alloc]; exact Nat.le_refl _
    · rw [World.size_alloc]; omega
  · obtain ⟨K, hK⟩ : ∃ K, K = Tm.lenN n := ⟨_, rfl⟩
    have ls := Tm.lenN_spec hn
    rw [← hK] at ls
    obtain ⟨s0, s1, s2, s3, -⟩ := ls
    have LO := Lib.hid (fun w => sLengthOf n w)
    rw [s0] at LO
    have WL := Lib.hid (fun w => sWordL n (K : Int) w (by omega) (by omega) hn)
    rw [Int.toNat_natCast] at WL
    have h0' : (n == 0) = false := by simpa using h0
    have EE : Hid (Tm.ofE n e = e + K - 6) := Lib.hid (by rw [Tm.ofE, if_neg h0, hK])
    have ED : Hid (Tm.ofD n = Tm.top6 n K) := Lib.hid (by rw [Tm.ofD, if_neg h0, hK])
    clear s0 hK s3
    go_enter Try.func51, Try.ntmps51
    go_wp2_with fail
    refine (LO.out _).mono ?_
    rintro e w' ⟨rfl, rfl⟩
    go_wp2_with fail
    refine (WL.out _).mono ?_
    rintro e w1 ⟨a1, c1, rfl, hown, hb, ln⟩
    have OO : Hid (∃ v', v' = Value.slice a1 (Tm.wordL n K).length c1 ∧ w1.ownsRow (w.heap.size + 1) 3 1 v' (0 + K) ((List.replicate 0 (0 : Int) ++ Tm.wordL n K).map (Value.int .i64))) := Lib.hid ⟨_, rfl, by
      have e := Tm.wordL_length n K
      have := hown
      rw [e] at this ⊢
      rw [Nat.zero_add]
      rw [World.size_alloc] at this
      exact this⟩
    have BB := Lib.hid hb
    clear hown hb LO WL
    go_wp2_with fail
    go_loopw [1, 7] (fun ev v wr => ∃ j : Nat, (j = 0 ∨ j + K ≤ 6) ∧ j ≤ 6 ∧ ev = .int .i64 (e - j) ∧ Hid (∃ v', v' = v ∧ wr.ownsRow (w.heap.size + 1) 3 1 v' (j + K) ((List.replicate j (0 : Int) ++ Tm.wordL n K).map (Value.int .i64))) ∧ Hid (Below (w.heap.size + 1) (w.alloc (Obj.cells #[.slice none 0 0, .int .i64 0] 27)) wr)) (fun ev _ _ => (intOf ev - (e - 6)).toNat)
    case atStart => exact ⟨0, .inl rfl, by omega, by simp, by obtain ⟨v', h1, h2⟩ := OO.out; exact Lib.hid ⟨v', h1, h2⟩, Lib.hid (BB.out.mono (by simp))⟩
    case round =>
      clear OO BB
      obtain ⟨j, hj, hj6, rfl, OO, BB⟩ := hrel
      obtain ⟨v', rfl, ho⟩ := OO.out
      obtain ⟨a2, c2, rfl⟩ := own_form ho
      clear ho
      by_cases c : j + K < 6
      · obtain ⟨zs, hz⟩ : ∃ zs, zs = List.replicate j (0 : Int) ++ Tm.wordL n K := ⟨_, rfl⟩
        have zl : zs.length = j + K := by rw [hz, List.length_append, List.length_replicate, Tm.wordL_length]
        have HO : Hid (wr.ownsRow (w.heap.size + 1) 3 1 (.slice a2 (j + K) c2) (j + K) (zs.map (Value.int .i64))) := Lib.hid (by obtain ⟨v', h1, h2⟩ := OO.out; rw [hz]; subst h1; exact h2)
        have HZ : Hid (0 :: zs = List.replicate (j + 1) (0 : Int) ++ Tm.wordL n K) := Lib.hid (by rw [hz, List.replicate_succ]; rfl)
        have hs := BB.out.size
        simp only [World.size_alloc] at hs
        obtain ⟨x1, x2, x3, x4⟩ := (Ints.of_own HO.out).alloc (.cells #[.int .i64 0] 3)
        rcases x4 with e0 | ⟨b, o, rfl, hbl, hc⟩
        · omega
        have HN := Lib.hid (news_of x1 hc)
        have cl : (j : Int) + K < 6 := by omega
        clear hc hz
        go_wp2_with (at_builtin; refine wpList_append_own _ rfl _ _ 22 rfl wr.heap.size 3 i0 (.int .i64 0) 1 8 Try.underlying22 hi hz0 hz1 hz2 rfl (by decide) _ _ _ rfl (own_one wr wr.heap.size 3 0 (Nat.le_refl _)) ⟨b, o, none⟩ (j + K) c2 (zs.map (Value.int .i64)) rfl (by simp [zl]) HN.out (news_one zs) (by unfold maxLen; omega) (by omega) (by simp) ?_)
        intro v' w2 hown' hgrow _
        have B2 := Lib.hid (BB.out.trans ((((Below.refl wr.heap.size wr).alloc (Nat.le_refl _) _).grown hgrow (by simp) (fun k hk => by simp [Value.ownBlock] at hk; omega)).mono hs))
        have O2 : Hid (∃ v'', v'' = v' ∧ w2.ownsRow (w.heap.size + 1) 3 1 v'' (j + 1 + K) ((List.replicate (j + 1) (0 : Int) ++ Tm.wordL n K).map (Value.int .i64))) := Lib.hid ⟨v', rfl, by
          rw [← HZ.out, show j + 1 + K = 1 + (j + K) by omega]
          exact own_weak hown' hs⟩
        clear hown' hgrow OO BB HO HN
        go_wp2
        go_roundw
        case rel => exact ⟨j + 1, .inr (by omega), by omega, by congr 1; omega, O2, B2⟩
        case measure => simp [intOf] <;> omega
      · obtain ⟨zs, hz⟩ : ∃ zs, zs = List.replicate j (0 : Int) ++ Tm.wordL n K := ⟨_, rfl⟩
        have zl : zs.length = j + K := by rw [hz, List.length_append, List.length_replicate, Tm.wordL_length]
        have HO : Hid (wr.ownsRow (w.heap.size + 1) 3 1 (.slice a2 (j + K) c2) (j + K) (zs.map (Value.int .i64))) := Lib.hid (by obtain ⟨v', h1, h2⟩ := OO.out; rw [hz]; subst h1; exact h2)
        have HZ : Hid (Tm.ofD n = zs.drop (j + K - 6)) := Lib.hid (by rw [ED.out, hz, Tm.top6_pad _ _ _ (by omega)])
        have hs := BB.out.size
        simp only [World.size_alloc] at hs
        obtain ⟨p, hp⟩ := gw_of_below (W := w.alloc (Obj.cells #[.slice none 0 0, .int .i64 0] 27)) (w' := wr) (by rw [World.size_alloc]; exact BB.out)
        subst hp
        have I1 := Ints.of_own HO.out
        have hcap := I1.2.1
        have hcm := I1.2.2.1
        unfold maxLen at hcm
        rcases I1.2.2.2 with e0 | ⟨b, o, rfl, hbl, -⟩
        · omega
        have HP := Lib.hid (I1.part (j + K - 6) (j + K) (by omega) (by omega))
        have cl : ¬ ((j : Int) + K < 6) := by omega
        have PL : Hid (Tm.part zs (j + K - 6) (j + K) = Tm.ofD n) := Lib.hid (by rw [HZ.out, Tm.part, List.take_of_length_le (by rw [List.length_drop]; omega)])
        have IF := Lib.hid (fun (a : Option Addr) (c : Nat) (w : World) (h : Ints w a (Tm.ofD n).length c (Tm.ofD n)) => sIsFloat a (Tm.ofD n).length c (Tm.ofD n) (Tm.ofE n e) w h)
        rw [Tm.of_isF e hn] at IF
        obtain ⟨E, hE⟩ : ∃ E, E = Tm.ofE n e := ⟨_, rfl⟩
        have hE2 : e - (j : Int) + ((j : Int) + (K : Int)) - 6 = E := by rw [hE, EE.out]; omega
        have HE := Lib.hid hE
        rw [← hE] at IF
        clear hz I1 OO BB hE
        go_wp2_with fail
        refine (sCopy _ _ _ _ _ HP.out (by omega) (by omega)).mono ?_
        rw [PL.out]
        rintro r w3 ⟨a3, c3, rfl, hown, hb, ln3⟩
        have I3 := Lib.hid (Ints.of_own hown)
        have O3 := Lib.hid hown
        obtain ⟨q, hq⟩ := gw_of_below hb
        rw [gw_gw] at hq
        subst hq
        clear hown hb HO HP
        go_wp2_with fail
        refine (IF.out a3 c3 _ ((I3.out).alloc _)).mono ?_
        rintro r w4 ⟨rfl, hb⟩
        obtain ⟨q2, hq2⟩ := gw_of_below hb
        subst hq2
        clear hb
        cases ok : Tm.ofOk n e with
        | true =>
          have FD : Hid (Tm.fD n e = Tm.ofD n ∧ Tm.fE n e = E) := Lib.hid (by rw [Tm.fD, Tm.fE, ok, HE.out]; exact ⟨rfl, rfl⟩)
          have OK := Lib.hid ok
          clear ok
          go_wp2
          go_returns
          rw [FD.out.1, FD.out.2, OK.out]
          refine ret_own_fb (own_below (own_weak (own_gw O3.out (by rw [gw_size, World.size_alloc]; omega)) (by rw [gw_size, World.size_alloc]; omega)) (by (repeat' (first | (with_reducible exact Below.refl _ _) | (with_reducible assumption) | (with_reducible refine below_drewN ?_ _) | (with_reducible refine Below.drew ?_) | (with_reducible refine Below.alloc ?_ ?_ _) | (with_reducible refine Below.setCell ?_ ?_ _) | (with_reducible refine below_gw ?_ ?_ _) | (with_reducible refine below_via ?_ ‹Below _ _ _› ?_) | (with_reducible exact Nat.le_refl _) | (with_reducible refine le_gw ?_ _) | (with_reducible refine le_alloc ?_ _) | (with_reducible refine le_setCell ?_ _ _) | (with_reducible refine le_drew ?_) | (with_reducible refine le_drewN ?_ _) | go_size)))) (by (repeat' (first | (with_reducible exact Below.refl _ _) | (with_reducible assumption) | (with_reducible refine below_drewN ?_ _) | (with_reducible refine Below.drew ?_) | (with_reducible refine Below.alloc ?_ ?_ _) | (with_reducible refine Below.setCell ?_ ?_ _) | (with_reducible refine below_gw ?_ ?_ _) | (with_reducible refine below_via ?_ ‹Below _ _ _› ?_) | (with_reducible exact Nat.le_refl _) | (with_reducible refine le_gw ?_ _) | (with_reducible refine le_alloc ?_ _) | (with_reducible refine le_setCell ?_ _ _) | (with_reducible refine le_drew ?_) | (with_reducible refine le_drewN ?_ _) | go_size))) ln3
        | false =>
          have FD : Hid (Tm.fD n e = [] ∧ Tm.fE n e = 0) := Lib.hid (by rw [Tm.fD, Tm.fE, ok]; exact ⟨rfl, rfl⟩)
          have OK := Lib.hid ok
          clear ok
          go_wp2
          go_returns
          rw [FD.out.1, FD.out.2, OK.out]
          exact ret_nil_fb (by (repeat' (first | (with_reducible exact Below.refl _ _) | (with_reducible assumption) | (with_reducible refine below_drewN ?_ _) | (with_reducible refine Below.drew ?_) | (with_reducible refine Below.alloc ?_ ?_ _) | (with_reducible refine Below.setCell ?_ ?_ _) | (with_reducible refine below_gw ?_ ?_ _) | (with_reducible refine below_via ?_ ‹Below _ _ _› ?_) | (with_reducible exact Nat.le_refl _) | (with_reducible refine le_gw ?_ _) | (with_reducible refine le_alloc ?_ _) | (with_reducible refine le_setCell ?_ _ _) | (with_reducible refine le_drew ?_) | (with_reducible refine le_drewN ?_ _) | go_size)))
end Go.Proofs.Ytkphbnejnilehaa

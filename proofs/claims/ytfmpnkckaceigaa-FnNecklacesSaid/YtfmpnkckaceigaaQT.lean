/- The sequence without squares: the model's and the program's. -/
import Derived.Test.YtfmpnkckaceigaaQMath2
import Derived.Test.YtfmpnkckaceigaaQS2
import Derived.Test.YtfmpnkckaceigaaQS1
import Derived.Test.YtfmpnkckaceigaaCopy
namespace Go.Proofs.Ytfmpnkckaceigaa
set_option maxRecDepth 20000
open Go.RowKit
theorem own_cut {w : World} {B e n m c : Nat} {a : Option Addr} {xs : List Value} (h : w.ownsRow B e 1 (.slice a n c) n xs) (hm : m ≤ n) : w.ownsRow B e 1 (.slice a m c) m (xs.take m) := by
  have hl : xs.length = n := by have := h.1; omega
  rcases h.2 with ⟨h1, h2⟩ | ⟨g, cap, cur, h1, hB, hg, hn, hcap, hsz, ht⟩
  · subst h2
    obtain rfl : m = 0 := by omega
    simp only [Value.slice.injEq] at h1
    obtain ⟨rfl, -, rfl⟩ := h1
    exact World.ownsRow_nil _ _ _ _
  · simp only [Value.slice.injEq] at h1
    obtain ⟨rfl, -, rfl⟩ := h1
    refine ⟨by rw [List.length_take]; omega, .inr ⟨g, _, cur, rfl, hB, hg, by omega, hcap, hsz, ?_⟩⟩
    rw [← ht, List.take_take]
    congr 1; omega
theorem lit_own (w : World) (xs : List Int) (B : Nat) (hB : B ≤ w.heap.size) (hl : xs.length ≤ 1000) : (w.alloc (.cells (xs.map (Value.int .i64)).toArray 3)).ownsRow B 3 1 (.slice (some ⟨w.heap.size, 0, none⟩) xs.length xs.length) xs.length (xs.map (Value.int .i64)) := by
  refine ⟨by simp, .inr ⟨w.heap.size, xs.length, _, rfl, hB, heap_alloc_new w _, Nat.le_refl _, by unfold maxLen; omega, by simp, ?_⟩⟩
  rw [Nat.mul_one, List.take_of_length_le (by simp)]
theorem lit_ints (w : World) (xs : List Int) (hl : xs.length ≤ 1000) : Ints (w.alloc (.cells (xs.map (Value.int .i64)).toArray 3)) (some ⟨w.heap.size, 0, none⟩) xs.length xs.length xs := Ints.of_own (lit_own w xs 0 (Nat.zero_le _) hl)
namespace Tm
theorem thH_more_len : ∀ m : Fin 9, (thH m.1).length < (thH (m.1 + 1)).length := by decide +kernel
theorem thH_len_le {m : Nat} (h : m ≤ 9) : (thH m).length ≤ 768 := by have := (thH_le h).length_le; rw [thH_len] at this; exact this
def pre (xs : List Int) (k : Nat) : List Int := (xs.take k).flatMap part3
theorem pre_zero (xs : List Int) : pre xs 0 = [] := by simp [pre]
theorem pre_succ {xs : List Int} {k : Nat} (h : k < xs.length) : pre xs (k + 1) = pre xs k ++ part3 (xs.getD k 0) := by
  rw [pre, List.take_succ_eq_append_getElem h, List.flatMap_append, pre]
  simp [List.getD_eq_getElem?_getD, List.getElem?_eq_getElem h]
theorem pre_all (xs : List Int) : pre xs xs.length = xs.flatMap part3 := by rw [pre, List.take_length]
theorem pre_len (xs : List Int) (k : Nat) : (pre xs k).length ≤ 3 * k := by
  have := (len_part3 (xs.take k)).2
  rw [pre]; have h : (xs.take k).length ≤ k := List.length_take_le _ _
  omega
theorem part3_z : part3 (-1) = [0] := rfl
theorem part3_o : part3 0 = [1, -1] := rfl
theorem part3_i : part3 1 = [1, 0, -1] := rfl
end Tm
set_option maxHeartbeats 2000000 in
theorem sThueTrits (n : Int) (w : World) : Calls Try.prog 37 #[.int .i64 n] w (RetIB 3 w (Tm.thue n) (Tm.thOk n)) := by
  obtain ⟨i0, hi, hz0, hz1, hz2⟩ := info_parts infoInt
  cases ho : Tm.thOk n with
  | false =>
    have i1 : Tm.inB n 0 500 = false := ho
    rw [Tm.thue, ho]
    clear ho
    go_enter Try.func37, Try.ntmps37
    go_wp2_with ((go_at_call 51; refine (sIn _ _ _ _).mono ?_; rintro e w1 ⟨rfl, rfl⟩))
    go_ret2
    exact ret_nil_b (by (repeat' (first | (with_reducible exact Below.refl _ _) | (with_reducible assumption) | (with_reducible refine below_drewN ?_ _) | (with_reducible refine Below.drew ?_) | (with_reducible refine Below.alloc ?_ ?_ _) | (with_reducible refine Below.setCell ?_ ?_ _) | (with_reducible refine below_gw ?_ ?_ _) | (with_reducible refine below_via ?_ ‹Below _ _ _› ?_) | (with_reducible exact Nat.le_refl _) | (with_reducible refine le_gw ?_ _) | (with_reducible refine le_alloc ?_ _) | (with_reducible refine le_setCell ?_ _ _) | (with_reducible refine le_drew ?_) | (with_reducible refine le_drewN ?_ _) | go_size)))
  | true =>
    have i1 : Tm.inB n 0 500 = true := ho
    have nb := (Tm.inB_iff _ _ _).1 i1
    obtain ⟨n0, n5⟩ := nb
    obtain ⟨N, rfl⟩ : ∃ N : Nat, n = (N : Int) := ⟨n.toNat, by omega⟩
    have N5 : N ≤ 500 := by omega
    rw [Tm.thue, if_pos ho, Int.toNat_natCast]
    clear ho
    go_enter Try.func37, Try.ntmps37
    go_wp2_with ((go_at_call 51; refine (sIn _ _ _ _).mono ?_; rintro e w1 ⟨rfl, rfl⟩))
    go_loopw [4] (fun v wr => ∃ (m : Nat) (a' : Option Addr) (c' : Nat), m ≤ 9 ∧ v = .slice a' (Tm.thH m).length c' ∧ Hid (wr.ownsRow w.heap.size 3 1 (.slice a' (Tm.thH m).length c') (Tm.thH m).length ((Tm.thH m).map (Value.int .i64))) ∧ Hid (Below w.heap.size w wr)) (fun v _ => 1000 - Tm.lenV v)
    case atStart => exact ⟨0, _, _, by omega, rfl, Lib.hid (own_one w _ _ 1 (Nat.le_refl _)), Lib.hid (by (repeat' (first | (with_reducible exact Below.refl _ _) | (with_reducible assumption) | (with_reducible refine below_drewN ?_ _) | (with_reducible refine Below.drew ?_) | (with_reducible refine Below.alloc ?_ ?_ _) | (with_reducible refine Below.setCell ?_ ?_ _) | (with_reducible refine below_gw ?_ ?_ _) | (with_reducible refine below_via ?_ ‹Below _ _ _› ?_) | (with_reducible exact Nat.le_refl _) | (with_reducible refine le_gw ?_ _) | (with_reducible refine le_alloc ?_ _) | (with_reducible refine le_setCell ?_ _ _) | (with_reducible refine le_drew ?_) | (with_reducible refine le_drewN ?_ _) | go_size)))⟩
    case round =>
      obtain ⟨m, a', c', hm, rfl, OO, BB⟩ := hrel
      have hs := BB.out.size
      have LL := Tm.thH_len_le hm
      by_cases hlt : (Tm.thH m).length < N
      · have m9 : m < 9 := by
          rcases Nat.lt_or_ge m 9 with h | h
          · exact h
          · obtain rfl : m = 9 := by omega
            rw [Tm.thH_len] at hlt; omega
        have LM := Tm.thH_more_len ⟨m, m9⟩
        have LM2 := Tm.thH_len_le (show m + 1 ≤ 9 by omega)
        have HT := Lib.hid (Tm.thH_isT hm)
        have HN : Hid (Tm.thH (m + 1) = Tm.pre (Tm.thH m) (Tm.thH m).length) := Lib.hid (by rw [Tm.pre_all]; rfl)
        obtain ⟨L, hL⟩ : ∃ L, L = Tm.thH m := ⟨_, rfl⟩
        rw [← hL] at HT HN OO LL hlt LM ⊢
        clear hL
        obtain ⟨wo, hwo⟩ : ∃ wo, wo = wr := ⟨_, rfl⟩
        subst hwo
        go_wp2_with fail
        go_loopw [5, 19] (fun v i wr => ∃ (k : Nat) (a2 : Option Addr) (c2 : Nat), k ≤ L.length ∧ i = .int .i64 k ∧ v = .slice a2 (Tm.pre L k).length c2 ∧ Hid (wr.ownsRow wo.heap.size 3 1 (.slice a2 (Tm.pre L k).length c2) (Tm.pre L k).length ((Tm.pre L k).map (Value.int .i64))) ∧ Hid (Below wo.heap.size wo wr)) (fun _ i _ => L.length - (intOf i).toNat)
        case atStart => exact ⟨0, _, 0, by omega, rfl, by simp [Tm.pre_zero], Lib.hid (own_empty wo _ _ (Nat.le_refl _)), Lib.hid (by (repeat' (first | (with_reducible exact Below.refl _ _) | (with_reducible assumption) | (with_reducible refine below_drewN ?_ _) | (with_reducible refine Below.drew ?_) | (with_reducible refine Below.alloc ?_ ?_ _) | (with_reducible refine Below.setCell ?_ ?_ _) | (with_reducible refine below_gw ?_ ?_ _) | (with_reducible refine below_via ?_ ‹Below _ _ _› ?_) | (with_reducible exact Nat.le_refl _) | (with_reducible refine le_gw ?_ _) | (with_reducible refine le_alloc ?_ _) | (with_reducible refine le_setCell ?_ _ _) | (with_reducible refine le_drew ?_) | (with_reducible refine le_drewN ?_ _) | go_size)))⟩
        case round =>
          obtain ⟨k, a2, c2, hk, rfl, rfl, O2, B2⟩ := hrel
          have hs2 := B2.out.size
          have PL := Tm.pre_len L k
          by_cases hk2 : k < L.length
          · have I1 := Ints.of_own (own_below OO.out B2.out)
            rcases I1.2.2.2 with h0 | ⟨b, o, rfl, hbl, hc⟩
            · omega
            have c1 := hc k hk2
            have PS := Lib.hid (Tm.pre_succ hk2)
            have tt := HT.out (L.getD k 0) (by rw [← getD_at L k hk2]; exact List.getElem_mem hk2)
            obtain ⟨t, ht⟩ : ∃ t, t = L.getD k 0 := ⟨_, rfl⟩
            rw [← ht] at c1 PS tt
            obtain ⟨P, hP⟩ : ∃ P, P = Tm.pre L k := ⟨_, rfl⟩
            rw [← hP] at O2 PS PL ⊢
            clear hc ht hP I1
            have tc : t = -1 ∨ t = 0 ∨ t = 1 := by have := (Tm.isT_iff t).1 tt; omega
            clear tt
            have A0 := Lib.hid (((lit_ints wr [0] (by decide)).alloc (.cells ([1, -1].map (Value.int .i64)).toArray 3)).alloc (.cells ([1, 0, -1].map (Value.int .i64)).toArray 3))
            have A1 := (lit_ints (wr.alloc (.cells ([0].map (Value.int .i64)).toArray 3)) [1, -1] (by decide)).alloc (.cells ([1, 0, -1].map (Value.int .i64)).toArray 3)
            have A2 := lit_ints ((wr.alloc (.cells ([0].map (Value.int .i64)).toArray 3)).alloc (.cells ([1, -1].map (Value.int .i64)).toArray 3)) [1, 0, -1] (by decide)
            simp only [World.size_alloc] at A1 A2
            have A0' := Lib.hid (fun X => A0.out.alloc X)
            have A1' := Lib.hid (fun X => A1.alloc X)
            have A2' := Lib.hid (fun X => A2.alloc X)
            clear A0 A1 A2
            rcases tc with rfl | rfl | rfl
            · have FL : (Tm.pre L (k + 1)).length = P.length + 1 := by rw [PS.out, List.length_append]; rfl
              go_wp2_with (at_builtin; refine wpList_append_own _ rfl _ _ 22 rfl wo.heap.size 3 i0 (.int .i64 0) 1 8 Try.underlying22 hi hz0 hz1 hz2 rfl (by decide) _ _ _ rfl ((((O2.out.alloc _).alloc _).alloc _).alloc _) ⟨wr.heap.size, 0, none⟩ 1 1 ([0].map (Value.int .i64)) rfl rfl (A0'.out _).newsAt (news_one _) (by unfold maxLen; omega) (by omega) (by simp; omega) ?_)
              intro v' w4 hown' hgrow _
              have B4 : Hid (Below wo.heap.size wo w4) := Lib.hid (((((B2.out.alloc hs2 _).alloc (by simp; omega) _).alloc (by simp; omega) _).alloc (by simp; omega) _).grown hgrow (by simp; omega) (fun k hk => (O2.out.lt k hk).1))
              have hown'' : w4.ownsRow wo.heap.size 3 1 v' (Tm.pre L (k + 1)).length ((Tm.pre L (k + 1)).map (Value.int .i64)) := by rw [FL, PS.out, Tm.part3_z, List.map_append]; exact hown'
              obtain ⟨a4, c4, rfl⟩ := own_form hown''
              have O4 := Lib.hid hown''
              clear hown' hown'' hgrow O2 B2
              go_wp2
              exact ⟨⟨k + 1, a4, c4, by omega, by go_num, rfl, O4, B4⟩, by simp [intOf]; omega⟩
            · have FL : (Tm.pre L (k + 1)).length = P.length + 2 := by rw [PS.out, List.length_append]; rfl
              go_wp2_with (at_builtin; refine wpList_append_own _ rfl _ _ 22 rfl wo.heap.size 3 i0 (.int .i64 0) 1 8 Try.underlying22 hi hz0 hz1 hz2 rfl (by decide) _ _ _ rfl ((((O2.out.alloc _).alloc _).alloc _).alloc _) ⟨wr.heap.size + 1, 0, none⟩ 2 2 ([1, -1].map (Value.int .i64)) rfl rfl (A1'.out _).newsAt (news_one _) (by unfold maxLen; omega) (by omega) (by simp; omega) ?_)
              intro v' w4 hown' hgrow _
              have B4 : Hid (Below wo.heap.size wo w4) := Lib.hid (((((B2.out.alloc hs2 _).alloc (by simp; omega) _).alloc (by simp; omega) _).alloc (by simp; omega) _).grown hgrow (by simp; omega) (fun k hk => (O2.out.lt k hk).1))
              have hown'' : w4.ownsRow wo.heap.size 3 1 v' (Tm.pre L (k + 1)).length ((Tm.pre L (k + 1)).map (Value.int .i64)) := by rw [FL, PS.out, Tm.part3_o, List.map_append]; exact hown'
              obtain ⟨a4, c4, rfl⟩ := own_form hown''
              have O4 := Lib.hid hown''
              clear hown' hown'' hgrow O2 B2
              go_wp2
              exact ⟨⟨k + 1, a4, c4, by omega, by go_num, rfl, O4, B4⟩, by simp [intOf]; omega⟩
            · have FL : (Tm.pre L (k + 1)).length = P.length + 3 := by rw [PS.out, List.length_append]; rfl
              go_wp2_with (at_builtin; refine wpList_append_own _ rfl _ _ 22 rfl wo.heap.size 3 i0 (.int .i64 0) 1 8 Try.underlying22 hi hz0 hz1 hz2 rfl (by decide) _ _ _ rfl ((((O2.out.alloc _).alloc _).alloc _).alloc _) ⟨wr.heap.size + 1 + 1, 0, none⟩ 3 3 ([1, 0, -1].map (Value.int .i64)) rfl rfl (A2'.out _).newsAt (news_one _) (by unfold maxLen; omega) (by omega) (by simp; omega) ?_)
              intro v' w4 hown' hgrow _
              have B4 : Hid (Below wo.heap.size wo w4) := Lib.hid (((((B2.out.alloc hs2 _).alloc (by simp; omega) _).alloc (by simp; omega) _).alloc (by simp; omega) _).grown hgrow (by simp; omega) (fun k hk => (O2.out.lt k hk).1))
              have hown'' : w4.ownsRow wo.heap.size 3 1 v' (Tm.pre L (k + 1)).length ((Tm.pre L (k + 1)).map (Value.int .i64)) := by rw [FL, PS.out, Tm.part3_i, List.map_append]; exact hown'
              obtain ⟨a4, c4, rfl⟩ := own_form hown''
              have O4 := Lib.hid hown''
              clear hown' hown'' hgrow O2 B2
              go_wp2
              exact ⟨⟨k + 1, a4, c4, by omega, by go_num, rfl, O4, B4⟩, by simp [intOf]; omega⟩
          · obtain rfl : k = L.length := by omega
            have O4 := own_weak O2.out hs
            rw [← HN.out] at O4
            have EL : (Tm.pre L L.length).length = (Tm.thH (m + 1)).length := by rw [HN.out]
            have O5 := Lib.hid O4
            have B4 := Lib.hid (BB.out.trans (B2.out.mono hs))
            clear O4
            go_wp2_with fail
            exact ⟨⟨m + 1, a2, c2, by omega, by rw [EL], O5, B4⟩, by simp [Tm.lenV]; omega⟩
      · have LE : N ≤ (Tm.thH m).length := by omega
        have RE : Hid ((Tm.thH m).take N = Tm.thT.take N) := Lib.hid (Tm.take_of_prefix (Tm.thH_le hm) LE)
        have lt' : ¬ (((Tm.thH m).length : Int) < (N : Int)) := by omega
        rcases (Ints.of_own OO.out).2.2.2 with h0 | ⟨b, o, rfl, hbl, -⟩
        · have := (Tm.thH_le (Nat.zero_le m)).length_le
          rw [show (Tm.thH 0).length = 1 from rfl] at this
          omega
        have cp := (Ints.of_own OO.out).2.1
        have I1 := Lib.hid ((Ints.of_own OO.out).head N LE)
        rw [RE.out] at I1
        have TL : (Tm.thT.take N).length ≤ 500 := by rw [List.length_take]; omega
        obtain ⟨ys, hys⟩ : ∃ ys, ys = Tm.thT.take N := ⟨_, rfl⟩
        rw [← hys] at I1 TL
        have HY := Lib.hid hys
        clear hys
        have CP := Lib.hid (sCopyE _ _ _ _ _ I1.out (by omega))
        go_wp2_with (go_at_call 58; refine CP.out.mono ?_; rintro e w1 ⟨a1, c1, rfl, hown, hb, ln⟩)
        go_ret2
        rw [← HY.out]
        exact ret_own_b (own_weak hown hs) (BB.out.trans (hb.mono hs)) (by omega)
theorem iThuePart (t : Int) (w : World) : Calls Try.prog 64 #[.int .i64 t] w (RetI 3 w (Tm.part3 t)) := by
  by_cases c1 : t = 1
  · subst c1
    go_enter Try.func64, Try.ntmps64
    go_wp2
    go_ret
    exact ret_own (lit_own w (Tm.part3 1) _ (Nat.le_refl _) (by decide)) (by (repeat' (first | (with_reducible exact Below.refl _ _) | (with_reducible assumption) | (with_reducible refine below_drewN ?_ _) | (with_reducible refine Below.drew ?_) | (with_reducible refine Below.alloc ?_ ?_ _) | (with_reducible refine Below.setCell ?_ ?_ _) | (with_reducible refine below_gw ?_ ?_ _) | (with_reducible refine below_via ?_ ‹Below _ _ _› ?_) | (with_reducible exact Nat.le_refl _) | (with_reducible refine le_gw ?_ _) | (with_reducible refine le_alloc ?_ _) | (with_reducible refine le_setCell ?_ _ _) | (with_reducible refine le_drew ?_) | (with_reducible refine le_drewN ?_ _) | go_size))) (by decide)
  · by_cases c0 : t = 0
    · subst c0
      go_enter Try.func64, Try.ntmps64
      go_wp2
      go_ret
      exact ret_own (lit_own w (Tm.part3 0) _ (Nat.le_refl _) (by decide)) (by (repeat' (first | (with_reducible exact Below.refl _ _) | (with_reducible assumption) | (with_reducible refine below_drewN ?_ _) | (with_reducible refine Below.drew ?_) | (with_reducible refine Below.alloc ?_ ?_ _) | (with_reducible refine Below.setCell ?_ ?_ _) | (with_reducible refine below_gw ?_ ?_ _) | (with_reducible refine below_via ?_ ‹Below _ _ _› ?_) | (with_reducible exact Nat.le_refl _) | (with_reducible refine le_gw ?_ _) | (with_reducible refine le_alloc ?_ _) | (with_reducible refine le_setCell ?_ _ _) | (with_reducible refine le_drew ?_) | (with_reducible refine le_drewN ?_ _) | go_size))) (by decide)
    · have e : Tm.part3 t = [0] := by rw [Tm.part3, if_neg c1, if_neg c0]
      rw [e]
      have n1 : (t == 1) = false := by simpa using c1
      have n0 : (t == 0) = false := by simpa using c0
      go_enter Try.func64, Try.ntmps64
      go_wp2
      go_ret
      exact ret_own (lit_own w [0] _ (Nat.le_refl _) (by decide)) (by (repeat' (first | (with_reducible exact Below.refl _ _) | (with_reducible assumption) | (with_reducible refine below_drewN ?_ _) | (with_reducible refine Below.drew ?_) | (with_reducible refine Below.alloc ?_ ?_ _) | (with_reducible refine Below.setCell ?_ ?_ _) | (with_reducible refine below_gw ?_ ?_ _) | (with_reducible refine below_via ?_ ‹Below _ _ _› ?_) | (with_reducible exact Nat.le_refl _) | (with_reducible refine le_gw ?_ _) | (with_reducible refine le_alloc ?_ _) | (with_reducible refine le_setCell ?_ _ _) | (with_reducible refine le_drew ?_) | (with_reducible refine le_drewN ?_ _) | go_size))) (by decide)
set_option maxHeartbeats 2000000 in
theorem iThueTrits (n : Int) (w : World) : Calls Try.prog 38 #[.int .i64 n] w (RetIB 3 w (Tm.thue n) (Tm.thOk n)) := by
  obtain ⟨i0, hi, hz0, hz1, hz2⟩ := info_parts infoInt
  by_cases ho : Tm.thOk n = true
  · have nb := (Tm.inB_iff _ _ _).1 (show Tm.inB n 0 500 = true from ho)
    obtain ⟨n0, n5⟩ := nb
    obtain ⟨N, rfl⟩ : ∃ N : Nat, n = (N : Int) := ⟨n.toNat, by omega⟩
    have N5 : N ≤ 500 := by omega
    rw [Tm.thue, if_pos ho, ho, Int.toNat_natCast]
    clear ho
    go_enter Try.func38, Try.ntmps38
    go_wp2_with (go_at_call 64; refine (iThuePart _ _).mono ?_; rw [Tm.part3_i]; rintro e w1 ⟨a1, c1, rfl, hown, hb, -⟩)
    have O1 := Lib.hid hown
    have B1 := Lib.hid hb
    clear hown hb
    go_wp2_with fail
    go_loopw [4, 5] (fun v i wr => ∃ (k : Nat) (a' : Option Addr) (c' : Nat), 1 ≤ k ∧ k ≤ 600 ∧ i = .int .i64 k ∧ v = .slice a' (Tm.thF k).length c' ∧ (Tm.thF k).length ≤ 600 ∧ Hid (wr.ownsRow w.heap.size 3 1 (.slice a' (Tm.thF k).length c') (Tm.thF k).length ((Tm.thF k).map (Value.int .i64))) ∧ Hid (Below w.heap.size w wr)) (fun _ i _ => 600 - (intOf i).toNat)
    case atStart => exact ⟨1, a1, c1, by omega, by omega, rfl, by rw [Tm.thF_one]; rfl, by rw [Tm.thF_one]; decide, by rw [Tm.thF_one]; exact O1, B1⟩
    case round =>
      obtain ⟨k, a', c', k1, k6, rfl, rfl, LL, OO, BB⟩ := hrel
      have hs := BB.out.size
      have LK := Tm.thF_more k1 (by omega)
      by_cases hlt : (Tm.thF k).length < N
      · have FS := Lib.hid (Tm.thF_succ (i := k) (by omega))
        have FA := Tm.thF_at (i := k) (j := k) (by omega) (by omega)
        rcases (Ints.of_own OO.out).2.2.2 with h0 | ⟨b, o, rfl, hbl, hc⟩
        · omega
        have c1 := hc k (by omega)
        rw [FA] at c1
        have PL := Tm.part3_len (Tm.thT.getD k 0)
        have TP := Lib.hid (iThuePart (Tm.thT.getD k 0))
        have FL : (Tm.thF (k + 1)).length = (Tm.thF k).length + (Tm.part3 (Tm.thT.getD k 0)).length := by rw [FS.out, List.length_append]
        obtain ⟨t, ht⟩ : ∃ t, t = Tm.thT.getD k 0 := ⟨_, rfl⟩
        rw [← ht] at c1 FS TP PL FL
        obtain ⟨P, hP⟩ : ∃ P, P = Tm.thF k := ⟨_, rfl⟩
        rw [← hP] at OO FS LL LK hlt FL ⊢
        clear hc ht hP FA
        go_wp2_with fail
        refine (TP.out _).mono ?_
        rintro e w3 ⟨a3, c3, rfl, hown, hb, -⟩
        have O3 := Lib.hid (own_below OO.out hb)
        have I3 := Lib.hid (Ints.of_own hown)
        have B3 := Lib.hid (BB.out.trans (hb.mono hs))
        have hs3 := B3.out.size
        obtain ⟨pt, hpt⟩ : ∃ pt, pt = Tm.part3 t := ⟨_, rfl⟩
        rw [← hpt] at I3 FS PL FL ⊢
        obtain ⟨p1, p3⟩ := PL
        rcases I3.out.2.2.2 with h0 | ⟨b3, o3, rfl, hbl3, -⟩
        · omega
        clear hown hb hpt OO BB TP
        go_wp2_with (at_builtin; refine wpList_append_own _ rfl _ _ 22 rfl w.heap.size 3 i0 (.int .i64 0) 1 8 Try.underlying22 hi hz0 hz1 hz2 rfl (by decide) _ _ _ rfl O3.out ⟨b3, o3, none⟩ pt.length c3 (pt.map (Value.int .i64)) rfl (by simp) I3.out.newsAt (news_one _) (by unfold maxLen; omega) (by omega) (by omega) ?_)
        intro v' w4 hown' hgrow _
        have B4 : Hid (Below w.heap.size w w4) := Lib.hid (B3.out.grown hgrow hs3 (fun k hk => (O3.out.lt k hk).1))
        rw [← List.map_append, ← FS.out, ← FL] at hown'
        obtain ⟨a4, c4, rfl⟩ := own_form hown'
        have O4 := Lib.hid hown'
        clear hown' hgrow O3 B3 I3
        go_wp2
        exact ⟨⟨k + 1, a4, c4, by omega, by omega, by go_num, rfl, by omega, O4, B4⟩, by simp [intOf]; omega⟩
      · have LE : N ≤ (Tm.thF k).length := by omega
        have RE : Hid ((Tm.thF k).take N = Tm.thT.take N) := Lib.hid (Tm.take_of_prefix (Tm.thF_prefix (by omega)) LE)
        have lt' : ¬ (((Tm.thF k).length : Int) < (N : Int)) := by omega
        have O4 := own_cut OO.out LE
        rw [← List.map_take, RE.out] at O4
        have O5 := Lib.hid O4
        clear O4
        have cp := (Ints.of_own OO.out).2.1
        have TL : (Tm.thT.take N).length = N := by rw [List.length_take, Tm.thT_len]; omega
        go_wp2
        go_ret2
        exact ret_own_b (n := N) O5.out BB.out (by omega)
  · simp only [Bool.not_eq_true] at ho
    have nb := (Tm.inB_no _ _ _).1 (show Tm.inB n 0 500 = false from ho)
    rw [Tm.thue, ho]
    clear ho
    by_cases h1 : n < 0
    · go_enter Try.func38, Try.ntmps38
      go_wp2
      go_ret2
      exact ret_nil_b (by (repeat' (first | (with_reducible exact Below.refl _ _) | (with_reducible assumption) | (with_reducible refine below_drewN ?_ _) | (with_reducible refine Below.drew ?_) | (with_reducible refine Below.alloc ?_ ?_ _) | (with_reducible refine Below.setCell ?_ ?_ _) | (with_reducible refine below_gw ?_ ?_ _) | (with_reducible refine below_via ?_ ‹Below _ _ _› ?_) | (with_reducible exact Nat.le_refl _) | (with_reducible refine le_gw ?_ _) | (with_reducible refine le_alloc ?_ _) | (with_reducible refine le_setCell ?_ _ _) | (with_reducible refine le_drew ?_) | (with_reducible refine le_drewN ?_ _) | go_size)))
    · have h2 : 500 < n := by omega
      go_enter Try.func38, Try.ntmps38
      go_wp2
      go_ret2
      exact ret_nil_b (by (repeat' (first | (with_reducible exact Below.refl _ _) | (with_reducible assumption) | (with_reducible refine below_drewN ?_ _) | (with_reducible refine Below.drew ?_) | (with_reducible refine Below.alloc ?_ ?_ _) | (with_reducible refine Below.setCell ?_ ?_ _) | (with_reducible refine below_gw ?_ ?_ _) | (with_reducible refine below_via ?_ ‹Below _ _ _› ?_) | (with_reducible exact Nat.le_refl _) | (with_reducible refine le_gw ?_ _) | (with_reducible refine le_alloc ?_ _) | (with_reducible refine le_setCell ?_ _ _) | (with_reducible refine le_drew ?_) | (with_reducible refine le_drewN ?_ _) | go_size)))
end Go.Proofs.Ytfmpnkckaceigaa

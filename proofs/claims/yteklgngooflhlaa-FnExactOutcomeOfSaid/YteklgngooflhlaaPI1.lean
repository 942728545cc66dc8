/- The program's products: partial products, products, cut products. -/
import Derived.Test.YteklgngooflhlaaPS3
import Derived.Test.YteklgngooflhlaaWI4
import Derived.Test.YteklgngooflhlaaRowL
namespace Go.Proofs.Yteklgngooflhlaa
set_option maxRecDepth 20000
open Go.RowKit
namespace Tm
theorem mulOk_join (xs ys : List Int) : mulOk xs ys = joinOk xs ys := rfl
end Tm
namespace Tm
theorem slc_cut {xs ys : List Int} (k : Int) (h : mulOk xs ys = true) : slcOk (mulW xs ys) k ((mulW xs ys).length : Int) = cutOk xs ys k ∧ slc (mulW xs ys) k ((mulW xs ys).length : Int) = cutW xs ys k := by
  have f := mul_facts h
  have e : slcOk (mulW xs ys) k ((mulW xs ys).length : Int) = cutOk xs ys k := by
    rw [slcOk, cutOk, h, f.1, f.2.2, Bool.eq_iff_iff]; simp; omega
  refine ⟨e, ?_⟩
  rw [slc, cutW, e]
  split
  · rw [part, Int.toNat_natCast, List.take_of_length_le (by rw [List.length_drop]; omega)]
  · rfl
end Tm
namespace Tm
theorem partG_low {xs ys : List Int} {i j : Nat} (h : j < i) : partF xs ys i j = 0 := by rw [partF, if_neg (by omega)]
theorem partG_at (xs ys : List Int) (i k : Nat) : partF xs ys i (i + k) = xs.getD k 0 * ys.getD i 0 := by rw [partF, if_pos (by omega), Nat.add_sub_cancel_left]
theorem partG_high {xs ys : List Int} {i j : Nat} (h : i + xs.length ≤ j) : partF xs ys i j = 0 := by
  rw [partF, if_pos (by omega), getD_beyond _ _ (by omega), Int.zero_mul]
theorem times_mul {a b : Int} (ha : -1 ≤ a ∧ a ≤ 1) (hb : -1 ≤ b ∧ b ≤ 1) : times a b = a * b := by
  rw [times, (isT_iff a).2 ha, (isT_iff b).2 hb]; rfl
end Tm
set_option maxHeartbeats 2000000 in
theorem iPartialOf (a : Option Addr) (n cap : Nat) (xs ys : List Int) (k M : Nat) (y : Int) (w : World) (h : Ints w a n cap xs) (hx : Tm.isW xs = true) (hy : Tm.isW ys = true) (hyy : y = ys.getD k 0) (hk : k < ys.length) (hM : M = xs.length + ys.length) (hl : M ≤ 30) :
    Calls Try.prog 84 #[.slice a n cap, .int .i64 y, .int .i64 k, .int .i64 M] w (RetI 3 w (Tm.partR xs ys k)) := by
  obtain ⟨i0, hi, hz0, hz1, hz2⟩ := info_parts infoInt
  have H := Lib.hid h
  obtain rfl : n = xs.length := h.1.symm
  have HX := Lib.hid hx
  have by1 := Tm.isW_at hy k
  rw [← hyy] at by1
  have BY := Lib.hid by1
  have lx := Tm.isW_pos hx
  have YY := Lib.hid hyy
  have MM := Lib.hid hM
  have M1 : k + xs.length < M := by omega
  clear h hx hy hyy by1
  rcases H.out.2.2.2 with h0 | ⟨b1, o1, e1, hbl, -⟩
  · omega
  subst e1
  obtain ⟨G, hG⟩ : ∃ G, G = w.heap.size := ⟨_, rfl⟩
  clear hM
  go_enter Try.func84, Try.ntmps84
  go_wp2_with (at_make; refine wpList_make_full _ rfl _ _ 24 rfl (w.heap.size) 3 i0 (.int .i64 0) 1 Try.underlying24 hi hz0 hz1 _ _ _ _ (M) rfl rfl (by first | rfl | omega) (by first | rfl | omega) (by rw [hz2]; omega) (by unfold maxLen; omega) (by first | go_size | (simp only [gw_size, World.size_alloc]; omega) | exact Nat.le_refl _ | omega) ?_)
  intro w1 hown hgrow
  have hown0 := rowV_own hown
  have B1 := Lib.hid ((Below.refl w.heap.size w).grown hgrow (Nat.le_refl _) (fun k hk => by cases hk))
  rw [← hG] at hown0 B1 hbl
  clear hown hgrow
  rw [← hG]
  have HG := Lib.hid hG
  clear hG
  go_wp2_with fail
  go_loopw [16] (fun i wt => ∃ (q : Nat) (g : Nat → Int), q ≤ xs.length ∧ i = .int .i64 q ∧ Hid (wt.ownsRow G 3 1 (.slice (some ⟨G, 0, none⟩) M M) M (rowV M g)) ∧ Hid (∀ j, j < M → g j = if j < k + q then Tm.partF xs ys k j else 0) ∧ Hid (Below G w wt)) (fun i _ => xs.length - (intOf i).toNat)
  case atStart => exact ⟨0, _, by omega, rfl, Lib.hid hown0, Lib.hid (fun j hj => by split; exact (Tm.partG_low (by omega)).symm; rfl), B1⟩
  case round =>
    clear hown0 B1
    obtain ⟨q, g, hq, rfl, RW, GG, BT⟩ := hrel
    by_cases hqt : q < xs.length
    · have cx := Ints.cell_low H.out hbl hqt BT.out
      have bx := Tm.isW_at HX.out q
      obtain ⟨x, hxx⟩ : ∃ x, x = xs.getD q 0 := ⟨_, rfl⟩
      rw [← hxx] at cx bx
      have TM := Lib.hid (Tm.times_mul bx BY.out)
      have EP : Hid (Tm.partF xs ys k (k + q) = x * y) := Lib.hid (by rw [Tm.partG_at, hxx, YY.out])
      have fz := RW.out.frozenAt (k + q)
      have ck := own_cell RW.out (k + q) (by omega)
      have PT := Lib.hid (own_put RW.out (k + q) (Tm.times x y))
      have gsz := (own_base RW.out).2
      obtain ⟨gk, hgk⟩ : ∃ gk, gk = g (k + q) := ⟨_, rfl⟩
      rw [← hgk] at ck
      have q1 : IntKind.i64.wrap ((k : Int) + (q : Int)) = (k : Int) + q := IntWalk.i64_in _ (by omega)
      have q2 : (0 : Int) ≤ (k : Int) + q := by omega
      have q3 : (k : Int) + q < (M : Int) := by omega
      have q4 : ((k : Int) + (q : Int)).toNat = k + q := by omega
      clear hxx hgk RW bx
      go_wp2_with ((go_at_call 103; refine (iTimesTrits _ _ _).mono ?_; rintro e w1 ⟨rfl, rfl⟩))
      refine ⟨⟨q + 1, _, by omega, by go_num, Lib.hid PT.out.1, Lib.hid (fun j hj => ?_), Lib.hid (BT.out.grown PT.out.2 (by have := BT.out.size; rw [← HG.out] at this; exact this) (fun j hj => by cases hj; exact Nat.le_refl _))⟩, by simp [intOf]; omega⟩
      by_cases e : j = k + q
      · subst e; rw [upd_at, if_pos (by omega), EP.out, TM.out]
      · rw [upd_ne _ _ _ e, GG.out j hj]
        by_cases c : j < k + q
        · rw [if_pos c, if_pos (by omega)]
        · rw [if_neg c, if_neg (by omega)]
    · obtain rfl : q = xs.length := by omega
      have ER : Hid (rowV M g = (Tm.partR xs ys k).map (Value.int .i64)) := Lib.hid (by
        rw [Tm.partR, ← MM.out, ← rowV_gen]
        refine rowV_congr fun j hj => ?_
        rw [GG.out j hj]
        split
        · rfl
        · exact (Tm.partG_high (by omega)).symm)
      have RW2 := Lib.hid RW.out
      rw [ER.out] at RW2
      go_wp2_with fail
      go_ret
      have hown := RW2.out
      have hbt := BT.out
      have e := HG.out
      subst e
      exact ret_own hown hbt (by omega)
end Go.Proofs.Yteklgngooflhlaa

/- Contracts of the program's functions of words, on: parts of words, sums, reversed words. -/
import Derived.Test.YtfnhoiomdjmjhaaDoorWI2
import Derived.Deep.RegionLaw
namespace Go.Proofs.YtfnhoiomdjmjhaaDoor
set_option maxRecDepth 20000
open Go.RowKit
theorem splice_all {α : Type} (L cs : List α) (h : cs.length = L.length) : splice L 0 cs = cs := by
  simp [splice, h]
theorem splice_high (m n : Nat) (ys : List Int) (h : ys.length = n) : splice (rowV (m + n) fun _ => 0) m (ys.map (Value.int .i64)) = (List.replicate m (0 : Int) ++ ys).map (Value.int .i64) := by
  rw [splice, rowV_zero, List.map_append, List.map_replicate, List.take_replicate, List.drop_replicate, List.length_map, h, Nat.sub_self, Nat.min_eq_left (by omega)]; simp
theorem sizeInt : (Tryd.prog.info? 3).map (·.size) = some 1 := by kernel_rfl
theorem iSliceWord (a : Option Addr) (n cap : Nat) (xs : List Int) (f t : Int) (w : World) (h : Ints w a n cap xs) : Calls Tryd.prog 84 #[.slice a n cap, .int .i64 f, .int .i64 t] w (RetIB 3 w (Tm.slc xs f t) (Tm.slcOk xs f t)) := by
  obtain ⟨i0, hi, hz0, hz1, hz2⟩ := info_parts infoInt
  have H := Lib.hid h
  obtain rfl : n = xs.length := h.1.symm
  have hcap : xs.length ≤ cap := h.2.1
  have hcm := h.2.2.1
  unfold maxLen at hcm
  clear h
  by_cases hw : Tm.isW xs = true
  · have hl := (Tm.isW_iff xs).1 hw
    obtain ⟨-, l1, l2⟩ := hl
    by_cases hk : 0 ≤ f ∧ t ≤ xs.length ∧ f < t
    · obtain ⟨k1, k2, k3⟩ := hk
      have ho : Tm.slcOk xs f t = true := by simp [Tm.slcOk, hw, k1, k2, k3]
      rw [Tm.slc, if_pos ho, ho]
      clear ho
      obtain ⟨f, rfl⟩ := Int.eq_ofNat_of_zero_le k1
      obtain ⟨t, rfl⟩ := Int.eq_ofNat_of_zero_le (show 0 ≤ t by omega)
      rw [Int.toNat_natCast, Int.toNat_natCast]
      rcases H.out.2.2.2 with e | ⟨b, o, rfl, hbl, -⟩
      · omega
      have pl := Tm.part_length xs f t (by omega)
      have PL := Lib.hid pl
      clear pl
      go_enter Tryd.func84, Tryd.ntmps84
      go_wp2_with (first | (go_at_call 79; refine (iIsWord _ _ _ xs _ H.out).mono ?_; rintro e w1 ⟨rfl, rfl⟩) | (at_make; refine wpList_make_full _ rfl _ _ 25 rfl (w.heap.size) 3 i0 (.int .i64 0) 1 Tryd.underlying25 hi hz0 hz1 _ _ _ _ (t - f) rfl rfl (by first | rfl | omega) (by first | rfl | omega) (by rw [hz2]; omega) (by unfold maxLen; omega) (by first | go_size | (simp only [gw_size, World.size_alloc]; omega) | exact Nat.le_refl _ | omega) ?_))
      intro w1 hown hgrow
      have hown0 := rowV_own hown
      have hb0 : Below w.heap.size w w1 := (Below.refl _ _).grown hgrow (Nat.le_refl _) (fun k hk => by cases hk)
      have HP := Lib.hid ((H.out.below hb0).part f t (by omega) (by omega))
      rcases HP.out.2.2.2 with e | ⟨b', o', e, hbl', hc⟩
      · omega
      cases e
      have HN := Lib.hid (news_of PL.out hc)
      have HG := Lib.hid (own_heap hown0)
      clear hown hgrow hown0 hc
      go_wp2_with (first | (go_at_call 90; go_in) | (with_reducible refine at_copy ?_; refine wpList_copy_splice rfl _ _ 25 25 rfl 3 Tryd.underlying25 sizeInt _ _ _ _ _ _ rfl rfl w.heap.size 0 (rowV (t - f) fun _ => 0) 3 HG.out ((Tm.part xs f t).map (Value.int .i64)) (by rw [List.length_map, PL.out]; exact (Nat.min_self _).symm) (fun _ => ⟨rfl, _, rfl, HN.out⟩) (by rw [List.length_map, PL.out, rowV_length]; omega) (news_one _) w.heap.size w hb0 (Nat.le_refl _) ?_))
      intro w2 HG2 hb2
      go_wp2
      go_ret2
      have hg2 := HG2.out
      rw [splice_all _ _ (by rw [List.length_map, PL.out, rowV_length])] at hg2
      exact ret_own_b (own_of_heap hg2 (Nat.le_refl _) (by unfold maxLen; omega) (by rw [List.length_map, PL.out])) hb2 (by omega)
    · have ho : Tm.slcOk xs f t = false := by simp [Tm.slcOk]; omega
      rw [Tm.slc, ho]
      rcases (show f < 0 ∨ (0 ≤ f ∧ (xs.length : Int) < t) ∨ (0 ≤ f ∧ t ≤ (xs.length : Int) ∧ t ≤ f) by omega) with c | ⟨c1, c⟩ | ⟨c1, c2, c⟩
      all_goals
        go_enter Tryd.func84, Tryd.ntmps84
        go_wp2_with (first | (go_at_call 79; refine (iIsWord _ _ _ xs _ H.out).mono ?_; rintro e w1 ⟨rfl, rfl⟩))
        go_ret2
        exact ret_nil_b (by (repeat' (first | (with_reducible exact Below.refl _ _) | (with_reducible assumption) | (with_reducible refine below_drewN ?_ _) | (with_reducible refine Below.drew ?_) | (with_reducible refine Below.alloc ?_ ?_ _) | (with_reducible refine Below.setCell ?_ ?_ _) | (with_reducible refine below_gw ?_ ?_ _) | (with_reducible refine below_via ?_ ‹Below _ _ _› ?_) | (with_reducible exact Nat.le_refl _) | (with_reducible refine le_gw ?_ _) | (with_reducible refine le_alloc ?_ _) | (with_reducible refine le_setCell ?_ _ _) | (with_reducible refine le_drew ?_) | (with_reducible refine le_drewN ?_ _) | go_size)))
  · simp only [Bool.not_eq_true] at hw
    have ho : Tm.slcOk xs f t = false := by simp [Tm.slcOk, hw]
    rw [Tm.slc, ho]
    go_enter Tryd.func84, Tryd.ntmps84
    go_wp2_with (first | (go_at_call 79; refine (iIsWord _ _ _ xs _ H.out).mono ?_; rintro e w1 ⟨rfl, rfl⟩))
    go_ret2
    exact ret_nil_b (by (repeat' (first | (with_reducible exact Below.refl _ _) | (with_reducible assumption) | (with_reducible refine below_drewN ?_ _) | (with_reducible refine Below.drew ?_) | (with_reducible refine Below.alloc ?_ ?_ _) | (with_reducible refine Below.setCell ?_ ?_ _) | (with_reducible refine below_gw ?_ ?_ _) | (with_reducible refine below_via ?_ ‹Below _ _ _› ?_) | (with_reducible exact Nat.le_refl _) | (with_reducible refine le_gw ?_ _) | (with_reducible refine le_alloc ?_ _) | (with_reducible refine le_setCell ?_ _ _) | (with_reducible refine le_drew ?_) | (with_reducible refine le_drewN ?_ _) | go_size)))
theorem iShiftWord (a : Option Addr) (n cap : Nat) (xs : List Int) (k : Int) (w : World) (h : Ints w a n cap xs) : Calls Tryd.prog 75 #[.slice a n cap, .int .i64 k] w (RetIB 3 w (Tm.shf xs k) (Tm.shfOk xs k)) := by
  obtain ⟨i0, hi, hz0, hz1, hz2⟩ := info_parts infoInt
  have H := Lib.hid h
  have hn : xs.length = n := h.1
  have hcap : n ≤ cap := h.2.1
  have hcm := h.2.2.1
  unfold maxLen at hcm
  clear h
  by_cases hw : Tm.isW xs = true
  · have hl := (Tm.isW_iff xs).1 hw
    obtain ⟨-, l1, l2⟩ := hl
    rw [hn] at l1 l2
    by_cases hk : k ≤ 30 - (n : Int)
    · have ho : Tm.shfOk xs k = true := by simp [Tm.shfOk, hw, hn, hk]
      rw [Tm.shf, if_pos ho, ho]
      clear ho
      by_cases h0 : 0 ≤ k
      · rw [if_pos h0]
        obtain ⟨m, rfl⟩ := Int.eq_ofNat_of_zero_le h0
        rw [Int.toNat_natCast]
        have HL := Lib.hid hn
        clear hn
        go_enter Tryd.func75, Tryd.ntmps75
        go_wp2_with (first | (go_at_call 79; refine (iIsWord _ _ _ xs _ H.out).mono ?_; rintro e w1 ⟨rfl, rfl⟩) | (at_make; refine wpList_make_full _ rfl _ _ 25 rfl (w.heap.size) 3 i0 (.int .i64 0) 1 Tryd.underlying25 hi hz0 hz1 _ _ _ _ (m + n) rfl rfl (by first | rfl | omega) (by first | rfl | omega) (by rw [hz2]; omega) (by unfold maxLen; omega) (by first | go_size | (simp only [gw_size, World.size_alloc]; omega) | exact Nat.le_refl _ | omega) ?_))
        intro w1 hown hgrow
        have hown0 := rowV_own hown
        have hb0 : Below w.heap.size w w1 := (Below.refl _ _).grown hgrow (Nat.le_refl _) (fun k hk => by cases hk)
        rcases (H.out.below hb0).2.2.2 with e | ⟨b', o', rfl, hbl', hc⟩
        · omega
        have HN := Lib.hid (news_of HL.out hc)
        have HG := Lib.hid (own_heap hown0)
        clear hown hgrow hown0 hc
        go_wp2_with (with_reducible refine at_copy ?_; refine wpList_copy_splice rfl _ _ 25 25 rfl 3 Tryd.underlying25 sizeInt _ _ _ _ _ _ rfl rfl w.heap.size m (rowV (m + n) fun _ => 0) 3 HG.out (xs.map (Value.int .i64)) (by rw [List.length_map, HL.out]; simp) (fun _ => ⟨by simp, _, rfl, HN.out⟩) (by rw [List.length_map, rowV_length, HL.out]; omega) (news_one _) w.heap.size w hb0 (Nat.le_refl _) ?_)
        intro w2 HG2 hb2
        go_wp2
        go_ret2
        have hg2 := HG2.out
        rw [splice_high _ _ _ HL.out] at hg2
        exact ret_own_b (own_of_heap hg2 (Nat.le_refl _) (by unfold maxLen; omega) (by simp [HL.out])) hb2 (by omega)
      · rw [if_neg h0]
        by_cases h1 : k ≤ -(n : Int)
        · rw [if_pos (by rw [hn]; exact h1)]
          have HL := Lib.hid hn
          clear hn
          go_enter Tryd.func75, Tryd.ntmps75
          go_wp2_with (first | (go_at_call 79; refine (iIsWord _ _ _ xs _ H.out).mono ?_; rintro e w1 ⟨rfl, rfl⟩))
          go_ret2
          exact ret_own_b (own_one w _ _ 0 (Nat.le_refl _)) (by (repeat' (first | (with_reducible exact Below.refl _ _) | (with_reducible assumption) | (with_reducible refine below_drewN ?_ _) | (with_reducible refine Below.drew ?_) | (with_reducible refine Below.alloc ?_ ?_ _) | (with_reducible refine Below.setCell ?_ ?_ _) | (with_reducible refine below_gw ?_ ?_ _) | (with_reducible refine below_via ?_ ‹Below _ _ _› ?_) | (with_reducible exact Nat.le_refl _) | (with_reducible refine le_gw ?_ _) | (with_reducible refine le_alloc ?_ _) | (with_reducible refine le_setCell ?_ _ _) | (with_reducible refine le_drew ?_) | (with_reducible refine le_drewN ?_ _) | go_size))) (by omega)
        · rw [if_neg (by rw [hn]; exact h1)]
          have e : xs.drop (-k).toNat = Tm.slc xs (-k) n ∧ Tm.slcOk xs (-k) n = true := by
            have ho : Tm.slcOk xs (-k) n = true := by simp only [Tm.slcOk, hw, Bool.true_and, decide_eq_true_eq]; omega
            refine ⟨?_, ho⟩
            rw [Tm.slc, if_pos ho, Tm.part, Int.toNat_natCast, List.take_of_length_le (by simp [hn])]
          rw [e.1, ← e.2]
          have HL := Lib.hid hn
          clear e hn
          go_enter Tryd.func75, Tryd.ntmps75
          go_wp2_with (first | (go_at_call 79; refine (iIsWord _ _ _ xs _ H.out).mono ?_; rintro e w1 ⟨rfl, rfl⟩) | (go_at_call 84; refine (iSliceWord _ _ _ _ _ _ _ H.out).mono ?_; rintro e w1 ⟨a1, c1, rfl, hown, hb, ln⟩))
          go_ret2
          exact ret_own_b hown hb ln
    · have ho : Tm.shfOk xs k = false := by simp [Tm.shfOk, hn, hk]
      rw [Tm.shf, ho]
      clear hn
      go_enter Tryd.func75, Tryd.ntmps75
      go_wp2_with (first | (go_at_call 79; refine (iIsWord _ _ _ xs _ H.out).mono ?_; rintro e w1 ⟨rfl, rfl⟩))
      go_ret2
      exact ret_nil_b (by (repeat' (first | (with_reducible exact Below.refl _ _) | (with_reducible assumption) | (with_reducible refine below_drewN ?_ _) | (with_reducible refine Below.drew ?_) | (with_reducible refine Below.alloc ?_ ?_ _) | (with_reducible refine Below.setCell ?_ ?_ _) | (with_reducible refine below_gw ?_ ?_ _) | (with_reducible refine below_via ?_ ‹Below _ _ _› ?_) | (with_reducible exact Nat.le_refl _) | (with_reducible refine le_gw ?_ _) | (with_reducible refine le_alloc ?_ _) | (with_reducible refine le_setCell ?_ _ _) | (with_reducible refine le_drew ?_) | (with_reducible refine le_drewN ?_ _) | go_size)))
  · simp only [Bool.not_eq_true] at hw
    have ho : Tm.shfOk xs k = false := by simp [Tm.shfOk, hw]
    rw [Tm.shf, ho]
    clear hn
    go_enter Tryd.func75, Tryd.ntmps75
    go_wp2_with (first | (go_at_call 79; refine (iIsWord _ _ _ xs _ H.out).mono ?_; rintro e w1 ⟨rfl, rfl⟩))
    go_ret2
    exact ret_nil_b (by (repeat' (first | (with_reducible exact Below.refl _ _) | (with_reducible assumption) | (with_reducible refine below_drewN ?_ _) | (with_reducible refine Below.drew ?_) | (with_reducible refine Below.alloc ?_ ?_ _) | (with_reducible refine Below.setCell ?_ ?_ _) | (with_reducible refine below_gw ?_ ?_ _) | (with_reducible refine below_via ?_ ‹Below _ _ _› ?_) | (with_reducible exact Nat.le_refl _) | (with_reducible refine le_gw ?_ _) | (with_reducible refine le_alloc ?_ _) | (with_reducible refine le_setCell ?_ _ _) | (with_reducible refine le_drew ?_) | (with_reducible refine le_drewN ?_ _) | go_size)))
end Go.Proofs.YtfnhoiomdjmjhaaDoor

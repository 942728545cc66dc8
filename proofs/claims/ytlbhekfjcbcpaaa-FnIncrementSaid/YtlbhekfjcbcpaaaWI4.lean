/- Contracts of the program's functions of words, on: rounded and joined words, sums, reversed words. -/
import Derived.Test.YtlbhekfjcbcpaaaWI2
import Derived.Deep.RegionLaw
namespace Go.Proofs.Ytlbhekfjcbcpaaa
set_option maxRecDepth 20000
open Go.RowKit
theorem sizeInt4 : (Try.prog.info? 3).map (·.size) = some 1 := by kernel_rfl
theorem splice_rnd (xs : List Int) (k : Nat) (h : k ≤ xs.length) : splice (rowV xs.length fun _ => 0) k ((xs.drop k).map (Value.int .i64)) = (Tm.rndL xs k).map (Value.int .i64) := by
  have e : (rowV xs.length fun _ => (0 : Int)).drop xs.length = [] := List.drop_of_length_le (by rw [rowV_length]; exact Nat.le_refl _)
  rw [splice, List.length_map, List.length_drop, show k + (xs.length - k) = xs.length from by omega, e, List.append_nil]
  apply List.ext_getElem?
  intro i
  rw [List.getElem?_append, List.length_take, rowV_length, Nat.min_eq_left h]
  by_cases hi : i < k
  · rw [if_pos hi, List.getElem?_take, if_pos hi, rowV_get _ _ _ (by omega), List.getElem?_map]
    simp [Tm.rndL, show i < xs.length by omega, hi]
  · rw [if_neg hi, List.getElem?_map, List.getElem?_map, List.getElem?_drop, show k + (i - k) = i from by omega]
    by_cases h2 : i < xs.length
    · simp [Tm.rndL, h2, hi, List.getD_eq_getElem?_getD]
    · rw [List.getElem?_eq_none (by omega), List.getElem?_eq_none (by rw [Tm.rndL_length]; omega)]
theorem iRoundWord (a : Option Addr) (n cap : Nat) (xs : List Int) (k : Int) (w : World) (h : Ints w a n cap xs) : Calls Try.prog 31 #[.slice a n cap, .int .i64 k] w (RetIB 3 w (Tm.rnd xs k) (Tm.rndOk xs k)) := by
  obtain ⟨i0, hi, hz0, hz1, hz2⟩ := info_parts infoInt
  have H := Lib.hid h
  obtain rfl : n = xs.length := h.1.symm
  have hcap : xs.length ≤ cap := h.2.1
  have hcm := h.2.2.1
  unfold maxLen at hcm
  clear h
  by_cases hw : Tm.isW xs = true
  · have hl := (Tm.isW_iff xs).1 hw
    obtain ⟨-, l1, l2⟩ := hl
    by_cases hk : Tm.inB k 0 xs.length = true
    · have hk' := (Tm.inB_iff _ _ _).1 hk
      obtain ⟨k1, k2⟩ := hk'
      have ho : Tm.rndOk xs k = true := by simp [Tm.rndOk, hw, hk]
      rw [Tm.rnd, if_pos ho, ho]
      clear ho hk
      obtain ⟨m, rfl⟩ := Int.eq_ofNat_of_zero_le k1
      rw [Int.toNat_natCast]
      go_enter Try.func31, Try.ntmps31
      go_wp2_with (first | (go_at_call 57; refine (iIsWord _ _ _ xs _ H.out).mono ?_; rintro e w1 ⟨rfl, rfl⟩) | (at_make; refine wpList_make_full _ rfl _ _ 23 rfl (w.heap.size) 3 i0 (.int .i64 0) 1 Try.underlying23 hi hz0 hz1 _ _ _ _ (xs.length) rfl rfl (by first | rfl | omega) (by first | rfl | omega) (by rw [hz2]; omega) (by unfold maxLen; omega) (by first | go_size | (simp only [gw_size, World.size_alloc]; omega) | exact Nat.le_refl _ | omega) ?_))
      intro w1 hown hgrow
      have hown0 := rowV_own hown
      have hb0 : Below w.heap.size w w1 := (Below.refl _ _).grown hgrow (Nat.le_refl _) (fun k hk => by cases hk)
      rcases (H.out.below hb0).2.2.2 with e | ⟨b', o', rfl, hbl', hc⟩
      · omega
      have HN : Hid (∀ j v, ((xs.drop m).map (Value.int .i64))[j]? = some v → w1.cell? ((⟨b', o' + m, none⟩ : Addr).add j) = some v) := by
        refine Lib.hid fun j v hj => ?_
        rw [List.getElem?_map, List.getElem?_drop] at hj
        by_cases hl : m + j < xs.length
        · rw [List.getElem?_eq_getElem hl] at hj
          have := hc (m + j) hl
          rw [← getD_at xs (m + j) hl] at this
          rw [Go.WideShapes.add_plain, Nat.add_assoc, this]
          simpa using hj
        · rw [List.getElem?_eq_none (by omega)] at hj; cases hj
      have HG := Lib.hid (own_heap hown0)
      clear hown hgrow hown0 hc hw
      by_cases hm : xs.length = m
      · subst hm
        have e0 : splice (rowV xs.length fun _ => 0) 0 [] = (Tm.rndL xs xs.length).map (Value.int .i64) := by
          rw [← splice_rnd xs xs.length (Nat.le_refl _), List.drop_length]; simp [splice]
        have E0 := Lib.hid e0
        clear e0
        by_cases hc : cap = xs.length
        · subst hc
          go_wp2_with fail
          go_region_law (refine step_copy_splice rfl _ _ 23 23 rfl 3 Try.underlying23 sizeInt4 (some ⟨w.heap.size, 0, none⟩) (some ⟨b', o', none⟩) 0 0 0 0 (by kernel_rfl) (by kernel_rfl) w.heap.size 0 (rowV xs.length fun _ => 0) 3 (by exact HG.out) [] (by rfl) (by intro hp; simp at hp) (by simp) (by simp) w.heap.size w (by (repeat' (first | (with_reducible exact Below.refl _ _) | (with_reducible assumption) | (with_reducible refine below_drewN ?_ _) | (with_reducible refine Below.drew ?_) | (with_reducible refine Below.alloc ?_ ?_ _) | (with_reducible refine Below.setCell ?_ ?_ _) | (with_reducible refine below_gw ?_ ?_ _) | (with_reducible refine below_via ?_ ‹Below _ _ _› ?_) | (with_reducible exact Nat.le_refl _) | (with_reducible refine le_gw ?_ _) | (with_reducible refine le_alloc ?_ _) | (with_reducible refine le_setCell ?_ _ _) | (with_reducible refine le_drew ?_) | (with_reducible refine le_drewN ?_ _) | go_size))) (Nat.le_refl _) ?_; intro w2 HG2 hb2)
          go_wp2
          go_ret2
          have hg2 := HG2.out
          rw [E0.out] at hg2
          exact ret_own_b (own_of_heap hg2 (Nat.le_refl _) (by unfold maxLen; omega) (by simp [Tm.rndL])) hb2 (by omega)
        · go_wp2_with fail
          go_region_law (refine step_copy_splice rfl _ _ 23 23 rfl 3 Try.underlying23 sizeInt4 (some ⟨w.heap.size, 0, none⟩) (some ⟨b', o' + xs.length, none⟩) 0 0 0 (cap - xs.length) (by kernel_rfl) (by kernel_rfl) w.heap.size 0 (rowV xs.length fun _ => 0) 3 (by exact HG.out) [] (by rfl) (by intro hp; simp at hp) (by simp) (by simp) w.heap.size w (by (repeat' (first | (with_reducible exact Below.refl _ _) | (with_reducible assumption) | (with_reducible refine below_drewN ?_ _) | (with_reducible refine Below.drew ?_) | (with_reducible refine Below.alloc ?_ ?_ _) | (with_reducible refine Below.setCell ?_ ?_ _) | (with_reducible refine below_gw ?_ ?_ _) | (with_reducible refine below_via ?_ ‹Below _ _ _› ?_) | (with_reducible exact Nat.le_refl _) | (with_reducible refine le_gw ?_ _) | (with_reducible refine le_alloc ?_ _) | (with_reducible refine le_setCell ?_ _ _) | (with_reducible refine le_drew ?_) | (with_reducible refine le_drewN ?_ _) | go_size))) (Nat.le_refl _) ?_; intro w2 HG2 hb2)
          go_wp2
          go_ret2
          have hg2 := HG2.out
          rw [E0.out] at hg2
          exact ret_own_b (own_of_heap hg2 (Nat.le_refl _) (by unfold maxLen; omega) (by simp [Tm.rndL])) hb2 (by omega)
      · have hcc : ¬ cap = m := by omega
        go_wp2_with fail
        go_region_law (refine step_copy_splice rfl _ _ 23 23 rfl 3 Try.underlying23 sizeInt4 (some ⟨w.heap.size, m, none⟩) (some ⟨b', o' + m, none⟩) (xs.length - m) (xs.length - m) (xs.length - m) (cap - m) (by kernel_rfl) (by kernel_rfl) w.heap.size m (rowV xs.length fun _ => 0) 3 (by exact HG.out) ((xs.drop m).map (Value.int .i64)) (by simp) (by intro hp; exact ⟨rfl, _, rfl, HN.out⟩) (by rw [List.length_map, List.length_drop, rowV_length]; omega) (news_one _) w.heap.size w (by (repeat' (first | (with_reducible exact Below.refl _ _) | (with_reducible assumption) | (with_reducible refine below_drewN ?_ _) | (with_reducible refine Below.drew ?_) | (with_reducible refine Below.alloc ?_ ?_ _) | (with_reducible refine Below.setCell ?_ ?_ _) | (with_reducible refine below_gw ?_ ?_ _) | (with_reducible refine below_via ?_ ‹Below _ _ _› ?_) | (with_reducible exact Nat.le_refl _) | (with_reducible refine le_gw ?_ _) | (with_reducible refine le_alloc ?_ _) | (with_reducible refine le_setCell ?_ _ _) | (with_reducible refine le_drew ?_) | (with_reducible refine le_drewN ?_ _) | go_size))) (Nat.le_refl _) ?_; intro w2 HG2 hb2)
        go_wp2
        go_ret2
        have hg2 := HG2.out
        rw [splice_rnd _ _ (by omega)] at hg2
        exact ret_own_b (own_of_heap hg2 (Nat.le_refl _) (by unfold maxLen; omega) (by simp [Tm.rndL])) hb2 (by omega)
    · simp only [Bool.not_eq_true] at hk
      have ho : Tm.rndOk xs k = false := by simp [Tm.rndOk, hk]
      have hk' := (Tm.inB_no _ _ _).1 hk
      rw [Tm.rnd, ho]
      go_enter Try.func31, Try.ntmps31
      go_wp2_with (first | (go_at_call 57; refine (iIsWord _ _ _ xs _ H.out).mono ?_; rintro e w1 ⟨rfl, rfl⟩))
      all_goals
        go_ret2
        exact ret_nil_b (by (repeat' (first | (with_reducible exact Below.refl _ _) | (with_reducible assumption) | (with_reducible refine below_drewN ?_ _) | (with_reducible refine Below.drew ?_) | (with_reducible refine Below.alloc ?_ ?_ _) | (with_reducible refine Below.setCell ?_ ?_ _) | (with_reducible refine below_gw ?_ ?_ _) | (with_reducible refine below_via ?_ ‹Below _ _ _› ?_) | (with_reducible exact Nat.le_refl _) | (with_reducible refine le_gw ?_ _) | (with_reducible refine le_alloc ?_ _) | (with_reducible refine le_setCell ?_ _ _) | (with_reducible refine le_drew ?_) | (with_reducible refine le_drewN ?_ _) | go_size)))
  · simp only [Bool.not_eq_true] at hw
    have ho : Tm.rndOk xs k = false := by simp [Tm.rndOk, hw]
    rw [Tm.rnd, ho]
    go_enter Try.func31, Try.ntmps31
    go_wp2_with (first | (go_at_call 57; refine (iIsWord _ _ _ xs _ H.out).mono ?_; rintro e w1 ⟨rfl, rfl⟩))
    go_ret2
    exact ret_nil_b (by (repeat' (first | (with_reducible exact Below.refl _ _) | (with_reducible assumption) | (with_reducible refine below_drewN ?_ _) | (with_reducible refine Below.drew ?_) | (with_reducible refine Below.alloc ?_ ?_ _) | (with_reducible refine Below.setCell ?_ ?_ _) | (with_reducible refine below_gw ?_ ?_ _) | (with_reducible refine below_via ?_ ‹Below _ _ _› ?_) | (with_reducible exact Nat.le_refl _) | (with_reducible refine le_gw ?_ _) | (with_reducible refine le_alloc ?_ _) | (with_reducible refine le_setCell ?_ _ _) | (with_reducible refine le_drew ?_) | (with_reducible refine le_drewN ?_ _) | go_size)))
theorem iCanJoin (a : Option Addr) (n cap : Nat) (xs : List Int) (b : Option Addr) (m cap2 : Nat) (ys : List Int) (w : World) (h : Ints w a n cap xs) (h2 : Ints w b m cap2 ys) : Calls Try.prog 67 #[.slice a n cap, .slice b m cap2] w fun e w' => e = .returned (.bool (Tm.joinOk xs ys)) ∧ w = w' := by
  have H := Lib.hid h
  have H2 := Lib.hid h2
  obtain rfl : n = xs.length := h.1.symm
  obtain rfl : m = ys.length := h2.1.symm
  clear h h2
  by_cases hx : Tm.isW xs = true
  · by_cases hy : Tm.isW ys = true
    · have l1 := ((Tm.isW_iff xs).1 hx).2.2
      have l2 := ((Tm.isW_iff ys).1 hy).2.2
      go_enter Try.func67, Try.ntmps67
      go_wp2_with fail
      refine (iIsWord a _ cap xs _ H.out).mono ?_
      rintro e w' ⟨rfl, rfl⟩
      go_wp2_with fail
      refine (iIsWord b _ cap2 ys _ H2.out).mono ?_
      rintro e w' ⟨rfl, rfl⟩
      go_wp2
      go_ret
      exact ⟨ret_bool (by rw [Tm.joinOk, hx, hy, Bool.eq_iff_iff]; simp; try omega), rfl⟩
    · simp only [Bool.not_eq_true] at hy
      go_enter Try.func67, Try.ntmps67
      go_wp2_with fail
      refine (iIsWord a _ cap xs _ H.out).mono ?_
      rintro e w' ⟨rfl, rfl⟩
      go_wp2_with fail
      refine (iIsWord b _ cap2 ys _ H2.out).mono ?_
      rintro e w' ⟨rfl, rfl⟩
      go_wp2
      go_ret
      exact ⟨ret_bool (by simp [Tm.joinOk, hy]), rfl⟩
  · simp only [Bool.not_eq_true] at hx
    go_enter Try.func67, Try.ntmps67
    go_wp2_with fail
    refine (iIsWord a _ cap xs _ H.out).mono ?_
    rintro e w' ⟨rfl, rfl⟩
    go_wp2
    go_ret
    exact ⟨ret_bool (by simp [Tm.joinOk, hx]), rfl⟩
theorem iJoinWords (a : Option Addr) (n cap : Nat) (xs : List Int) (b : Option Addr) (m cap2 : Nat) (ys : List Int) (w : World) (h : Ints w a n cap xs) (h2 : Ints w b m cap2 ys) : Calls Try.prog 35 #[.slice a n cap, .slice b m cap2] w (RetIB 3 w (Tm.join xs ys) (Tm.joinOk xs ys)) := by
  obtain ⟨i0, hi, hz0, hz1, hz2⟩ := info_parts infoInt
  have H := Lib.hid h
  have H2 := Lib.hid h2
  obtain rfl : n = xs.length := h.1.symm
  obtain rfl : m = ys.length := h2.1.symm
  have hcap : xs.length ≤ cap := h.2.1
  have hcm := h.2.2.1
  unfold maxLen at hcm
  clear h h2
  by_cases ho : Tm.joinOk xs ys = true
  · have J := ho
    simp only [Tm.joinOk, Bool.and_eq_true, decide_eq_true_eq] at J
    obtain ⟨⟨hx, hy⟩, hl⟩ := J
    have lx := (Tm.isW_iff xs).1 hx
    have ly := (Tm.isW_iff ys).1 hy
    obtain ⟨-, lx1, lx2⟩ := lx
    obtain ⟨-, ly1, ly2⟩ := ly
    have C := Lib.hid (iCanJoin a _ cap xs b _ cap2 ys w H.out H2.out)
    rw [Tm.join, if_pos ho, ho]
    rw [ho] at C
    clear ho
    rcases H.out.2.2.2 with e | ⟨bx, ox, rfl, hblx, hcx⟩
    · omega
    rcases H2.out.2.2.2 with e | ⟨b', o, rfl, hbl, hc⟩
    · omega
    have HN := Lib.hid (news_of rfl hc)
    have HX := Lib.hid (news_of rfl hcx)
    clear hc hcx
    go_enter Try.func35, Try.ntmps35
    go_wp2_with fail
    refine C.out.mono ?_
    rintro e w' ⟨rfl, rfl⟩
    go_wp2_with (first | (go_at_call 66; go_in) | (at_builtin; refine wpList_append_grows _ rfl _ _ 23 rfl 3 i0 (.int .i64 0) 1 8 Try.underlying23 hi hz0 hz1 hz2 rfl (by decide) _ _ _ (xs.map (Value.int .i64)) rfl (by simp) (by simp) (by intro b hb; cases hb; exact HX.out) ⟨b', o, none⟩ ys.length cap2 (ys.map (Value.int .i64)) rfl (by simp) HN.out (news_one ys) (by omega) (by unfold maxLen; omega) (by omega) ?_))
    intro v' w2 hown' hgrow
    have hnx1 : Below w.heap.size w w2 := (Below.refl _ _).grown hgrow (Nat.le_refl _) (fun k hk => by cases hk)
    rw [← List.map_append] at hown'
    clear hgrow
    go_wp2
    go_ret2
    exact ret_own_b hown' hnx1 (by omega)
  · simp only [Bool.not_eq_true] at ho
    have C := Lib.hid (iCanJoin a _ cap xs b _ cap2 ys w H.out H2.out)
    rw [Tm.join, ho]
    rw [ho] at C
    clear ho
    go_enter Try.func35, Try.ntmps35
    go_wp2_with fail
    refine C.out.mono ?_
    rintro e w' ⟨rfl, rfl⟩
    go_wp2
    go_ret2
    exact ret_nil_b (by (repeat' (first | (with_reducible exact Below.refl _ _) | (with_reducible assumption) | (with_reducible refine below_drewN ?_ _) | (with_reducible refine Below.drew ?_) | (with_reducible refine Below.alloc ?_ ?_ _) | (with_reducible refine Below.setCell ?_ ?_ _) | (with_reducible refine below_gw ?_ ?_ _) | (with_reducible refine below_via ?_ ‹Below _ _ _› ?_) | (with_reducible exact Nat.le_refl _) | (with_reducible refine le_gw ?_ _) | (with_reducible refine le_alloc ?_ _) | (with_reducible refine le_setCell ?_ _ _) | (with_reducible refine le_drew ?_) | (with_reducible refine le_drewN ?_ _) | go_size)))
theorem iSumOf (a : Option Addr) (n cap : Nat) (xs : List Int) (w : World) (h : Ints w a n cap xs) : Calls Try.prog 24 #[.slice a n cap] w fun e w' => e = .returned (.int .i64 (Tm.sumW xs)) ∧ w = w' := by
  have H := Lib.hid h
  obtain rfl : n = xs.length := h.1.symm
  clear h
  by_cases hw : Tm.isW xs = true
  · have hl := (Tm.isW_iff xs).1 hw
    obtain ⟨-, l1, l2⟩ := hl
    go_enter Try.func24, Try.ntmps24
    go_wp2_with ((go_at_call 57; refine (iIsWord _ _ _ xs _ H.out).mono ?_; rintro e w1 ⟨rfl, rfl⟩))
    have HW := Lib.hid hw
    clear hw
    go_loop [3, 11] (fun v i => ∃ k : Nat, k ≤ xs.length ∧ i = .int .i64 k ∧ v = .int .i64 (Tm.sumT xs k)) (fun _ i => xs.length - (intOf i).toNat)
    case atStart => exact ⟨0, by omega, rfl, rfl⟩
    case round =>
      obtain ⟨k, hk, rfl, rfl⟩ := hrel
      by_cases hlt : k < xs.length
      · rcases H.out.2.2.2 with e | ⟨b, o, rfl, hbl, hc⟩
        · omega
        have c1 := hc k hlt
        have tb := Tm.isW_at HW.out k
        have sb := Tm.sumT_bd HW.out k
        have ex := getD_at xs k hlt
        have E : Hid (Tm.sumT xs (k + 1) = Tm.sumT xs k + xs[k]) := by rw [ex]; rfl
        rw [← ex] at c1 tb
        obtain ⟨t1, t2⟩ := tb
        obtain ⟨s1, s2⟩ := sb
        clear hc ex
        go_wp2
        exact ⟨⟨k + 1, by omega, by go_num, val_int (by rw [E.out])⟩, by simp [intOf]; omega⟩
      · obtain rfl : k = xs.length := by omega
        go_wp2
        go_ret
        exact ⟨ret_int (by rw [Tm.sumW, if_pos HW.out]), rfl⟩
  · simp only [Bool.not_eq_true] at hw
    go_enter Try.func24, Try.ntmps24
    go_wp2_with ((go_at_call 57; refine (iIsWord _ _ _ xs _ H.out).mono ?_; rintro e w1 ⟨rfl, rfl⟩))
    go_ret
    exact ⟨ret_int (by rw [Tm.sumW, hw]; rfl), rfl⟩
theorem sq_one {a : Int} (h : -1 ≤ a ∧ a ≤ 1) (h0 : a ≠ 0) : a * a = 1 := by
  rcases (show a = -1 ∨ a = 0 ∨ a = 1 by omega) with rfl | rfl | rfl <;> simp_all
theorem iWeightOf (a : Option Addr) (n cap : Nat) (xs : List Int) (w : World) (h : Ints w a n cap xs) : Calls Try.prog 25 #[.slice a n cap] w fun e w' => e = .returned (.int .i64 (Tm.wgtW xs)) ∧ w = w' := by
  have H := Lib.hid h
  obtain rfl : n = xs.length := h.1.symm
  clear h
  by_cases hw : Tm.isW xs = true
  · have hl := (Tm.isW_iff xs).1 hw
    obtain ⟨-, l1, l2⟩ := hl
    go_enter Try.func25, Try.ntmps25
    go_wp2_with ((go_at_call 57; refine (iIsWord _ _ _ xs _ H.out).mono ?_; rintro e w1 ⟨rfl, rfl⟩))
    have HW := Lib.hid hw
    clear hw
    go_loop [3, 11] (fun v i => ∃ k : Nat, k ≤ xs.length ∧ i = .int .i64 k ∧ v = .int .i64 (Tm.sqT xs k)) (fun _ i => xs.length - (intOf i).toNat)
    case atStart => exact ⟨0, by omega, rfl, rfl⟩
    case round =>
      obtain ⟨k, hk, rfl, rfl⟩ := hrel
      by_cases hlt : k < xs.length
      · rcases H.out.2.2.2 with e | ⟨b, o, rfl, hbl, hc⟩
        · omega
        have c1 := hc k hlt
        have sb := Tm.sqT_bd HW.out k
        have ex := getD_at xs k hlt
        have E : Hid (Tm.sqT xs (k + 1) = Tm.sqT xs k + xs[k] * xs[k]) := by rw [ex]; rfl
        have T := Lib.hid (Tm.isW_at HW.out k)
        rw [← ex] at c1 T
        obtain ⟨s1, s2⟩ := sb
        clear hc ex
        by_cases h0 : xs[k] = 0
        · have h0' : (xs[k] != 0) = false := by simp [h0]
          have E2 : Hid (Tm.sqT xs (k + 1) = Tm.sqT xs k) := by refine Lib.hid ?_; rw [E.out, h0]; simp
          clear h0
          go_wp2
          exact ⟨⟨k + 1, by omega, by go_num, val_int (by rw [E2.out])⟩, by simp [intOf]; omega⟩
        · have h0' : (xs[k] != 0) = true := by simp [h0]
          have E2 : Hid (Tm.sqT xs (k + 1) = Tm.sqT xs k + 1) := by refine Lib.hid ?_; rw [E.out, sq_one T.out h0]
          clear h0
          go_wp2
          exact ⟨⟨k + 1, by omega, by go_num, val_int (by rw [E2.out])⟩, by simp [intOf]; omega⟩
      · obtain rfl : k = xs.length := by omega
        go_wp2
        go_ret
        exact ⟨ret_int (by rw [Tm.wgtW, if_pos HW.out]), rfl⟩
  · simp only [Bool.not_eq_true] at hw
    go_enter Try.func25, Try.ntmps25
    go_wp2_with ((go_at_call 57; refine (iIsWord _ _ _ xs _ H.out).mono ?_; rintro e w1 ⟨rfl, rfl⟩))
    go_ret
    exact ⟨ret_int (by rw [Tm.wgtW, hw]; rfl), rfl⟩
theorem rev_get (xs : List Int) (i : Nat) (h : i < xs.length) : xs.reverse.getD i 0 = xs.getD (xs.length - 1 - i) 0 := by
  rw [List.getD_eq_getElem?_getD, List.getElem?_reverse h, List.getD_eq_getElem?_getD]
theorem iReverseWord (a : Option Addr) (n cap : Nat) (xs : List Int) (w : World) (h : Ints w a n cap xs) : Calls Try.prog 26 #[.slice a n cap] w (RetI 3 w (Tm.revW xs)) := by
  obtain ⟨i0, hi, hz0, hz1, hz2⟩ := info_parts infoInt
  have H := Lib.hid h
  obtain rfl : n = xs.length := h.1.symm
  clear h
  by_cases hw : Tm.isW xs = true
  · have hl := (Tm.isW_iff xs).1 hw
    obtain ⟨-, l1, l2⟩ := hl
    rw [Tm.revW, if_pos hw]
    go_enter Try.func26, Try.ntmps26
    go_wp2_with (first | (go_at_call 57; refine (iIsWord _ _ _ xs _ H.out).mono ?_; rintro e w1 ⟨rfl, rfl⟩) | (at_make; refine wpList_make_full _ rfl _ _ 23 rfl (w.heap.size) 3 i0 (.int .i64 0) 1 Try.underlying23 hi hz0 hz1 _ _ _ _ (xs.length) rfl rfl (by first | rfl | omega) (by first | rfl | omega) (by rw [hz2]; omega) (by unfold maxLen; omega) (by first | go_size | (simp only [gw_size, World.size_alloc]; omega) | exact Nat.le_refl _ | omega) ?_))
    clear hw
    intro w1 hown hgrow
    have hown0 := rowV_own hown
    have hb0 : Below w.heap.size w w1 := (Below.refl _ _).grown hgrow (Nat.le_refl _) (fun k hk => by cases hk)
    clear hown hgrow
    go_wp2
    go_loopw [14] (fun i wr => ∃ (j : Nat) (g : Nat → Int), j ≤ xs.length ∧ i = .int .i64 j ∧ wr.ownsRow w.heap.size 3 1 (.slice (some ⟨w.heap.size, 0, none⟩) xs.length xs.length) xs.length (rowV xs.length g) ∧ Hid (∀ q, q < j → g (xs.length - 1 - q) = xs.getD q 0) ∧ Below w.heap.size w wr) (fun i _ => xs.length - (intOf i).toNat)
    case atStart => exact ⟨0, _, by omega, rfl, hown0, Lib.hid (fun q hq => by omega), hb0⟩
    case round =>
      obtain ⟨j, g, hj, rfl, hown, G, hnx⟩ := hrel
      clear hown0 hb0
      by_cases hlt : j < xs.length
      · rcases (H.out.below hnx).2.2.2 with e | ⟨b, o, rfl, hbl, hc⟩
        · omega
        have hs := hnx.size
        have c1 := hc j hlt
        have ex := getD_at xs j hlt
        rw [← ex] at c1
        have EX := Lib.hid ex
        have fz := hown.frozenAt (xs.length - 1 - j)
        have ck := own_cell hown (xs.length - 1 - j) (by omega)
        obtain ⟨s1, s2⟩ := own_put hown (xs.length - 1 - j) xs[j]
        have hnx1 := hnx.grown s2 (by omega) (fun q hq => by cases hq; exact Nat.le_refl _)
        have et : ((xs.length : Int) - 1 - (j : Int)).toNat = xs.length - 1 - j := by omega
        clear hown hnx s2 hc ex
        go_wp2
        refine ⟨⟨j + 1, _, by omega, by go_num, s1, Lib.hid (fun q hq => ?_), hnx1⟩, by simp [intOf]; omega⟩
        by_cases e : q = j
        · subst e; rw [upd_at, EX.out]
        · rw [upd_ne _ _ _ (by omega)]; exact G.out q (by omega)
      · obtain rfl : j = xs.length := by omega
        go_wp2
        go_ret
        rw [rowV_list (xs := xs.reverse) (by simp) (fun i hi => by rw [rev_get _ _ hi, ← G.out (xs.length - 1 - i) (by omega), show xs.length - 1 - (xs.length - 1 - i) = i from by omega])] at hown
        exact ret_own hown hnx (by omega)
  · simp only [Bool.not_eq_true] at hw
    rw [Tm.revW, hw]
    go_enter Try.func26, Try.ntmps26
    go_wp2_with ((go_at_call 57; refine (iIsWord _ _ _ xs _ H.out).mono ?_; rintro e w1 ⟨rfl, rfl⟩))
    go_ret
    exact ret_nil (by (repeat' (first | (with_reducible exact Below.refl _ _) | (with_reducible assumption) | (with_reducible refine below_drewN ?_ _) | (with_reducible refine Below.drew ?_) | (with_reducible refine Below.alloc ?_ ?_ _) | (with_reducible refine Below.setCell ?_ ?_ _) | (with_reducible refine below_gw ?_ ?_ _) | (with_reducible refine below_via ?_ ‹Below _ _ _› ?_) | (with_reducible exact Nat.le_refl _) | (with_reducible refine le_gw ?_ _) | (with_reducible refine le_alloc ?_ _) | (with_reducible refine le_setCell ?_ _ _) | (with_reducible refine le_drew ?_) | (with_reducible refine le_drewN ?_ _) | go_size)))
end Go.Proofs.Ytlbhekfjcbcpaaa

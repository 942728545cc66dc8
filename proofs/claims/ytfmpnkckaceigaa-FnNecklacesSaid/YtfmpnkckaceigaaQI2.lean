/- The program's rotations, necklaces and Lyndon words; slices.Compare of integers. -/
import Derived.Test.YtfmpnkckaceigaaQS2
import Derived.Test.YtfmpnkckaceigaaWI
namespace Go.Proofs.Ytfmpnkckaceigaa
set_option maxRecDepth 20000
open Go.RowKit
theorem splice_two {α : Type} (Z X1 X2 : List α) (k : Nat) (hk : X1.length = k) (hZ : Z.length = k + X2.length) : splice (splice Z 0 X1) k X2 = X1 ++ X2 := by
  subst hk
  have := splice3 Z X1 X2 [] (by simpa using hZ)
  have e : splice (splice Z 0 X1) X1.length X2 = X1 ++ X2 ++ Z.drop (X1.length + X2.length) := by
    simp only [splice, List.take_zero, List.nil_append, Nat.zero_add]
    rw [List.take_left', List.drop_append]
    · simp
    · rfl
  rw [e, List.drop_of_length_le (by omega), List.append_nil]
theorem sizeIntQ : (Try.prog.info? 3).map (·.size) = some 1 := by kernel_rfl
set_option maxHeartbeats 1000000 in
theorem iRotateWord (a : Option Addr) (n cap : Nat) (xs : List Int) (by' : Int) (w : World) (h : Ints w a n cap xs) : Calls Try.prog 25 #[.slice a n cap, .int .i64 by'] w (RetI 3 w (Tm.rotW xs by')) := by
  obtain ⟨i0, hi, hz0, hz1, hz2⟩ := info_parts infoInt
  have H := Lib.hid h
  have cp := h.2.1
  have mx := h.2.2.1
  unfold maxLen at mx
  have HL := Lib.hid h.1
  clear h
  cases hw : Tm.isW xs with
  | false =>
    rw [Tm.rotW, hw]
    go_enter Try.func25, Try.ntmps25
    go_wp2_with ((go_at_call 56; refine (iIsWord _ _ _ xs _ H.out).mono ?_; rintro e w1 ⟨rfl, rfl⟩))
    go_ret
    exact ret_nil (by (repeat' (first | (with_reducible exact Below.refl _ _) | (with_reducible assumption) | (with_reducible refine below_drewN ?_ _) | (with_reducible refine Below.drew ?_) | (with_reducible refine Below.alloc ?_ ?_ _) | (with_reducible refine Below.setCell ?_ ?_ _) | (with_reducible refine below_gw ?_ ?_ _) | (with_reducible refine below_via ?_ ‹Below _ _ _› ?_) | (with_reducible exact Nat.le_refl _) | (with_reducible refine le_gw ?_ _) | (with_reducible refine le_alloc ?_ _) | (with_reducible refine le_setCell ?_ _ _) | (with_reducible refine le_drew ?_) | (with_reducible refine le_drewN ?_ _) | go_size)))
  | true =>
    have hl := (Tm.isW_iff xs).1 hw
    obtain ⟨-, l1, l2⟩ := hl
    rw [HL.out] at l1 l2
    rw [Tm.rotW, if_pos hw, Tm.rotM, HL.out]
    obtain ⟨-, e2, t1, t2⟩ := Tm.tmod_rot by' (n : Int) (by omega)
    have m0 := Int.emod_nonneg by' (show (n : Int) ≠ 0 by omega)
    have m1 := Int.emod_lt_of_pos by' (show (0 : Int) < (n : Int) by omega)
    obtain ⟨m, hm⟩ : ∃ m : Nat, by' % (n : Int) = (m : Int) := ⟨(by' % (n : Int)).toNat, by omega⟩
    rw [hm] at e2 m1 ⊢
    rw [Int.toNat_natCast]
    have nz : ¬ ((n : Int) = 0) := by omega
    clear m0 hm
    rcases H.out.2.2.2 with h0 | ⟨b, o, rfl, hbl, -⟩
    · omega
    have hmn : m < n := by omega
    have I_hd := Lib.hid (H.out.head m (by omega))
    have I_tl := Lib.hid (H.out.tail m hmn)
    have fw : IntKind.i64.wrap ((n : Int) - (m : Int)) = (n : Int) - (m : Int) := IntWalk.i64_in _ (by omega)
    have fw2 : IntKind.i64.wrap (by'.tmod (n : Int) + (n : Int)) = by'.tmod (n : Int) + (n : Int) := IntWalk.i64_in _ (by omega)
    have f1 : m ≤ cap := by omega
    have f3 : m ≤ n := by omega
    have f4 : ¬ (cap = m) := by omega
    have f5 : ¬ (m = cap) := by omega
    have L1 : Hid (((xs.drop m).map (Value.int .i64)).length = n - m) := Lib.hid (by rw [List.length_map, List.length_drop, HL.out])
    have L2 : Hid (((xs.take m).map (Value.int .i64)).length = m) := Lib.hid (by rw [List.length_map, List.length_take, HL.out]; omega)
    have RO : Hid ((Tm.rot xs m).map (Value.int .i64) = (xs.drop m).map (Value.int .i64) ++ (xs.take m).map (Value.int .i64)) := Lib.hid (by rw [Tm.rot, List.map_append])
    go_enter Try.func25, Try.ntmps25
    go_wp2_with (first | (go_at_call 56; refine (iIsWord _ _ _ xs _ H.out).mono ?_; rintro e w1 ⟨rfl, rfl⟩) | (at_make; refine wpList_make_full _ rfl _ _ 22 rfl (w.heap.size) 3 i0 (.int .i64 0) 1 Try.underlying22 hi hz0 hz1 _ _ _ _ (n) rfl rfl (by first | rfl | omega) (by first | rfl | omega) (by rw [hz2]; omega) (by unfold maxLen; omega) (by first | go_size | (simp only [gw_size, World.size_alloc]; omega) | exact Nat.le_refl _ | omega) ?_))
    intro w1 hown hgrow
    have hown0 := rowV_own hown
    have hb0 : Below w.heap.size w w1 := (Below.refl _ _).grown hgrow (Nat.le_refl _) (fun k hk => by cases hk)
    have HG := Lib.hid (own_heap hown0)
    have J_tl := Lib.hid (I_tl.out.below hb0)
    have J_hd := Lib.hid (I_hd.out.below hb0)
    have hs1 := hb0.size
    have hR : w.heap.size < w1.heap.size := (own_base hown0).2
    clear hown hgrow hown0
    obtain ⟨X1, hX1⟩ : ∃ X1, X1 = (xs.drop m).map (Value.int .i64) := ⟨_, rfl⟩
    obtain ⟨X2, hX2⟩ : ∃ X2, X2 = (xs.take m).map (Value.int .i64) := ⟨_, rfl⟩
    have N1 : Hid (∀ j u, X1[j]? = some u → w1.cell? ((⟨b, o + m, none⟩ : Addr).add j) = some u) := Lib.hid (by rw [hX1]; exact J_tl.out.newsAt)
    have U1 : Hid (∀ u ∈ X1, u.oneCell' = true) := Lib.hid (by rw [hX1]; exact news_one _)
    have U2 : Hid (∀ u ∈ X2, u.oneCell' = true) := Lib.hid (by rw [hX2]; exact news_one _)
    have J2 : Hid (∀ w2, Below w.heap.size w w2 → ∀ j u, X2[j]? = some u → w2.cell? ((⟨b, o, none⟩ : Addr).add j) = some u) := Lib.hid (fun w2 h => by rw [hX2]; exact (I_hd.out.below h).newsAt)
    rw [← hX1] at L1 RO
    rw [← hX2] at L2 RO
    clear hX1 hX2 J_tl J_hd I_hd I_tl
    go_wp2_with (with_reducible refine at_copy ?_; refine wpList_copy_splice rfl _ _ 22 22 rfl 3 Try.underlying22 sizeIntQ _ _ _ _ _ _ rfl rfl w.heap.size 0 (rowV n fun _ => 0) 3 HG.out X1 (by rw [L1.out]; exact (Nat.min_eq_left (by omega)).symm) (fun _ => ⟨rfl, _, rfl, N1.out⟩) (by rw [L1.out, rowV_length]; omega) U1.out w.heap.size w hb0 (Nat.le_refl _) ?_)
    intro w2 HG2 hb2
    have hs2 := hb2.size
    have hbd : b < w2.heap.size := by omega
    clear HG hb0
    go_wp2_with fail
    have g1 : (n : Int) - (m : Int) ≤ (n : Int) := by omega
    have g2 : n - (n - m) = m := by omega
    have SP : Hid (splice (splice (rowV n fun _ => 0) 0 X1) (n - m) X2 = X1 ++ X2) := Lib.hid (splice_two _ _ _ _ L1.out (by rw [rowV_length, L2.out]; omega))
    have LS : Hid ((splice (rowV n fun _ => 0) 0 X1).length = n) := Lib.hid (by rw [length_splice _ _ _ (by rw [L1.out, rowV_length]; omega), rowV_length])
    rcases Nat.eq_zero_or_pos m with hz | hz
    · subst hz
      clear fw f1 f3 f4 f5 g1 g2 m1
      have fw0 : IntKind.i64.wrap (n : Int) = (n : Int) := IntWalk.i64_in _ (by omega)
      go_region_law (refine step_copy_splice rfl (.tmp 31) (.tmp 34) 22 22 rfl 3 Try.underlying22 sizeIntQ (some ⟨w.heap.size, 0, none⟩) (some ⟨b, o, none⟩) 0 0 0 cap (by simp [Act.eval, Act.put]) (by simp [Act.eval, Act.put]) w.heap.size (n - 0) (splice (rowV n fun _ => 0) 0 X1) 3 HG2.out X2 (by rw [L2.out]; exact (Nat.min_eq_left (by omega)).symm) (fun h => absurd h (by rw [L2.out]; omega)) (by rw [L2.out, LS.out]; omega) U2.out w.heap.size w (Below.drew hb2) (Nat.le_refl _) ?_; intro w3 HG3 hb3)
      go_wp2
      go_ret
      have hg3 := HG3.out
      rw [SP.out, ← RO.out] at hg3
      exact ret_own (own_of_heap hg3 (Nat.le_refl _) (by unfold maxLen; omega) (by rw [List.length_map, Tm.rot_length, HL.out])) hb3 (by omega)
    · have g3 : ¬ (n = n - m) := by omega
      go_region_law (refine step_copy_splice rfl (.tmp 31) (.tmp 34) 22 22 rfl 3 Try.underlying22 sizeIntQ (some ⟨w.heap.size, n - m, none⟩) (some ⟨b, o, none⟩) m m m cap (by first | (simp [Act.eval, Act.put]; done) | (simp [Act.eval, Act.put]; omega)) (by simp [Act.eval, Act.put]) w.heap.size (n - m) (splice (rowV n fun _ => 0) 0 X1) 3 HG2.out X2 (by rw [L2.out]; exact (Nat.min_self _).symm) (fun _ => ⟨rfl, _, rfl, J2.out _ (Below.drew hb2)⟩) (by rw [L2.out, LS.out]; omega) U2.out w.heap.size w (Below.drew hb2) (Nat.le_refl _) ?_; intro w3 HG3 hb3)
      go_wp2
      go_ret
      have hg3 := HG3.out
      rw [SP.out, ← RO.out] at hg3
      exact ret_own (own_of_heap hg3 (Nat.le_refl _) (by unfold maxLen; omega) (by rw [List.length_map, Tm.rot_length, HL.out])) hb3 (by omega)
theorem iIsNaN (x : Int) (w : World) : Calls Try.prog 78 #[.int .i64 x] w fun e w' => e = .returned (.bool false) ∧ w = w' := by
  go_enter Try.func78, Try.ntmps78
  go_wp2
  go_ret
  exact ⟨ret_bool (by simp), rfl⟩
theorem iCmp (x y : Int) (w : World) : Calls Try.prog 74 #[.int .i64 x, .int .i64 y] w fun e w' => e = .returned (.int .i64 (if x < y then -1 else if y < x then 1 else 0)) ∧ w = w' := by
  by_cases c : x < y
  · rw [if_pos c]
    go_enter Try.func74, Try.ntmps74
    go_wp2_with ((go_at_call 78; refine (iIsNaN _ _).mono ?_; rintro e w1 ⟨rfl, rfl⟩))
    go_ret
    exact ⟨rfl, rfl⟩
  · rw [if_neg c]
    by_cases d : y < x
    · rw [if_pos d]
      go_enter Try.func74, Try.ntmps74
      go_wp2_with ((go_at_call 78; refine (iIsNaN _ _).mono ?_; rintro e w1 ⟨rfl, rfl⟩))
      go_ret
      exact ⟨rfl, rfl⟩
    · rw [if_neg d]
      go_enter Try.func74, Try.ntmps74
      go_wp2_with ((go_at_call 78; refine (iIsNaN _ _).mono ?_; rintro e w1 ⟨rfl, rfl⟩))
      go_ret
      exact ⟨rfl, rfl⟩
set_option maxHeartbeats 1000000 in
theorem iCompare (a : Option Addr) (n cap : Nat) (xs : List Int) (a' : Option Addr) (n' cap' : Nat) (ys : List Int) (w : World) (h : Ints w a n cap xs) (h' : Ints w a' n' cap' ys) : Calls Try.prog 60 #[.slice a n cap, .slice a' n' cap'] w fun e w' => e = .returned (.int .i64 (Tm.lexC xs ys)) ∧ w = w' := by
  obtain ⟨x1, x2, x3, x4⟩ := h
  obtain ⟨y1, y2, y3, y4⟩ := h'
  subst x1
  subst y1
  unfold maxLen at x3 y3
  go_enter Try.func60, Try.ntmps60
  go_wp2
  go_loop [11] (fun i => ∃ k : Nat, k ≤ xs.length ∧ i = .int .i64 k ∧ Hid (Tm.lexC xs ys = Tm.lexC (xs.drop k) (ys.drop k))) (fun i => xs.length - (intOf i).toNat)
  case atStart => exact ⟨0, by omega, rfl, Lib.hid rfl⟩
  case round =>
    obtain ⟨k, hk, rfl, AG⟩ := hrel
    by_cases hlt : k < xs.length
    · by_cases hlt2 : k < ys.length
      · rcases x4 with h0 | ⟨b, o, rfl, hbl, hc⟩
        · omega
        rcases y4 with h0 | ⟨b', o', rfl, hbl', hc'⟩
        · omega
        have c1 := hc k hlt
        have c2 := hc' k (by omega)
        have LA := Lib.hid (Tm.lexC_at (xs := xs) (ys := ys) hlt hlt2)
        obtain ⟨x, hx⟩ : ∃ x, x = xs.getD k 0 := ⟨_, rfl⟩
        obtain ⟨y, hy⟩ : ∃ y, y = ys.getD k 0 := ⟨_, rfl⟩
        rw [← hx] at c1 LA
        rw [← hy] at c2 LA
        clear hc hc' hx hy
        have CM := Lib.hid (iCmp x y w)
        by_cases e1 : x < y
        · rw [if_pos e1] at LA CM
          have RE : Hid (Tm.lexC xs ys = -1) := Lib.hid (AG.out.trans LA.out)
          clear AG LA e1
          go_wp2_with (go_at_call 74; refine CM.out.mono ?_; rintro e w1 ⟨rfl, rfl⟩)
          go_ret
          exact ⟨ret_int RE.out.symm, rfl⟩
        · rw [if_neg e1] at LA CM
          by_cases e2 : y < x
          · rw [if_pos e2] at LA CM
            have RE : Hid (Tm.lexC xs ys = 1) := Lib.hid (AG.out.trans LA.out)
            clear AG LA e1 e2
            go_wp2_with (go_at_call 74; refine CM.out.mono ?_; rintro e w1 ⟨rfl, rfl⟩)
            go_ret
            exact ⟨ret_int RE.out.symm, rfl⟩
          · rw [if_neg e2] at LA CM
            have AG2 := Lib.hid (AG.out.trans LA.out)
            clear AG LA e1 e2
            go_wp2_with (go_at_call 74; refine CM.out.mono ?_; rintro e w1 ⟨rfl, rfl⟩)
            exact ⟨⟨k + 1, by omega, by go_num, AG2⟩, by simp [intOf]; omega⟩
      · have RE : Hid (Tm.lexC xs ys = 1) := Lib.hid (by rw [AG.out, Tm.lexC_out hlt (by omega)])
        rcases x4 with h0 | ⟨b, o, rfl, hbl, hc⟩
        · omega
        have c1 := hc k hlt
        clear hc AG
        go_wp2
        go_ret
        exact ⟨ret_int RE.out.symm, rfl⟩
    · obtain rfl : k = xs.length := by omega
      have RE : Hid (Tm.lexC xs ys = if xs.length < ys.length then -1 else 0) := Lib.hid (by rw [AG.out, Tm.lexC_end (Nat.le_refl _)])
      by_cases c : xs.length < ys.length
      · rw [if_pos c] at RE
        go_wp2
        go_ret
        exact ⟨ret_int RE.out.symm, rfl⟩
      · rw [if_neg c] at RE
        go_wp2
        go_ret
        exact ⟨ret_int RE.out.symm, rfl⟩
theorem rotW_nat {xs : List Int} {m : Nat} (hw : Tm.isW xs = true) (hm : m < xs.length) : Tm.rotW xs (m : Int) = Tm.rot xs m := by
  rw [Tm.rotW, if_pos hw, Tm.rotM, Int.emod_eq_of_lt (by omega) (by omega), Int.toNat_natCast]
set_option maxHeartbeats 1000000 in
theorem iNecklaceOf (a : Option Addr) (n cap : Nat) (xs : List Int) (w : World) (h : Ints w a n cap xs) : Calls Try.prog 27 #[.slice a n cap] w (RetI 3 w (Tm.nk xs)) := by
  have H := Lib.hid h
  obtain rfl : n = xs.length := h.1.symm
  clear h
  cases hw : Tm.isW xs with
  | false =>
    rw [Tm.nk, hw]
    go_enter Try.func27, Try.ntmps27
    go_wp2_with ((go_at_call 56; refine (iIsWord _ _ _ xs _ H.out).mono ?_; rintro e w1 ⟨rfl, rfl⟩))
    go_ret
    exact ret_nil (by (repeat' (first | (with_reducible exact Below.refl _ _) | (with_reducible assumption) | (with_reducible refine below_drewN ?_ _) | (with_reducible refine Below.drew ?_) | (with_reducible refine Below.alloc ?_ ?_ _) | (with_reducible refine Below.setCell ?_ ?_ _) | (with_reducible refine below_gw ?_ ?_ _) | (with_reducible refine below_via ?_ ‹Below _ _ _› ?_) | (with_reducible exact Nat.le_refl _) | (with_reducible refine le_gw ?_ _) | (with_reducible refine le_alloc ?_ _) | (with_reducible refine le_setCell ?_ _ _) | (with_reducible refine le_drew ?_) | (with_reducible refine le_drewN ?_ _) | go_size)))
  | true =>
    have hl := (Tm.isW_iff xs).1 hw
    obtain ⟨-, l1, l2⟩ := hl
    rw [Tm.nk, if_pos hw]
    have C0 := Lib.hid (iRotateWord a _ cap xs 0 w H.out)
    have E0 : Tm.rotW xs 0 = xs := by have := rotW_nat (m := 0) hw (by omega); rw [Tm.rot_zero] at this; exact this
    rw [E0] at C0
    have W := Lib.hid hw
    go_enter Try.func27, Try.ntmps27
    go_wp2_with (first | (go_at_call 56; refine (iIsWord _ _ _ xs _ H.out).mono ?_; rintro e w1 ⟨rfl, rfl⟩) | (go_at_call 25; refine C0.out.mono ?_; rintro e w1 ⟨a1, c1, rfl, hown, hb, -⟩))
    have O1 := Lib.hid hown
    have B1 := Lib.hid hb
    clear hown hb hw E0 C0
    go_wp2_with fail
    go_loopw [3, 13] (fun v i wr => ∃ (m : Nat) (a' : Option Addr) (c' : Nat), m ≤ xs.length ∧ i = .int .i64 m ∧ v = .slice a' xs.length c' ∧ Hid (wr.ownsRow w.heap.size 3 1 (.slice a' xs.length c') xs.length ((Tm.nkN xs m).map (Value.int .i64))) ∧ Hid (Below w.heap.size w wr)) (fun _ i _ => xs.length - (intOf i).toNat)
    case atStart => exact ⟨0, a1, c1, by omega, rfl, rfl, O1, B1⟩
    case round =>
      obtain ⟨m, a', c', hm, rfl, rfl, OO, BB⟩ := hrel
      have hs := BB.out.size
      by_cases hlt : m < xs.length
      · have CR := Lib.hid (iRotateWord a _ cap xs (m : Int) wr (H.out.below BB.out))
        rw [rotW_nat W.out hlt] at CR
        have I0 : Hid (Ints wr a' xs.length c' (Tm.nkN xs m)) := Lib.hid (by
          have := Tm.nkN_length xs m
          have q := OO.out
          rw [← this] at q ⊢
          exact Ints.of_own q)
        have NS : Hid (Tm.nkN xs (m + 1) = if Tm.lexC (Tm.rot xs m) (Tm.nkN xs m) < 0 then Tm.rot xs m else Tm.nkN xs m) := Lib.hid rfl
        have RL := Lib.hid (Tm.rot_length xs m)
        obtain ⟨L, hL⟩ : ∃ L, L = Tm.nkN xs m := ⟨_, rfl⟩
        obtain ⟨R, hR⟩ : ∃ R, R = Tm.rot xs m := ⟨_, rfl⟩
        rw [← hL] at OO I0 NS
        rw [← hR] at CR NS RL
        clear hL hR
        go_wp2_with fail
        refine CR.out.mono ?_
        rintro e w3 ⟨a3, c3, rfl, hown, hb, -⟩
        have O3 : Hid (w3.ownsRow w.heap.size 3 1 (.slice a3 xs.length c3) xs.length (R.map (Value.int .i64))) := Lib.hid (by have := own_weak hown hs; rwa [RL.out] at this)
        have I3 := Lib.hid (Ints.of_own hown)
        have I4 := Lib.hid (I0.out.below hb)
        have O4 := Lib.hid (own_below OO.out hb)
        have B3 := Lib.hid (BB.out.trans (hb.mono hs))
        have LS := Lib.hid (iCompare _ _ _ _ _ _ _ _ _ I3.out I4.out)
        rw [RL.out] at LS
        have RL2 := RL.out
        obtain ⟨z, hz⟩ : ∃ z, z = Tm.lexC R L := ⟨_, rfl⟩
        rw [← hz] at LS NS
        clear hown hb CR I0 OO BB hz
        by_cases c : z < 0
        · rw [if_pos c] at NS
          go_wp2_with fail
          refine LS.out.mono ?_
          rintro e w5 ⟨rfl, rfl⟩
          go_wp2
          exact ⟨⟨m + 1, a3, c3, by omega, by go_num, rfl, Lib.hid (by rw [NS.out]; exact O3.out), B3⟩, by simp [intOf]; omega⟩
        · rw [if_neg c] at NS
          go_wp2_with fail
          refine LS.out.mono ?_
          rintro e w5 ⟨rfl, rfl⟩
          go_wp2
          exact ⟨⟨m + 1, a', c', by omega, by go_num, rfl, Lib.hid (by rw [NS.out]; exact O4.out), B3⟩, by simp [intOf]; omega⟩
      · obtain rfl : m = xs.length := by omega
        go_wp2
        go_ret
        exact ret_own OO.out BB.out (by omega)
set_option maxHeartbeats 1000000 in
theorem iIsLyndon (a : Option Addr) (n cap : Nat) (xs : List Int) (w : World) (h : Ints w a n cap xs) : Calls Try.prog 29 #[.slice a n cap] w fun e w' => e = .returned (.bool (Tm.lyn xs)) ∧ Below w.heap.size w w' := by
  have H := Lib.hid h
  obtain rfl : n = xs.length := h.1.symm
  clear h
  cases hw : Tm.isW xs with
  | false =>
    rw [Tm.lyn, hw]
    go_enter Try.func29, Try.ntmps29
    go_wp2_with ((go_at_call 56; refine (iIsWord _ _ _ xs _ H.out).mono ?_; rintro e w1 ⟨rfl, rfl⟩))
    go_ret
    exact ⟨rfl, by (repeat' (first | (with_reducible exact Below.refl _ _) | (with_reducible assumption) | (with_reducible refine below_drewN ?_ _) | (with_reducible refine Below.drew ?_) | (with_reducible refine Below.alloc ?_ ?_ _) | (with_reducible refine Below.setCell ?_ ?_ _) | (with_reducible refine below_gw ?_ ?_ _) | (with_reducible refine below_via ?_ ‹Below _ _ _› ?_) | (with_reducible exact Nat.le_refl _) | (with_reducible refine le_gw ?_ _) | (with_reducible refine le_alloc ?_ _) | (with_reducible refine le_setCell ?_ _ _) | (with_reducible refine le_drew ?_) | (with_reducible refine le_drewN ?_ _) | go_size))⟩
  | true =>
    have hl := (Tm.isW_iff xs).1 hw
    obtain ⟨-, l1, l2⟩ := hl
    rw [Tm.lyn, hw, Bool.true_and]
    have W := Lib.hid hw
    go_enter Try.func29, Try.ntmps29
    go_wp2_with (first | (go_at_call 56; refine (iIsWord _ _ _ xs _ H.out).mono ?_; rintro e w1 ⟨rfl, rfl⟩))
    clear hw
    go_loopw [3] (fun i wr => ∃ (m : Nat), 1 ≤ m ∧ m ≤ xs.length ∧ i = .int .i64 m ∧ Hid (Tm.lynN xs m = true) ∧ Hid (Below w.heap.size w wr)) (fun i _ => xs.length - (intOf i).toNat)
    case atStart => exact ⟨1, by omega, by omega, rfl, Lib.hid (Tm.lynN_one xs), Lib.hid (by (repeat' (first | (with_reducible exact Below.refl _ _) | (with_reducible assumption) | (with_reducible refine below_drewN ?_ _) | (with_reducible refine Below.drew ?_) | (with_reducible refine Below.alloc ?_ ?_ _) | (with_reducible refine Below.setCell ?_ ?_ _) | (with_reducible refine below_gw ?_ ?_ _) | (with_reducible refine below_via ?_ ‹Below _ _ _› ?_) | (with_reducible exact Nat.le_refl _) | (with_reducible refine le_gw ?_ _) | (with_reducible refine le_alloc ?_ _) | (with_reducible refine le_setCell ?_ _ _) | (with_reducible refine le_drew ?_) | (with_reducible refine le_drewN ?_ _) | go_size)))⟩
    case round =>
      obtain ⟨m, m1, hm, rfl, LY, BB⟩ := hrel
      have hs := BB.out.size
      by_cases hlt : m < xs.length
      · have CR := Lib.hid (iRotateWord a _ cap xs (m : Int) wr (H.out.below BB.out))
        rw [rotW_nat W.out hlt] at CR
        have NS := Lib.hid (Tm.lynN_step m1 LY.out)
        have NN := Lib.hid (fun h => Tm.lynN_no (xs := xs) (m := m + 1) (n := xs.length) h (by omega))
        obtain ⟨R, hR⟩ : ∃ R, R = Tm.rot xs m := ⟨_, rfl⟩
        rw [← hR] at CR NS
        clear hR
        go_wp2_with fail
        refine CR.out.mono ?_
        rintro e w3 ⟨a3, c3, rfl, hown, hb, -⟩
        have I3 := Lib.hid (Ints.of_own hown)
        have B3 := Lib.hid (BB.out.trans (hb.mono hs))
        have I4 := Lib.hid (H.out.below B3.out)
        have LS := Lib.hid (iCompare _ _ _ _ _ _ _ _ _ I4.out I3.out)
        obtain ⟨z, hz⟩ : ∃ z, z = Tm.lexC xs R := ⟨_, rfl⟩
        rw [← hz] at LS NS
        clear hown hb CR BB hz
        by_cases c : z < 0
        · rw [decide_eq_true c] at NS
          have c' : ¬ (0 ≤ z) := by omega
          clear NN
          go_wp2_with fail
          refine LS.out.mono ?_
          rintro e w5 ⟨rfl, rfl⟩
          go_wp2
          exact ⟨⟨m + 1, by omega, by omega, by go_num, NS, B3⟩, by simp [intOf]; omega⟩
        · rw [decide_eq_false c] at NS
          have RE := Lib.hid (NN.out NS.out)
          have c' : 0 ≤ z := by omega
          clear NN
          go_wp2_with fail
          refine LS.out.mono ?_
          rintro e w5 ⟨rfl, rfl⟩
          go_wp2
          go_ret
          exact ⟨ret_bool RE.out.symm, B3.out⟩
      · obtain rfl : m = xs.length := by omega
        go_wp2
        go_ret
        exact ⟨ret_bool LY.out.symm, BB.out⟩
end Go.Proofs.Ytfmpnkckaceigaa

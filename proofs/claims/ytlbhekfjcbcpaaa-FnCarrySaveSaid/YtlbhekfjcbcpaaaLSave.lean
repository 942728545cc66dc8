/- The walk of the law FnCarrySave. -/
import Derived.Test.YtlbhekfjcbcpaaaAI11
import Derived.Test.YtlbhekfjcbcpaaaAMath
import Derived.Test.YtlbhekfjcbcpaaaLAm
import Derived.Test.YtlbhekfjcbcpaaaLaw2
import Derived.Test.YtlbhekfjcbcpaaaWI4
import Derived.Test.YtlbhekfjcbcpaaaWI3
import Derived.Test.YtlbhekfjcbcpaaaWVal
namespace Go.Proofs.Ytlbhekfjcbcpaaa
set_option maxRecDepth 20000
open Go.RowKit
namespace Tm
theorem sumV_snoc (L : List (List Int)) (xs : List Int) : sumV (L ++ [xs]) = sumV L + val xs := by
  have app : ∀ a b : List Int, (a ++ b).sum = a.sum + b.sum := fun a b => by
    induction a with
    | nil => simp
    | cons x a ih => simp only [List.cons_append, List.sum_cons, ih]; omega
  rw [sumV, sumV, List.map_append, app]; simp
theorem allW_snoc {k : Nat} {L : List (List Int)} {xs : List Int} (h : allW k L) (h1 : isW xs = true) (h2 : xs.length = k) : allW k (L ++ [xs]) := fun x hx => by
  rcases List.mem_append.1 hx with hx | hx
  · exact h x hx
  · rw [List.mem_singleton.1 hx]; exact ⟨h1, h2⟩
theorem dvd_tmod {p a : Int} (h : p ∣ a) : a.tmod p = 0 := by
  obtain ⟨q, rfl⟩ := h
  exact Int.mul_tmod_right p q
theorem drop_back {L : List (List Int)} {j : Nat} (h : j < L.length) : (L.drop (j + 1)).reverse ++ [L.getD j []] = (L.drop j).reverse := by
  rw [drop_cons h, List.reverse_cons]
/-- What the law wants of a sum of words. -/
theorem save_facts {k : Nat} {L : List (List Int)} (h1 : 1 ≤ L.length) (h2 : L.length ≤ 12) (h : allW k L) :
    treeOk L = true ∧ treeOk L.reverse = true ∧ tree L.reverse = tree L ∧ isW (tree L) = true ∧ (tree L).length = k ∧ pow3 k ∣ val (tree L) - sumV L ∧ 0 ≤ treeN L ∧ treeN L ≤ 6 ∧ (L.length < 3 → treeN L = 0) := by
  have a := treeOk_of h1 (by omega) h
  have b := tree_reverse h1 (by omega) h
  have c := tree_facts a.1
  rw [a.2] at c
  refine ⟨a.1, b.1, b.2, c.1, c.2.1, c.2.2, ?_, ?_, fun h3 => ?_⟩
  · rw [treeN, if_pos a.1]; omega
  · have := trN_le (f := 40) h2; rw [treeN, if_pos a.1]; omega
  · have := trN_done (f := 40) (M := L) (by omega); rw [treeN, if_pos a.1]; omega
theorem sav_facts {k : Nat} {xs ys zs : List Int} (hx : isW xs = true ∧ xs.length = k) (hy : isW ys = true ∧ ys.length = k) (hz : isW zs = true ∧ zs.length = k) :
    ∃ X Y : List Int, savOk xs ys zs = true ∧ sv1 xs ys zs = X ∧ sv2 xs ys zs = Y ∧ isW X = true ∧ X.length = k ∧ isW Y = true ∧ Y.length = k ∧ Y.getD 0 0 = 0 ∧ pow3 k ∣ val X + val Y - val xs - val ys - val zs := by
  have h := sav_of hx hy hz
  have l1 := isW_pos hx.1
  have l2 := isW_len hx.1
  refine ⟨_, _, h.1, h.2.1, h.2.2, isW_gen l1 l2 (fun i => by have := full_spec (isW_at hx.1 i) (isW_at hy.1 i) (isW_at hz.1 i); exact ⟨this.1, this.2.1⟩), by rw [genL_length, hx.2], isW_gen l1 l2 (sav2_bd hx.1 hy.1 hz.1), by rw [genL_length, hx.2], by rw [genL_get _ _ _ l1]; rfl, ?_⟩
  have m := sav_mod hx hy hz
  rw [hx.2]
  rw [show val (genL k (sav1 xs ys zs)) + val (genL k (sav2 xs ys zs)) - val xs - val ys - val zs = val (genL k (sav1 xs ys zs)) + val (genL k (sav2 xs ys zs)) - (val xs + val ys + val zs) from by omega]
  exact m
theorem val30 {xs : List Int} (h : isW xs = true) : value xs = val xs ∧ -102945566047324 ≤ val xs ∧ val xs ≤ 102945566047324 := by
  have vb := val_bd_len h 30 (isW_len h)
  have lb : limN 30 ≤ 102945566047324 := limN_le (by omega)
  exact ⟨value_eq h, by omega, by omega⟩
end Tm
theorem save_met {a : Option Addr} {n cap : Nat} {xs : List Int} {b : Option Addr} {m cap2 : Nat} {ys : List Int} {c : Option Addr} {l cap3 : Nat} {zs X Y : List Int} {w : World} {k : Nat} (h : Ints w a n cap xs) (h2 : Ints w b m cap2 ys) (h3 : Ints w c l cap3 zs) (e0 : Tm.savOk xs ys zs = true) (e1 : Tm.sv1 xs ys zs = X) (e2 : Tm.sv2 xs ys zs = Y) (l1 : X.length = k) (l2 : Y.length = k) (W : World) (hW : Below w.heap.size w W) :
    Calls Try.prog 41 #[.slice a n cap, .slice b m cap2, .slice c l cap3] W fun r w' => ∃ d1 c1 d2 c2, r = .returned (.tuple #[.slice d1 k c1, .slice d2 k c2, .bool true]) ∧ Ints w' d1 k c1 X ∧ Ints w' d2 k c2 Y ∧ Below W.heap.size W w' := by
  refine (iCarrySave a n cap xs b m cap2 ys c l cap3 zs W (h.below hW) (h2.below hW) (h3.below hW)).mono ?_
  rw [e0, e1, e2]
  rintro e w' ⟨d1, c1, d2, c2, rfl, ho1, ho2, -, hb, -, -⟩
  have i1 := Ints.of_own ho1
  have i2 := Ints.of_own ho2
  rw [l1] at i1 ⊢
  rw [l2] at i2 ⊢
  exact ⟨d1, c1, d2, c2, rfl, i1, i2, hb⟩
theorem quiet_val {a : Option Addr} {n cap : Nat} {xs : List Int} {v : Int} {w : World} (h : Ints w a n cap xs) (hv : Tm.value xs = v) (k : Nat) : Calls Try.prog 13 #[.slice a n cap] (w.drewN k) fun e w'' => e = .returned (.int .i64 v) ∧ ∃ m, w'' = w.drewN m :=
  (iValueOf a n cap xs _ (h.drewN k)).mono fun _ _ ⟨he, hm⟩ => ⟨by rw [he, hv], k, hm.symm⟩
set_option maxRecDepth 20000 in
set_option maxHeartbeats 8000000 in
theorem wFnCarrySave (a0 : Option Addr) (len0 cap0 : Nat) (z0 : List Int) (w : World) (w0 : IsRow .u8 w a0 len0 cap0 z0) : Calls Try.prog 8 #[.slice a0 len0 cap0] w fun e w' => e = .returned (.bool true) ∧ Below w.heap.size w w' := by
  have BY := Lib.hid (Byts.of_row w0)
  have m0 : len0 ≤ 9223372036854775807 := by obtain ⟨h1, h2, _⟩ := BY.out; unfold maxLen at h2; omega
  clear w0
  by_cases g0 : len0 ≤ 1048576
  · obtain ⟨j0, hj, hy0, hy1, hy2⟩ := info_parts infoSS
    go_enter Try.func8, Try.ntmps8
    go_wp2_with fail
    refine (at_any a0 len0 cap0 1 _ BY.out (by omega) (by omega) (by omega)).mono ?_
    rintro e w' ⟨x, rfl, x_0, x_1, rfl⟩
    obtain ⟨j, hj0⟩ : ∃ j : Nat, x.tmod 12 = (j : Int) := ⟨_, (Int.toNat_of_nonneg (Int.tmod_nonneg _ x_0)).symm⟩
    have j_lt : j < 12 := by have := Int.tmod_lt_of_pos x (show (0 : Int) < 12 by omega); omega
    obtain ⟨k, hk⟩ : ∃ k, k = j + 1 := ⟨_, rfl⟩
    have kI : (1 : Int) + (j : Int) = (k : Int) := by omega
    have k1 : 1 ≤ k := by omega
    have k2 : k ≤ 12 := by omega
    have KI := Lib.hid kI
    clear kI hk
    have B0 := Lib.hid (Below.refl w.heap.size w)
    go_wp2_with fail
    rw [KI.out]
    clear KI j_lt hj0
    have O0 := Lib.hid (own_emptyS w w.heap.size 23 (Nat.le_refl _))
    go_loopw [4, 5, 6] (fun v s i wr => ∃ (n : Nat) (L : List (List Int)) (sm : Int), n ≤ 12 ∧ L.length = n ∧ i = .int .i64 n ∧ s = .int .i64 sm ∧ -(102945566047324 * (n : Int)) ≤ sm ∧ sm ≤ 102945566047324 * (n : Int) ∧ Hid (OwnSS wr w.heap.size 23 v L) ∧ Hid (Tm.allW k L) ∧ Hid (sm = Tm.sumV L) ∧ Hid (Below w.heap.size w wr)) (fun _ _ i _ => 12 - (intOf i).toNat)
    case atStart => exact ⟨0, [], 0, by omega, rfl, rfl, rfl, by omega, by omega, O0, Lib.hid (fun x hx => by simp at hx), Lib.hid rfl, Lib.hid (by (repeat' (first | (with_reducible exact Below.refl _ _) | (with_reducible assumption) | (with_reducible refine below_drewN ?_ _) | (with_reducible refine Below.drew ?_) | (with_reducible refine Below.alloc ?_ ?_ _) | (with_reducible refine Below.setCell ?_ ?_ _) | (with_reducible refine below_gw ?_ ?_ _) | (with_reducible refine below_via ?_ ‹Below _ _ _› ?_) | (with_reducible exact Nat.le_refl _) | (with_reducible refine le_gw ?_ _) | (with_reducible refine le_alloc ?_ _) | (with_reducible refine le_setCell ?_ _ _) | (with_reducible refine le_drew ?_) | (with_reducible refine le_drewN ?_ _) | go_size)))⟩
    case round =>
      clear O0 B0
      obtain ⟨n, L, sm, n12, hL, rfl, rfl, s0, s1, OO, AW, SV, BB⟩ := hrel
      go_wp2_with fail
      refine (at_any a0 len0 cap0 2 _ (BY.out.below BB.out) (by omega) (by omega) (by omega)).mono ?_
      rintro e w' ⟨y, rfl, y_0, y_1, rfl⟩
      obtain ⟨i, hi⟩ : ∃ i : Nat, y.tmod 12 = (i : Int) := ⟨_, (Int.toNat_of_nonneg (Int.tmod_nonneg _ y_0)).symm⟩
      have i_lt : i < 12 := by have := Int.tmod_lt_of_pos y (show (0 : Int) < 12 by omega); omega
      by_cases hlt : n < 1 + i
      · have HL := Lib.hid hL
        clear hL
        have hlt' : (n : Int) < 1 + (i : Int) := by omega
        go_wp2_with fail
        refine (fresh_any a0 len0 cap0 (3 + (n : Int)) _ (BY.out.below BB.out) (by omega) (by omega) (by omega)).mono ?_
        rintro e w2 ⟨a9, len9, cap9, rfl, m9, by9, hb⟩
        have BZ := Lib.hid by9
        have O1 := Lib.hid (OO.out.below hb)
        have B1 := Lib.hid (BB.out.trans (hb.mono BB.out.size))
        clear by9 hb OO BB
        go_wp2_with fail
        refine (makeExact_any a9 len9 cap9 k _ BZ.out (by omega) (by omega) (by omega)).mono ?_
        rintro e w3 ⟨xs, b3, c3, rfl, hw, hp, ho, hb⟩
        have VL := Lib.hid (fun q hq => (O1.out.lt q hq).2)
        have WX := Lib.hid hw
        have PX := Lib.hid hp
        have HO := Lib.hid ho
        have O2 := Lib.hid (O1.out.below hb)
        have B2 := Lib.hid (B1.out.trans (hb.mono B1.out.size))
        have hs2 := B2.out.size
        clear hw hp ho hb O1 B1 BZ
        have HNE : Hid (0 < xs.length → ∀ b o, b3 = some ⟨b, o, none⟩ → some b ≠ u4.ownBlock) := Lib.hid (fun _ b o e e2 => by
          have h1 := (HO.out.lt b (by rw [e]; rfl)).1
          have h2 := VL.out b e2.symm
          omega)
        have I3 := Lib.hid (Ints.of_own HO.out)
        have SN := Lib.hid (SSof.cons_one I3.out HNE.out)
        obtain ⟨vs, hv1, hv2⟩ := O2.out
        rw [HL.out] at hv1
        have OW0 := Lib.hid hv1
        have SS0 := Lib.hid hv2
        clear hv1 hv2 O2
        go_wp2_with (at_builtin; refine wpList_append_own_at _ rfl _ _ 41 rfl (w.heap.size) 23 j0 (.slice none 0 0) 1 24 Try.underlying41 hj hy0 hy1 hy2 rfl (by decide) _ _ _ rfl (World.ownsRow.alloc OW0.out _) ⟨w3.heap.size, 0, none⟩ 1 1 [.slice b3 _ c3] rfl rfl (app_s1 _ _ _) (app_s3 _ _ _) (by unfold maxLen; omega) (by omega) (by simp; omega) ?_)
        intro v' w4 hv hg _ hat
        have O4 := Lib.hid (OwnSS.appended (SS0.out.below ((Below.refl _ _).alloc (Nat.le_refl _) _)) (SN.out.below ((Below.refl _ _).alloc (Nat.le_refl _) _)) (by rw [HL.out]; exact hv) hg (by rw [World.size_alloc]; exact hat))
        have B4 := Lib.hid ((B2.out.alloc hs2 _).grown hg (by simp; omega) (fun j hj => (OW0.out.lt j hj).1))
        have I4 := Lib.hid ((I3.out.alloc _).kept0 hg HNE.out)
        clear hv hg hat OW0 SS0 SN hs2
        have e1 : Tm.value xs = Tm.val xs := Tm.value_eq WX.out
        have vb := Tm.val_bd_len WX.out 30 (by rw [PX.out]; omega)
        have lb : Tm.limN 30 ≤ 102945566047324 := Tm.limN_le (by omega)
        obtain ⟨vx, hvx⟩ : ∃ vx, vx = Tm.value xs := ⟨_, rfl⟩
        rw [e1] at hvx
        rw [← hvx] at vb
        obtain ⟨vb0, vb1⟩ := vb
        have vb2 : -102945566047324 ≤ vx := by omega
        have vb3 : vx ≤ 102945566047324 := by omega
        have SV2 : Hid (sm + vx = Tm.sumV (L ++ [xs])) := Lib.hid (by rw [Tm.sumV_snoc, SV.out, hvx])
        have EV : Hid (Tm.value xs = vx) := Lib.hid (by rw [e1, hvx])
        have AW2 := Lib.hid (Tm.allW_snoc AW.out WX.out PX.out)
        clear e1 vb0 vb1 lb hvx
        go_wp2_with fail
        refine (iValueOf b3 xs.length c3 xs _ I4.out).mono ?_
        rw [EV.out]
        rintro e w' ⟨rfl, rfl⟩
        go_wp2_with fail
        exact ⟨⟨n + 1, L ++ [xs], sm + vx, by omega, by rw [List.length_append, HL.out]; rfl, by go_num, rfl, by omega, by omega, O4, AW2, SV2, B4⟩, by simp [intOf]; omega⟩
      · have n1 : 1 ≤ n := by omega
        have hlt' : ¬ ((n : Int) < 1 + (i : Int)) := by omega
        go_wp2_with fail
        refine (iLimitOf (k : Int) _).mono ?_
        rintro e w' ⟨rfl, rfl⟩
        subst hL
        obtain ⟨lm, hlm⟩ : ∃ lm, lm = Tm.lim (k : Int) := ⟨_, rfl⟩
        rw [← hlm]
        have hl2 : lm = Tm.limN k := by rw [hlm, Tm.lim_nat k1 (by omega)]
        have PK : Hid (Tm.pow3 k = 2 * lm + 1) := Lib.hid (by rw [hl2, Tm.pow3_limN])
        have lm0 : 0 ≤ lm := by rw [hl2]; exact Tm.limN_nonneg _
        have lm1 : lm ≤ 102945566047324 := by rw [hl2]; exact Tm.limN_le (by omega)
        clear hlm hl2 hlt hlt' hi i_lt y_0 y_1
        obtain ⟨a1, cap1, e4, hr⟩ := OO.out.rows
        have HR := Lib.hid hr
        have E4 := Lib.hid e4
        clear hr e4 OO
        have SF := Lib.hid (Tm.save_facts n1 n12 AW.out)
        go_wp2_with fail
        rw [E4.out]
        refine (retINB_ex (iTreeSum a1 L.length cap1 L _ HR.out) SF.out.1).mono ?_
        rintro e w5 ⟨s, ro, b5, c5, hs, hro, rfl, ho, hb, ln5⟩
        have r0 : 0 ≤ ro := by rw [hro]; exact SF.out.2.2.2.2.2.2.1
        have r6 : ro ≤ 6 := by rw [hro]; exact SF.out.2.2.2.2.2.2.2.1
        have RO := Lib.hid hro
        have HS := Lib.hid hs
        have IS := Lib.hid (Ints.of_own ho)
        have HR5 := Lib.hid (HR.out.below hb)
        have B5 := Lib.hid (BB.out.trans (hb.mono BB.out.size))
        have hs5 := B5.out.size
        clear hs hro ho hb HR BB
        go_wp2_with fail
        have O6 : Hid (OwnSS (w5.alloc (.cells #[] 23)) w5.heap.size 23 (.slice (some ⟨w5.heap.size, 0, none⟩) 0 0) (L.drop L.length).reverse) := Lib.hid (by rw [List.drop_length]; exact own_emptyS w5 w5.heap.size 23 (Nat.le_refl _))
        go_loopw [12, 13] (fun v i wr => ∃ (j : Nat), j ≤ L.length ∧ i = .int .i64 ((j : Int) - 1) ∧ Hid (OwnSS wr w5.heap.size 23 v (L.drop j).reverse) ∧ Hid (Below w5.heap.size w5 wr)) (fun _ i _ => (intOf i + 1).toNat)
        case atStart => exact ⟨L.length, by omega, rfl, O6, Lib.hid (by (repeat' (first | (with_reducible exact Below.refl _ _) | (with_reducible assumption) | (with_reducible refine below_drewN ?_ _) | (with_reducible refine Below.drew ?_) | (with_reducible refine Below.alloc ?_ ?_ _) | (with_reducible refine Below.setCell ?_ ?_ _) | (with_reducible refine below_gw ?_ ?_ _) | (with_reducible refine below_via ?_ ‹Below _ _ _› ?_) | (with_reducible exact Nat.le_refl _) | (with_reducible refine le_gw ?_ _) | (with_reducible refine le_alloc ?_ _) | (with_reducible refine le_setCell ?_ _ _) | (with_reducible refine le_drew ?_) | (with_reducible refine le_drewN ?_ _) | go_size)))⟩
        case round =>
          clear O6
          obtain ⟨j, hj12, rfl, OB, BB⟩ := hrel
          by_cases hj0 : 1 ≤ j
          · obtain ⟨q, hq⟩ : ∃ q, j = q + 1 := ⟨j - 1, by omega⟩
            subst hq
            have q1 : (((q + 1 : Nat) : Int) - 1) = (q : Int) := by omega
            rcases HR5.out.2.2.2 with h0 | ⟨b, o, e, hbl, hc⟩
            · omega
            obtain ⟨a2, m2, c2, z2, i2⟩ := hc q (by omega)
            clear hc
            subst e
            have z3 := (World.cell?_of_block (a := ⟨b, o + q, none⟩) (BB.out.block b hbl)).trans z2
            have ED := Lib.hid (Tm.drop_back (L := L) (j := q) (by omega))
            obtain ⟨xs, hxs⟩ : ∃ xs, xs = L.getD q [] := ⟨_, rfl⟩
            rw [← hxs] at i2 ED
            obtain ⟨vs, hv1, hv2⟩ := OB.out
            have SN := Lib.hid (SSof.cons_one (i2.below BB.out) (fun hm b' o' e' (e2 : some b' = u12.ownBlock) => by have := i2.lt hm b' o' e'; have := (hv1.lt b' e2.symm).1; omega))
            have dl : (L.drop (q + 1)).reverse.length ≤ 12 := by simp; omega
            obtain ⟨D, hD⟩ : ∃ D, D = (L.drop (q + 1)).reverse := ⟨_, rfl⟩
            rw [← hD] at hv1 hv2 ED dl
            have OW0 := Lib.hid hv1
            have SS0 := Lib.hid hv2
            have hs1 := BB.out.size
            rw [q1]
            clear z2 hxs i2 hv1 hv2 OB hD q1
            go_wp2_with (at_builtin; refine wpList_append_own_at _ rfl _ _ 41 rfl (w5.heap.size) 23 j0 (.slice none 0 0) 1 24 Try.underlying41 hj hy0 hy1 hy2 rfl (by decide) _ _ _ rfl (World.ownsRow.alloc OW0.out _) ⟨wr.heap.size, 0, none⟩ 1 1 [.slice a2 m2 c2] rfl rfl (app_s1 _ _ _) (app_s3 _ _ _) (by unfold maxLen; omega) (by omega) (by simp; omega) ?_)
            intro v' w6 hv hg _ hat
            have O2 := Lib.hid (OwnSS.appended (SS0.out.below ((Below.refl _ _).alloc (Nat.le_refl _) _)) (SN.out.below ((Below.refl _ _).alloc (Nat.le_refl _) _)) hv hg (by rw [World.size_alloc]; exact hat))
            have B2 := Lib.hid ((BB.out.alloc hs1 _).grown hg (by simp; omega) (fun j hj => (OW0.out.lt j hj).1))
            rw [ED.out] at O2
            clear hv hg hat OW0 SS0 SN hs1 z3
            go_wp2_with fail
            exact ⟨⟨q, by omega, rfl, O2, B2⟩, by simp [intOf]⟩
          · obtain rfl : j = 0 := by omega
            have ob := OB.out
            rw [List.drop_zero] at ob
            obtain ⟨a7, cap7, e7, hr7⟩ := ob.rows
            rw [List.length_reverse] at e7 hr7
            have HR7 := Lib.hid hr7
            have E7 := Lib.hid e7
            have IS1 := Lib.hid (IS.out.below BB.out)
            have HR6 := Lib.hid (HR5.out.below BB.out)
            have B6 := Lib.hid (B5.out.trans (BB.out.mono hs5))
            clear ob e7 hr7 OB IS HR5 B5 BB
            go_wp2_with fail
            rw [E7.out]
            refine (retINB_ex (iTreeSum a7 L.length cap7 L.reverse _ HR7.out) SF.out.2.1).mono ?_
            rintro e w6 ⟨t, rt, b6, c6, ht, -, rfl, ho, hb, ln6⟩
            have st : s = t := by rw [HS.out, ht, SF.out.2.2.1]
            have ST := Lib.hid st
            have IT := Lib.hid (Ints.of_own ho)
            have IS2 := Lib.hid (IS1.out.below hb)
            have HR8 := Lib.hid (HR6.out.below hb)
            have B8 := Lib.hid (B6.out.trans (hb.mono B6.out.size))
            have sk : s.length = k := by rw [HS.out]; exact SF.out.2.2.2.2.1
            have WS : Hid (Tm.isW s = true) := Lib.hid (by rw [HS.out]; exact SF.out.2.2.2.1)
            have EVS : Hid (Tm.value s = Tm.val s) := Lib.hid (Tm.value_eq WS.out)
            have SD : Hid (Tm.pow3 k ∣ Tm.val s - Tm.sumV L) := Lib.hid (by rw [HS.out]; exact SF.out.2.2.2.2.2.1)
            have sl : ((s.length : Int) != (k : Int)) = false := by rw [sk]; simp
            clear sk st ht ho hb IS1 HR6 B6 HR7
            go_wp2_with fail
            refine (ints_any b5 b6 s.length t.length c5 c6 s t _ IS2.out IT.out).mono ?_
            rintro e w7 ⟨h0, hb⟩
            rw [decide_eq_true ST.out] at h0
            subst h0
            have IS3 := Lib.hid (IS2.out.below hb)
            have HR9 := Lib.hid (HR8.out.below hb)
            have B9 := Lib.hid (B8.out.trans (hb.mono B8.out.size))
            clear hb IS2 HR8 B8 IT
            have vb := Tm.val_bd_len WS.out 30 (by have := Tm.isW_len WS.out; exact this)
            have lb : Tm.limN 30 ≤ 102945566047324 := Tm.limN_le (by omega)
            obtain ⟨vs, hvs⟩ : ∃ vs, vs = Tm.value s := ⟨_, rfl⟩
            have EV : Hid (Tm.value s = vs) := Lib.hid hvs.symm
            rw [← EVS.out, ← hvs] at vb
            have vb2 : -102945566047324 ≤ vs := by omega
            have vb3 : vs ≤ 102945566047324 := by omega
            have md : (vs - sm).tmod (2 * lm + 1) = 0 := by
              rw [← PK.out, hvs, EVS.out, SV.out]
              exact Tm.dvd_tmod SD.out
            clear vb lb hvs
            go_wp2_with fail
            refine (iValueOf b5 s.length c5 s _ IS3.out).mono ?_
            rw [EV.out]
            rintro e w' ⟨rfl, rfl⟩
            by_cases h3 : L.length < 3
            · have rz : ro = 0 := by rw [RO.out]; exact SF.out.2.2.2.2.2.2.2.2 h3
              have h3' : (L.length : Int) < 3 := by omega
              subst rz
              go_wp2_with fail
              go_ret
              exact ⟨rfl, B9.out⟩
            · have h3' : ¬ ((L.length : Int) < 3) := by omega
              rcases HR9.out.2.2.2 with h0 | ⟨b, o, e, hbl, hc⟩
              · omega
              obtain ⟨q1, m1, d1, z1, i1⟩ := hc 0 (by omega)
              obtain ⟨q2, m2, d2, z2, i2⟩ := hc 1 (by omega)
              obtain ⟨q3, m3, d3, z3, i3⟩ := hc 2 (by omega)
              clear hc
              subst e
              rw [Nat.add_zero] at z1
              go_wp2_with fail
              clear md s0 s1 vb2 vb3
              have W1 := Tm.allW_at AW.out (i := 0) (by omega)
              have W2 := Tm.allW_at AW.out (i := 1) (by omega)
              have W3 := Tm.allW_at AW.out (i := 2) (by omega)
              obtain ⟨xs, hxs⟩ : ∃ xs, xs = L.getD 0 [] := ⟨_, rfl⟩
              obtain ⟨ys, hys⟩ : ∃ xs, xs = L.getD 1 [] := ⟨_, rfl⟩
              obtain ⟨zs, hzs⟩ : ∃ xs, xs = L.getD 2 [] := ⟨_, rfl⟩
              rw [← hxs] at i1 W1
              rw [← hys] at i2 W2
              rw [← hzs] at i3 W3
              clear hxs hys hzs
              obtain ⟨X, Y, f0, f1, f2, f3, f4, f5, f6, f7, f8⟩ := Tm.sav_facts W1 W2 W3
              have CS := Lib.hid (save_met i1 i2 i3 f0 f1 f2 f4 f6)
              obtain ⟨va, hva⟩ : ∃ v, v = Tm.val xs := ⟨_, rfl⟩
              obtain ⟨vb, hvb⟩ : ∃ v, v = Tm.val ys := ⟨_, rfl⟩
              obtain ⟨vc, hvc⟩ : ∃ v, v = Tm.val zs := ⟨_, rfl⟩
              obtain ⟨vx, hvx⟩ : ∃ v, v = Tm.val X := ⟨_, rfl⟩
              obtain ⟨vy, hvy⟩ : ∃ v, v = Tm.val Y := ⟨_, rfl⟩
              have g1 := Tm.val30 W1.1
              have g2 := Tm.val30 W2.1
              have g3 := Tm.val30 W3.1
              have g4 := Tm.val30 f3
              have g5 := Tm.val30 f5
              rw [← hva] at g1 f8
              rw [← hvb] at g2 f8
              rw [← hvc] at g3 f8
              rw [← hvx] at g4 f8
              rw [← hvy] at g5 f8
              have md2 : (vx + vy - va - vb - vc).tmod (2 * lm + 1) = 0 := by
                rw [← PK.out]
                exact Tm.dvd_tmod f8
              have G1 := Lib.hid g1.1
              have G2 := Lib.hid g2.1
              have G3 := Lib.hid g3.1
              have G4 := Lib.hid g4.1
              have G5 := Lib.hid g5.1
              have Y0 := Lib.hid f7
              obtain ⟨-, b11, b12⟩ := g1
              obtain ⟨-, b21, b22⟩ := g2
              obtain ⟨-, b31, b32⟩ := g3
              obtain ⟨-, b41, b42⟩ := g4
              obtain ⟨-, b51, b52⟩ := g5
              have S3 : Hid (∀ W, Below w7.heap.size w7 W → W.cell? ⟨b, o, none⟩ = some (.slice q1 m1 d1) ∧ W.cell? ⟨b, o + 1, none⟩ = some (.slice q2 m2 d2) ∧ W.cell? ⟨b, o + 2, none⟩ = some (.slice q3 m3 d3)) := Lib.hid fun W hW => by
                have hb := hW.block b hbl
                refine ⟨?_, ?_, ?_⟩
                · rw [← z1]; exact World.cell?_of_block (a := ⟨b, o, none⟩) hb
                · rw [← z2]; exact World.cell?_of_block (a := ⟨b, o + 1, none⟩) hb
                · rw [← z3]; exact World.cell?_of_block (a := ⟨b, o + 2, none⟩) hb
              have I1 := Lib.hid i1
              have I2 := Lib.hid i2
              have I3 := Lib.hid i3
              have j1 : (0 : Int) < (L.length : Int) := by omega
              have j2 : (1 : Int) < (L.length : Int) := by omega
              have j3 : (2 : Int) < (L.length : Int) := by omega
              have j4 : 0 < L.length := by omega
              have j5 : 1 < L.length := by omega
              have j6 : 2 < L.length := by omega
              have k0 : 0 < k := by omega
              have hs9 := B9.out.size
              clear i1 i2 i3 z1 z2 z3 W1 W2 W3 f0 f1 f2 f3 f4 f5 f6 f7 f8 hva hvb hvc hvx hvy HR9 IS3 EV EVS SD ST WS HS SF AW SV PK E7 RO
              go_region_held3 (fun W => W.cell? ⟨b, o, none⟩ = some (.slice q1 m1 d1) ∧ W.cell? ⟨b, o + 1, none⟩ = some (.slice q2 m2 d2) ∧ W.cell? ⟨b, o + 2, none⟩ = some (.slice q3 m3 d3)) (exact S3.out _ (by (repeat' (first | (with_reducible exact Below.refl _ _) | (with_reducible assumption) | (with_reducible refine below_drewN ?_ _) | (with_reducible refine Below.drew ?_) | (with_reducible refine Below.alloc ?_ ?_ _) | (with_reducible refine Below.setCell ?_ ?_ _) | (with_reducible refine below_gw ?_ ?_ _) | (with_reducible refine below_via ?_ ‹Below _ _ _› ?_) | (with_reducible exact Nat.le_refl _) | (with_reducible refine le_gw ?_ _) | (with_reducible refine le_alloc ?_ _) | (with_reducible refine le_setCell ?_ _ _) | (with_reducible refine le_drew ?_) | (with_reducible refine le_drewN ?_ _) | go_size)))) ((first | (go_at_call 41; refine (CS.out _ (by (repeat' (first | (with_reducible exact Below.refl _ _) | (with_reducible assumption) | (with_reducible refine below_drewN ?_ _) | (with_reducible refine Below.drew ?_) | (with_reducible refine Below.alloc ?_ ?_ _) | (with_reducible refine Below.setCell ?_ ?_ _) | (with_reducible refine below_gw ?_ ?_ _) | (with_reducible refine below_via ?_ ‹Below _ _ _› ?_) | (with_reducible exact Nat.le_refl _) | (with_reducible refine le_gw ?_ _) | (with_reducible refine le_alloc ?_ _) | (with_reducible refine le_setCell ?_ _ _) | (with_reducible refine le_drew ?_) | (with_reducible refine le_drewN ?_ _) | go_size)))).mono ?_; rintro e w1 ⟨x1, y1, x2, y2, rfl, ho1, ho2, hb⟩; have HO1 := Lib.hid ho1; have HO2 := Lib.hid ho2; clear ho1 ho2; obtain ⟨p, rfl⟩ := gw_of_below hb; clear hb)))
              obtain ⟨W, hWW⟩ : ∃ W, W = gw w7 p := ⟨_, rfl⟩
              have BW : Below w7.heap.size w7 W := by rw [hWW]; (repeat' (first | (with_reducible exact Below.refl _ _) | (with_reducible assumption) | (with_reducible refine below_drewN ?_ _) | (with_reducible refine Below.drew ?_) | (with_reducible refine Below.alloc ?_ ?_ _) | (with_reducible refine Below.setCell ?_ ?_ _) | (with_reducible refine below_gw ?_ ?_ _) | (with_reducible refine below_via ?_ ‹Below _ _ _› ?_) | (with_reducible exact Nat.le_refl _) | (with_reducible refine le_gw ?_ _) | (with_reducible refine le_alloc ?_ _) | (with_reducible refine le_setCell ?_ _ _) | (with_reducible refine le_drew ?_) | (with_reducible refine le_drewN ?_ _) | go_size))
              have BE := Lib.hid (B9.out.trans (BW.mono hs9))
              have K1 : Hid (Ints W x1 k y1 X) := Lib.hid (by rw [hWW]; exact HO1.out)
              have K2 : Ints W x2 k y2 Y := by rw [hWW]; exact HO2.out
              have J1 := Lib.hid (I1.out.below BW)
              have J2 := Lib.hid (I2.out.below BW)
              have J3 := Lib.hid (I3.out.below BW)
              obtain ⟨z1, z2, z3⟩ := S3.out W BW
              rw [← hWW]
              clear hWW BW CS S3 I1 I2 I3 B9 HO1 HO2
              have K3 := Lib.hid K2
              rcases K2.2.2.2 with h0 | ⟨b', o', e, hbl', hc⟩
              · omega
              have z4 := hc 0 (by omega)
              rw [Y0.out, Nat.add_zero] at z4
              clear hc K2
              subst e
              go_wp2_with fail
              go_quiet ((go_at_call 13; first | exact quiet_val K1.out G4.out _ | exact quiet_val K3.out G5.out _ | exact quiet_val J1.out G1.out _ | exact quiet_val J2.out G2.out _ | exact quiet_val J3.out G3.out _))
              go_wp2_with fail
              go_ret
              exact ⟨rfl, below_drewN BE.out _⟩
  · go_enter Try.func8, Try.ntmps8
    go_wp2
    go_ret
    exact ⟨rfl, Below.refl _ _⟩
end Go.Proofs.Ytlbhekfjcbcpaaa

/- The program's adders: three words saved as two. -/
import Derived.Test.YtgfgndfklonhfaaAI1
import Derived.Deep.OwnRows
import Derived.RegionTactic
namespace Go.Proofs.Ytgfgndfklonhfaa
set_option maxRecDepth 20000
open Go.RowKit
theorem made_row (W : World) (B e n : Nat) (hB : B ≤ W.heap.size) (hn : n ≤ maxLen) : (W.alloc (.cells (madeCells #[Value.int .i64 0] n) e)).ownsRow B e 1 (.slice (some ⟨W.heap.size, 0, none⟩) n n) n (rowV n fun _ => 0) :=
  rowV_own (World.ownsRow_lit W (madeCells #[Value.int .i64 0] n) n hB hn (by simp [madeCells]))
set_option maxHeartbeats 4000000 in
theorem iCarrySave (a : Option Addr) (n cap : Nat) (xs : List Int) (b : Option Addr) (m cap2 : Nat) (ys : List Int) (c : Option Addr) (l cap3 : Nat) (zs : List Int) (w : World) (h : Ints w a n cap xs) (h2 : Ints w b m cap2 ys) (h3 : Ints w c l cap3 zs) : Calls Try.prog 55 #[.slice a n cap, .slice b m cap2, .slice c l cap3] w (Ret2B 3 w (Tm.sv1 xs ys zs) (Tm.sv2 xs ys zs) (Tm.savOk xs ys zs)) := by
  have H := Lib.hid h
  have H2 := Lib.hid h2
  have H3 := Lib.hid h3
  have RR := Lib.hid (rows_three h h2 h3 23)
  clear h h2 h3
  have hal := Tm.alike_three xs ys zs
  by_cases ho : Tm.savOk xs ys zs = true
  · rw [Tm.sv1, Tm.sv2, if_pos ho, if_pos ho, ho]
    rw [ho] at hal
    have ff := (Tm.fit_iff _ _).1 (Bool.and_eq_true _ _ |>.mp ho).1
    have ff2 := (Tm.fit_iff _ _).1 (Bool.and_eq_true _ _ |>.mp ho).2
    have hn : n = xs.length := H.out.1.symm
    obtain rfl : m = n := by rw [hn, ff.2.2]; exact H2.out.1.symm
    obtain rfl : l = m := by rw [hn, ff2.2.2]; exact H3.out.1.symm
    have n30 := Tm.isW_len ff.1
    rw [← hn] at n30 ⊢
    have n1 : 0 < l := by rw [hn]; exact Tm.isW_pos ff.1
    have HO := Lib.hid (And.intro ff ff2)
    clear ff ff2 hn ho
    have hmk := run_make_row' (P := Try.prog) 23 3 (.int .i64 0) 8 Try.underlying23 infoInt rfl .i64 .i64 l (by omega) (by omega)
    go_enter Try.func55, Try.ntmps55
    go_wp2_with fail
    refine (iAreAlike _ 3 3 (xs :: ys :: zs :: []) _ RR.out).mono ?_
    rintro e w1 ⟨rfl, hw1⟩
    have hb1 : Below w.heap.size w w1 := by rw [← hw1]; (repeat' (first | (with_reducible exact Below.refl _ _) | (with_reducible assumption) | (with_reducible refine below_drewN ?_ _) | (with_reducible refine Below.drew ?_) | (with_reducible refine Below.alloc ?_ ?_ _) | (with_reducible refine Below.setCell ?_ ?_ _) | (with_reducible refine below_gw ?_ ?_ _) | (with_reducible refine below_via ?_ ‹Below _ _ _› ?_) | (with_reducible exact Nat.le_refl _) | (with_reducible refine le_gw ?_ _) | (with_reducible refine le_alloc ?_ _) | (with_reducible refine le_setCell ?_ _ _) | (with_reducible refine le_drew ?_) | (with_reducible refine le_drewN ?_ _) | go_size))
    have hs1 := hb1.size
    clear hw1
    go_wp2_with fail
    go_region
    all_goals
      clear hmk hal
      obtain ⟨W, hW⟩ : ∃ W, W = ((w1.alloc (.cells (madeCells #[Value.int .i64 0] l) 3)).alloc (.cells (madeCells #[Value.int .i64 0] l) 3)).drew := ⟨_, rfl⟩
      have o1 : W.ownsRow w.heap.size 3 1 (.slice (some ⟨w1.heap.size, 0, none⟩) l l) l (rowV l fun _ => 0) := by
        rw [hW]; exact World.ownsRow.drew (World.ownsRow.alloc (made_row w1 _ _ _ hs1 (by unfold maxLen; omega)) _)
      have o2 : W.ownsRow w.heap.size 3 1 (.slice (some ⟨w1.heap.size + 1, 0, none⟩) l l) l (rowV l fun _ => 0) := by
        have := made_row (w1.alloc (.cells (madeCells #[Value.int .i64 0] l) 3)) w.heap.size 3 l (by rw [World.size_alloc]; exact Nat.le_succ_of_le hs1) (by unfold maxLen; omega)
        rw [hW]
        rw [World.size_alloc] at this
        exact World.ownsRow.drew this
      have bW : Below w.heap.size w W := by rw [hW]; (repeat' (first | (with_reducible exact Below.refl _ _) | (with_reducible assumption) | (with_reducible refine below_drewN ?_ _) | (with_reducible refine Below.drew ?_) | (with_reducible refine Below.alloc ?_ ?_ _) | (with_reducible refine Below.setCell ?_ ?_ _) | (with_reducible refine below_gw ?_ ?_ _) | (with_reducible refine below_via ?_ ‹Below _ _ _› ?_) | (with_reducible exact Nat.le_refl _) | (with_reducible refine le_gw ?_ _) | (with_reducible refine le_alloc ?_ _) | (with_reducible refine le_setCell ?_ _ _) | (with_reducible refine le_drew ?_) | (with_reducible refine le_drewN ?_ _) | go_size))
      rw [← hW]
      clear hW
      obtain ⟨G2, hG2⟩ : ∃ G2, G2 = w1.heap.size + 1 := ⟨_, rfl⟩
      rw [← hG2] at o2 ⊢
      obtain ⟨G1, hG1⟩ : ∃ G1, G1 = w1.heap.size := ⟨_, rfl⟩
      rw [← hG1] at o1 hG2 hs1 ⊢
      clear hG1
    · obtain ⟨T, hT⟩ : ∃ T, T = G1 := ⟨_, rfl⟩
      obtain ⟨C, hC⟩ : ∃ C, C = G2 := ⟨_, rfl⟩
      have hne : T ≠ C := by omega
      have hTs : w.heap.size ≤ T := by omega
      have hCs : w.heap.size ≤ C := by omega
      have hT1 := o1
      have hC1 := o2
      rw [← hT] at hT1 ⊢
      rw [← hC] at hC1 ⊢
      clear o1 o2 hT hC hG2 hs1
      go_wp2_with fail
      go_loopw [11, 27] (fun q i wr => ∃ (j : Nat) (g1 g2 : Nat → Int), j ≤ l ∧ i = .int .i64 j ∧ q = .int .i64 (Tm.sav2 xs ys zs j) ∧ Hid (wr.ownsRow w.heap.size 3 1 (.slice (some ⟨T, 0, none⟩) l l) l (rowV l g1)) ∧ Hid (wr.ownsRow w.heap.size 3 1 (.slice (some ⟨C, 0, none⟩) l l) l (rowV l g2)) ∧ Hid (∀ q, q < j → g1 q = Tm.sav1 xs ys zs q) ∧ Hid (∀ q, q < j → g2 q = Tm.sav2 xs ys zs q) ∧ Hid (Below w.heap.size w wr)) (fun _ i _ => l - (intOf i).toNat)
      case atStart => exact ⟨0, _, _, by omega, rfl, rfl, Lib.hid hT1, Lib.hid hC1, Lib.hid (fun q hq => by omega), Lib.hid (fun q hq => by omega), Lib.hid bW⟩
      case round =>
        obtain ⟨k, g1, g2, hk, rfl, rfl, OT, OC, GT, GC, BB⟩ := hrel
        clear hT1 hC1 bW
        by_cases hlt : k < l
        · rcases H.out.2.2.2 with h0 | ⟨b1, o1, e1, hbl, -⟩
          · omega
          rcases H2.out.2.2.2 with h0 | ⟨b2, o2, e2, hbl2, -⟩
          · omega
          rcases H3.out.2.2.2 with h0 | ⟨b3, o3, e3, hbl3, -⟩
          · omega
          subst e1 e2 e3
          obtain ⟨x, hxx⟩ : ∃ x, x = xs.getD k 0 := ⟨_, rfl⟩
          obtain ⟨y, hyy⟩ : ∃ y, y = ys.getD k 0 := ⟨_, rfl⟩
          obtain ⟨z, hzz⟩ : ∃ z, z = zs.getD k 0 := ⟨_, rfl⟩
          obtain ⟨v, hv⟩ : ∃ v, v = Tm.sav2 xs ys zs k := ⟨_, rfl⟩
          rw [← hv]
          have E1 : Hid (Tm.sav1 xs ys zs k = Tm.full1 x y z) := Lib.hid (by rw [Tm.sav1, hxx, hyy, hzz])
          have E2 : Hid (Tm.sav2 xs ys zs (k + 1) = Tm.full2 x y z) := Lib.hid (by rw [Tm.sav2, hxx, hyy, hzz])
          have E3 := Lib.hid hv
          have SS : Hid (∀ w', Below w.heap.size wr w' → w'.cell? ⟨b1, o1 + k, none⟩ = some (.int .i64 x) ∧ w'.cell? ⟨b2, o2 + k, none⟩ = some (.int .i64 y) ∧ w'.cell? ⟨b3, o3 + k, none⟩ = some (.int .i64 z)) := Lib.hid fun w' hb => by
            rw [hxx, hyy, hzz]
            exact ⟨Ints.cell_below H.out hbl hlt (BB.out.trans hb), Ints.cell_below H2.out hbl2 hlt (BB.out.trans hb), Ints.cell_below H3.out hbl3 hlt (BB.out.trans hb)⟩
          have fz := OC.out.frozenAt k
          have ck := own_cell OC.out k hlt
          have PT := own_put OC.out k v
          obtain ⟨gk, hgk⟩ : ∃ gk, gk = g2 k := ⟨_, rfl⟩
          rw [← hgk] at ck
          clear hv hxx hyy hzz hgk
          go_wp2_with fail
          obtain ⟨W2, hW2⟩ : ∃ W2, W2 = wr.setCell ⟨C, k, none⟩ (.int .i64 v) := ⟨_, rfl⟩
          have bw : Below w.heap.size wr W2 := by rw [hW2]; (repeat' (first | (with_reducible exact Below.refl _ _) | (with_reducible assumption) | (with_reducible refine below_drewN ?_ _) | (with_reducible refine Below.drew ?_) | (with_reducible refine Below.alloc ?_ ?_ _) | (with_reducible refine Below.setCell ?_ ?_ _) | (with_reducible refine below_gw ?_ ?_ _) | (with_reducible refine below_via ?_ ‹Below _ _ _› ?_) | (with_reducible exact Nat.le_refl _) | (with_reducible refine le_gw ?_ _) | (with_reducible refine le_alloc ?_ _) | (with_reducible refine le_setCell ?_ _ _) | (with_reducible refine le_drew ?_) | (with_reducible refine le_drewN ?_ _) | go_size))
          rw [← hW2] at PT ⊢
          have OC2 := Lib.hid PT.1
          have OT2 := Lib.hid (OT.out.kept PT.2 (.inr (by simp only [Value.ownBlock, ne_eq, Option.some.injEq]; exact hne)))
          have BW := Lib.hid (BB.out.trans bw)
          have S2 : Hid (∀ w', Below w.heap.size W2 w' → w'.cell? ⟨b1, o1 + k, none⟩ = some (.int .i64 x) ∧ w'.cell? ⟨b2, o2 + k, none⟩ = some (.int .i64 y) ∧ w'.cell? ⟨b3, o3 + k, none⟩ = some (.int .i64 z)) := Lib.hid fun w' hb => SS.out w' (bw.trans hb)
          clear hW2 bw fz ck PT OT OC SS BB
          have fz := OT2.out.frozenAt k
          have ck := own_cell OT2.out k hlt
          have PT := Lib.hid (own_put OT2.out k (Tm.full1 x y z))
          obtain ⟨gk, hgk⟩ : ∃ gk, gk = g1 k := ⟨_, rfl⟩
          rw [← hgk] at ck
          clear hgk
          go_region_held3 (fun w' => w'.cell? ⟨b1, o1 + k, none⟩ = some (.int .i64 x) ∧ w'.cell? ⟨b2, o2 + k, none⟩ = some (.int .i64 y) ∧ w'.cell? ⟨b3, o3 + k, none⟩ = some (.int .i64 z)) (exact S2.out _ (by (repeat' (first | (with_reducible exact Below.refl _ _) | (with_reducible assumption) | (with_reducible refine below_drewN ?_ _) | (with_reducible refine Below.drew ?_) | (with_reducible refine Below.alloc ?_ ?_ _) | (with_reducible refine Below.setCell ?_ ?_ _) | (with_reducible refine below_gw ?_ ?_ _) | (with_reducible refine below_via ?_ ‹Below _ _ _› ?_) | (with_reducible exact Nat.le_refl _) | (with_reducible refine le_gw ?_ _) | (with_reducible refine le_alloc ?_ _) | (with_reducible refine le_setCell ?_ _ _) | (with_reducible refine le_drew ?_) | (with_reducible refine le_drewN ?_ _) | go_size)))) ((first | (go_at_call 57; refine (iFullAdd x y z _).mono ?_; rintro e w1 ⟨rfl, rfl⟩)))
          go_wp2
          refine ⟨⟨k + 1, _, _, by omega, by go_num, val_int E2.out.symm, Lib.hid PT.out.1, Lib.hid (World.ownsRow.drew (World.ownsRow.kept (row := some T) OC2.out PT.out.2 (.inr (fun e => hne (Option.some.inj e).symm)))), Lib.hid (fun q hq => ?_), Lib.hid (fun q hq => ?_), Lib.hid (by have bb := BW.out; (repeat' (first | (with_reducible exact Below.refl _ _) | (with_reducible assumption) | (with_reducible refine below_drewN ?_ _) | (with_reducible refine Below.drew ?_) | (with_reducible refine Below.alloc ?_ ?_ _) | (with_reducible refine Below.setCell ?_ ?_ _) | (with_reducible refine below_gw ?_ ?_ _) | (with_reducible refine below_via ?_ ‹Below _ _ _› ?_) | (with_reducible exact Nat.le_refl _) | (with_reducible refine le_gw ?_ _) | (with_reducible refine le_alloc ?_ _) | (with_reducible refine le_setCell ?_ _ _) | (with_reducible refine le_drew ?_) | (with_reducible refine le_drewN ?_ _) | go_size)))⟩, by simp [intOf]; omega⟩
          · by_cases e : q = k
            · subst e; rw [upd_at, E1.out]
            · rw [upd_ne _ _ _ e]; exact GT.out q (by omega)
          · by_cases e : q = k
            · subst e; rw [upd_at, E3.out]
            · rw [upd_ne _ _ _ e]; exact GC.out q (by omega)
        · obtain rfl : k = l := by omega
          go_wp2
          go_ret3
          have hr := OT.out
          have hs := OC.out
          rw [rowV_congr (fun i hi => GT.out i hi), rowV_gen] at hr
          rw [rowV_congr (fun i hi => GC.out i hi), rowV_gen] at hs
          exact ret_own_2b hr hs (fun j e1 e2 => hne (Option.some.inj (e1.trans e2.symm))) BB.out (by omega) (by omega)
    · obtain ⟨T, hT⟩ : ∃ T, T = G2 := ⟨_, rfl⟩
      obtain ⟨C, hC⟩ : ∃ C, C = G1 := ⟨_, rfl⟩
      have hne : T ≠ C := by omega
      have hTs : w.heap.size ≤ T := by omega
      have hCs : w.heap.size ≤ C := by omega
      have hT1 := o2
      have hC1 := o1
      rw [← hT] at hT1 ⊢
      rw [← hC] at hC1 ⊢
      clear o1 o2 hT hC hG2 hs1
      go_wp2_with fail
      go_loopw [11, 27] (fun q i wr => ∃ (j : Nat) (g1 g2 : Nat → Int), j ≤ l ∧ i = .int .i64 j ∧ q = .int .i64 (Tm.sav2 xs ys zs j) ∧ Hid (wr.ownsRow w.heap.size 3 1 (.slice (some ⟨T, 0, none⟩) l l) l (rowV l g1)) ∧ Hid (wr.ownsRow w.heap.size 3 1 (.slice (some ⟨C, 0, none⟩) l l) l (rowV l g2)) ∧ Hid (∀ q, q < j → g1 q = Tm.sav1 xs ys zs q) ∧ Hid (∀ q, q < j → g2 q = Tm.sav2 xs ys zs q) ∧ Hid (Below w.heap.size w wr)) (fun _ i _ => l - (intOf i).toNat)
      case atStart => exact ⟨0, _, _, by omega, rfl, rfl, Lib.hid hT1, Lib.hid hC1, Lib.hid (fun q hq => by omega), Lib.hid (fun q hq => by omega), Lib.hid bW⟩
      case round =>
        obtain ⟨k, g1, g2, hk, rfl, rfl, OT, OC, GT, GC, BB⟩ := hrel
        clear hT1 hC1 bW
        by_cases hlt : k < l
        · rcases H.out.2.2.2 with h0 | ⟨b1, o1, e1, hbl, -⟩
          · omega
          rcases H2.out.2.2.2 with h0 | ⟨b2, o2, e2, hbl2, -⟩
          · omega
          rcases H3.out.2.2.2 with h0 | ⟨b3, o3, e3, hbl3, -⟩
          · omega
          subst e1 e2 e3
          obtain ⟨x, hxx⟩ : ∃ x, x = xs.getD k 0 := ⟨_, rfl⟩
          obtain ⟨y, hyy⟩ : ∃ y, y = ys.getD k 0 := ⟨_, rfl⟩
          obtain ⟨z, hzz⟩ : ∃ z, z = zs.getD k 0 := ⟨_, rfl⟩
          obtain ⟨v, hv⟩ : ∃ v, v = Tm.sav2 xs ys zs k := ⟨_, rfl⟩
          rw [← hv]
          have E1 : Hid (Tm.sav1 xs ys zs k = Tm.full1 x y z) := Lib.hid (by rw [Tm.sav1, hxx, hyy, hzz])
          have E2 : Hid (Tm.sav2 xs ys zs (k + 1) = Tm.full2 x y z) := Lib.hid (by rw [Tm.sav2, hxx, hyy, hzz])
          have E3 := Lib.hid hv
          have SS : Hid (∀ w', Below w.heap.size wr w' → w'.cell? ⟨b1, o1 + k, none⟩ = some (.int .i64 x) ∧ w'.cell? ⟨b2, o2 + k, none⟩ = some (.int .i64 y) ∧ w'.cell? ⟨b3, o3 + k, none⟩ = some (.int .i64 z)) := Lib.hid fun w' hb => by
            rw [hxx, hyy, hzz]
            exact ⟨Ints.cell_below H.out hbl hlt (BB.out.trans hb), Ints.cell_below H2.out hbl2 hlt (BB.out.trans hb), Ints.cell_below H3.out hbl3 hlt (BB.out.trans hb)⟩
          have fz := OC.out.frozenAt k
          have ck := own_cell OC.out k hlt
          have PT := own_put OC.out k v
          obtain ⟨gk, hgk⟩ : ∃ gk, gk = g2 k := ⟨_, rfl⟩
          rw [← hgk] at ck
          clear hv hxx hyy hzz hgk
          go_wp2_with fail
          obtain ⟨W2, hW2⟩ : ∃ W2, W2 = wr.setCell ⟨C, k, none⟩ (.int .i64 v) := ⟨_, rfl⟩
          have bw : Below w.heap.size wr W2 := by rw [hW2]; (repeat' (first | (with_reducible exact Below.refl _ _) | (with_reducible assumption) | (with_reducible refine below_drewN ?_ _) | (with_reducible refine Below.drew ?_) | (with_reducible refine Below.alloc ?_ ?_ _) | (with_reducible refine Below.setCell ?_ ?_ _) | (with_reducible refine below_gw ?_ ?_ _) | (with_reducible refine below_via ?_ ‹Below _ _ _› ?_) | (with_reducible exact Nat.le_refl _) | (with_reducible refine le_gw ?_ _) | (with_reducible refine le_alloc ?_ _) | (with_reducible refine le_setCell ?_ _ _) | (with_reducible refine le_drew ?_) | (with_reducible refine le_drewN ?_ _) | go_size))
          rw [← hW2] at PT ⊢
          have OC2 := Lib.hid PT.1
          have OT2 := Lib.hid (OT.out.kept PT.2 (.inr (by simp only [Value.ownBlock, ne_eq, Option.some.injEq]; exact hne)))
          have BW := Lib.hid (BB.out.trans bw)
          have S2 : Hid (∀ w', Below w.heap.size W2 w' → w'.cell? ⟨b1, o1 + k, none⟩ = some (.int .i64 x) ∧ w'.cell? ⟨b2, o2 + k, none⟩ = some (.int .i64 y) ∧ w'.cell? ⟨b3, o3 + k, none⟩ = some (.int .i64 z)) := Lib.hid fun w' hb => SS.out w' (bw.trans hb)
          clear hW2 bw fz ck PT OT OC SS BB
          have fz := OT2.out.frozenAt k
          have ck := own_cell OT2.out k hlt
          have PT := Lib.hid (own_put OT2.out k (Tm.full1 x y z))
          obtain ⟨gk, hgk⟩ : ∃ gk, gk = g1 k := ⟨_, rfl⟩
          rw [← hgk] at ck
          clear hgk
          go_region_held3 (fun w' => w'.cell? ⟨b1, o1 + k, none⟩ = some (.int .i64 x) ∧ w'.cell? ⟨b2, o2 + k, none⟩ = some (.int .i64 y) ∧ w'.cell? ⟨b3, o3 + k, none⟩ = some (.int .i64 z)) (exact S2.out _ (by (repeat' (first | (with_reducible exact Below.refl _ _) | (with_reducible assumption) | (with_reducible refine below_drewN ?_ _) | (with_reducible refine Below.drew ?_) | (with_reducible refine Below.alloc ?_ ?_ _) | (with_reducible refine Below.setCell ?_ ?_ _) | (with_reducible refine below_gw ?_ ?_ _) | (with_reducible refine below_via ?_ ‹Below _ _ _› ?_) | (with_reducible exact Nat.le_refl _) | (with_reducible refine le_gw ?_ _) | (with_reducible refine le_alloc ?_ _) | (with_reducible refine le_setCell ?_ _ _) | (with_reducible refine le_drew ?_) | (with_reducible refine le_drewN ?_ _) | go_size)))) ((first | (go_at_call 57; refine (iFullAdd x y z _).mono ?_; rintro e w1 ⟨rfl, rfl⟩)))
          go_wp2
          refine ⟨⟨k + 1, _, _, by omega, by go_num, val_int E2.out.symm, Lib.hid PT.out.1, Lib.hid (World.ownsRow.drew (World.ownsRow.kept (row := some T) OC2.out PT.out.2 (.inr (fun e => hne (Option.some.inj e).symm)))), Lib.hid (fun q hq => ?_), Lib.hid (fun q hq => ?_), Lib.hid (by have bb := BW.out; (repeat' (first | (with_reducible exact Below.refl _ _) | (with_reducible assumption) | (with_reducible refine below_drewN ?_ _) | (with_reducible refine Below.drew ?_) | (with_reducible refine Below.alloc ?_ ?_ _) | (with_reducible refine Below.setCell ?_ ?_ _) | (with_reducible refine below_gw ?_ ?_ _) | (with_reducible refine below_via ?_ ‹Below _ _ _› ?_) | (with_reducible exact Nat.le_refl _) | (with_reducible refine le_gw ?_ _) | (with_reducible refine le_alloc ?_ _) | (with_reducible refine le_setCell ?_ _ _) | (with_reducible refine le_drew ?_) | (with_reducible refine le_drewN ?_ _) | go_size)))⟩, by simp [intOf]; omega⟩
          · by_cases e : q = k
            · subst e; rw [upd_at, E1.out]
            · rw [upd_ne _ _ _ e]; exact GT.out q (by omega)
          · by_cases e : q = k
            · subst e; rw [upd_at, E3.out]
            · rw [upd_ne _ _ _ e]; exact GC.out q (by omega)
        · obtain rfl : k = l := by omega
          go_wp2
          go_ret3
          have hr := OT.out
          have hs := OC.out
          rw [rowV_congr (fun i hi => GT.out i hi), rowV_gen] at hr
          rw [rowV_congr (fun i hi => GC.out i hi), rowV_gen] at hs
          exact ret_own_2b hr hs (fun j e1 e2 => hne (Option.some.inj (e1.trans e2.symm))) BB.out (by omega) (by omega)
  · simp only [Bool.not_eq_true] at ho
    rw [Tm.sv1, Tm.sv2, ho]
    rw [ho] at hal
    clear ho
    go_enter Try.func55, Try.ntmps55
    go_wp2_with fail
    refine (iAreAlike _ 3 3 (xs :: ys :: zs :: []) _ RR.out).mono ?_
    rintro e w1 ⟨rfl, hw1⟩
    have hb1 : Below w.heap.size w w1 := by rw [← hw1]; (repeat' (first | (with_reducible exact Below.refl _ _) | (with_reducible assumption) | (with_reducible refine below_drewN ?_ _) | (with_reducible refine Below.drew ?_) | (with_reducible refine Below.alloc ?_ ?_ _) | (with_reducible refine Below.setCell ?_ ?_ _) | (with_reducible refine below_gw ?_ ?_ _) | (with_reducible refine below_via ?_ ‹Below _ _ _› ?_) | (with_reducible exact Nat.le_refl _) | (with_reducible refine le_gw ?_ _) | (with_reducible refine le_alloc ?_ _) | (with_reducible refine le_setCell ?_ _ _) | (with_reducible refine le_drew ?_) | (with_reducible refine le_drewN ?_ _) | go_size))
    clear hw1
    go_wp2_with fail
    go_ret3
    exact ret_nil_2b hb1
end Go.Proofs.Ytgfgndfklonhfaa

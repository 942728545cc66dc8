/- The program's adders: sums, differences, carries. -/
import Derived.Test.YtgfgndfklonhfaaSS
import Derived.Test.YtgfgndfklonhfaaWI2
import Derived.Test.YtgfgndfklonhfaaAMath
import Derived.Test.YtgfgndfklonhfaaAS
import Derived.Deep.RegionHeld3
namespace Go.Proofs.Ytgfgndfklonhfaa
set_option maxRecDepth 20000
open Go.RowKit
namespace Tm
theorem alike_two (xs ys : List Int) : alike [xs, ys] = fit xs ys := by
  rw [Bool.eq_iff_iff, fit_iff]
  simp only [alike, List.all_cons, List.all_nil, List.getD_cons_zero, Bool.and_true, Bool.and_eq_true, decide_eq_true_eq]
  constructor
  · rintro ⟨⟨h1, _⟩, h2, h3⟩; exact ⟨h1, h2, h3.symm⟩
  · rintro ⟨h1, h2, h3⟩; exact ⟨⟨h1, trivial⟩, h2, h3.symm⟩
theorem alike_three (xs ys zs : List Int) : alike [xs, ys, zs] = savOk xs ys zs := by
  rw [Bool.eq_iff_iff, savOk, Bool.and_eq_true, fit_iff, fit_iff]
  simp only [alike, List.all_cons, List.all_nil, List.getD_cons_zero, Bool.and_true, Bool.and_eq_true, decide_eq_true_eq]
  constructor
  · rintro ⟨⟨h1, _⟩, ⟨h2, h3⟩, h4, h5⟩; exact ⟨⟨h1, h2, h3.symm⟩, h1, h4, h5.symm⟩
  · rintro ⟨⟨h1, h2, h3⟩, _, h4, h5⟩; exact ⟨⟨h1, trivial⟩, ⟨h2, h3.symm⟩, h4, h5.symm⟩
end Tm
/-- What is below stays: a cell of a slice that came in. -/
theorem Ints.cell_below {w : World} {B : Nat} {b o n cap : Nat} {xs : List Int} (h : Ints w (some ⟨b, o, none⟩) n cap xs) (hB : b < B) {k : Nat} (hk : k < n) {w1 : World} (hb : Below B w w1) : w1.cell? ⟨b, o + k, none⟩ = some (.int .i64 (xs.getD k 0)) := by
  rcases h.2.2.2 with h0 | ⟨b', o', e, _, hc⟩
  · omega
  · cases e
    rw [← hc k hk]
    exact World.cell?_of_block (a := ⟨b, o + k, none⟩) (hb.block b hB)
set_option maxHeartbeats 2000000 in
theorem iAddWords (a : Option Addr) (n cap : Nat) (xs : List Int) (b : Option Addr) (m cap2 : Nat) (ys : List Int) (c : Int) (w : World) (h : Ints w a n cap xs) (h2 : Ints w b m cap2 ys) : Calls Try.prog 37 #[.slice a n cap, .slice b m cap2, .int .i64 c] w (RetINB 3 w (Tm.add xs ys c) (Tm.addC xs ys c) (Tm.addOk xs ys c)) := by
  obtain ⟨i0, hi, hz0, hz1, hz2⟩ := info_parts infoInt
  have H := Lib.hid h
  have H2 := Lib.hid h2
  have RR := Lib.hid (rows_two h h2 23)
  clear h h2
  by_cases hf : Tm.fit xs ys = true
  · by_cases hc : Tm.isT c = true
    · have ho : Tm.addOk xs ys c = true := by simp [Tm.addOk, hf, hc]
      rw [Tm.add, Tm.addC, if_pos ho, if_pos ho, ho]
      obtain ⟨hx, hy, hl⟩ := (Tm.fit_iff xs ys).1 hf
      have l30 := Tm.isW_len hx
      have hn : xs.length = n := H.out.1
      have hm : ys.length = m := H2.out.1
      have hnm : m = n := by omega
      subst hnm
      rw [hn] at l30 ⊢
      have HX := Lib.hid hx
      have HY := Lib.hid hy
      have HN := Lib.hid hn
      have HC := Lib.hid ((Tm.isT_iff c).1 hc)
      have hf' : Tm.alike (xs :: ys :: []) = true := by rw [Tm.alike_two]; exact hf
      clear ho hx hy hl hn hm hf
      go_enter Try.func37, Try.ntmps37
      go_wp2_with fail
      refine (iAreAlike _ 2 2 (xs :: ys :: []) _ RR.out).mono ?_
      rintro e w1 ⟨rfl, hw1⟩
      have hb1 : Below w.heap.size w w1 := by rw [← hw1]; (repeat' (first | (with_reducible exact Below.refl _ _) | (with_reducible assumption) | (with_reducible refine below_drewN ?_ _) | (with_reducible refine Below.drew ?_) | (with_reducible refine Below.alloc ?_ ?_ _) | (with_reducible refine Below.setCell ?_ ?_ _) | (with_reducible refine below_gw ?_ ?_ _) | (with_reducible refine below_via ?_ ‹Below _ _ _› ?_) | (with_reducible exact Nat.le_refl _) | (with_reducible refine le_gw ?_ _) | (with_reducible refine le_alloc ?_ _) | (with_reducible refine le_setCell ?_ _ _) | (with_reducible refine le_drew ?_) | (with_reducible refine le_drewN ?_ _) | go_size))
      have hs1 := hb1.size
      clear hw1
      go_wp2_with (first | (go_at_call 56; refine (iIsTrit _ _).mono ?_; rintro e w1 ⟨rfl, rfl⟩) | (at_make; refine wpList_make_full _ rfl _ _ 23 rfl (w.heap.size) 3 i0 (.int .i64 0) 1 Try.underlying23 hi hz0 hz1 _ _ _ _ (m) rfl rfl (by first | rfl | omega) (by first | rfl | omega) (by rw [hz2]; omega) (by unfold maxLen; omega) (by first | go_size | (simp only [gw_size, World.size_alloc]; omega) | exact Nat.le_refl _ | omega) ?_))
      intro w2 hown hgrow
      have hown0 := rowV_own hown
      have hb2 : Below w.heap.size w w2 := hb1.grown hgrow hs1 (fun k hk => by cases hk)
      obtain ⟨G, hG⟩ : ∃ G, G = w1.heap.size := ⟨_, rfl⟩
      rw [← hG] at hown0 hs1 ⊢
      clear hown hgrow hb1 hc hf' hG
      go_wp2_with fail
      go_loopw [2, 26] (fun q i wr => ∃ (j : Nat) (g : Nat → Int), j ≤ m ∧ i = .int .i64 j ∧ q = .int .i64 (Tm.crr xs ys c j) ∧ Hid (wr.ownsRow w.heap.size 3 1 (.slice (some ⟨G, 0, none⟩) m m) m (rowV m g)) ∧ Hid (∀ q, q < j → g q = Tm.sumF xs ys c q) ∧ Hid (Below w.heap.size w wr)) (fun _ i _ => m - (intOf i).toNat)
      case atStart => exact ⟨0, _, by omega, rfl, rfl, Lib.hid hown0, Lib.hid (fun q hq => by omega), Lib.hid hb2⟩
      case round =>
        obtain ⟨k, g, hk, rfl, rfl, OW, GG, BB⟩ := hrel
        clear hown0 hb2
        by_cases hlt : k < m
        · rcases H.out.2.2.2 with h0 | ⟨b1, o1, e1, hbl, -⟩
          · omega
          rcases H2.out.2.2.2 with h0 | ⟨b2, o2, e2, hbl2, -⟩
          · omega
          subst e1 e2
          obtain ⟨x, hxx⟩ : ∃ x, x = xs.getD k 0 := ⟨_, rfl⟩
          obtain ⟨y, hyy⟩ : ∃ y, y = ys.getD k 0 := ⟨_, rfl⟩
          obtain ⟨z, hz⟩ : ∃ z, z = Tm.crr xs ys c k := ⟨_, rfl⟩
          rw [← hz]
          have E1 : Hid (Tm.sumF xs ys c k = Tm.full1 x y z) := Lib.hid (by rw [Tm.sumF, hxx, hyy, hz])
          have E2 : Hid (Tm.crr xs ys c (k + 1) = Tm.full2 x y z) := Lib.hid (by rw [Tm.crr, hxx, hyy, hz])
          have SS : Hid (∀ w', Below w.heap.size wr w' → w'.cell? ⟨b1, o1 + k, none⟩ = some (.int .i64 x) ∧ w'.cell? ⟨b2, o2 + k, none⟩ = some (.int .i64 y)) := Lib.hid fun w' hb => by
            rw [hxx, hyy]
            exact ⟨Ints.cell_below H.out hbl hlt (BB.out.trans hb), Ints.cell_below H2.out hbl2 hlt (BB.out.trans hb)⟩
          have gs := own_base OW.out
          obtain ⟨gs0, gs1⟩ := gs
          have fz := OW.out.frozenAt k
          have ck := own_cell OW.out k hlt
          have PT := Lib.hid (own_put OW.out k (Tm.full1 x y z))
          obtain ⟨gk, hgk⟩ : ∃ gk, gk = g k := ⟨_, rfl⟩
          rw [← hgk] at ck
          clear hz hxx hyy hgk OW
          go_wp2_with fail
          go_region_held3 (fun w' => w'.cell? ⟨b1, o1 + k, none⟩ = some (.int .i64 x) ∧ w'.cell? ⟨b2, o2 + k, none⟩ = some (.int .i64 y)) (exact SS.out _ (by (repeat' (first | (with_reducible exact Below.refl _ _) | (with_reducible assumption) | (with_reducible refine below_drewN ?_ _) | (with_reducible refine Below.drew ?_) | (with_reducible refine Below.alloc ?_ ?_ _) | (with_reducible refine Below.setCell ?_ ?_ _) | (with_reducible refine below_gw ?_ ?_ _) | (with_reducible refine below_via ?_ ‹Below _ _ _› ?_) | (with_reducible exact Nat.le_refl _) | (with_reducible refine le_gw ?_ _) | (with_reducible refine le_alloc ?_ _) | (with_reducible refine le_setCell ?_ _ _) | (with_reducible refine le_drew ?_) | (with_reducible refine le_drewN ?_ _) | go_size)))) ((first | (go_at_call 57; refine (iFullAdd x y z _).mono ?_; rintro e w1 ⟨rfl, rfl⟩)))
          go_wp2
          refine ⟨⟨k + 1, _, by omega, by go_num, val_int E2.out.symm, Lib.hid PT.out.1, Lib.hid (fun q hq => ?_), Lib.hid (by have bb := BB.out; (repeat' (first | (with_reducible exact Below.refl _ _) | (with_reducible assumption) | (with_reducible refine below_drewN ?_ _) | (with_reducible refine Below.drew ?_) | (with_reducible refine Below.alloc ?_ ?_ _) | (with_reducible refine Below.setCell ?_ ?_ _) | (with_reducible refine below_gw ?_ ?_ _) | (with_reducible refine below_via ?_ ‹Below _ _ _› ?_) | (with_reducible exact Nat.le_refl _) | (with_reducible refine le_gw ?_ _) | (with_reducible refine le_alloc ?_ _) | (with_reducible refine le_setCell ?_ _ _) | (with_reducible refine le_drew ?_) | (with_reducible refine le_drewN ?_ _) | go_size)))⟩, by simp [intOf]; omega⟩
          by_cases e : q = k
          · subst e; rw [upd_at, E1.out]
          · rw [upd_ne _ _ _ e]; exact GG.out q (by omega)
        · obtain rfl : k = m := by omega
          go_wp2
          go_ret3
          have hr := OW.out
          rw [rowV_congr (fun i hi => GG.out i hi), rowV_gen] at hr
          rw [Tm.addL, HN.out]
          exact ret_own_nb hr BB.out (by omega)
    · simp only [Bool.not_eq_true] at hc
      have ho : Tm.addOk xs ys c = false := by simp [Tm.addOk, hc]
      rw [Tm.add, Tm.addC, ho]
      have hf' : Tm.alike (xs :: ys :: []) = true := by rw [Tm.alike_two]; exact hf
      clear ho
      go_enter Try.func37, Try.ntmps37
      go_wp2_with fail
      refine (iAreAlike _ 2 2 (xs :: ys :: []) _ RR.out).mono ?_
      rintro e w1 ⟨rfl, hw1⟩
      have hb1 : Below w.heap.size w w1 := by rw [← hw1]; (repeat' (first | (with_reducible exact Below.refl _ _) | (with_reducible assumption) | (with_reducible refine below_drewN ?_ _) | (with_reducible refine Below.drew ?_) | (with_reducible refine Below.alloc ?_ ?_ _) | (with_reducible refine Below.setCell ?_ ?_ _) | (with_reducible refine below_gw ?_ ?_ _) | (with_reducible refine below_via ?_ ‹Below _ _ _› ?_) | (with_reducible exact Nat.le_refl _) | (with_reducible refine le_gw ?_ _) | (with_reducible refine le_alloc ?_ _) | (with_reducible refine le_setCell ?_ _ _) | (with_reducible refine le_drew ?_) | (with_reducible refine le_drewN ?_ _) | go_size))
      clear hw1
      go_wp2_with ((go_at_call 56; refine (iIsTrit _ _).mono ?_; rintro e w1 ⟨rfl, rfl⟩))
      go_ret3
      exact ret_nil_nb hb1
  · simp only [Bool.not_eq_true] at hf
    have ho : Tm.addOk xs ys c = false := by simp [Tm.addOk, hf]
    rw [Tm.add, Tm.addC, ho]
    have hf' : Tm.alike (xs :: ys :: []) = false := by rw [Tm.alike_two]; exact hf
    clear ho
    go_enter Try.func37, Try.ntmps37
    go_wp2_with fail
    refine (iAreAlike _ 2 2 (xs :: ys :: []) _ RR.out).mono ?_
    rintro e w1 ⟨rfl, hw1⟩
    have hb1 : Below w.heap.size w w1 := by rw [← hw1]; (repeat' (first | (with_reducible exact Below.refl _ _) | (with_reducible assumption) | (with_reducible refine below_drewN ?_ _) | (with_reducible refine Below.drew ?_) | (with_reducible refine Below.alloc ?_ ?_ _) | (with_reducible refine Below.setCell ?_ ?_ _) | (with_reducible refine below_gw ?_ ?_ _) | (with_reducible refine below_via ?_ ‹Below _ _ _› ?_) | (with_reducible exact Nat.le_refl _) | (with_reducible refine le_gw ?_ _) | (with_reducible refine le_alloc ?_ _) | (with_reducible refine le_setCell ?_ _ _) | (with_reducible refine le_drew ?_) | (with_reducible refine le_drewN ?_ _) | go_size))
    clear hw1
    go_wp2_with fail
    go_ret3
    exact ret_nil_nb hb1
end Go.Proofs.Ytgfgndfklonhfaa

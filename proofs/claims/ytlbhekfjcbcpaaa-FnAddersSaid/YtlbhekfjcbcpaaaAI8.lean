/- The program's carries found ahead. -/
import Derived.Test.YtlbhekfjcbcpaaaAI7
import Derived.Test.YtlbhekfjcbcpaaaAI1
import Derived.Test.YtlbhekfjcbcpaaaAMath5
import Derived.Carry
namespace Go.Proofs.Ytlbhekfjcbcpaaa
set_option maxRecDepth 20000
open Go.RowKit
/-- Block b holds n carry maps of the call's own. -/
def Mrow (w : World) (B b n : Nat) (F : Nat → Nat → Int) : Prop := w.ownsRow B 50 3 (.slice (some ⟨b, 0, none⟩) n n) n (rowV (n * 3) (catM F))
theorem Mrow.cell {w : World} {B b n : Nat} {F : Nat → Nat → Int} (h : Mrow w B b n F) {k j : Nat} (hk : k < n) (hj : j < 3) : w.cell? ⟨b, k * 3 + j, none⟩ = some (.int .i64 (F k j)) := by
  rw [World.ownsRow.cellAt h (k * 3 + j) (by omega), rowV_get _ _ _ (by omega), catM_at F k j hj]
theorem Mrow.base {w : World} {B b n : Nat} {F : Nat → Nat → Int} (h : Mrow w B b n F) : B ≤ b ∧ b < w.heap.size := World.ownsRow.lt h b rfl
theorem Mrow.kept {w w' : World} {B b n : Nat} {F : Nat → Nat → Int} (h : Mrow w B b n F) {row : Option Nat} (hg : w.grownBy w' row) (hne : some b ≠ row) : Mrow w' B b n F :=
  World.ownsRow.kept h hg (.inr (by simpa [Value.ownBlock] using hne))
theorem Mrow.put {w : World} {B b n : Nat} {F : Nat → Nat → Int} (h : Mrow w B b n F) (k : Nat) (f : Nat → Int) :
    Mrow (((w.setCell ⟨b, k * 3, none⟩ (.int .i64 (f 0))).setCell ⟨b, k * 3 + 1, none⟩ (.int .i64 (f 1))).setCell ⟨b, k * 3 + 2, none⟩ (.int .i64 (f 2))) B b n (updM F k f) ∧ w.grownBy (((w.setCell ⟨b, k * 3, none⟩ (.int .i64 (f 0))).setCell ⟨b, k * 3 + 1, none⟩ (.int .i64 (f 1))).setCell ⟨b, k * 3 + 2, none⟩ (.int .i64 (f 2))) (some b) := by
  have h1 := World.ownsRow.stored h (k * 3) (.int .i64 (f 0))
  have h2 := World.ownsRow.stored h1.1 (k * 3 + 1) (.int .i64 (f 1))
  have h3 := World.ownsRow.stored h2.1 (k * 3 + 2) (.int .i64 (f 2))
  refine ⟨?_, (h1.2.trans h2.2).trans h3.2⟩
  have := h3.1
  rw [rowV_set, rowV_set, rowV_set, catM_upd] at this
  exact this
theorem Mrow.below {w w' : World} {B b n : Nat} {F : Nat → Nat → Int} (h : Mrow w B b n F) (hb : Below w.heap.size w w') : Mrow w' B b n F := h.kept (grown_of_below hb none) (by simp)
theorem Mrow.gw {w : World} {B b n : Nat} {F : Nat → Nat → Int} (h : Mrow w B b n F) (p : Regrown) : Mrow (gw w p) B b n F := h.below (below_gw (Below.refl _ _) (Nat.le_refl _) p)
theorem infoMap : (Try.prog.info? 50).map (fun i => (i.zero, i.size, i.bytes)) = some (some (.agg #[.int .i64 0, .int .i64 0, .int .i64 0]), 3, 24) := by kernel_rfl
theorem made3 (n : Nat) : (madeCells (Value.agg #[.int .i64 0, .int .i64 0, .int .i64 0]).cells (n * 3)).toList = rowV (n * 3) (catM fun _ _ => 0) := by
  apply List.ext_getElem?
  intro j
  by_cases hj : j < n * 3
  · rw [rowV_get _ _ _ hj]
    have : j % 3 = 0 ∨ j % 3 = 1 ∨ j % 3 = 2 := by omega
    rcases this with h | h | h <;> simp [madeCells, hj, Value.cells, h, catM]
  · rw [List.getElem?_eq_none (by simp [madeCells]; omega), List.getElem?_eq_none (by rw [rowV_length]; omega)]
def RetM (w : World) (n : Nat) (F : Nat → Nat → Int) (r : Ending) (w' : World) : Prop :=
  ∃ b F', r = .returned (.slice (some ⟨b, 0, none⟩) n n) ∧ Mrow w' w.heap.size b n F' ∧ (∀ q j, q < n → j < 3 → F' q j = F q j) ∧ Below w.heap.size w w'
set_option maxHeartbeats 4000000 in
theorem iMapsAhead (a : Option Addr) (n cap : Nat) (xs : List Int) (b : Option Addr) (cap2 : Nat) (ys : List Int) (w : World) (h : Ints w a n cap xs) (h2 : Ints w b n cap2 ys) (hx : Tm.isW xs = true) (hy : Tm.isW ys = true) : Calls Try.prog 78 #[.slice a n cap, .slice b n cap2] w (RetM w n fun i => Tm.ahd xs ys n i) := by
  obtain ⟨i0, hi, hz0, hz1, hz2⟩ := info_parts infoMap
  have H := Lib.hid h
  have H2 := Lib.hid h2
  have HX := Lib.hid hx
  have HY := Lib.hid hy
  have l30 := Tm.isW_len hx
  have l1 := Tm.isW_pos hx
  have hn : xs.length = n := h.1
  rw [hn] at l30 l1
  clear h h2 hx hy hn
  go_enter Try.func78, Try.ntmps78
  go_wp2_with (at_make; refine wpList_make_full _ rfl _ _ 71 rfl w.heap.size 50 i0 (.agg #[.int .i64 0, .int .i64 0, .int .i64 0]) 3 Try.underlying71 hi hz0 hz1 _ _ _ _ n rfl rfl (by first | rfl | omega) (by first | rfl | omega) (by rw [hz2]; omega) (by unfold maxLen; omega) (by omega) ?_)
  intro w1 hown hgrow
  have hown0 : Mrow w1 w.heap.size w.heap.size n (fun _ _ => 0) := by unfold Mrow; rw [← made3]; exact hown
  have hb1 : Below w.heap.size w w1 := (Below.refl _ _).grown hgrow (Nat.le_refl _) (fun k hk => by cases hk)
  obtain ⟨G, hG⟩ : ∃ G, G = w.heap.size := ⟨_, rfl⟩
  rw [← hG] at hown0 hb1 ⊢
  have HG := Lib.hid hG
  clear hown hgrow hG
  go_wp2_with fail
  go_loopw [15] (fun i wr => ∃ (k : Nat) (F : Nat → Nat → Int), k ≤ n ∧ i = .int .i64 k ∧ Hid (Mrow wr G G n F) ∧ Hid (∀ q j, q < k → j < 3 → F q j = Tm.ahd xs ys 1 q j) ∧ Hid (Below G w wr)) (fun i _ => n - (intOf i).toNat)
  case atStart => exact ⟨0, _, by omega, rfl, Lib.hid hown0, Lib.hid (fun q j hq => by omega), Lib.hid hb1⟩
  case round =>
    obtain ⟨k, F, hk, rfl, OW, GG, BB⟩ := hrel
    clear hown0 hb1
    by_cases hlt : k < n
    · rcases H.out.2.2.2 with h0 | ⟨b1, o1, e1, hbl, -⟩
      · omega
      rcases H2.out.2.2.2 with h0 | ⟨b2, o2, e2, hbl2, -⟩
      · omega
      subst e1 e2
      obtain ⟨x, hxx⟩ : ∃ x, x = xs.getD k 0 := ⟨_, rfl⟩
      obtain ⟨y, hyy⟩ : ∃ y, y = ys.getD k 0 := ⟨_, rfl⟩
      have E1 : Hid (∀ j, Tm.ahd xs ys 1 k j = Tm.mp x y j) := Lib.hid (fun j => by rw [hxx, hyy]; exact Tm.ahd_one _ _ _ _)
      rw [← HG.out] at hbl hbl2
      have SS : Hid (∀ w', Below G wr w' → w'.cell? ⟨b1, o1 + k, none⟩ = some (.int .i64 x) ∧ w'.cell? ⟨b2, o2 + k, none⟩ = some (.int .i64 y)) := Lib.hid fun w' hb => by
        rw [hxx, hyy]
        exact ⟨Ints.cell_below H.out hbl hlt (BB.out.trans hb), Ints.cell_below H2.out hbl2 hlt (BB.out.trans hb)⟩
      have gs1 := OW.out.base.2
      have fz0 := World.ownsRow.frozenAt OW.out (k * 3)
      have fz1 := World.ownsRow.frozenAt OW.out (k * 3 + 1)
      have fz2 := World.ownsRow.frozenAt OW.out (k * 3 + 2)
      have ck0 := OW.out.cell hlt (j := 0) (by omega)
      have ck1 := OW.out.cell hlt (j := 1) (by omega)
      have ck2 := OW.out.cell hlt (j := 2) (by omega)
      rw [Nat.add_zero] at ck0
      generalize F k 0 = f0 at ck0
      generalize F k 1 = f1 at ck1
      generalize F k 2 = f2 at ck2
      have PT := Lib.hid (OW.out.put k (Tm.mp x y))
      clear hxx hyy OW
      go_wp2_with fail
      go_region_held3 (fun w' => w'.cell? ⟨b1, o1 + k, none⟩ = some (.int .i64 x) ∧ w'.cell? ⟨b2, o2 + k, none⟩ = some (.int .i64 y)) (exact SS.out _ (by (repeat' (first | (with_reducible exact Below.refl _ _) | (with_reducible assumption) | (with_reducible refine below_drewN ?_ _) | (with_reducible refine Below.drew ?_) | (with_reducible refine Below.alloc ?_ ?_ _) | (with_reducible refine Below.setCell ?_ ?_ _) | (with_reducible refine below_gw ?_ ?_ _) | (with_reducible refine below_via ?_ ‹Below _ _ _› ?_) | (with_reducible exact Nat.le_refl _) | (with_reducible refine le_gw ?_ _) | (with_reducible refine le_alloc ?_ _) | (with_reducible refine le_setCell ?_ _ _) | (with_reducible refine le_drew ?_) | (with_reducible refine le_drewN ?_ _) | go_size)))) ((first | (go_at_call 50; refine (iMapOf x y _).mono ?_; rintro e w1 ⟨rfl, hb⟩; obtain ⟨p, rfl⟩ := gw_of_below hb; clear hb)))
      go_wp2
      refine ⟨⟨k + 1, _, by omega, by go_num, Lib.hid (PT.out.1.gw _), Lib.hid (fun q j hq hj => ?_), Lib.hid (by have bb := BB.out; have gg := PT.out.1.base; (repeat' (first | (with_reducible exact Below.refl _ _) | (with_reducible assumption) | (with_reducible refine below_drewN ?_ _) | (with_reducible refine Below.drew ?_) | (with_reducible refine Below.alloc ?_ ?_ _) | (with_reducible refine Below.setCell ?_ ?_ _) | (with_reducible refine below_gw ?_ ?_ _) | (with_reducible refine below_via ?_ ‹Below _ _ _› ?_) | (with_reducible exact Nat.le_refl _) | (with_reducible refine le_gw ?_ _) | (with_reducible refine le_alloc ?_ _) | (with_reducible refine le_setCell ?_ _ _) | (with_reducible refine le_drew ?_) | (with_reducible refine le_drewN ?_ _) | go_size)))⟩, by simp [intOf]; omega⟩
      by_cases e : q = k
      · subst e; rw [updM_at, E1.out]
      · rw [updM_ne _ _ _ e]; exact GG.out q j (by omega) hj
    · obtain rfl : k = n := by omega
      have mk := fun w => run_makeMap (P := Try.prog) 79 w
      go_wp2_with fail
      obtain ⟨c, hcc⟩ : ∃ c, c = wr.heap.size := ⟨_, rfl⟩
      rw [← hcc]
      have HC := Lib.hid hcc
      have hc : G < c := by rw [hcc]; exact OW.out.base.2
      clear hcc
      go_loopw [8] (fun r wr => ∃ (m d : Nat) (F : Nat → Nat → Int), 1 ≤ m ∧ m ≤ 60 ∧ r = .int .i64 m ∧ Hid (Mrow wr G G k F) ∧ Hid (∀ q j, q < k → j < 3 → F q j = Tm.ahd xs ys m q j) ∧ Hid (Memo wr c d) ∧ d ≤ 30 * m ∧ Hid (Below G w wr)) (fun r _ => k - (intOf r).toNat)
      case atStart =>
        refine ⟨1, 0, F, by omega, by omega, rfl, Lib.hid (OW.out.below ((Below.refl _ _).alloc (Nat.le_refl _) _)), GG, Lib.hid (by rw [HC.out]; exact Memo.made wr), by omega, Lib.hid (by have bb := BB.out; have gg : G ≤ wr.heap.size := Nat.le_of_lt OW.out.base.2; (repeat' (first | (with_reducible exact Below.refl _ _) | (with_reducible assumption) | (with_reducible refine below_drewN ?_ _) | (with_reducible refine Below.drew ?_) | (with_reducible refine Below.alloc ?_ ?_ _) | (with_reducible refine Below.setCell ?_ ?_ _) | (with_reducible refine below_gw ?_ ?_ _) | (with_reducible refine below_via ?_ ‹Below _ _ _› ?_) | (with_reducible exact Nat.le_refl _) | (with_reducible refine le_gw ?_ _) | (with_reducible refine le_alloc ?_ _) | (with_reducible refine le_setCell ?_ _ _) | (with_reducible refine le_drew ?_) | (with_reducible refine le_drewN ?_ _) | go_size)))⟩
      case round =>
        clear OW GG BB HC
        obtain ⟨m, d, F, m1, m2, rfl, OW, GG, MM, hd, BB⟩ := hrel
        by_cases hlt : m < k
        · go_wp2_with fail
          have KK : Hid (∀ i j, i < k → j < 3 → F i j = if k - 1 < i then Tm.ahd xs ys (2 * m) i j else Tm.ahd xs ys m i j) := Lib.hid (fun i j hi hj => by rw [if_neg (by omega)]; exact GG.out i j hi hj)
          go_loopw [9] (fun i wr => ∃ (q d : Nat) (F : Nat → Nat → Int), m ≤ q + 1 ∧ q < k ∧ i = .int .i64 q ∧ Hid (Mrow wr G G k F) ∧ Hid (∀ i j, i < k → j < 3 → F i j = if q < i then Tm.ahd xs ys (2 * m) i j else Tm.ahd xs ys m i j) ∧ Hid (Memo wr c d) ∧ d + q ≤ 30 * m + k ∧ Hid (Below G w wr)) (fun i _ => (intOf i).toNat)
          case atStart => exact ⟨k - 1, d, F, by omega, by omega, val_int (by omega), OW, KK, MM, by omega, BB⟩
          case round =>
            clear OW GG MM BB hd KK
            obtain ⟨q, d, F, q1, q2, rfl, OW, GG, MM, hd, BB⟩ := hrel
            by_cases hq : m ≤ q
            · obtain ⟨t, ht⟩ : ∃ t, q = t + m := ⟨q - m, by omega⟩
              have ht1 : t < q := by omega
              have fe := fun j hj => (GG.out t j (by omega) hj).trans (if_neg (by omega))
              have ge := fun j hj => (GG.out q j q2 hj).trans (if_neg (by omega))
              have TC := Tm.thn_congr fe ge (Tm.ahd_t3 HX.out HY.out m t) (Tm.ahd_t3 HX.out HY.out m q)
              have TT : Hid (∀ j, j < 3 → Tm.thn (F t) (F q) j = Tm.ahd xs ys (2 * m) q j) := Lib.hid (fun j hj => (TC.2.2 j hj).trans (by rw [show t = q - m from by omega]; exact Tm.ahd_twice HX.out HY.out hq hj))
              have fz0 := World.ownsRow.frozenAt OW.out (q * 3)
              have fz1 := World.ownsRow.frozenAt OW.out (q * 3 + 1)
              have fz2 := World.ownsRow.frozenAt OW.out (q * 3 + 2)
              have ck0 := OW.out.cell q2 (j := 0) (by omega)
              have ck1 := OW.out.cell q2 (j := 1) (by omega)
              have ck2 := OW.out.cell q2 (j := 2) (by omega)
              have dk0 := OW.out.cell (k := t) (by omega) (j := 0) (by omega)
              have dk1 := OW.out.cell (k := t) (by omega) (j := 1) (by omega)
              have dk2 := OW.out.cell (k := t) (by omega) (j := 2) (by omega)
              rw [Nat.add_zero] at ck0 dk0
              have gs := OW.out.base
              have tf := TC.1
              have tg := TC.2.1
              clear TC fe ge
              obtain ⟨f, hf⟩ : ∃ f, f = F t := ⟨_, rfl⟩
              obtain ⟨g, hg⟩ : ∃ g, g = F q := ⟨_, rfl⟩
              rw [← hf] at tf dk0 dk1 dk2 TT
              rw [← hg] at tg ck0 ck1 ck2 TT
              clear hf hg
              have SS : Hid (∀ W, wr.grownBy W (some c) → (W.cell? ⟨G, t * 3, none⟩ = some (.int .i64 (f 0)) ∧ W.cell? ⟨G, t * 3 + 1, none⟩ = some (.int .i64 (f 1)) ∧ W.cell? ⟨G, t * 3 + 2, none⟩ = some (.int .i64 (f 2)) ∧ W.cell? ⟨G, q * 3, none⟩ = some (.int .i64 (g 0)) ∧ W.cell? ⟨G, q * 3 + 1, none⟩ = some (.int .i64 (g 1)) ∧ W.cell? ⟨G, q * 3 + 2, none⟩ = some (.int .i64 (g 2)) ∧ W.frozen? ⟨G, q * 3, none⟩ = false ∧ W.frozen? ⟨G, q * 3 + 1, none⟩ = false ∧ W.frozen? ⟨G, q * 3 + 2, none⟩ = false)) := Lib.hid fun W hW => by
                have hb := hW.block G gs.2 (by simp; omega)
                exact ⟨by rw [← dk0]; exact World.cell?_of_block (a := ⟨G, t * 3, none⟩) hb, by rw [← dk1]; exact World.cell?_of_block (a := ⟨G, t * 3 + 1, none⟩) hb, by rw [← dk2]; exact World.cell?_of_block (a := ⟨G, t * 3 + 2, none⟩) hb, by rw [← ck0]; exact World.cell?_of_block (a := ⟨G, q * 3, none⟩) hb, by rw [← ck1]; exact World.cell?_of_block (a := ⟨G, q * 3 + 1, none⟩) hb, by rw [← ck2]; exact World.cell?_of_block (a := ⟨G, q * 3 + 2, none⟩) hb,
                  by rw [← fz0]; exact World.frozen?_of_block (a := ⟨G, q * 3, none⟩) hb, by rw [← fz1]; exact World.frozen?_of_block (a := ⟨G, q * 3 + 1, none⟩) hb, by rw [← fz2]; exact World.frozen?_of_block (a := ⟨G, q * 3 + 2, none⟩) hb⟩
              have IT : Hid (∀ W, Below wr.heap.size wr W → Calls Try.prog 85 #[.map (some c), mapV f, mapV g] W fun e w' => e = .returned (mapV (Tm.thn f g)) ∧ Memo w' c (d + 1) ∧ wr.grownBy w' (some c)) := Lib.hid fun W hW => by
                refine (iThen c d f g W (MM.out.kept (grown_of_below hW none) (by simp)) tf tg (by unfold maxLen; omega)).mono ?_
                rintro e w' ⟨e1, e2, e3⟩
                exact ⟨e1, e2, grown_then (grown_of_below hW _) e3⟩
              have OK : Hid (∀ W, wr.grownBy W (some c) → Mrow W G G k F) := Lib.hid fun W hW => OW.out.kept hW (by simp; omega)
              have gs2 := gs.2
              have HT := Lib.hid ht
              have i1 : IntKind.i64.wrap ((q : Int) - (m : Int)) = (t : Int) := by rw [show (q : Int) - (m : Int) = (t : Int) from by omega]; exact IntWalk.i64_in t ⟨by omega, by omega⟩
              have i2 : (0 : Int) ≤ (t : Int) := by omega
              have i3 : (t : Int) < (k : Int) := by omega
              have i4 : t < k := by omega
              clear ht fz0 fz1 fz2 ck0 ck1 ck2 dk0 dk1 dk2 tf tg OW gs MM
              go_wp2_with fail
              obtain ⟨x0, x1, x2, x3, x4, x5, x6, x7, x8⟩ := SS.out wr (World.grownBy.refl _ _)
              go_region_law ((first | (go_simp; go_at_call 85; refine (IT.out _ (by (repeat' (first | (with_reducible exact Below.refl _ _) | (with_reducible assumption) | (with_reducible refine below_drewN ?_ _) | (with_reducible refine Below.drew ?_) | (with_reducible refine Below.alloc ?_ ?_ _) | (with_reducible refine Below.setCell ?_ ?_ _) | (with_reducible refine below_gw ?_ ?_ _) | (with_reducible refine below_via ?_ ‹Below _ _ _› ?_) | (with_reducible exact Nat.le_refl _) | (with_reducible refine le_gw ?_ _) | (with_reducible refine le_alloc ?_ _) | (with_reducible refine le_setCell ?_ _ _) | (with_reducible refine le_drew ?_) | (with_reducible refine le_drewN ?_ _) | go_size)))).mono ?_; rintro e w1 ⟨rfl, hm1, hg1⟩; have HM1 := Lib.hid hm1; clear hm1; obtain ⟨y0, y1, y2, y3, y4, y5, y6, y7, y8⟩ := SS.out _ hg1)))
              all_goals
                have OM := OK.out w1 hg1
                have PT := Lib.hid (OM.put q (Tm.thn f g))
                have BX := Lib.hid ((BB.out.grown hg1 (by have := BB.out.size; omega) (fun j hj => by cases hj; omega)).grown PT.out.2 (by have := OM.base; omega) (fun j hj => by cases hj; omega))
                have MX := Lib.hid (Memo.kept HM1.out PT.out.2 (by simp; omega))
                clear OM hg1 HM1 y0 y1 y2 y3 y4 y5 y6 y7 y8 x0 x1 x2 x3 x4 x5 x6 x7 x8
                go_wp2_with fail
                refine ⟨⟨q - 1, d + 1, _, by omega, by omega, val_int (by omega), Lib.hid PT.out.1, Lib.hid (fun i j hi hj => ?_), MX, by omega, BX⟩, by simp [intOf]; omega⟩
                by_cases e : i = q
                · subst e; rw [updM_at, TT.out j hj, if_pos (by omega)]
                · rw [updM_ne _ _ _ e, GG.out i j hi hj]
                  by_cases e2 : q < i
                  · rw [if_pos e2, if_pos (by omega)]
                  · rw [if_neg e2, if_neg (by omega)]
            · obtain rfl : m = q + 1 := by omega
              go_wp2_with fail
              refine ⟨⟨2 * (q + 1), d, F, by omega, by omega, val_int (by omega), OW, Lib.hid (fun i j hi hj => ?_), MM, by omega, BB⟩, by simp [intOf]; omega⟩
              rw [GG.out i j hi hj]
              split
              · rfl
              · exact (Tm.ahd_low xs ys (by omega) j).symm
        · go_wp2_with fail
          go_returns
          refine ⟨G, F, rfl, by rw [← HG.out]; exact OW.out, fun q j hq hj => ?_, by rw [← HG.out]; exact BB.out⟩
          rw [GG.out q j hq hj]
          exact Tm.ahd_top xs ys hq (by omega) j
end Go.Proofs.Ytlbhekfjcbcpaaa

/- The walk of the law on tables. -/
import Derived.Test.YtgaenbpbfhpioaaLTab
import Derived.Test.YtgaenbpbfhpioaaLTrits
namespace Go.Proofs.Ytgaenbpbfhpioaa
open Go.RowKit
namespace Tm
theorem ix_tt {a b : Int} (ha : isT a = true) (hb : isT b = true) (g : Int → Int → Int) : fill g (ix a b) = g a b := by
  rcases isT_cases ha with rfl | rfl | rfl <;> rcases isT_cases hb with rfl | rfl | rfl <;> rfl
theorem isTab_fill {g : Int → Int → Int} (h : ∀ a b, isT a = true → isT b = true → isT (g a b) = true) : isTab (fill g) = true := by
  simp only [isTab, fill, Bool.and_eq_true]
  have n : isT (-1) = true := rfl
  have z : isT 0 = true := rfl
  have o : isT 1 = true := rfl
  simp [h, n, z, o]
theorem neg_isT {a : Int} (h : isT a = true) : isT (-a) = true := by rcases isT_cases h with rfl | rfl | rfl <;> rfl
theorem look_isT (f : Nat → Int) (a b : Int) : isT (look f a b) = true := (isT_iff _).2 (look_tt f a b)
theorem isTab_swap (f : Nat → Int) : isTab (swap f) = true := isTab_fill fun _ _ _ _ => look_isT _ _ _
theorem isTab_dual (f : Nat → Int) : isTab (dual f) = true := isTab_fill fun a b _ _ => by rw [neg_look]; exact neg_isT (look_isT _ _ _)
theorem look_swap (f : Nat → Int) {a b : Int} (ha : isT a = true) (hb : isT b = true) : look (swap f) a b = look f b a := by
  rw [look, isTab_swap, ha, hb]; simp only [Bool.and_self, if_true, swap]; exact ix_tt ha hb _
theorem look_dual (f : Nat → Int) {a b : Int} (ha : isT a = true) (hb : isT b = true) : look (dual f) a b = -look f (-a) (-b) := by
  rw [look, isTab_dual, ha, hb]; simp only [Bool.and_self, if_true, dual]; rw [ix_tt ha hb, neg_look]
theorem tab_look {f : Nat → Int} (h : isTab f = true) {a b : Int} (ha : isT a = true) (hb : isT b = true) : look f a b = f (ix a b) := by
  rw [look, h, ha, hb]; rfl
theorem tri_m : isT (-1) = true := rfl
theorem tri_0 : isT 0 = true := rfl
theorem tri_1 : isT 1 = true := rfl
theorem fill_eq {f : Nat → Int} {g : Int → Int → Int} (h : ∀ a b, isT a = true → isT b = true → g a b = f (ix a b)) : tabV (fill g) = tabV f := by
  simp only [tabV, fill]
  rw [h _ _ tri_m tri_m, h _ _ tri_m tri_0, h _ _ tri_m tri_1, h _ _ tri_0 tri_m, h _ _ tri_0 tri_0, h _ _ tri_0 tri_1, h _ _ tri_1 tri_m, h _ _ tri_1 tri_0, h _ _ tri_1 tri_1]
  rfl
theorem swap_swap {f : Nat → Int} (h : isTab f = true) : tabV (swap (swap f)) = tabV f :=
  fill_eq fun a b ha hb => by rw [look_swap f hb ha, tab_look h ha hb]
theorem dual_dual {f : Nat → Int} (h : isTab f = true) : tabV (dual (dual f)) = tabV f :=
  fill_eq fun a b ha hb => by
    rw [neg_look, look_dual f (neg_isT ha) (neg_isT hb), Int.neg_neg, Int.neg_neg, Int.neg_neg, tab_look h ha hb]
theorem dual_min : tabV (dual (tabOf [109, 105, 110])) = tabV (tabOf [109, 97, 120]) :=
  fill_eq fun a b ha hb => by rcases isT_cases ha with rfl | rfl | rfl <;> rcases isT_cases hb with rfl | rfl | rfl <;> decide
theorem mono_swap (f : Nat → Int) (h : isTab f = true) : mono (swap f) = mono f := by
  rw [mono, mono, isTab_swap, h, Bool.true_and, Bool.true_and, decide_eq_decide]
  simp only [rises, look_swap f tri_m tri_m, look_swap f tri_m tri_0, look_swap f tri_m tri_1, look_swap f tri_0 tri_m, look_swap f tri_0 tri_0, look_swap f tri_0 tri_1, look_swap f tri_1 tri_m, look_swap f tri_1 tri_0, look_swap f tri_1 tri_1]
  omega
theorem mono_dual (f : Nat → Int) (h : isTab f = true) : mono (dual f) = mono f := by
  rw [mono, mono, isTab_dual, h, Bool.true_and, Bool.true_and, decide_eq_decide]
  simp only [rises, look_dual f tri_m tri_m, look_dual f tri_m tri_0, look_dual f tri_m tri_1, look_dual f tri_0 tri_m, look_dual f tri_0 tri_0, look_dual f tri_0 tri_1, look_dual f tri_1 tri_m, look_dual f tri_1 tri_0, look_dual f tri_1 tri_1, Int.neg_neg, Int.neg_zero]
  omega
theorem mono_any : mono (tabOf [97, 110, 121]) = true := by decide
theorem mono_times : mono (tabOf [116, 105, 109, 101, 115]) = false := by decide
theorem look_max {a b : Int} (ha : isT a = true) (hb : isT b = true) : look (tabOf [109, 97, 120]) a b = max a b := by
  rcases isT_cases ha with rfl | rfl | rfl <;> rcases isT_cases hb with rfl | rfl | rfl <;> decide
theorem rd_sgT {a : Int} (h : isT a = true) : rd ((sg a).toNat : Int) = a := by
  rcases isT_cases h with rfl | rfl | rfl <;> decide
theorem prs_fmtT {f : Nat → Int} (h : isTab f = true) : pOk ⟨(fmt f).toArray⟩ = true ∧ tabV (pTab ⟨(fmt f).toArray⟩) = tabV f := by
  have e : ∀ i, i < 9 → pT ⟨(fmt f).toArray⟩ i = f i := by
    intro i hi
    have t := isTab_at h i hi
    have r := rd_sgT t
    rw [← r, pT]
    congr 1
    rw [fmt, if_pos h]
    match i, hi with
    | 0, _ | 1, _ | 2, _ | 3, _ | 4, _ | 5, _ | 6, _ | 7, _ | 8, _ => rfl
  have ok : pOk ⟨(fmt f).toArray⟩ = true := by
    have hs : (⟨(fmt f).toArray⟩ : ByteArray).size = 9 := by rw [fmt, if_pos h]; rfl
    rw [pOk, hs]
    simp only [isTab, e 0 (by omega), e 1 (by omega), e 2 (by omega), e 3 (by omega), e 4 (by omega), e 5 (by omega), e 6 (by omega), e 7 (by omega), e 8 (by omega)]
    exact h
  refine ⟨ok, ?_⟩
  rw [pTab, if_pos ok]
  simp only [tabV, e 0 (by omega), e 1 (by omega), e 2 (by omega), e 3 (by omega), e 4 (by omega), e 5 (by omega), e 6 (by omega), e 7 (by omega), e 8 (by omega)]
end Tm
theorem eqTabSame (f : Nat → Int) (W : World) : (Op.equalIn 10000 33 (tabV f) (tabV f)).run Try.prog W = .ok true W := by
  rw [tabV, eqTab]; simp
theorem min_list : (⟨#[109, 105, 110]⟩ : ByteArray).toList = [109, 105, 110] := by first | kernel_rfl | decide +kernel | simp [ByteArray.toList, ByteArray.toList.loop]
theorem max_list : (⟨#[109, 97, 120]⟩ : ByteArray).toList = [109, 97, 120] := by first | kernel_rfl | decide +kernel | simp [ByteArray.toList, ByteArray.toList.loop]
theorem any_list : (⟨#[97, 110, 121]⟩ : ByteArray).toList = [97, 110, 121] := by first | kernel_rfl | decide +kernel | simp [ByteArray.toList, ByteArray.toList.loop]
theorem times_list : (⟨#[116, 105, 109, 101, 115]⟩ : ByteArray).toList = [116, 105, 109, 101, 115] := by first | kernel_rfl | decide +kernel | simp [ByteArray.toList, ByteArray.toList.loop]
/-- The functions at the law's own arguments. -/
theorem iTab_min (w : World) : Calls Try.prog 32 #[.string ⟨#[109, 105, 110]⟩] w fun e w' => e = .returned (tabV (Tm.tabOf [109, 105, 110])) ∧ Below w.heap.size w w' := by
  have := iTableOf ⟨#[109, 105, 110]⟩ w
  rwa [min_list] at this
theorem iTab_max (w : World) : Calls Try.prog 32 #[.string ⟨#[109, 97, 120]⟩] w fun e w' => e = .returned (tabV (Tm.tabOf [109, 97, 120])) ∧ Below w.heap.size w w' := by
  have := iTableOf ⟨#[109, 97, 120]⟩ w
  rwa [max_list] at this
theorem iTab_any (w : World) : Calls Try.prog 32 #[.string ⟨#[97, 110, 121]⟩] w fun e w' => e = .returned (tabV (Tm.tabOf [97, 110, 121])) ∧ Below w.heap.size w w' := by
  have := iTableOf ⟨#[97, 110, 121]⟩ w
  rwa [any_list] at this
theorem iTab_times (w : World) : Calls Try.prog 32 #[.string ⟨#[116, 105, 109, 101, 115]⟩] w fun e w' => e = .returned (tabV (Tm.tabOf [116, 105, 109, 101, 115])) ∧ Below w.heap.size w w' := by
  have := iTableOf ⟨#[116, 105, 109, 101, 115]⟩ w
  rwa [times_list] at this
theorem iSwap2 {f : Nat → Int} (h : Tm.isTab f = true) (w : World) : Calls Try.prog 30 #[tabV (Tm.swap f)] w fun e w' => e = .returned (tabV f) ∧ Below w.heap.size w w' := by
  have := iSwapTable (Tm.swap f) w
  rwa [Tm.swap_swap h] at this
theorem iDual2 {f : Nat → Int} (h : Tm.isTab f = true) (w : World) : Calls Try.prog 31 #[tabV (Tm.dual f)] w fun e w' => e = .returned (tabV f) ∧ Below w.heap.size w w' := by
  have := iDualTable (Tm.dual f) w
  rwa [Tm.dual_dual h] at this
theorem iDual_min (w : World) : Calls Try.prog 31 #[tabV (Tm.tabOf [109, 105, 110])] w fun e w' => e = .returned (tabV (Tm.tabOf [109, 97, 120])) ∧ Below w.heap.size w w' := by
  have := iDualTable (Tm.tabOf [109, 105, 110]) w
  rwa [Tm.dual_min] at this
theorem iMono_swap {f : Nat → Int} (h : Tm.isTab f = true) (w : World) : Calls Try.prog 33 #[tabV (Tm.swap f)] w fun e w' => e = .returned (.bool (Tm.mono f)) ∧ Below w.heap.size w w' := by
  have := iIsMonotone (Tm.swap f) w
  rwa [Tm.mono_swap f h] at this
theorem iMono_dual {f : Nat → Int} (h : Tm.isTab f = true) (w : World) : Calls Try.prog 33 #[tabV (Tm.dual f)] w fun e w' => e = .returned (.bool (Tm.mono f)) ∧ Below w.heap.size w w' := by
  have := iIsMonotone (Tm.dual f) w
  rwa [Tm.mono_dual f h] at this
theorem iMono_any (w : World) : Calls Try.prog 33 #[tabV (Tm.tabOf [97, 110, 121])] w fun e w' => e = .returned (.bool true) ∧ Below w.heap.size w w' := by
  have := iIsMonotone (Tm.tabOf [97, 110, 121]) w
  rwa [Tm.mono_any] at this
theorem iMono_times (w : World) : Calls Try.prog 33 #[tabV (Tm.tabOf [116, 105, 109, 101, 115])] w fun e w' => e = .returned (.bool false) ∧ Below w.heap.size w w' := by
  have := iIsMonotone (Tm.tabOf [116, 105, 109, 101, 115]) w
  rwa [Tm.mono_times] at this
theorem iLook_swap (f : Nat → Int) {a b : Int} (ha : Tm.isT a = true) (hb : Tm.isT b = true) (w : World) : Calls Try.prog 34 #[tabV (Tm.swap f), .int .i64 a, .int .i64 b] w fun e w' => e = .returned (.int .i64 (Tm.look f b a)) ∧ Below w.heap.size w w' := by
  have := iLookUp (Tm.swap f) a b w
  rwa [Tm.look_swap f ha hb] at this
theorem iLook_dual (f : Nat → Int) {a b : Int} (ha : Tm.isT a = true) (hb : Tm.isT b = true) (w : World) : Calls Try.prog 34 #[tabV (Tm.dual f), .int .i64 a, .int .i64 b] w fun e w' => e = .returned (.int .i64 (-Tm.look f (-a) (-b))) ∧ Below w.heap.size w w' := by
  have := iLookUp (Tm.dual f) a b w
  rwa [Tm.look_dual f ha hb] at this
theorem iLook_max {a b : Int} (ha : Tm.isT a = true) (hb : Tm.isT b = true) (w : World) : Calls Try.prog 34 #[tabV (Tm.tabOf [109, 97, 120]), .int .i64 a, .int .i64 b] w fun e w' => e = .returned (.int .i64 (max a b)) ∧ Below w.heap.size w w' := by
  have := iLookUp (Tm.tabOf [109, 97, 120]) a b w
  rwa [Tm.look_max ha hb] at this
theorem iParse_fmt {f : Nat → Int} (h : Tm.isTab f = true) (w : World) : Calls Try.prog 28 #[.string ⟨(Tm.fmt f).toArray⟩] w fun e w' => e = .returned (.tuple #[tabV f, .bool true]) ∧ Below w.heap.size w w' := by
  have := iParseTable ⟨(Tm.fmt f).toArray⟩ w
  rwa [(Tm.prs_fmtT h).1, (Tm.prs_fmtT h).2] at this
set_option maxRecDepth 20000 in
set_option maxHeartbeats 8000000 in
theorem wFnTables (a0 : Option Addr) (len0 cap0 : Nat) (z0 : List Int) (w : World) (w0 : IsRow .u8 w a0 len0 cap0 z0) : Calls Try.prog 4 #[.slice a0 len0 cap0] w fun e w' => e = .returned (.bool true) ∧ Below w.heap.size w w' := by
  have BY := Lib.hid (Byts.of_row w0)
  have m0 : len0 ≤ 9223372036854775807 := by obtain ⟨h1, h2, _⟩ := BY.out; unfold maxLen at h2; omega
  clear w0
  by_cases g0 : len0 ≤ 1048576
  · go_enter Try.func4, Try.ntmps4
    go_wp2_with fail
    refine (makeTable_any a0 len0 cap0 _ BY.out g0).mono ?_
    rintro e w1 ⟨f, hT, rfl, hb⟩
    have HT := Lib.hid hT
    have hs1 := hb.size
    have B1 := Lib.hid hb
    clear hb hT
    have T2 : Hid (TabAt (w1.alloc (.cells #[.int .i64 (f 0), .int .i64 (f 1), .int .i64 (f 2), .int .i64 (f 3), .int .i64 (f 4), .int .i64 (f 5), .int .i64 (f 6), .int .i64 (f 7), .int .i64 (f 8)] 33)) w1.heap.size f) := Lib.hid (heap_alloc_new w1 _)
    have b2 : Below w1.heap.size w1 (w1.alloc (.cells #[.int .i64 (f 0), .int .i64 (f 1), .int .i64 (f 2), .int .i64 (f 3), .int .i64 (f 4), .int .i64 (f 5), .int .i64 (f 6), .int .i64 (f 7), .int .i64 (f 8)] 33)) := (Below.refl _ _).alloc (Nat.le_refl _) _
    have c0 := T2.out.cell 0 (by omega)
    go_wp2_with fail
    obtain ⟨w2, hw2⟩ : ∃ w2, w2 = (w1.alloc (.cells #[.int .i64 (f 0), .int .i64 (f 1), .int .i64 (f 2), .int .i64 (f 3), .int .i64 (f 4), .int .i64 (f 5), .int .i64 (f 6), .int .i64 (f 7), .int .i64 (f 8)] 33)) := ⟨_, rfl⟩
    rw [← hw2] at T2 b2 ⊢
    have hs2 : w2.heap.size = w1.heap.size + 1 := by rw [hw2]; simp
    have B2 := Lib.hid (B1.out.trans (b2.mono hs1))
    obtain ⟨g, hg⟩ : ∃ g, g = w1.heap.size := ⟨_, rfl⟩
    rw [← hg] at T2 hs2 hs1 ⊢
    clear hw2 b2 hg B1 c0
    refine (iFormatTable f _).mono ?_
    rintro e w3 ⟨rfl, hb3⟩
    have hs3 := hb3.size
    have T3 : Hid (TabAt w3 g f) := Lib.hid ((hb3.block g (by omega)).trans T2.out)
    have B3 := Lib.hid (B2.out.trans (hb3.mono (by omega)))
    obtain ⟨s, hs⟩ : ∃ s : ByteArray, s = ⟨(Tm.fmt f).toArray⟩ := ⟨_, rfl⟩
    rw [← hs]
    have pf : ∀ w, Calls Try.prog 28 #[.string s] w fun e w' => e = .returned (.tuple #[tabV f, .bool true]) ∧ Below w.heap.size w w' := by intro w; rw [hs]; exact iParse_fmt HT.out w
    have PF := Lib.hid pf
    clear hb3 T2 B2 hs pf
    go_wp2_with fail
    refine (PF.out _).mono ?_
    rintro e w4 ⟨rfl, hb4⟩
    have hs4 := hb4.size
    have T4 : Hid (TabAt w4 g f) := Lib.hid ((hb4.block g (by omega)).trans T3.out)
    have B4 := Lib.hid (B3.out.trans (hb4.mono (by omega)))
    clear hb4 T3 B3 PF
    have U5 : Hid (TabAt (w4.alloc (.cells #[.int .i64 (f 0), .int .i64 (f 1), .int .i64 (f 2), .int .i64 (f 3), .int .i64 (f 4), .int .i64 (f 5), .int .i64 (f 6), .int .i64 (f 7), .int .i64 (f 8)] 33)) w4.heap.size f) := Lib.hid (heap_alloc_new w4 _)
    have b5 : Below w4.heap.size w4 (w4.alloc (.cells #[.int .i64 (f 0), .int .i64 (f 1), .int .i64 (f 2), .int .i64 (f 3), .int .i64 (f 4), .int .i64 (f 5), .int .i64 (f 6), .int .i64 (f 7), .int .i64 (f 8)] 33)) := (Below.refl _ _).alloc (Nat.le_refl _) _
    go_wp2_with fail
    obtain ⟨w5, hw5⟩ : ∃ w5, w5 = (w4.alloc (.cells #[.int .i64 (f 0), .int .i64 (f 1), .int .i64 (f 2), .int .i64 (f 3), .int .i64 (f 4), .int .i64 (f 5), .int .i64 (f 6), .int .i64 (f 7), .int .i64 (f 8)] 33)) := ⟨_, rfl⟩
    rw [← hw5] at U5 b5 ⊢
    have hs5 : w5.heap.size = w4.heap.size + 1 := by rw [hw5]; simp
    have T5 : Hid (TabAt w5 g f) := Lib.hid ((b5.block g (by omega)).trans T4.out)
    have B5 := Lib.hid (B4.out.trans (b5.mono (by omega)))
    obtain ⟨u, hu⟩ : ∃ u, u = w4.heap.size := ⟨_, rfl⟩
    rw [← hu] at U5 hs5 hs4 ⊢
    clear hw5 b5 hu T4 B4
    have gl : g < w5.heap.size := by omega
    have ul : u < w5.heap.size := by omega
    have wl : w.heap.size ≤ w5.heap.size := by omega
    clear hs1 hs2 hs3 hs4 hs5
    have c0 := T5.out.cell 0 (by omega)
    have c1 := T5.out.cell 1 (by omega)
    have c2 := T5.out.cell 2 (by omega)
    have c3 := T5.out.cell 3 (by omega)
    have c4 := T5.out.cell 4 (by omega)
    have c5 := T5.out.cell 5 (by omega)
    have c6 := T5.out.cell 6 (by omega)
    have c7 := T5.out.cell 7 (by omega)
    have c8 := T5.out.cell 8 (by omega)
    have d0 := U5.out.cell 0 (by omega)
    have d1 := U5.out.cell 1 (by omega)
    have d2 := U5.out.cell 2 (by omega)
    have d3 := U5.out.cell 3 (by omega)
    have d4 := U5.out.cell 4 (by omega)
    have d5 := U5.out.cell 5 (by omega)
    have d6 := U5.out.cell 6 (by omega)
    have d7 := U5.out.cell 7 (by omega)
    have d8 := U5.out.cell 8 (by omega)
    obtain ⟨sf, hsf⟩ : ∃ h, h = Tm.swap f := ⟨_, rfl⟩
    obtain ⟨df, hdf⟩ : ∃ h, h = Tm.dual f := ⟨_, rfl⟩
    obtain ⟨mi, hmi⟩ : ∃ h, h = Tm.tabOf [109, 105, 110] := ⟨_, rfl⟩
    obtain ⟨mx, hmx⟩ : ∃ h, h = Tm.tabOf [109, 97, 120] := ⟨_, rfl⟩
    obtain ⟨an, han⟩ : ∃ h, h = Tm.tabOf [97, 110, 121] := ⟨_, rfl⟩
    obtain ⟨ti, hti⟩ : ∃ h, h = Tm.tabOf [116, 105, 109, 101, 115] := ⟨_, rfl⟩
    obtain ⟨mb, hmb⟩ : ∃ h, h = Tm.mono f := ⟨_, rfl⟩
    have S1 := Lib.hid (show ∀ w, Calls Try.prog 30 #[tabV f] w fun e w' => e = .returned (tabV sf) ∧ Below w.heap.size w w' from by intro w; rw [hsf]; exact iSwapTable f w)
    have S2 := Lib.hid (show ∀ w, Calls Try.prog 30 #[tabV sf] w fun e w' => e = .returned (tabV f) ∧ Below w.heap.size w w' from by intro w; rw [hsf]; exact iSwap2 HT.out w)
    have D1 := Lib.hid (show ∀ w, Calls Try.prog 31 #[tabV f] w fun e w' => e = .returned (tabV df) ∧ Below w.heap.size w w' from by intro w; rw [hdf]; exact iDualTable f w)
    have D2 := Lib.hid (show ∀ w, Calls Try.prog 31 #[tabV df] w fun e w' => e = .returned (tabV f) ∧ Below w.heap.size w w' from by intro w; rw [hdf]; exact iDual2 HT.out w)
    have D3 := Lib.hid (show ∀ w, Calls Try.prog 31 #[tabV mi] w fun e w' => e = .returned (tabV mx) ∧ Below w.heap.size w w' from by intro w; rw [hmi, hmx]; exact iDual_min w)
    have N1 := Lib.hid (show ∀ w, Calls Try.prog 32 #[.string ⟨#[109, 105, 110]⟩] w fun e w' => e = .returned (tabV mi) ∧ Below w.heap.size w w' from by intro w; rw [hmi]; exact iTab_min w)
    have N2 := Lib.hid (show ∀ w, Calls Try.prog 32 #[.string ⟨#[109, 97, 120]⟩] w fun e w' => e = .returned (tabV mx) ∧ Below w.heap.size w w' from by intro w; rw [hmx]; exact iTab_max w)
    have N3 := Lib.hid (show ∀ w, Calls Try.prog 32 #[.string ⟨#[97, 110, 121]⟩] w fun e w' => e = .returned (tabV an) ∧ Below w.heap.size w w' from by intro w; rw [han]; exact iTab_any w)
    have N4 := Lib.hid (show ∀ w, Calls Try.prog 32 #[.string ⟨#[116, 105, 109, 101, 115]⟩] w fun e w' => e = .returned (tabV ti) ∧ Below w.heap.size w w' from by intro w; rw [hti]; exact iTab_times w)
    have M1 := Lib.hid (show ∀ w, Calls Try.prog 33 #[tabV f] w fun e w' => e = .returned (.bool mb) ∧ Below w.heap.size w w' from by intro w; rw [hmb]; exact iIsMonotone f w)
    have M2 := Lib.hid (show ∀ w, Calls Try.prog 33 #[tabV df] w fun e w' => e = .returned (.bool mb) ∧ Below w.heap.size w w' from by intro w; rw [hmb, hdf]; exact iMono_dual HT.out w)
    have M3 := Lib.hid (show ∀ w, Calls Try.prog 33 #[tabV sf] w fun e w' => e = .returned (.bool mb) ∧ Below w.heap.size w w' from by intro w; rw [hmb, hsf]; exact iMono_swap HT.out w)
    have M4 := Lib.hid (show ∀ w, Calls Try.prog 33 #[tabV an] w fun e w' => e = .returned (.bool true) ∧ Below w.heap.size w w' from by intro w; rw [han]; exact iMono_any w)
    have M5 := Lib.hid (show ∀ w, Calls Try.prog 33 #[tabV ti] w fun e w' => e = .returned (.bool false) ∧ Below w.heap.size w w' from by intro w; rw [hti]; exact iMono_times w)
    have K1 := Lib.hid (show ∀ (a b : Int), Tm.isT a = true → Tm.isT b = true → ∀ w, Calls Try.prog 34 #[tabV sf, .int .i64 a, .int .i64 b] w fun e w' => e = .returned (.int .i64 (Tm.look f b a)) ∧ Below w.heap.size w w' from by intro a b ha hb w; rw [hsf]; exact iLook_swap f ha hb w)
    have K2 := Lib.hid (show ∀ (a b : Int), Tm.isT a = true → Tm.isT b = true → ∀ w, Calls Try.prog 34 #[tabV df, .int .i64 a, .int .i64 b] w fun e w' => e = .returned (.int .i64 (-Tm.look f (-a) (-b))) ∧ Below w.heap.size w w' from by intro a b ha hb w; rw [hdf]; exact iLook_dual f ha hb w)
    have K3 := Lib.hid (show ∀ (a b : Int), Tm.isT a = true → Tm.isT b = true → ∀ w, Calls Try.prog 34 #[tabV mx, .int .i64 a, .int .i64 b] w fun e w' => e = .returned (.int .i64 (max a b)) ∧ Below w.heap.size w w' from by intro a b ha hb w; rw [hmx]; exact iLook_max ha hb w)
    clear hsf hdf hmi hmx han hti hmb
    have he := eqTab
    have he2 : ∀ W, (Op.equalIn 10000 33 (tabV mx) (tabV mx)).run Try.prog W = .ok true W := fun W => eqTabSame mx W
    refine wp_region_quiet_below (by kernel_rfl) (by kernel_rfl) ?_
    (iterate 24 (go_big_quiet_step (first | (go_at_call 30; first | exact met_below S1.out | exact met_below S2.out) | (go_at_call 31; first | exact met_below D1.out | exact met_below D2.out | exact met_below D3.out) | (go_at_call 32; exact met_below N1.out))))
    (iterate 1 (go_big_quiet_step ((go_at_call 32; exact met_below N2.out))))
    (iterate 2 (go_big_quiet_step (fail)))
    refine wpQuiet_nil ?_
    intro wq hwq
    obtain ⟨pq1, hpq⟩ := hwq
    have hpq' : wq = gw _ pq1 := hpq
    clear hpq
    subst hpq'
    go_wp2_with fail
    refine wp_region_quiet_below (by kernel_rfl) (by kernel_rfl) ?_
    go_big_quiet_step (fail)
    go_big_quiet_step (((go_at_call 33; exact met_below M1.out)))
    go_big_quiet_step (fail)
    go_big_quiet_step (((go_at_call 31; exact met_below D1.out)))
    go_big_quiet_step (((go_at_call 33; exact met_below M2.out)))
    go_big_quiet_step (fail)
    go_big_quiet_step (fail)
    go_big_quiet_step (fail)
    go_big_quiet_step (((go_at_call 33; exact met_below M1.out)))
    go_big_quiet_step (fail)
    go_big_quiet_step (((go_at_call 30; exact met_below S1.out)))
    go_big_quiet_step (((go_at_call 33; exact met_below M3.out)))
    go_big_quiet_step (fail)
    go_big_quiet_step (fail)
    go_big_quiet_step (fail)
    go_big_quiet_step (((go_at_call 32; exact met_below N3.out)))
    go_big_quiet_step (((go_at_call 33; exact met_below M4.out)))
    go_big_quiet_step (fail)
    go_big_quiet_step (fail)
    go_big_quiet_step (fail)
    go_big_quiet_step (((go_at_call 32; exact met_below N4.out)))
    go_big_quiet_step (((go_at_call 33; exact met_below M5.out)))
    go_big_quiet_step (fail)
    refine wpQuiet_nil ?_
    intro wq hwq
    obtain ⟨pq, hpq⟩ := hwq
    have hpq' : wq = gw _ pq := hpq
    clear hpq
    subst hpq'
    go_wp2_with fail
    refine (trits_any _).mono ?_
    rintro e w6 ⟨a1, cp1, rfl, hi, hb⟩
    have gw6 : Below w5.heap.size w5 (gw w5 (gcat pq1 pq)) := below_gw (Below.refl w5.heap.size w5) (Nat.le_refl _) _
    have T6 : Hid (TabAt w6 g f) := Lib.hid ((hb.block g (by have := gw6.size; omega)).trans ((gw6.block g gl).trans T5.out))
    have I1 := Lib.hid hi
    have B6 : Hid (Below w.heap.size w w6) := Lib.hid (B5.out.trans ((gw6.trans (hb.mono gw6.size)).mono wl))
    have gl6 : g < w6.heap.size := by have h1 := hb.size; have h2 := gw6.size; omega
    clear hi hb gw6 c0 c1 c2 c3 c4 c5 c6 c7 c8 d0 d1 d2 d3 d4 d5 d6 d7 d8 T5 U5 B5 M1 M2 M3 M4 M5 N1 N3 N4 S2 D2 D3 gl ul wl he he2
    go_wp2
    go_loopw [73] (fun i wr => ∃ k : Nat, k ≤ 3 ∧ i = .int .i64 k ∧ Hid (Ints wr a1 3 cp1 [-1, 0, 1]) ∧ Hid (TabAt wr g f) ∧ Hid (g < wr.heap.size) ∧ Hid (Below w.heap.size w wr)) (fun i _ => 3 - (intOf i).toNat)
    case atStart => exact ⟨0, by omega, rfl, I1, T6, Lib.hid gl6, B6⟩
    case round =>
      obtain ⟨k, hk, rfl, J1, TT, GL, BB⟩ := hrel
      by_cases hlt : k < 3
      · obtain ⟨b, o, a, rfl, ca, ta, a_0, a_1⟩ := tri_step J1.out hlt
        have TA := Lib.hid ta
        clear ta
        go_wp2_with (go_at_call 15; refine (trits_any _).mono ?_; rintro e w7 ⟨a2, cp2, rfl, hi, hb⟩)
        have I2 := Lib.hid hi
        have L1 := Lib.hid (J1.out.below hb)
        have T7 : Hid (TabAt w7 g f) := Lib.hid ((hb.block g GL.out).trans TT.out)
        have G7 := Lib.hid (Nat.lt_of_lt_of_le GL.out hb.size)
        have B7 := Lib.hid (BB.out.trans (hb.mono BB.out.size))
        clear hi hb ca J1 TT GL BB
        go_loopw [79] (fun i wr => ∃ k : Nat, k ≤ 3 ∧ i = .int .i64 k ∧ Hid (Ints wr a2 3 cp2 [-1, 0, 1]) ∧ Hid (Ints wr (some ⟨b, o, none⟩) 3 cp1 [-1, 0, 1]) ∧ Hid (TabAt wr g f) ∧ Hid (g < wr.heap.size) ∧ Hid (Below w.heap.size w wr)) (fun i _ => 3 - (intOf i).toNat)
        case atStart => exact ⟨0, by omega, rfl, I2, L1, T7, G7, B7⟩
        case round =>
          obtain ⟨k2, hk2, rfl, J2, K1', TT, GL, BB⟩ := hrel
          by_cases hlt2 : k2 < 3
          · obtain ⟨b2, o2, bb, rfl, cb, tb, b_0, b_1⟩ := tri_step J2.out hlt2
            have TB := Lib.hid tb
            clear tb
            have lk := Tm.look_tt f (-a) (-bb)
            have lk1 : -1 ≤ Tm.look f (-a) (-bb) ∧ Tm.look f (-a) (-bb) ≤ 1 := by omega
            obtain ⟨lk1, lk2⟩ := lk1
            clear lk
            have gl7 := GL.out
            have c0 := TT.out.cell 0 (by omega)
            have c1 := TT.out.cell 1 (by omega)
            have c2 := TT.out.cell 2 (by omega)
            have c3 := TT.out.cell 3 (by omega)
            have c4 := TT.out.cell 4 (by omega)
            have c5 := TT.out.cell 5 (by omega)
            have c6 := TT.out.cell 6 (by omega)
            have c7 := TT.out.cell 7 (by omega)
            have c8 := TT.out.cell 8 (by omega)
            go_wp2_with fail
            refine wp_region_quiet_below (by kernel_rfl) (by kernel_rfl) ?_
            go_big_quiet_step (fail)
            go_big_quiet_step (((go_at_call 30; exact met_below (S1.out))))
            go_big_quiet_step (fail)
            go_big_quiet_step (fail)
            go_big_quiet_step (((go_at_call 34; exact met_below (K1.out a bb TA.out TB.out))))
            go_big_quiet_step (fail)
            go_big_quiet_step (fail)
            go_big_quiet_step (fail)
            go_big_quiet_step (((go_at_call 34; exact met_below (fun W => iLookUp f bb a W))))
            go_big_quiet_step (fail)
            go_big_quiet_step (fail)
            go_big_quiet_step (fail)
            go_big_quiet_step (((go_at_call 31; exact met_below (D1.out))))
            go_big_quiet_step (fail)
            go_big_quiet_step (fail)
            go_big_quiet_step (((go_at_call 34; exact met_below (K2.out a bb TA.out TB.out))))
            go_big_quiet_step (fail)
            go_big_quiet_step (fail)
            go_big_quiet_step (fail)
            go_big_quiet_step (fail)
            go_big_quiet_step (fail)
            go_big_quiet_step (((go_at_call 34; exact met_below (fun W => iLookUp f (-a) (-bb) W))))
            go_big_quiet_step (fail)
            go_big_quiet_step (fail)
            go_big_quiet_step (fail)
            go_big_quiet_step (fail)
            go_big_quiet_step (((go_at_call 32; exact met_below (N2.out))))
            go_big_quiet_step (fail)
            go_big_quiet_step (fail)
            go_big_quiet_step (((go_at_call 34; exact met_below (K3.out a bb TA.out TB.out))))
            go_big_quiet_step (fail)
            go_big_quiet_step (fail)
            go_big_quiet_step (fail)
            go_big_quiet_step (fail)
            go_big_quiet_step (fail)
            refine wpQuiet_nil ?_
            intro wq hwq
            obtain ⟨pq2, hpq⟩ := hwq
            have hpq' : wq = gw _ pq2 := hpq
            clear hpq
            subst hpq'
            go_wp2
            have gb := below_gw (Below.refl wr.heap.size wr) (Nat.le_refl _) pq2
            exact ⟨⟨k2 + 1, by omega, by go_num, Lib.hid (J2.out.below gb), Lib.hid (K1'.out.below gb), Lib.hid ((gb.block g GL.out).trans TT.out), Lib.hid (Nat.lt_of_lt_of_le GL.out gb.size), Lib.hid (BB.out.trans (gb.mono BB.out.size))⟩, by simp [intOf]; omega⟩
          · obtain rfl : k2 = 3 := by omega
            go_wp2
            exact ⟨⟨k + 1, by omega, by go_num, K1', TT, GL, BB⟩, by simp [intOf]; omega⟩
      · obtain rfl : k = 3 := by omega
        go_wp2
        go_ret
        exact ⟨rfl, BB.out⟩
  · go_enter Try.func4, Try.ntmps4
    go_wp2
    go_ret
    exact ⟨rfl, Below.refl _ _⟩
end Go.Proofs.Ytgaenbpbfhpioaa

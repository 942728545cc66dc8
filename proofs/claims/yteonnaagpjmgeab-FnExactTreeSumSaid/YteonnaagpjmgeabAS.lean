/- The model's adders. -/
import Derived.Test.YteonnaagpjmgeabAMath2
import Derived.Test.YteonnaagpjmgeabWS4
namespace Go.Proofs.Yteonnaagpjmgeab
open Go.RowKit
theorem sFit (a : Option Addr) (n cap : Nat) (xs : List Int) (b : Option Addr) (m cap2 : Nat) (ys : List Int) (w : World) (h : Ints w a n cap xs) (h2 : Ints w b m cap2 ys) : Calls Try.prog 48 #[.slice a n cap, .slice b m cap2] w fun e w' => e = .returned (.bool (Tm.fit xs ys)) ∧ w = w' := by
  have H := Lib.hid h
  have H2 := Lib.hid h2
  obtain rfl : n = xs.length := h.1.symm
  obtain rfl : m = ys.length := h2.1.symm
  have c1 := h.2.2.1
  have c2 := h.2.2.1
  have d1 := h.2.1
  have d2 := h2.2.1
  have c3 := h2.2.2.1
  unfold maxLen at c1 c3
  clear h h2 c2
  by_cases hx : Tm.isW xs = true
  · by_cases hy : Tm.isW ys = true
    · go_enter Try.func48, Try.ntmps48
      go_wp2_with fail
      refine (sIsWord a _ cap xs _ H.out).mono ?_
      rintro e w' ⟨rfl, rfl⟩
      go_wp2_with fail
      refine (sIsWord b _ cap2 ys _ H2.out).mono ?_
      rintro e w' ⟨rfl, rfl⟩
      go_wp2
      go_ret
      exact ⟨ret_bool (by rw [Tm.fit, hx, hy, Bool.eq_iff_iff]; simp; try omega), rfl⟩
    · simp only [Bool.not_eq_true] at hy
      go_enter Try.func48, Try.ntmps48
      go_wp2_with fail
      refine (sIsWord a _ cap xs _ H.out).mono ?_
      rintro e w' ⟨rfl, rfl⟩
      go_wp2_with fail
      refine (sIsWord b _ cap2 ys _ H2.out).mono ?_
      rintro e w' ⟨rfl, rfl⟩
      go_wp2
      go_ret
      exact ⟨ret_bool (by simp [Tm.fit, hy]), rfl⟩
  · simp only [Bool.not_eq_true] at hx
    go_enter Try.func48, Try.ntmps48
    go_wp2_with fail
    refine (sIsWord a _ cap xs _ H.out).mono ?_
    rintro e w' ⟨rfl, rfl⟩
    go_wp2
    go_ret
    exact ⟨ret_bool (by simp [Tm.fit, hx]), rfl⟩
/-- The sum, the carries into all places, the carry out of the highest. -/
def RetAdd (w : World) (n : Nat) (f g : Nat → Int) (k : Int) (r : Ending) (w' : World) : Prop :=
  ∃ v u, r = .returned (.tuple #[v, u, .int .i64 k]) ∧ w'.ownsRow w.heap.size 3 1 v n (rowV n f) ∧ w'.ownsRow w.heap.size 3 1 u n (rowV n g) ∧ Below w.heap.size w w'
set_option maxHeartbeats 1000000 in
theorem sAdd3 (a : Option Addr) (n cap : Nat) (xs : List Int) (b : Option Addr) (m cap2 : Nat) (ys : List Int) (q : Int) (w : World) (h : Ints w a n cap xs) (h2 : Ints w b m cap2 ys) (hx : Tm.isW xs = true) (hy : Tm.isW ys = true) (hl : xs.length = ys.length) (hc0 : -1 ≤ q ∧ q ≤ 1) : Calls Try.prog 51 #[.slice a n cap, .slice b m cap2, .int .i64 q] w (RetAdd w xs.length (Tm.sumF xs ys q) (Tm.crr xs ys q) (Tm.crr xs ys q xs.length)) := by
  obtain ⟨i0, hi, hz0, hz1, hz2⟩ := info_parts infoInt
  have H := Lib.hid h
  have H2 := Lib.hid h2
  have HX := Lib.hid hx
  have HY := Lib.hid hy
  have HC := Lib.hid hc0
  have HL := Lib.hid hl
  have hn : n = xs.length := h.1.symm
  have hm : m = n := by rw [hn, hl]; exact h2.1.symm
  have n30 := Tm.isW_len hx
  rw [← hn] at n30 ⊢
  subst hm
  have HN := Lib.hid hn
  clear h h2 hx hy hc0 hl hn
  go_enter Try.func51, Try.ntmps51
  go_wp2
  go_loopw [2, 9, 10, 19] (fun c v u i wr => ∃ k : Nat, k ≤ m ∧ i = .int .i64 k ∧ c = .int .i64 (Tm.crr xs ys q k) ∧ Hid (wr.ownsRow w.heap.size 3 1 v k (rowV k (Tm.sumF xs ys q))) ∧ Hid (wr.ownsRow w.heap.size 3 1 u k (rowV k (Tm.crr xs ys q))) ∧ Hid (Apart v u) ∧ Hid (Below w.heap.size w wr)) (fun _ _ _ i _ => m - (intOf i).toNat)
  case atStart =>
    refine ⟨0, by omega, rfl, rfl, Lib.hid ?_, Lib.hid ?_, Lib.hid ?_, Lib.hid (by (repeat' (first | (with_reducible exact Below.refl _ _) | (with_reducible assumption) | (with_reducible refine below_drewN ?_ _) | (with_reducible refine Below.drew ?_) | (with_reducible refine Below.alloc ?_ ?_ _) | (with_reducible refine Below.setCell ?_ ?_ _) | (with_reducible refine below_gw ?_ ?_ _) | (with_reducible refine below_via ?_ ‹Below _ _ _› ?_) | (with_reducible exact Nat.le_refl _) | (with_reducible refine le_gw ?_ _) | (with_reducible refine le_alloc ?_ _) | (with_reducible refine le_setCell ?_ _ _) | (with_reducible refine le_drew ?_) | (with_reducible refine le_drewN ?_ _) | go_size)))⟩
    · exact World.ownsRow.alloc (own_empty w _ _ (Nat.le_refl _)) _
    · have h := own_empty (w.alloc (.cells #[] 3)) w.heap.size 3 (by simp)
      rw [World.size_alloc] at h
      exact h
    · intro k e1 e2
      simp [Value.ownBlock] at e1 e2
      omega
  case round =>
    obtain ⟨k, hk, rfl, rfl, OV, OU, AP, BB⟩ := hrel
    have hs := BB.out.size
    by_cases hlt : k < m
    · rcases (H.out.below BB.out).2.2.2 with h0 | ⟨b1, o1, e1, hbl, hca⟩
      · omega
      have ca := hca k hlt
      clear hca
      rcases (H2.out.below BB.out).2.2.2 with h0 | ⟨b2, o2, e2, hbl2, hcb⟩
      · omega
      have cb := hcb k hlt
      clear hcb
      subst e1 e2
      obtain ⟨x, hxx⟩ : ∃ x, x = xs.getD k 0 := ⟨_, rfl⟩
      obtain ⟨y, hyy⟩ : ∃ y, y = ys.getD k 0 := ⟨_, rfl⟩
      rw [← hxx] at ca
      rw [← hyy] at cb
      obtain ⟨z, hz⟩ : ∃ z, z = Tm.crr xs ys q k := ⟨_, rfl⟩
      rw [← hz]
      have e1 : Tm.sumF xs ys q k = Tm.full1 x y z := by rw [Tm.sumF, hxx, hyy, hz]
      have e2 : Tm.crr xs ys q (k + 1) = Tm.full2 x y z := by rw [Tm.crr, hxx, hyy, hz]
      have E1 := Lib.hid e1
      have E2 := Lib.hid e2
      have E3 := Lib.hid hz
      clear e1 e2 hz hxx hyy
      have CA : Hid (∀ w1, Below w.heap.size wr w1 → w1.cell? ⟨b1, o1 + k, none⟩ = some (.int .i64 x)) := Lib.hid fun w1 hb => by
        rw [← ca]; exact World.cell?_of_block (a := ⟨b1, o1 + k, none⟩) (hb.block b1 (by have := (H.out).2.2.2; rcases this with e | ⟨b', o', e, hb', _⟩; omega; cases e; exact hb'))
      have CB : Hid (∀ w1, Below w.heap.size wr w1 → w1.cell? ⟨b2, o2 + k, none⟩ = some (.int .i64 y)) := Lib.hid fun w1 hb => by
        rw [← cb]; exact World.cell?_of_block (a := ⟨b2, o2 + k, none⟩) (hb.block b2 (by have := (H2.out).2.2.2; rcases this with e | ⟨b', o', e, hb', _⟩; omega; cases e; exact hb'))
      clear cb
      go_wp2_with (at_builtin; refine wpList_append_own_at _ rfl _ _ 23 rfl (w.heap.size) 3 i0 (.int .i64 0) 1 8 Try.underlying23 hi hz0 hz1 hz2 rfl (by decide) _ _ _ rfl (World.ownsRow.alloc OU.out _) ⟨wr.heap.size, 0, none⟩ 1 1 [.int .i64 (z)] rfl rfl (app_c1 _ _ _) (app_c2 _) (by unfold maxLen; omega) (by omega) (by simp; omega) ?_)
      intro u' w1 hu hg _ hat
      have hs1 := hg.size
      have hb1 : Below w.heap.size wr w1 := ((Below.refl _ _).alloc hs _).grown hg (by simp; omega) (fun j hj => (OU.out.lt j hj).1)
      have OV1 := Lib.hid ((World.ownsRow.alloc OV.out _).kept hg AP.out.or)
      have AP1 := Lib.hid (AP.out.symm.grow hat (fun j hj => by have := (OV.out.lt j hj).2; simp; omega))
      rw [E3.out, rowV_succ] at hu
      have OU1 := Lib.hid hu
      have cb := CB.out w1 hb1
      have B1 := Lib.hid (BB.out.trans hb1)
      have HB1 := Lib.hid hb1
      have hs2 := B1.out.size
      clear hg hat hu OV OU AP ca hb1 BB
      go_wp2_with (first | (go_at_call 61; refine (sFullAdd _ _ _ _).mono ?_; rintro e w1 ⟨rfl, rfl⟩) | (at_builtin; refine wpList_append_own_at _ rfl _ _ 23 rfl (w.heap.size) 3 i0 (.int .i64 0) 1 8 Try.underlying23 hi hz0 hz1 hz2 rfl (by decide) _ _ _ rfl (World.ownsRow.alloc OV1.out _) ⟨w1.heap.size, 0, none⟩ 1 1 [.int .i64 (Tm.full1 x y z)] rfl rfl (app_c1 _ _ _) (app_c2 _) (by unfold maxLen; omega) (by omega) (by simp; omega) ?_))
      intro v' w2 hv hg _ hat
      have hb2 : Below w.heap.size w1 w2 := ((Below.refl _ _).alloc hs2 _).grown hg (by simp; omega) (fun j hj => (OV1.out.lt j hj).1)
      have OU2 := Lib.hid ((World.ownsRow.alloc OU1.out _).kept hg AP1.out.or)
      have AP2 := Lib.hid (AP1.out.symm.grow hat (fun j hj => by have := (OU1.out.lt j hj).2; simp; omega))
      rw [← E1.out, rowV_succ] at hv
      have OV2 := Lib.hid hv
      have B2 := Lib.hid (B1.out.trans hb2)
      clear hg hat hv hb2
      go_wp2
      exact ⟨⟨k + 1, by omega, by go_num, val_int E2.out.symm, OV2, OU2, AP2, B2⟩, by simp [intOf]; omega⟩
    · obtain rfl : k = m := by omega
      go_wp2
      go_ret3
      exact ⟨_, _, rfl, OV.out, OU.out, BB.out⟩
end Go.Proofs.Yteonnaagpjmgeab

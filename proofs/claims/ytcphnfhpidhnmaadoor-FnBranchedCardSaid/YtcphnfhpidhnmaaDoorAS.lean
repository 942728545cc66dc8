/- The model's adders. The model's adders, on. The model's adders, on: three words saved as two, carry maps. -/
import Derived.Test.YtcphnfhpidhnmaaDoorAMath
import Derived.Test.YtcphnfhpidhnmaaDoorWS4
import Derived.Test.YtcphnfhpidhnmaaDoorDraw
namespace Go.Proofs.YtcphnfhpidhnmaaDoor
set_option maxRecDepth 20000
open Go.RowKit
theorem sFit (a : Option Addr) (n cap : Nat) (xs : List Int) (b : Option Addr) (m cap2 : Nat) (ys : List Int) (w : World) (h : Ints w a n cap xs) (h2 : Ints w b m cap2 ys) : Calls Tryd.prog 23 #[.slice a n cap, .slice b m cap2] w fun e w' => e = .returned (.bool (Tm.fit xs ys)) ∧ w = w' := by
  have H := Lib.hid h
  have H2 := Lib.hid h2
  obtain rfl : n = xs.length := h.1.symm
  obtain rfl : m = ys.length := h2.1.symm
  have c1 := h.2.2.1
  have c2 := h.2.2.1
  have d1 := h.2.1
  have d2 := h2.2.1
  have c3 := h2.2.2.1
  unfold maxLen at c1 c3
  clear h h2 c2
  by_cases hx : Tm.isW xs = true
  · by_cases hy : Tm.isW ys = true
    · go_enter Tryd.func23, Tryd.ntmps23
      go_wp2_with fail
      refine (sIsWord a _ cap xs _ H.out).mono ?_
      rintro e w' ⟨rfl, rfl⟩
      go_wp2_with fail
      refine (sIsWord b _ cap2 ys _ H2.out).mono ?_
      rintro e w' ⟨rfl, rfl⟩
      go_wp2
      go_ret
      exact ⟨ret_bool (by rw [Tm.fit, hx, hy, Bool.eq_iff_iff]; simp; try omega), rfl⟩
    · simp only [Bool.not_eq_true] at hy
      go_enter Tryd.func23, Tryd.ntmps23
      go_wp2_with fail
      refine (sIsWord a _ cap xs _ H.out).mono ?_
      rintro e w' ⟨rfl, rfl⟩
      go_wp2_with fail
      refine (sIsWord b _ cap2 ys _ H2.out).mono ?_
      rintro e w' ⟨rfl, rfl⟩
      go_wp2
      go_ret
      exact ⟨ret_bool (by simp [Tm.fit, hy]), rfl⟩
  · simp only [Bool.not_eq_true] at hx
    go_enter Tryd.func23, Tryd.ntmps23
    go_wp2_with fail
    refine (sIsWord a _ cap xs _ H.out).mono ?_
    rintro e w' ⟨rfl, rfl⟩
    go_wp2
    go_ret
    exact ⟨ret_bool (by simp [Tm.fit, hx]), rfl⟩
/-- The sum, the carries into all places, the carry out of the highest. -/
def RetAdd (w : World) (n : Nat) (f g : Nat → Int) (k : Int) (r : Ending) (w' : World) : Prop :=
  ∃ v u, r = .returned (.tuple #[v, u, .int .i64 k]) ∧ w'.ownsRow w.heap.size 3 1 v n (rowV n f) ∧ w'.ownsRow w.heap.size 3 1 u n (rowV n g) ∧ Below w.heap.size w w'
set_option maxHeartbeats 1000000 in
theorem sAdd3 (a : Option Addr) (n cap : Nat) (xs : List Int) (b : Option Addr) (m cap2 : Nat) (ys : List Int) (q : Int) (w : World) (h : Ints w a n cap xs) (h2 : Ints w b m cap2 ys) (hx : Tm.isW xs = true) (hy : Tm.isW ys = true) (hl : xs.length = ys.length) (hc0 : -1 ≤ q ∧ q ≤ 1) : Calls Tryd.prog 25 #[.slice a n cap, .slice b m cap2, .int .i64 q] w (RetAdd w xs.length (Tm.sumF xs ys q) (Tm.crr xs ys q) (Tm.crr xs ys q xs.length)) := by
  obtain ⟨i0, hi, hz0, hz1, hz2⟩ := info_parts infoInt
  have H := Lib.hid h
  have H2 := Lib.hid h2
  have HX := Lib.hid hx
  have HY := Lib.hid hy
  have HC := Lib.hid hc0
  have HL := Lib.hid hl
  have hn : n = xs.length := h.1.symm
  have hm : m = n := by rw [hn, hl]; exact h2.1.symm
  have n30 := Tm.isW_len hx
  rw [← hn] at n30 ⊢
  subst hm
  have HN := Lib.hid hn
  clear h h2 hx hy hc0 hl hn
  go_enter Tryd.func25, Tryd.ntmps25
  go_wp2
  go_loopw [2, 9, 10, 19] (fun c v u i wr => ∃ k : Nat, k ≤ m ∧ i = .int .i64 k ∧ c = .int .i64 (Tm.crr xs ys q k) ∧ Hid (wr.ownsRow w.heap.size 3 1 v k (rowV k (Tm.sumF xs ys q))) ∧ Hid (wr.ownsRow w.heap.size 3 1 u k (rowV k (Tm.crr xs ys q))) ∧ Hid (Apart v u) ∧ Hid (Below w.heap.size w wr)) (fun _ _ _ i _ => m - (intOf i).toNat)
  case atStart =>
    refine ⟨0, by omega, rfl, rfl, Lib.hid ?_, Lib.hid ?_, Lib.hid ?_, Lib.hid (by (repeat' (first | (with_reducible exact Below.refl _ _) | (with_reducible assumption) | (with_reducible refine below_drewN ?_ _) | (with_reducible refine Below.drew ?_) | (with_reducible refine Below.alloc ?_ ?_ _) | (with_reducible refine Below.setCell ?_ ?_ _) | (with_reducible refine below_gw ?_ ?_ _) | (with_reducible refine below_via ?_ ‹Below _ _ _› ?_) | (with_reducible exact Nat.le_refl _) | (with_reducible refine le_gw ?_ _) | (with_reducible refine le_alloc ?_ _) | (with_reducible refine le_setCell ?_ _ _) | (with_reducible refine le_drew ?_) | (with_reducible refine le_drewN ?_ _) | go_size)))⟩
    · exact World.ownsRow.alloc (own_empty w _ _ (Nat.le_refl _)) _
    · have h := own_empty (w.alloc (.cells #[] 3)) w.heap.size 3 (by simp)
      rw [World.size_alloc] at h
      exact h
    · intro k e1 e2
      simp [Value.ownBlock] at e1 e2
      omega
  case round =>
    obtain ⟨k, hk, rfl, rfl, OV, OU, AP, BB⟩ := hrel
    have hs := BB.out.size
    by_cases hlt : k < m
    · rcases (H.out.below BB.out).2.2.2 with h0 | ⟨b1, o1, e1, hbl, hca⟩
      · omega
      have ca := hca k hlt
      clear hca
      rcases (H2.out.below BB.out).2.2.2 with h0 | ⟨b2, o2, e2, hbl2, hcb⟩
      · omega
      have cb := hcb k hlt
      clear hcb
      subst e1 e2
      obtain ⟨x, hxx⟩ : ∃ x, x = xs.getD k 0 := ⟨_, rfl⟩
      obtain ⟨y, hyy⟩ : ∃ y, y = ys.getD k 0 := ⟨_, rfl⟩
      rw [← hxx] at ca
      rw [← hyy] at cb
      obtain ⟨z, hz⟩ : ∃ z, z = Tm.crr xs ys q k := ⟨_, rfl⟩
      rw [← hz]
      have e1 : Tm.sumF xs ys q k = Tm.full1 x y z := by rw [Tm.sumF, hxx, hyy, hz]
      have e2 : Tm.crr xs ys q (k + 1) = Tm.full2 x y z := by rw [Tm.crr, hxx, hyy, hz]
      have E1 := Lib.hid e1
      have E2 := Lib.hid e2
      have E3 := Lib.hid hz
      clear e1 e2 hz hxx hyy
      have CA : Hid (∀ w1, Below w.heap.size wr w1 → w1.cell? ⟨b1, o1 + k, none⟩ = some (.int .i64 x)) := Lib.hid fun w1 hb => by
        rw [← ca]; exact World.cell?_of_block (a := ⟨b1, o1 + k, none⟩) (hb.block b1 (by have := (H.out).2.2.2; rcases this with e | ⟨b', o', e, hb', _⟩; omega; cases e; exact hb'))
      have CB : Hid (∀ w1, Below w.heap.size wr w1 → w1.cell? ⟨b2, o2 + k, none⟩ = some (.int .i64 y)) := Lib.hid fun w1 hb => by
        rw [← cb]; exact World.cell?_of_block (a := ⟨b2, o2 + k, none⟩) (hb.block b2 (by have := (H2.out).2.2.2; rcases this with e | ⟨b', o', e, hb', _⟩; omega; cases e; exact hb'))
      clear cb
      go_wp2_with (at_builtin; refine wpList_append_own_at _ rfl _ _ 29 rfl (w.heap.size) 3 i0 (.int .i64 0) 1 8 Tryd.underlying29 hi hz0 hz1 hz2 rfl (by decide) _ _ _ rfl (World.ownsRow.alloc OU.out _) ⟨wr.heap.size, 0, none⟩ 1 1 [.int .i64 (z)] rfl rfl (app_c1 (wr) (z) _) (app_c2 _) (by unfold maxLen; omega) (by omega) (by simp; omega) ?_)
      intro u' w1 hu hg _ hat
      have hs1 := hg.size
      have hb1 : Below w.heap.size wr w1 := ((Below.refl _ _).alloc hs _).grown hg (by simp; omega) (fun j hj => (OU.out.lt j hj).1)
      have OV1 := Lib.hid ((World.ownsRow.alloc OV.out _).kept hg AP.out.or)
      have AP1 := Lib.hid (AP.out.symm.grow hat (fun j hj => by have := (OV.out.lt j hj).2; simp; omega))
      rw [E3.out, rowV_succ] at hu
      have OU1 := Lib.hid hu
      have cb := CB.out w1 hb1
      have B1 := Lib.hid (BB.out.trans hb1)
      have HB1 := Lib.hid hb1
      have hs2 := B1.out.size
      clear hg hat hu OV OU AP ca hb1 BB
      go_wp2_with (first | (go_at_call 38; refine (sFullAdd _ _ _ _).mono ?_; rintro e w1 ⟨rfl, rfl⟩) | (at_builtin; refine wpList_append_own_at _ rfl _ _ 29 rfl (w.heap.size) 3 i0 (.int .i64 0) 1 8 Tryd.underlying29 hi hz0 hz1 hz2 rfl (by decide) _ _ _ rfl (World.ownsRow.alloc OV1.out _) ⟨w1.heap.size, 0, none⟩ 1 1 [.int .i64 (Tm.full1 x y z)] rfl rfl (app_c1 (w1) (Tm.full1 x y z) _) (app_c2 _) (by unfold maxLen; omega) (by omega) (by simp; omega) ?_))
      intro v' w2 hv hg _ hat
      have hb2 : Below w.heap.size w1 w2 := ((Below.refl _ _).alloc hs2 _).grown hg (by simp; omega) (fun j hj => (OV1.out.lt j hj).1)
      have OU2 := Lib.hid ((World.ownsRow.alloc OU1.out _).kept hg AP1.out.or)
      have AP2 := Lib.hid (AP1.out.symm.grow hat (fun j hj => by have := (OU1.out.lt j hj).2; simp; omega))
      rw [← E1.out, rowV_succ] at hv
      have OV2 := Lib.hid hv
      have B2 := Lib.hid (B1.out.trans hb2)
      clear hg hat hv hb2
      go_wp2
      exact ⟨⟨k + 1, by omega, by go_num, val_int E2.out.symm, OV2, OU2, AP2, B2⟩, by simp [intOf]; omega⟩
    · obtain rfl : k = m := by omega
      go_wp2
      go_ret3
      exact ⟨_, _, rfl, OV.out, OU.out, BB.out⟩
theorem own_shape {w : World} {B e n : Nat} {v : Value} {xs : List Value} (h : w.ownsRow B e 1 v (n + 1) xs) : ∃ g cap, v = .slice (some ⟨g, 0, none⟩) (n + 1) cap ∧ n + 1 ≤ cap ∧ cap ≤ maxLen := by
  rcases h.2 with ⟨_, e2⟩ | ⟨g, cap, cur, e1, _, _, h4, h5, _⟩
  · omega
  · exact ⟨g, cap, e1, h4, h5⟩
theorem sAddWords (a : Option Addr) (n cap : Nat) (xs : List Int) (b : Option Addr) (m cap2 : Nat) (ys : List Int) (c : Int) (w : World) (h : Ints w a n cap xs) (h2 : Ints w b m cap2 ys) : Calls Tryd.prog 10 #[.slice a n cap, .slice b m cap2, .int .i64 c] w (RetINB 3 w (Tm.add xs ys c) (Tm.addC xs ys c) (Tm.addOk xs ys c)) := by
  have H := Lib.hid h
  have H2 := Lib.hid h2
  clear h h2
  by_cases hf : Tm.fit xs ys = true
  · by_cases hc : Tm.isT c = true
    · have ho : Tm.addOk xs ys c = true := by simp [Tm.addOk, hf, hc]
      rw [Tm.add, Tm.addC, if_pos ho, if_pos ho, ho]
      obtain ⟨hx, hy, hl⟩ := (Tm.fit_iff xs ys).1 hf
      have l30 := Tm.isW_len hx
      have HX := Lib.hid hx
      have HY := Lib.hid hy
      have HL := Lib.hid hl
      have HC := Lib.hid ((Tm.isT_iff c).1 hc)
      clear ho hx hy hl
      go_enter Tryd.func10, Tryd.ntmps10
      go_wp2_with (first | (go_at_call 23; refine (sFit a n cap xs b m cap2 ys _ H.out H2.out).mono ?_; rintro e w1 ⟨rfl, rfl⟩) | (go_at_call 24; refine (sIsTrit _ _).mono ?_; rintro e w1 ⟨rfl, rfl⟩))
      refine (sAdd3 a n cap xs b m cap2 ys c _ H.out H2.out HX.out HY.out HL.out HC.out).mono ?_
      rintro e w1 ⟨v, u, rfl, hv, _, hb⟩
      rw [rowV_gen] at hv
      go_wp2
      go_ret3
      exact ret_own_nb hv hb (by omega)
    · simp only [Bool.not_eq_true] at hc
      have ho : Tm.addOk xs ys c = false := by simp [Tm.addOk, hc]
      rw [Tm.add, Tm.addC, ho]
      clear ho
      go_enter Tryd.func10, Tryd.ntmps10
      go_wp2_with (first | (go_at_call 23; refine (sFit a n cap xs b m cap2 ys _ H.out H2.out).mono ?_; rintro e w1 ⟨rfl, rfl⟩) | (go_at_call 24; refine (sIsTrit _ _).mono ?_; rintro e w1 ⟨rfl, rfl⟩))
      go_ret3
      exact ret_nil_nb (by (repeat' (first | (with_reducible exact Below.refl _ _) | (with_reducible assumption) | (with_reducible refine below_drewN ?_ _) | (with_reducible refine Below.drew ?_) | (with_reducible refine Below.alloc ?_ ?_ _) | (with_reducible refine Below.setCell ?_ ?_ _) | (with_reducible refine below_gw ?_ ?_ _) | (with_reducible refine below_via ?_ ‹Below _ _ _› ?_) | (with_reducible exact Nat.le_refl _) | (with_reducible refine le_gw ?_ _) | (with_reducible refine le_alloc ?_ _) | (with_reducible refine le_setCell ?_ _ _) | (with_reducible refine le_drew ?_) | (with_reducible refine le_drewN ?_ _) | go_size)))
  · simp only [Bool.not_eq_true] at hf
    have ho : Tm.addOk xs ys c = false := by simp [Tm.addOk, hf]
    rw [Tm.add, Tm.addC, ho]
    clear ho
    go_enter Tryd.func10, Tryd.ntmps10
    go_wp2_with (first | (go_at_call 23; refine (sFit a n cap xs b m cap2 ys _ H.out H2.out).mono ?_; rintro e w1 ⟨rfl, rfl⟩))
    go_ret3
    exact ret_nil_nb (by (repeat' (first | (with_reducible exact Below.refl _ _) | (with_reducible assumption) | (with_reducible refine below_drewN ?_ _) | (with_reducible refine Below.drew ?_) | (with_reducible refine Below.alloc ?_ ?_ _) | (with_reducible refine Below.setCell ?_ ?_ _) | (with_reducible refine below_gw ?_ ?_ _) | (with_reducible refine below_via ?_ ‹Below _ _ _› ?_) | (with_reducible exact Nat.le_refl _) | (with_reducible refine le_gw ?_ _) | (with_reducible refine le_alloc ?_ _) | (with_reducible refine le_setCell ?_ _ _) | (with_reducible refine le_drew ?_) | (with_reducible refine le_drewN ?_ _) | go_size)))
/-- The value of redundant digits. -/
theorem sValueD (a : Option Addr) (n cap : Nat) (xs : List Int) (w : World) (h : Ints w a n cap xs) (hw : Tm.isR xs = true) : Calls Tryd.prog 27 #[.slice a n cap] w fun e w' => e = .returned (.int .i64 (Tm.val xs)) ∧ w = w' := by
  obtain ⟨x1, x2, x3, x4⟩ := h
  unfold maxLen at x3
  have HW := Lib.hid ((Tm.isR_iff xs).1 hw)
  clear hw
  go_enter Tryd.func27, Tryd.ntmps27
  go_wp2
  go_loop [3, 4] (fun v i => ∃ k : Nat, k ≤ n ∧ i = .int .i64 ((k : Int) - 1) ∧ v = .int .i64 (Tm.val (xs.drop k))) (fun _ i => (intOf i + 1).toNat)
  case atStart => exact ⟨n, by omega, rfl, by rw [List.drop_of_length_le (by omega)]; rfl⟩
  case round =>
    obtain ⟨k, hk, rfl, rfl⟩ := hrel
    have vb := Tm.valD_drop HW.out.1 HW.out.2.2 k
    obtain ⟨v1, v2⟩ := vb
    rcases Nat.eq_zero_or_pos k with h0 | h0
    · subst h0
      go_wp2
      go_ret
      exact ⟨rfl, rfl⟩
    · obtain ⟨j, rfl⟩ : ∃ j, k = j + 1 := ⟨k - 1, by omega⟩
      rw [show (((j + 1 : Nat) : Int) - 1) = (j : Int) from by omega]
      rcases x4 with h1 | ⟨b, o, rfl, hbl, hc⟩
      · omega
      have c1 := hc j (by omega)
      have tb := Tm.dig_at HW.out.1 j
      obtain ⟨t1, t2⟩ := tb
      have vd := Tm.val_drop xs j (by omega)
      have ex := getD_at xs j (by omega)
      rw [← ex] at c1 t1 t2 vd
      have VD := Lib.hid vd
      clear hc vd ex
      go_wp2
      exact ⟨⟨j, by omega, rfl, val_int (by rw [VD.out]; omega)⟩, by simp [intOf] <;> omega⟩
theorem quiet_same {P : Program} {f : FuncId} {args : Array Value} {w : World} {n : Nat} {v : Value}
    (h : ∀ W, Calls P f args W fun e w' => e = .returned v ∧ W = w') : Calls P f args (w.drewN n) fun e w'' => e = .returned v ∧ ∃ m, w'' = w.drewN m :=
  (h _).mono fun _ _ ⟨he, hm⟩ => ⟨he, n, hm.symm⟩
end Go.Proofs.YtcphnfhpidhnmaaDoor

/- The model's adders, on: three words saved as two, carry maps. -/
import Derived.Test.YteonnaagpjmgeabAS2
namespace Go.Proofs.Yteonnaagpjmgeab
open Go.RowKit
theorem quiet_same {P : Program} {f : FuncId} {args : Array Value} {w : World} {n : Nat} {v : Value}
    (h : ∀ W, Calls P f args W fun e w' => e = .returned v ∧ W = w') : Calls P f args (w.drewN n) fun e w'' => e = .returned v ∧ ∃ m, w'' = w.drewN m :=
  (h _).mono fun _ _ ⟨he, hm⟩ => ⟨he, n, hm.symm⟩
set_option maxHeartbeats 2000000 in
theorem sCarrySave (a : Option Addr) (n cap : Nat) (xs : List Int) (b : Option Addr) (m cap2 : Nat) (ys : List Int) (c : Option Addr) (l cap3 : Nat) (zs : List Int) (w : World) (h : Ints w a n cap xs) (h2 : Ints w b m cap2 ys) (h3 : Ints w c l cap3 zs) : Calls Try.prog 60 #[.slice a n cap, .slice b m cap2, .slice c l cap3] w (Ret2B 3 w (Tm.sv1 xs ys zs) (Tm.sv2 xs ys zs) (Tm.savOk xs ys zs)) := by
  obtain ⟨i0, hi, hz0, hz1, hz2⟩ := info_parts infoInt
  have H := Lib.hid h
  have H2 := Lib.hid h2
  have H3 := Lib.hid h3
  by_cases hf : Tm.fit xs ys = true
  · by_cases hf2 : Tm.fit xs zs = true
    · have ho : Tm.savOk xs ys zs = true := by simp [Tm.savOk, hf, hf2]
      rw [Tm.sv1, Tm.sv2, if_pos ho, if_pos ho, ho]
      have ff := (Tm.fit_iff _ _).1 hf
      have ff2 := (Tm.fit_iff _ _).1 hf2
      have hn : n = xs.length := h.1.symm
      have hm : m = n := by rw [hn, ff.2.2]; exact h2.1.symm
      have hl : l = n := by rw [hn, ff2.2.2]; exact h3.1.symm
      have n30 := Tm.isW_len ff.1
      rw [← hn] at n30 ⊢
      obtain rfl : n = m := hm.symm
      obtain rfl : n = l := hl.symm
      have WX := Lib.hid ff.1
      have WY := Lib.hid ff.2.1
      have WZ := Lib.hid ff2.2.1
      clear h h2 h3 ho ff ff2 hm hl
      have n1 : 0 < n := by rw [hn]; exact Tm.isW_pos WX.out
      clear hn
      go_enter Try.func60, Try.ntmps60
      go_wp2_with fail
      refine (sFit a _ cap xs b _ cap2 ys _ H.out H2.out).mono ?_
      rintro e w' ⟨rfl, rfl⟩
      go_wp2_with fail
      refine (sFit a _ cap xs c _ cap3 zs _ H.out H3.out).mono ?_
      rintro e w' ⟨rfl, rfl⟩
      go_wp2_with fail
      go_loopw [9, 10, 29] (fun v u i wr => ∃ k : Nat, k ≤ n ∧ i = .int .i64 k ∧ Hid (wr.ownsRow w.heap.size 3 1 v k (rowV k (Tm.sav1 xs ys zs))) ∧ Hid (wr.ownsRow w.heap.size 3 1 u (k + 1) (rowV (k + 1) (Tm.sav2 xs ys zs))) ∧ Hid (Apart v u) ∧ Hid (Below w.heap.size w wr)) (fun _ _ i _ => n - (intOf i).toNat)
      case atStart =>
        refine ⟨0, by omega, rfl, Lib.hid ?_, Lib.hid ?_, Lib.hid ?_, Lib.hid (by (repeat' (first | (with_reducible exact Below.refl _ _) | (with_reducible assumption) | (with_reducible refine below_drewN ?_ _) | (with_reducible refine Below.drew ?_) | (with_reducible refine Below.alloc ?_ ?_ _) | (with_reducible refine Below.setCell ?_ ?_ _) | (with_reducible refine below_gw ?_ ?_ _) | (with_reducible refine below_via ?_ ‹Below _ _ _› ?_) | (with_reducible exact Nat.le_refl _) | (with_reducible refine le_gw ?_ _) | (with_reducible refine le_alloc ?_ _) | (with_reducible refine le_setCell ?_ _ _) | (with_reducible refine le_drew ?_) | (with_reducible refine le_drewN ?_ _) | go_size)))⟩
        · exact World.ownsRow.alloc (own_empty w _ _ (Nat.le_refl _)) _
        · have h := own_one (w.alloc (.cells #[] 3)) w.heap.size 3 0 (by simp)
          rw [World.size_alloc] at h
          exact h
        · intro k e1 e2
          simp [Value.ownBlock] at e1 e2
          omega
      case round =>
        obtain ⟨k, hk, rfl, OV, OU, AP, BB⟩ := hrel
        have hs := BB.out.size
        by_cases hlt : k < n
        · rcases (H.out.below BB.out).2.2.2 with h0 | ⟨b1, o1, e1, hbl, hca⟩
          · omega
          have ca := hca k hlt
          clear hca
          rcases (H2.out.below BB.out).2.2.2 with h0 | ⟨b2, o2, e2, hbl2, hcb⟩
          · omega
          have cb := hcb k hlt
          clear hcb
          rcases (H3.out.below BB.out).2.2.2 with h0 | ⟨b3, o3, e3, hbl3, hcc⟩
          · omega
          have cc := hcc k hlt
          clear hcc
          subst e1 e2 e3
          obtain ⟨x, hxx⟩ : ∃ x, x = xs.getD k 0 := ⟨_, rfl⟩
          obtain ⟨y, hyy⟩ : ∃ y, y = ys.getD k 0 := ⟨_, rfl⟩
          obtain ⟨z, hzz⟩ : ∃ z, z = zs.getD k 0 := ⟨_, rfl⟩
          rw [← hxx] at ca
          rw [← hyy] at cb
          rw [← hzz] at cc
          have e1 : Tm.sav1 xs ys zs k = Tm.full1 x y z := by rw [Tm.sav1, hxx, hyy, hzz]
          have e2 : Tm.sav2 xs ys zs (k + 1) = Tm.full2 x y z := by rw [Tm.sav2, hxx, hyy, hzz]
          have E1 := Lib.hid e1
          have E2 := Lib.hid e2
          clear e1 e2 hxx hyy hzz
          go_wp2_with fail
          go_quiet ((go_at_call 61; exact quiet_same fun _ => sFullAdd _ _ _ _))
          obtain ⟨wd, hwd⟩ : ∃ wd, wd = wr.drewN nq := ⟨_, rfl⟩
          rw [← hwd]
          have OV0 : Hid (wd.ownsRow w.heap.size 3 1 _ k (rowV k (Tm.sav1 xs ys zs))) := Lib.hid (by rw [hwd]; exact own_below OV.out (below_drewN (Below.refl _ _) _))
          have OU0 : Hid (wd.ownsRow w.heap.size 3 1 _ (k + 1) (rowV (k + 1) (Tm.sav2 xs ys zs))) := Lib.hid (by rw [hwd]; exact own_below OU.out (below_drewN (Below.refl _ _) _))
          have B0 : Hid (Below w.heap.size w wd) := Lib.hid (by rw [hwd]; exact below_drewN BB.out _)
          have hs0 := B0.out.size
          clear hwd OV OU BB ca cb cc
          go_wp2_with (at_builtin; refine wpList_append_own_at _ rfl _ _ 23 rfl (w.heap.size) 3 i0 (.int .i64 0) 1 8 Try.underlying23 hi hz0 hz1 hz2 rfl (by decide) _ _ _ rfl (World.ownsRow.alloc OV0.out _) ⟨wd.heap.size, 0, none⟩ 1 1 [.int .i64 (Tm.full1 x y z)] rfl rfl (app_c1 _ _ _) (app_c2 _) (by unfold maxLen; omega) (by omega) (by simp; omega) ?_)
          intro v' w1 hv hg _ hat
          have hs1 := hg.size
          have B1 := Lib.hid ((B0.out.alloc hs0 _).grown hg (by simp; omega) (fun j hj => (OV0.out.lt j hj).1))
          have OU1 := Lib.hid ((World.ownsRow.alloc OU0.out _).kept hg AP.out.symm.or)
          have AP1 := Lib.hid (AP.out.grow hat (fun j hj => by have := (OU0.out.lt j hj).2; simp; omega))
          rw [← E1.out, rowV_succ] at hv
          have OV1 := Lib.hid hv
          have hs2 := B1.out.size
          clear hg hat hv OV0 OU0 AP B0 hs0 hs1
          go_wp2_with (at_builtin; refine wpList_append_own_at _ rfl _ _ 23 rfl (w.heap.size) 3 i0 (.int .i64 0) 1 8 Try.underlying23 hi hz0 hz1 hz2 rfl (by decide) _ _ _ rfl (World.ownsRow.alloc OU1.out _) ⟨w1.heap.size, 0, none⟩ 1 1 [.int .i64 (Tm.full2 x y z)] rfl rfl (app_c1 _ _ _) (app_c2 _) (by unfold maxLen; omega) (by omega) (by simp; omega) ?_)
          intro u' w2 hu hg _ hat
          have B2 := Lib.hid ((B1.out.alloc hs2 _).grown hg (by simp; omega) (fun j hj => (OU1.out.lt j hj).1))
          have OV2 := Lib.hid ((World.ownsRow.alloc OV1.out _).kept hg AP1.out.or)
          have AP2 := Lib.hid (AP1.out.symm.grow hat (fun j hj => by have := (OV1.out.lt j hj).2; simp; omega))
          rw [← E2.out, rowV_succ] at hu
          have OU2 := Lib.hid hu
          have AP3 := Lib.hid AP2.out.symm
          clear hg hat hu
          go_wp2
          exact ⟨⟨k + 1, by omega, by go_num, OV2, OU2, AP3, B2⟩, by simp [intOf]; omega⟩
        · obtain rfl : k = n := by omega
          obtain ⟨g, cq, rfl, hg1, hg2⟩ := own_shape OU.out
          unfold maxLen at hg2
          go_wp2_with fail
          go_quiet (fail)
          go_wp2
          go_ret3
          have hu := own_head (own_below OU.out (below_drewN (Below.refl _ _) nq)) (Nat.le_succ k) (by simp)
          rw [show (rowV (k + 1) (Tm.sav2 xs ys zs)).take k = rowV k (Tm.sav2 xs ys zs) from by rw [← rowV_succ, List.take_left' (rowV_length _ _)], rowV_gen] at hu
          have hv := own_below OV.out (below_drewN (Below.refl _ _) nq)
          rw [rowV_gen] at hv
          exact ret_own_2b hv hu (fun j e1 e2 => AP.out j e1 (by simpa [Value.ownBlock] using e2)) (below_drewN BB.out _) (by omega) (by omega)
    · simp only [Bool.not_eq_true] at hf2
      have ho : Tm.savOk xs ys zs = false := by simp [Tm.savOk, hf2]
      rw [Tm.sv1, Tm.sv2, ho]
      clear ho
      go_enter Try.func60, Try.ntmps60
      go_wp2_with fail
      refine (sFit a _ cap xs b _ cap2 ys _ H.out H2.out).mono ?_
      rintro e w' ⟨rfl, rfl⟩
      go_wp2_with fail
      refine (sFit a _ cap xs c _ cap3 zs _ H.out H3.out).mono ?_
      rintro e w' ⟨rfl, rfl⟩
      go_wp2_with fail
      go_ret3
      exact ret_nil_2b (by (repeat' (first | (with_reducible exact Below.refl _ _) | (with_reducible assumption) | (with_reducible refine below_drewN ?_ _) | (with_reducible refine Below.drew ?_) | (with_reducible refine Below.alloc ?_ ?_ _) | (with_reducible refine Below.setCell ?_ ?_ _) | (with_reducible refine below_gw ?_ ?_ _) | (with_reducible refine below_via ?_ ‹Below _ _ _› ?_) | (with_reducible exact Nat.le_refl _) | (with_reducible refine le_gw ?_ _) | (with_reducible refine le_alloc ?_ _) | (with_reducible refine le_setCell ?_ _ _) | (with_reducible refine le_drew ?_) | (with_reducible refine le_drewN ?_ _) | go_size)))
  · simp only [Bool.not_eq_true] at hf
    have ho : Tm.savOk xs ys zs = false := by simp [Tm.savOk, hf]
    rw [Tm.sv1, Tm.sv2, ho]
    clear ho
    go_enter Try.func60, Try.ntmps60
    go_wp2_with fail
    refine (sFit a _ cap xs b _ cap2 ys _ H.out H2.out).mono ?_
    rintro e w' ⟨rfl, rfl⟩
    go_wp2_with fail
    go_ret3
    exact ret_nil_2b (by (repeat' (first | (with_reducible exact Below.refl _ _) | (with_reducible assumption) | (with_reducible refine below_drewN ?_ _) | (with_reducible refine Below.drew ?_) | (with_reducible refine Below.alloc ?_ ?_ _) | (with_reducible refine Below.setCell ?_ ?_ _) | (with_reducible refine below_gw ?_ ?_ _) | (with_reducible refine below_via ?_ ‹Below _ _ _› ?_) | (with_reducible exact Nat.le_refl _) | (with_reducible refine le_gw ?_ _) | (with_reducible refine le_alloc ?_ _) | (with_reducible refine le_setCell ?_ _ _) | (with_reducible refine le_drew ?_) | (with_reducible refine le_drewN ?_ _) | go_size)))
end Go.Proofs.Yteonnaagpjmgeab

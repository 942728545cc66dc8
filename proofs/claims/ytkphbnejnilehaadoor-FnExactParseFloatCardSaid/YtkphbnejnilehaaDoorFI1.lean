/- The program's floating numbers: what is valid, the float of a number, the negative. -/
import Derived.Test.YtkphbnejnilehaaDoorFS2
import Derived.Test.YtkphbnejnilehaaDoorFMath4
import Derived.Test.YtkphbnejnilehaaDoorWI2
import Derived.Test.YtkphbnejnilehaaDoorWI3
import Derived.Test.YtkphbnejnilehaaDoorPI2
namespace Go.Proofs.YtkphbnejnilehaaDoor
open Go.RowKit
theorem iIsFloat (a : Option Addr) (n cap : Nat) (xs : List Int) (e : Int) (w : World) (h : Ints w a n cap xs) : Calls Tryd.prog 19 #[.agg #[.slice a n cap, .int .i64 e]] w fun r w' => r = .returned (.bool (Tm.isF xs e)) ∧ Below w.heap.size w w' := by
  have H := Lib.hid h
  obtain rfl : n = xs.length := h.1.symm
  clear h
  by_cases h6 : xs.length = 6
  · have I6 : Hid (Ints w a 6 cap xs) := Lib.hid (by rw [← h6]; exact H.out)
    have e6 : ((xs.length : Int) != 6) = false := by rw [h6]; rfl
    have IW := Lib.hid (fun (w : World) (h : Ints w a xs.length cap xs) => iIsWord a xs.length cap xs w h)
    by_cases hx : Tm.isW xs = true
    · rw [hx] at IW
      by_cases he : -20 ≤ e ∧ e ≤ 20
      · obtain ⟨e1, e2⟩ := he
        rcases H.out.2.2.2 with h0 | ⟨b, o, rfl, hbl, hc⟩
        · omega
        have c5 := hc 5 (by omega)
        have SX := Lib.hid (fun (w : World) (h : Ints w (some ⟨b, o, none⟩) xs.length cap xs) => iSignWord (some ⟨b, o, none⟩) _ cap xs w h)
        rw [Tm.value_eq hx] at SX
        have l5 : 5 < xs.length := by omega
        obtain ⟨x, hx5⟩ : ∃ x, x = xs.getD 5 0 := ⟨_, rfl⟩
        rw [← hx5] at c5
        obtain ⟨v, hv⟩ : ∃ v, v = Tm.val xs := ⟨_, rfl⟩
        rw [← hv] at SX
        have RR : Hid (Tm.isF xs e = (decide (x ≠ 0) || (decide (e = 0) && decide (v = 0)))) := Lib.hid (by rw [Tm.isF, hx, (Tm.inB_iff _ _ _).2 ⟨e1, e2⟩, ← hx5, ← hv, decide_eq_true h6]; simp)
        obtain ⟨s, hs⟩ : ∃ s, s = Tm.sgn v := ⟨_, rfl⟩
        rw [← hs] at SX
        have SV : Hid (s = 0 ↔ v = 0) := Lib.hid (by rw [hs, Tm.sgn]; split <;> (try split) <;> omega)
        clear hx5 hv hc h6 hs
        by_cases x0 : x = 0
        · subst x0
          by_cases ee : e = 0
          · subst ee
            go_enter Tryd.func19, Tryd.ntmps19
            go_wp2_with fail
            refine (IW.out _ (H.out.alloc _)).mono ?_
            rintro e w' ⟨rfl, rfl⟩
            go_wp2_with fail
            refine (SX.out _ (H.out.alloc _)).mono ?_
            rintro e w' ⟨rfl, rfl⟩
            go_wp2
            go_ret
            exact ⟨ret_bool (by rw [RR.out, Bool.eq_iff_iff]; simp [SV.out]), by (repeat' (first | (with_reducible exact Below.refl _ _) | (with_reducible assumption) | (with_reducible refine below_drewN ?_ _) | (with_reducible refine Below.drew ?_) | (with_reducible refine Below.alloc ?_ ?_ _) | (with_reducible refine Below.setCell ?_ ?_ _) | (with_reducible refine below_gw ?_ ?_ _) | (with_reducible refine below_via ?_ ‹Below _ _ _› ?_) | (with_reducible exact Nat.le_refl _) | (with_reducible refine le_gw ?_ _) | (with_reducible refine le_alloc ?_ _) | (with_reducible refine le_setCell ?_ _ _) | (with_reducible refine le_drew ?_) | (with_reducible refine le_drewN ?_ _) | go_size))⟩
          · go_enter Tryd.func19, Tryd.ntmps19
            go_wp2_with fail
            refine (IW.out _ (H.out.alloc _)).mono ?_
            rintro e w' ⟨rfl, rfl⟩
            go_wp2
            go_ret
            exact ⟨ret_bool (by rw [RR.out]; simp [ee]), by (repeat' (first | (with_reducible exact Below.refl _ _) | (with_reducible assumption) | (with_reducible refine below_drewN ?_ _) | (with_reducible refine Below.drew ?_) | (with_reducible refine Below.alloc ?_ ?_ _) | (with_reducible refine Below.setCell ?_ ?_ _) | (with_reducible refine below_gw ?_ ?_ _) | (with_reducible refine below_via ?_ ‹Below _ _ _› ?_) | (with_reducible exact Nat.le_refl _) | (with_reducible refine le_gw ?_ _) | (with_reducible refine le_alloc ?_ _) | (with_reducible refine le_setCell ?_ _ _) | (with_reducible refine le_drew ?_) | (with_reducible refine le_drewN ?_ _) | go_size))⟩
        · go_enter Tryd.func19, Tryd.ntmps19
          go_wp2_with fail
          refine (IW.out _ (H.out.alloc _)).mono ?_
          rintro e w' ⟨rfl, rfl⟩
          go_wp2
          go_ret
          exact ⟨ret_bool (by rw [RR.out]; simp [x0]), by (repeat' (first | (with_reducible exact Below.refl _ _) | (with_reducible assumption) | (with_reducible refine below_drewN ?_ _) | (with_reducible refine Below.drew ?_) | (with_reducible refine Below.alloc ?_ ?_ _) | (with_reducible refine Below.setCell ?_ ?_ _) | (with_reducible refine below_gw ?_ ?_ _) | (with_reducible refine below_via ?_ ‹Below _ _ _› ?_) | (with_reducible exact Nat.le_refl _) | (with_reducible refine le_gw ?_ _) | (with_reducible refine le_alloc ?_ _) | (with_reducible refine le_setCell ?_ _ _) | (with_reducible refine le_drew ?_) | (with_reducible refine le_drewN ?_ _) | go_size))⟩
      · have RR : Tm.isF xs e = false := by rw [Tm.isF, (Tm.inB_no _ _ _).2 (by omega)]; simp
        rw [RR]
        clear RR hx h6
        rcases Int.lt_or_le e (-20) with c | c
        · clear he
          go_enter Tryd.func19, Tryd.ntmps19
          go_wp2_with fail
          refine (IW.out _ (H.out.alloc _)).mono ?_
          rintro e w' ⟨rfl, rfl⟩
          go_wp2
          go_ret
          exact ⟨rfl, by (repeat' (first | (with_reducible exact Below.refl _ _) | (with_reducible assumption) | (with_reducible refine below_drewN ?_ _) | (with_reducible refine Below.drew ?_) | (with_reducible refine Below.alloc ?_ ?_ _) | (with_reducible refine Below.setCell ?_ ?_ _) | (with_reducible refine below_gw ?_ ?_ _) | (with_reducible refine below_via ?_ ‹Below _ _ _› ?_) | (with_reducible exact Nat.le_refl _) | (with_reducible refine le_gw ?_ _) | (with_reducible refine le_alloc ?_ _) | (with_reducible refine le_setCell ?_ _ _) | (with_reducible refine le_drew ?_) | (with_reducible refine le_drewN ?_ _) | go_size))⟩
        · have c2 : 20 < e := by omega
          clear he
          go_enter Tryd.func19, Tryd.ntmps19
          go_wp2_with fail
          refine (IW.out _ (H.out.alloc _)).mono ?_
          rintro e w' ⟨rfl, rfl⟩
          go_wp2
          go_ret
          exact ⟨rfl, by (repeat' (first | (with_reducible exact Below.refl _ _) | (with_reducible assumption) | (with_reducible refine below_drewN ?_ _) | (with_reducible refine Below.drew ?_) | (with_reducible refine Below.alloc ?_ ?_ _) | (with_reducible refine Below.setCell ?_ ?_ _) | (with_reducible refine below_gw ?_ ?_ _) | (with_reducible refine below_via ?_ ‹Below _ _ _› ?_) | (with_reducible exact Nat.le_refl _) | (with_reducible refine le_gw ?_ _) | (with_reducible refine le_alloc ?_ _) | (with_reducible refine le_setCell ?_ _ _) | (with_reducible refine le_drew ?_) | (with_reducible refine le_drewN ?_ _) | go_size))⟩
    · simp only [Bool.not_eq_true] at hx
      rw [hx] at IW
      have RR : Tm.isF xs e = false := by rw [Tm.isF, hx]; simp
      rw [RR]
      clear RR hx h6
      go_enter Tryd.func19, Tryd.ntmps19
      go_wp2_with fail
      refine (IW.out _ (H.out.alloc _)).mono ?_
      rintro e w' ⟨rfl, rfl⟩
      go_wp2
      go_ret
      exact ⟨rfl, by (repeat' (first | (with_reducible exact Below.refl _ _) | (with_reducible assumption) | (with_reducible refine below_drewN ?_ _) | (with_reducible refine Below.drew ?_) | (with_reducible refine Below.alloc ?_ ?_ _) | (with_reducible refine Below.setCell ?_ ?_ _) | (with_reducible refine below_gw ?_ ?_ _) | (with_reducible refine below_via ?_ ‹Below _ _ _› ?_) | (with_reducible exact Nat.le_refl _) | (with_reducible refine le_gw ?_ _) | (with_reducible refine le_alloc ?_ _) | (with_reducible refine le_setCell ?_ _ _) | (with_reducible refine le_drew ?_) | (with_reducible refine le_drewN ?_ _) | go_size))⟩
  · have RR : Tm.isF xs e = false := by rw [Tm.isF, decide_eq_false h6]; simp
    rw [RR]
    clear RR
    have e6 : ((xs.length : Int) != 6) = true := by simp; omega
    clear h6
    go_enter Tryd.func19, Tryd.ntmps19
    go_wp2
    go_ret
    exact ⟨rfl, by (repeat' (first | (with_reducible exact Below.refl _ _) | (with_reducible assumption) | (with_reducible refine below_drewN ?_ _) | (with_reducible refine Below.drew ?_) | (with_reducible refine Below.alloc ?_ ?_ _) | (with_reducible refine Below.setCell ?_ ?_ _) | (with_reducible refine below_gw ?_ ?_ _) | (with_reducible refine below_via ?_ ‹Below _ _ _› ?_) | (with_reducible exact Nat.le_refl _) | (with_reducible refine le_gw ?_ _) | (with_reducible refine le_alloc ?_ _) | (with_reducible refine le_setCell ?_ _ _) | (with_reducible refine le_drew ?_) | (with_reducible refine le_drewN ?_ _) | go_size))⟩
end Go.Proofs.YtkphbnejnilehaaDoor

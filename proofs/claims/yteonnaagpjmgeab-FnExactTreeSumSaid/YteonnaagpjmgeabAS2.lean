/- The model's adders, on. -/
import Derived.Test.YteonnaagpjmgeabAS
import Derived.Test.YteonnaagpjmgeabDraw
namespace Go.Proofs.Yteonnaagpjmgeab
open Go.RowKit
theorem own_shape {w : World} {B e n : Nat} {v : Value} {xs : List Value} (h : w.ownsRow B e 1 v (n + 1) xs) : ∃ g cap, v = .slice (some ⟨g, 0, none⟩) (n + 1) cap ∧ n + 1 ≤ cap ∧ cap ≤ maxLen := by
  rcases h.2 with ⟨_, e2⟩ | ⟨g, cap, cur, e1, _, _, h4, h5, _⟩
  · omega
  · exact ⟨g, cap, e1, h4, h5⟩
theorem sAddWords (a : Option Addr) (n cap : Nat) (xs : List Int) (b : Option Addr) (m cap2 : Nat) (ys : List Int) (c : Int) (w : World) (h : Ints w a n cap xs) (h2 : Ints w b m cap2 ys) : Calls Try.prog 45 #[.slice a n cap, .slice b m cap2, .int .i64 c] w (RetINB 3 w (Tm.add xs ys c) (Tm.addC xs ys c) (Tm.addOk xs ys c)) := by
  have H := Lib.hid h
  have H2 := Lib.hid h2
  clear h h2
  by_cases hf : Tm.fit xs ys = true
  · by_cases hc : Tm.isT c = true
    · have ho : Tm.addOk xs ys c = true := by simp [Tm.addOk, hf, hc]
      rw [Tm.add, Tm.addC, if_pos ho, if_pos ho, ho]
      obtain ⟨hx, hy, hl⟩ := (Tm.fit_iff xs ys).1 hf
      have l30 := Tm.isW_len hx
      have HX := Lib.hid hx
      have HY := Lib.hid hy
      have HL := Lib.hid hl
      have HC := Lib.hid ((Tm.isT_iff c).1 hc)
      clear ho hx hy hl
      go_enter Try.func45, Try.ntmps45
      go_wp2_with (first | (go_at_call 48; refine (sFit a n cap xs b m cap2 ys _ H.out H2.out).mono ?_; rintro e w1 ⟨rfl, rfl⟩) | (go_at_call 58; refine (sIsTrit _ _).mono ?_; rintro e w1 ⟨rfl, rfl⟩))
      refine (sAdd3 a n cap xs b m cap2 ys c _ H.out H2.out HX.out HY.out HL.out HC.out).mono ?_
      rintro e w1 ⟨v, u, rfl, hv, _, hb⟩
      rw [rowV_gen] at hv
      go_wp2
      go_ret3
      exact ret_own_nb hv hb (by omega)
    · simp only [Bool.not_eq_true] at hc
      have ho : Tm.addOk xs ys c = false := by simp [Tm.addOk, hc]
      rw [Tm.add, Tm.addC, ho]
      clear ho
      go_enter Try.func45, Try.ntmps45
      go_wp2_with (first | (go_at_call 48; refine (sFit a n cap xs b m cap2 ys _ H.out H2.out).mono ?_; rintro e w1 ⟨rfl, rfl⟩) | (go_at_call 58; refine (sIsTrit _ _).mono ?_; rintro e w1 ⟨rfl, rfl⟩))
      go_ret3
      exact ret_nil_nb (by (repeat' (first | (with_reducible exact Below.refl _ _) | (with_reducible assumption) | (with_reducible refine below_drewN ?_ _) | (with_reducible refine Below.drew ?_) | (with_reducible refine Below.alloc ?_ ?_ _) | (with_reducible refine Below.setCell ?_ ?_ _) | (with_reducible refine below_gw ?_ ?_ _) | (with_reducible refine below_via ?_ ‹Below _ _ _› ?_) | (with_reducible exact Nat.le_refl _) | (with_reducible refine le_gw ?_ _) | (with_reducible refine le_alloc ?_ _) | (with_reducible refine le_setCell ?_ _ _) | (with_reducible refine le_drew ?_) | (with_reducible refine le_drewN ?_ _) | go_size)))
  · simp only [Bool.not_eq_true] at hf
    have ho : Tm.addOk xs ys c = false := by simp [Tm.addOk, hf]
    rw [Tm.add, Tm.addC, ho]
    clear ho
    go_enter Try.func45, Try.ntmps45
    go_wp2_with (first | (go_at_call 48; refine (sFit a n cap xs b m cap2 ys _ H.out H2.out).mono ?_; rintro e w1 ⟨rfl, rfl⟩))
    go_ret3
    exact ret_nil_nb (by (repeat' (first | (with_reducible exact Below.refl _ _) | (with_reducible assumption) | (with_reducible refine below_drewN ?_ _) | (with_reducible refine Below.drew ?_) | (with_reducible refine Below.alloc ?_ ?_ _) | (with_reducible refine Below.setCell ?_ ?_ _) | (with_reducible refine below_gw ?_ ?_ _) | (with_reducible refine below_via ?_ ‹Below _ _ _› ?_) | (with_reducible exact Nat.le_refl _) | (with_reducible refine le_gw ?_ _) | (with_reducible refine le_alloc ?_ _) | (with_reducible refine le_setCell ?_ _ _) | (with_reducible refine le_drew ?_) | (with_reducible refine le_drewN ?_ _) | go_size)))
theorem sAddAhead (a : Option Addr) (n cap : Nat) (xs : List Int) (b : Option Addr) (m cap2 : Nat) (ys : List Int) (c : Int) (w : World) (h : Ints w a n cap xs) (h2 : Ints w b m cap2 ys) : Calls Try.prog 23 #[.slice a n cap, .slice b m cap2, .int .i64 c] w (RetINB 3 w (Tm.add xs ys c) (Tm.addC xs ys c) (Tm.addOk xs ys c)) := by
  go_enter Try.func23, Try.ntmps23
  go_wp2_with fail
  refine (sAddWords a n cap xs b m cap2 ys c _ h h2).mono ?_
  rintro e w1 ⟨a2, c2, rfl, hown, hb, ln⟩
  go_wp2
  go_ret3
  exact ⟨a2, c2, rfl, hown, hb, ln⟩
end Go.Proofs.Yteonnaagpjmgeab

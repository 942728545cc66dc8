/- Contracts of the program's functions of words, on: rounded and joined words, sums, reversed words. -/
import Derived.Test.YthcljjkgbdlclaaWI2
import Derived.Deep.RegionLaw
namespace Go.Proofs.Ythcljjkgbdlclaa
open Go.RowKit
theorem iCanJoin (a : Option Addr) (n cap : Nat) (xs : List Int) (b : Option Addr) (m cap2 : Nat) (ys : List Int) (w : World) (h : Ints w a n cap xs) (h2 : Ints w b m cap2 ys) : Calls Try.prog 22 #[.slice a n cap, .slice b m cap2] w fun e w' => e = .returned (.bool (Tm.joinOk xs ys)) ∧ w = w' := by
  have H := Lib.hid h
  have H2 := Lib.hid h2
  obtain rfl : n = xs.length := h.1.symm
  obtain rfl : m = ys.length := h2.1.symm
  clear h h2
  by_cases hx : Tm.isW xs = true
  · by_cases hy : Tm.isW ys = true
    · have l1 := ((Tm.isW_iff xs).1 hx).2.2
      have l2 := ((Tm.isW_iff ys).1 hy).2.2
      go_enter Try.func22, Try.ntmps22
      go_wp2_with fail
      refine (iIsWord a _ cap xs _ H.out).mono ?_
      rintro e w' ⟨rfl, rfl⟩
      go_wp2_with fail
      refine (iIsWord b _ cap2 ys _ H2.out).mono ?_
      rintro e w' ⟨rfl, rfl⟩
      go_wp2
      go_ret
      exact ⟨ret_bool (by rw [Tm.joinOk, hx, hy, Bool.eq_iff_iff]; simp; try omega), rfl⟩
    · simp only [Bool.not_eq_true] at hy
      go_enter Try.func22, Try.ntmps22
      go_wp2_with fail
      refine (iIsWord a _ cap xs _ H.out).mono ?_
      rintro e w' ⟨rfl, rfl⟩
      go_wp2_with fail
      refine (iIsWord b _ cap2 ys _ H2.out).mono ?_
      rintro e w' ⟨rfl, rfl⟩
      go_wp2
      go_ret
      exact ⟨ret_bool (by simp [Tm.joinOk, hy]), rfl⟩
  · simp only [Bool.not_eq_true] at hx
    go_enter Try.func22, Try.ntmps22
    go_wp2_with fail
    refine (iIsWord a _ cap xs _ H.out).mono ?_
    rintro e w' ⟨rfl, rfl⟩
    go_wp2
    go_ret
    exact ⟨ret_bool (by simp [Tm.joinOk, hx]), rfl⟩
theorem iJoinWords (a : Option Addr) (n cap : Nat) (xs : List Int) (b : Option Addr) (m cap2 : Nat) (ys : List Int) (w : World) (h : Ints w a n cap xs) (h2 : Ints w b m cap2 ys) : Calls Try.prog 8 #[.slice a n cap, .slice b m cap2] w (RetIB 3 w (Tm.join xs ys) (Tm.joinOk xs ys)) := by
  obtain ⟨i0, hi, hz0, hz1, hz2⟩ := info_parts infoInt
  have H := Lib.hid h
  have H2 := Lib.hid h2
  obtain rfl : n = xs.length := h.1.symm
  obtain rfl : m = ys.length := h2.1.symm
  have hcap : xs.length ≤ cap := h.2.1
  have hcm := h.2.2.1
  unfold maxLen at hcm
  clear h h2
  by_cases ho : Tm.joinOk xs ys = true
  · have J := ho
    simp only [Tm.joinOk, Bool.and_eq_true, decide_eq_true_eq] at J
    obtain ⟨⟨hx, hy⟩, hl⟩ := J
    have lx := (Tm.isW_iff xs).1 hx
    have ly := (Tm.isW_iff ys).1 hy
    obtain ⟨-, lx1, lx2⟩ := lx
    obtain ⟨-, ly1, ly2⟩ := ly
    have C := Lib.hid (iCanJoin a _ cap xs b _ cap2 ys w H.out H2.out)
    rw [Tm.join, if_pos ho, ho]
    rw [ho] at C
    clear ho
    rcases H.out.2.2.2 with e | ⟨bx, ox, rfl, hblx, hcx⟩
    · omega
    rcases H2.out.2.2.2 with e | ⟨b', o, rfl, hbl, hc⟩
    · omega
    have HN := Lib.hid (news_of rfl hc)
    have HX := Lib.hid (news_of rfl hcx)
    clear hc hcx
    go_enter Try.func8, Try.ntmps8
    go_wp2_with fail
    refine C.out.mono ?_
    rintro e w' ⟨rfl, rfl⟩
    go_wp2_with (first | (go_at_call 21; go_in) | (at_builtin; refine wpList_append_grows _ rfl _ _ 23 rfl 3 i0 (.int .i64 0) 1 8 Try.underlying23 hi hz0 hz1 hz2 rfl (by decide) _ _ _ (xs.map (Value.int .i64)) rfl (by simp) (by simp) (by intro b hb; cases hb; exact HX.out) ⟨b', o, none⟩ ys.length cap2 (ys.map (Value.int .i64)) rfl (by simp) HN.out (news_one ys) (by omega) (by unfold maxLen; omega) (by omega) ?_))
    intro v' w2 hown' hgrow
    have hnx1 : Below w.heap.size w w2 := (Below.refl _ _).grown hgrow (Nat.le_refl _) (fun k hk => by cases hk)
    rw [← List.map_append] at hown'
    clear hgrow
    go_wp2
    go_ret2
    exact ret_own_b hown' hnx1 (by omega)
  · simp only [Bool.not_eq_true] at ho
    have C := Lib.hid (iCanJoin a _ cap xs b _ cap2 ys w H.out H2.out)
    rw [Tm.join, ho]
    rw [ho] at C
    clear ho
    go_enter Try.func8, Try.ntmps8
    go_wp2_with fail
    refine C.out.mono ?_
    rintro e w' ⟨rfl, rfl⟩
    go_wp2
    go_ret2
    exact ret_nil_b (by (repeat' (first | (with_reducible exact Below.refl _ _) | (with_reducible assumption) | (with_reducible refine below_drewN ?_ _) | (with_reducible refine Below.drew ?_) | (with_reducible refine Below.alloc ?_ ?_ _) | (with_reducible refine Below.setCell ?_ ?_ _) | (with_reducible refine below_gw ?_ ?_ _) | (with_reducible refine below_via ?_ ‹Below _ _ _› ?_) | (with_reducible exact Nat.le_refl _) | (with_reducible refine le_gw ?_ _) | (with_reducible refine le_alloc ?_ _) | (with_reducible refine le_setCell ?_ _ _) | (with_reducible refine le_drew ?_) | (with_reducible refine le_drewN ?_ _) | go_size)))
end Go.Proofs.Ythcljjkgbdlclaa

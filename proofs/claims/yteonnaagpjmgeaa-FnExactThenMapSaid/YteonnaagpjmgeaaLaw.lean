/- The laws' own small functions, and what they draw. -/
import Derived.Test.YteonnaagpjmgeaaDraw
import Derived.Test.YteonnaagpjmgeaaRow
namespace Go.Proofs.Yteonnaagpjmgeaa
open Go.RowKit
/-- A number of one byte. -/
def AByte (w : World) (e : Ending) (w' : World) : Prop := ∃ x : Int, e = .returned (.int .i64 x) ∧ 0 ≤ x ∧ x ≤ 255 ∧ w = w'
theorem at_any (a : Option Addr) (n cap : Nat) (i : Int) (w : World) (hb : Byts w a n cap) (hn : n ≤ 1048576) (i0 : 0 ≤ i) (i1 : i ≤ 1000) : Calls Try.prog 16 #[.slice a n cap, .int .i64 i] w (AByte w) := by
  obtain ⟨b1, b2, b3⟩ := hb
  unfold maxLen at b2
  obtain ⟨k, rfl⟩ := Int.eq_ofNat_of_zero_le i0
  by_cases hlt : k < n
  · rcases b3 with e | ⟨b, o, rfl, hbl, hc⟩
    · omega
    obtain ⟨x, x0, x1, hx⟩ := hc k hlt
    clear hc
    go_enter Try.func16, Try.ntmps16
    go_wp2
    go_ret
    exact ⟨_, rfl, by omega, by omega, rfl⟩
  · clear b3
    have m := Int.emod_nonneg ((k : Int) * 37 + (n : Int) * 11) (show (256 : Int) ≠ 0 by omega)
    have m2 := Int.emod_lt_of_pos ((k : Int) * 37 + (n : Int) * 11) (show (0 : Int) < 256 by omega)
    go_enter Try.func16, Try.ntmps16
    go_wp2
    go_ret
    refine ⟨_, rfl, ?_, ?_, rfl⟩ <;> (try rw [Int.tmod_eq_emod_of_nonneg (by omega)]) <;> omega
namespace Tm
def absI (x : Int) : Int := if 0 ≤ x then x else -x
end Tm
/-- A new word. -/
def NewW (p : List Int → Prop) (w : World) (e : Ending) (w' : World) : Prop :=
  ∃ (xs : List Int) (b : Option Addr) (c : Nat), e = .returned (.slice b xs.length c) ∧ Tm.isW xs = true ∧ p xs ∧ w'.ownsRow w.heap.size 3 1 (.slice b xs.length c) xs.length (xs.map (Value.int .i64)) ∧ Below w.heap.size w w'
theorem makeWord_any (a : Option Addr) (n cap : Nat) (most : Int) (w : World) (hb : Byts w a n cap) (hn : n ≤ 1048576) (h1 : 1 ≤ most) (h30 : most ≤ 30) : Calls Try.prog 25 #[.slice a n cap, .int .i64 most] w (NewW (fun xs => (xs.length : Int) ≤ most) w) := by
  have HB := Lib.hid hb
  clear hb
  rcases (show most = 1 ∨ 2 ≤ most by omega) with rfl | h2
  · skip
    go_enter Try.func25, Try.ntmps25
    go_wp2_with fail
    refine (sNew a n cap _ HB.out hn).mono ?_
    rintro e w1 ⟨p, rfl, hp, hc, hbl⟩
    have C1 := Lib.hid hc
    have hs := hbl.size
    have B1 := Lib.hid hbl
    clear hc hbl
    go_wp2_with (go_at_call 60; refine (sDraw2 _ p a n cap 1 _ C1.out (by omega) (by omega)).mono ?_; rintro e w2 ⟨xs, b, c, rfl, hw, hl, ho, hc2, hg⟩)
    have hb2 := B1.out.trans (grown_below hg hp hs)
    have ho2 := own_weak ho hs
    have HO := Lib.hid ho2
    clear hc2 hg ho ho2
    go_wp2
    go_ret
    exact ⟨xs, b, c, rfl, hw, hl, HO.out, hb2⟩
  · skip
    go_enter Try.func25, Try.ntmps25
    go_wp2_with fail
    refine (sNew a n cap _ HB.out hn).mono ?_
    rintro e w1 ⟨p, rfl, hp, hc, hbl⟩
    have C1 := Lib.hid hc
    have hs := hbl.size
    have B1 := Lib.hid hbl
    clear hc hbl
    go_wp2_with (go_at_call 60; refine (sDraw2 _ p a n cap most _ C1.out h1 h30).mono ?_; rintro e w2 ⟨xs, b, c, rfl, hw, hl, ho, hc2, hg⟩)
    have hb2 := B1.out.trans (grown_below hg hp hs)
    have ho2 := own_weak ho hs
    have HO := Lib.hid ho2
    clear hc2 hg ho ho2
    go_wp2
    go_ret
    exact ⟨xs, b, c, rfl, hw, hl, HO.out, hb2⟩
namespace Tm
def pow3 (k : Nat) : Int := 3 ^ k
theorem pow3_succ (k : Nat) : pow3 (k + 1) = 3 * pow3 k := by simp [pow3, Int.pow_succ]; omega
theorem pow3_pos (k : Nat) : 0 < pow3 k := by induction k with
  | zero => simp [pow3]
  | succ k ih => rw [pow3_succ]; omega
theorem pow3_le {a b : Nat} (h : a ≤ b) : pow3 a ≤ pow3 b := by
  induction b with
  | zero => have : a = 0 := by omega
            subst this; exact Int.le_refl _
  | succ b ih =>
    by_cases e : a = b + 1
    · subst e; exact Int.le_refl _
    · have := ih (by omega); have := pow3_pos b; rw [pow3_succ]; omega
theorem pow3_30 : pow3 30 = 205891132094649 := by rfl
end Tm
end Go.Proofs.Yteonnaagpjmgeaa

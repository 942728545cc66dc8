/- Contracts of the functions of tables, on: what a table has for two trits. Contracts of the functions of tables, on: swapped and dual tables. -/
import Derived.Test.YtjbmgppgkgacpaaTabI
namespace Go.Proofs.Ytjbmgppgkgacpaa
set_option maxRecDepth 20000
open Go.RowKit
namespace Tm
def ix (a b : Int) : Nat := (3 * (a + 1) + b + 1).toNat
def look (f : Nat → Int) (a b : Int) : Int := if isTab f && isT a && isT b then f (ix a b) else 0
theorem look_no {f : Nat → Int} {a b : Int} (h : isTab f = false ∨ isT a = false ∨ isT b = false) : look f a b = 0 := by
  rcases h with h | h | h <;> simp [look, h]
theorem isTab_at {f : Nat → Int} (h : isTab f = true) (i : Nat) (hi : i < 9) : isT (f i) = true := by
  simp only [isTab, Bool.and_eq_true] at h
  match i, hi with
  | 0, _ | 1, _ | 2, _ | 3, _ | 4, _ | 5, _ | 6, _ | 7, _ | 8, _ => simp_all
theorem look_tt (f : Nat → Int) (a b : Int) : -1 ≤ look f a b ∧ look f a b ≤ 1 := by
  unfold look
  split
  · rename_i h
    simp only [Bool.and_eq_true] at h
    obtain ⟨⟨h1, h2⟩, h3⟩ := h
    have := isTab_at h1 (ix a b) (by have := (isT_iff a).1 h2; have := (isT_iff b).1 h3; unfold ix; omega)
    exact (isT_iff _).1 this
  · omega
theorem neg_look (f : Nat → Int) (a b : Int) : neg (look f a b) = - look f a b := by
  rw [neg, if_pos ((isT_iff _).2 (look_tt f a b))]
end Tm
theorem iLookUp (f : Nat → Int) (a b : Int) (w : World) : Calls Try.prog 37 #[tabV f, .int .i64 a, .int .i64 b] w fun e w' => e = .returned (.int .i64 (Tm.look f a b)) ∧ Below w.heap.size w w' := by
  by_cases hT : Tm.isTab f = true
  · by_cases ha : Tm.isT a = true
    · by_cases hb : Tm.isT b = true
      · rcases Tm.isT_cases ha with rfl | rfl | rfl <;> rcases Tm.isT_cases hb with rfl | rfl | rfl
        all_goals
          clear ha hb
          go_enter Try.func37, Try.ntmps37
          go_wp2_with (first | (go_at_call 33; refine (iIsTable f _).mono ?_; rintro e w1 ⟨rfl, hb⟩; obtain ⟨p, rfl⟩ := gw_of_below hb; clear hb) | (go_at_call 60; go_in) | (go_at_call 80; go_in) | (go_at_call 61; go_in))
          go_ret
          exact ⟨ret_int (by simp [Tm.look, hT, Tm.isT, Tm.ix]), by (repeat' (first | (with_reducible exact Below.refl _ _) | (with_reducible assumption) | (with_reducible refine below_drewN ?_ _) | (with_reducible refine Below.drew ?_) | (with_reducible refine Below.alloc ?_ ?_ _) | (with_reducible refine Below.setCell ?_ ?_ _) | (with_reducible refine below_gw ?_ ?_ _) | (with_reducible refine below_via ?_ ‹Below _ _ _› ?_) | (with_reducible exact Nat.le_refl _) | (with_reducible refine le_gw ?_ _) | (with_reducible refine le_alloc ?_ _) | (with_reducible refine le_setCell ?_ _ _) | (with_reducible refine le_drew ?_) | (with_reducible refine le_drewN ?_ _) | go_size))⟩
      · simp only [Bool.not_eq_true] at hb
        go_enter Try.func37, Try.ntmps37
        go_wp2_with (first | (go_at_call 33; refine (iIsTable f _).mono ?_; rintro e w1 ⟨rfl, hb⟩; obtain ⟨p, rfl⟩ := gw_of_below hb; clear hb) | (go_at_call 60; refine (iAreTrits _ _ _).mono ?_; rintro e w1 ⟨rfl, rfl⟩))
        go_ret
        exact ⟨ret_int (by rw [Tm.look_no]; simp_all), by (repeat' (first | (with_reducible exact Below.refl _ _) | (with_reducible assumption) | (with_reducible refine below_drewN ?_ _) | (with_reducible refine Below.drew ?_) | (with_reducible refine Below.alloc ?_ ?_ _) | (with_reducible refine Below.setCell ?_ ?_ _) | (with_reducible refine below_gw ?_ ?_ _) | (with_reducible refine below_via ?_ ‹Below _ _ _› ?_) | (with_reducible exact Nat.le_refl _) | (with_reducible refine le_gw ?_ _) | (with_reducible refine le_alloc ?_ _) | (with_reducible refine le_setCell ?_ _ _) | (with_reducible refine le_drew ?_) | (with_reducible refine le_drewN ?_ _) | go_size))⟩
    · simp only [Bool.not_eq_true] at ha
      go_enter Try.func37, Try.ntmps37
      go_wp2_with (first | (go_at_call 33; refine (iIsTable f _).mono ?_; rintro e w1 ⟨rfl, hb⟩; obtain ⟨p, rfl⟩ := gw_of_below hb; clear hb) | (go_at_call 60; refine (iAreTrits _ _ _).mono ?_; rintro e w1 ⟨rfl, rfl⟩))
      go_ret
      exact ⟨ret_int (by rw [Tm.look_no]; simp_all), by (repeat' (first | (with_reducible exact Below.refl _ _) | (with_reducible assumption) | (with_reducible refine below_drewN ?_ _) | (with_reducible refine Below.drew ?_) | (with_reducible refine Below.alloc ?_ ?_ _) | (with_reducible refine Below.setCell ?_ ?_ _) | (with_reducible refine below_gw ?_ ?_ _) | (with_reducible refine below_via ?_ ‹Below _ _ _› ?_) | (with_reducible exact Nat.le_refl _) | (with_reducible refine le_gw ?_ _) | (with_reducible refine le_alloc ?_ _) | (with_reducible refine le_setCell ?_ _ _) | (with_reducible refine le_drew ?_) | (with_reducible refine le_drewN ?_ _) | go_size))⟩
  · simp only [Bool.not_eq_true] at hT
    go_enter Try.func37, Try.ntmps37
    go_wp2_with (first | (go_at_call 33; refine (iIsTable f _).mono ?_; rintro e w1 ⟨rfl, hb⟩; obtain ⟨p, rfl⟩ := gw_of_below hb; clear hb) | (go_at_call 60; refine (iAreTrits _ _ _).mono ?_; rintro e w1 ⟨rfl, rfl⟩))
    go_ret
    exact ⟨ret_int (by rw [Tm.look_no]; simp_all), by (repeat' (first | (with_reducible exact Below.refl _ _) | (with_reducible assumption) | (with_reducible refine below_drewN ?_ _) | (with_reducible refine Below.drew ?_) | (with_reducible refine Below.alloc ?_ ?_ _) | (with_reducible refine Below.setCell ?_ ?_ _) | (with_reducible refine below_gw ?_ ?_ _) | (with_reducible refine below_via ?_ ‹Below _ _ _› ?_) | (with_reducible exact Nat.le_refl _) | (with_reducible refine le_gw ?_ _) | (with_reducible refine le_alloc ?_ _) | (with_reducible refine le_setCell ?_ _ _) | (with_reducible refine le_drew ?_) | (with_reducible refine le_drewN ?_ _) | go_size))⟩
theorem sLookUp (f : Nat → Int) (a b : Int) (w : World) : Calls Try.prog 71 #[tabV f, .int .i64 a, .int .i64 b] w fun e w' => e = .returned (.int .i64 (Tm.look f a b)) ∧ Below w.heap.size w w' := by
  by_cases hT : Tm.isTab f = true
  · by_cases ha : Tm.isT a = true
    · by_cases hb : Tm.isT b = true
      · rcases Tm.isT_cases ha with rfl | rfl | rfl <;> rcases Tm.isT_cases hb with rfl | rfl | rfl
        all_goals
          clear ha hb
          go_enter Try.func71, Try.ntmps71
          go_wp2_with (first | (go_at_call 31; refine (sIsTable f _).mono ?_; rintro e w1 ⟨rfl, hb⟩; obtain ⟨p, rfl⟩ := gw_of_below hb; clear hb) | (go_at_call 83; go_in) | (go_at_call 57; go_in) | (go_at_call 21; go_in))
          go_ret
          exact ⟨ret_int (by simp [Tm.look, hT, Tm.isT, Tm.ix]), by (repeat' (first | (with_reducible exact Below.refl _ _) | (with_reducible assumption) | (with_reducible refine below_drewN ?_ _) | (with_reducible refine Below.drew ?_) | (with_reducible refine Below.alloc ?_ ?_ _) | (with_reducible refine Below.setCell ?_ ?_ _) | (with_reducible refine below_gw ?_ ?_ _) | (with_reducible refine below_via ?_ ‹Below _ _ _› ?_) | (with_reducible exact Nat.le_refl _) | (with_reducible refine le_gw ?_ _) | (with_reducible refine le_alloc ?_ _) | (with_reducible refine le_setCell ?_ _ _) | (with_reducible refine le_drew ?_) | (with_reducible refine le_drewN ?_ _) | go_size))⟩
      · simp only [Bool.not_eq_true] at hb
        go_enter Try.func71, Try.ntmps71
        go_wp2_with (first | (go_at_call 31; refine (sIsTable f _).mono ?_; rintro e w1 ⟨rfl, hb⟩; obtain ⟨p, rfl⟩ := gw_of_below hb; clear hb) | (go_at_call 83; refine (sTwo _ _ _).mono ?_; rintro e w1 ⟨rfl, rfl⟩))
        go_ret
        exact ⟨ret_int (by rw [Tm.look_no]; simp_all), by (repeat' (first | (with_reducible exact Below.refl _ _) | (with_reducible assumption) | (with_reducible refine below_drewN ?_ _) | (with_reducible refine Below.drew ?_) | (with_reducible refine Below.alloc ?_ ?_ _) | (with_reducible refine Below.setCell ?_ ?_ _) | (with_reducible refine below_gw ?_ ?_ _) | (with_reducible refine below_via ?_ ‹Below _ _ _› ?_) | (with_reducible exact Nat.le_refl _) | (with_reducible refine le_gw ?_ _) | (with_reducible refine le_alloc ?_ _) | (with_reducible refine le_setCell ?_ _ _) | (with_reducible refine le_drew ?_) | (with_reducible refine le_drewN ?_ _) | go_size))⟩
    · simp only [Bool.not_eq_true] at ha
      go_enter Try.func71, Try.ntmps71
      go_wp2_with (first | (go_at_call 31; refine (sIsTable f _).mono ?_; rintro e w1 ⟨rfl, hb⟩; obtain ⟨p, rfl⟩ := gw_of_below hb; clear hb) | (go_at_call 83; refine (sTwo _ _ _).mono ?_; rintro e w1 ⟨rfl, rfl⟩))
      go_ret
      exact ⟨ret_int (by rw [Tm.look_no]; simp_all), by (repeat' (first | (with_reducible exact Below.refl _ _) | (with_reducible assumption) | (with_reducible refine below_drewN ?_ _) | (with_reducible refine Below.drew ?_) | (with_reducible refine Below.alloc ?_ ?_ _) | (with_reducible refine Below.setCell ?_ ?_ _) | (with_reducible refine below_gw ?_ ?_ _) | (with_reducible refine below_via ?_ ‹Below _ _ _› ?_) | (with_reducible exact Nat.le_refl _) | (with_reducible refine le_gw ?_ _) | (with_reducible refine le_alloc ?_ _) | (with_reducible refine le_setCell ?_ _ _) | (with_reducible refine le_drew ?_) | (with_reducible refine le_drewN ?_ _) | go_size))⟩
  · simp only [Bool.not_eq_true] at hT
    go_enter Try.func71, Try.ntmps71
    go_wp2_with (first | (go_at_call 31; refine (sIsTable f _).mono ?_; rintro e w1 ⟨rfl, hb⟩; obtain ⟨p, rfl⟩ := gw_of_below hb; clear hb) | (go_at_call 83; refine (sTwo _ _ _).mono ?_; rintro e w1 ⟨rfl, rfl⟩))
    go_ret
    exact ⟨ret_int (by rw [Tm.look_no]; simp_all), by (repeat' (first | (with_reducible exact Below.refl _ _) | (with_reducible assumption) | (with_reducible refine below_drewN ?_ _) | (with_reducible refine Below.drew ?_) | (with_reducible refine Below.alloc ?_ ?_ _) | (with_reducible refine Below.setCell ?_ ?_ _) | (with_reducible refine below_gw ?_ ?_ _) | (with_reducible refine below_via ?_ ‹Below _ _ _› ?_) | (with_reducible exact Nat.le_refl _) | (with_reducible refine le_gw ?_ _) | (with_reducible refine le_alloc ?_ _) | (with_reducible refine le_setCell ?_ _ _) | (with_reducible refine le_drew ?_) | (with_reducible refine le_drewN ?_ _) | go_size))⟩
theorem sLookUpB (f : Nat → Int) (a b : Int) (w : World) : Calls Try.prog 71 #[tabV f, .int .i64 a, .int .i64 b] w fun e w' => e = .returned (.int .i64 (Tm.look f a b)) ∧ Below w.heap.size w w' ∧ -1 ≤ Tm.look f a b ∧ Tm.look f a b ≤ 1 :=
  (sLookUp f a b w).mono fun _ _ ⟨h1, h2⟩ => ⟨h1, h2, Tm.look_tt f a b⟩
namespace Tm
def fill (g : Int → Int → Int) : Nat → Int
  | 0 => g (-1) (-1) | 1 => g (-1) 0 | 2 => g (-1) 1
  | 3 => g 0 (-1) | 4 => g 0 0 | 5 => g 0 1
  | 6 => g 1 (-1) | 7 => g 1 0 | 8 => g 1 1 | _ => 0
def swap (f : Nat → Int) : Nat → Int := fill fun a b => look f b a
def dual (f : Nat → Int) : Nat → Int := fill fun a b => neg (look f (-a) (-b))
end Tm
namespace Tm
def named (l : List UInt8) (a b : Int) : Int :=
  if l == [109, 105, 110] then mn a b else if l == [109, 97, 120] then mx a b else if l == [97, 103, 114, 101, 101] then agree a b else if l == [97, 110, 121] then anyT a b
  else if l == [116, 105, 109, 101, 115] then times a b else if l == [115, 117, 109] then half1 a b else if l == [99, 97, 114, 114, 121] then half2 a b else 0
def tabOf (l : List UInt8) : Nat → Int := fill (named l)
end Tm
theorem ret_tab (f : Nat → Int) {x0 x1 x2 x3 x4 x5 x6 x7 x8 : Int} (h0 : x0 = f 0) (h1 : x1 = f 1) (h2 : x2 = f 2) (h3 : x3 = f 3) (h4 : x4 = f 4) (h5 : x5 = f 5) (h6 : x6 = f 6) (h7 : x7 = f 7) (h8 : x8 = f 8) :
    Ending.returned (.agg #[.int .i64 x0, .int .i64 x1, .int .i64 x2, .int .i64 x3, .int .i64 x4, .int .i64 x5, .int .i64 x6, .int .i64 x7, .int .i64 x8]) = .returned (tabV f) := by
  rw [h0, h1, h2, h3, h4, h5, h6, h7, h8]
end Go.Proofs.Ytjbmgppgkgacpaa

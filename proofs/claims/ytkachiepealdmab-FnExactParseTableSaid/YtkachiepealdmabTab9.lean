/- Contracts of the functions of tables, on: tables are read. -/
import Derived.Test.YtkachiepealdmabTab9a
import Derived.Test.YtkachiepealdmabShelf
namespace Go.Proofs.Ytkachiepealdmab
open Go.RowKit
set_option maxHeartbeats 4000000 in
theorem sParseTable (s : ByteArray) (w : World) : Calls Try.prog 30 #[.string s] w fun e w' => e = .returned (.tuple #[tabV (Tm.pTab s), .bool (Tm.pOk s)]) ∧ Below w.heap.size w w' := by
  by_cases hs : s.size = 9
  · have H9 := Lib.hid hs
    have ht : Tm.isTab (Tm.pk (Tm.rd s[0].toNat) (Tm.rd s[1].toNat) (Tm.rd s[2].toNat) (Tm.rd s[3].toNat) (Tm.rd s[4].toNat) (Tm.rd s[5].toNat) (Tm.rd s[6].toNat) (Tm.rd s[7].toNat) (Tm.rd s[8].toNat)) = Tm.isTab (Tm.pT s) := by
      simp [Tm.isTab, Tm.pk, Tm.pT, Tm.bt, hs]
    have HT := Lib.hid ht
    clear ht
    go_enter Try.func30, Try.ntmps30
    go_wp2_with fail
    repeat any_goals (first | (refine wp_loop_rounds 10 ?_; rw [rounds_succ]; go_wp2_with ((go_at_call 53; refine (sTritOf _ _).mono ?_; rintro e w1 ⟨rfl, rfl⟩))) | (rw [rounds_succ]; go_wp2_with ((go_at_call 53; refine (sTritOf _ _).mono ?_; rintro e w1 ⟨rfl, rfl⟩))))
    refine (sIsTable (Tm.pk (Tm.rd (s[0].toNat : Int)) (Tm.rd (s[1].toNat : Int)) (Tm.rd (s[2].toNat : Int)) (Tm.rd (s[3].toNat : Int)) (Tm.rd (s[4].toNat : Int)) (Tm.rd (s[5].toNat : Int)) (Tm.rd (s[6].toNat : Int)) (Tm.rd (s[7].toNat : Int)) (Tm.rd (s[8].toNat : Int))) _).mono ?_
    rintro e w1 ⟨rfl, hb⟩
    obtain ⟨p, rfl⟩ := gw_of_below hb
    clear hb
    rw [HT.out]
    by_cases hT : Tm.isTab (Tm.pT s) = true
    · rw [hT]
      have hp : Tm.pOk s = true := by simp [Tm.pOk, H9.out, hT]
      clear hT
      have hp := Lib.hid hp
      go_wp2
      have hp := hp.out
      go_returns
      exact ⟨ret_tab_b _ hp.symm (Tm.pTab_at hp 0 (by rw [H9.out]; decide)) (Tm.pTab_at hp 1 (by rw [H9.out]; decide)) (Tm.pTab_at hp 2 (by rw [H9.out]; decide)) (Tm.pTab_at hp 3 (by rw [H9.out]; decide)) (Tm.pTab_at hp 4 (by rw [H9.out]; decide)) (Tm.pTab_at hp 5 (by rw [H9.out]; decide)) (Tm.pTab_at hp 6 (by rw [H9.out]; decide)) (Tm.pTab_at hp 7 (by rw [H9.out]; decide)) (Tm.pTab_at hp 8 (by rw [H9.out]; decide)), by (repeat' (first | (with_reducible exact Below.refl _ _) | (with_reducible assumption) | (with_reducible refine below_drewN ?_ _) | (with_reducible refine Below.drew ?_) | (with_reducible refine Below.alloc ?_ ?_ _) | (with_reducible refine Below.setCell ?_ ?_ _) | (with_reducible refine below_gw ?_ ?_ _) | (with_reducible refine below_via ?_ ‹Below _ _ _› ?_) | (with_reducible exact Nat.le_refl _) | (with_reducible refine le_gw ?_ _) | (with_reducible refine le_alloc ?_ _) | (with_reducible refine le_setCell ?_ _ _) | (with_reducible refine le_drew ?_) | (with_reducible refine le_drewN ?_ _) | go_size))⟩
    · simp only [Bool.not_eq_true] at hT
      rw [hT]
      have hp : Tm.pOk s = false := by simp [Tm.pOk, hT]
      clear hT
      have hp := Lib.hid hp
      go_wp2
      have hp := hp.out
      go_returns
      exact ⟨ret_tab_b _ hp.symm (Tm.pTab_no hp 0) (Tm.pTab_no hp 1) (Tm.pTab_no hp 2) (Tm.pTab_no hp 3) (Tm.pTab_no hp 4) (Tm.pTab_no hp 5) (Tm.pTab_no hp 6) (Tm.pTab_no hp 7) (Tm.pTab_no hp 8), by (repeat' (first | (with_reducible exact Below.refl _ _) | (with_reducible assumption) | (with_reducible refine below_drewN ?_ _) | (with_reducible refine Below.drew ?_) | (with_reducible refine Below.alloc ?_ ?_ _) | (with_reducible refine Below.setCell ?_ ?_ _) | (with_reducible refine below_gw ?_ ?_ _) | (with_reducible refine below_via ?_ ‹Below _ _ _› ?_) | (with_reducible exact Nat.le_refl _) | (with_reducible refine le_gw ?_ _) | (with_reducible refine le_alloc ?_ _) | (with_reducible refine le_setCell ?_ _ _) | (with_reducible refine le_drew ?_) | (with_reducible refine le_drewN ?_ _) | go_size))⟩
  · have hp : Tm.pOk s = false := by simp [Tm.pOk, hs]
    have hq : ((s.size : Int) == 9) = false := by rw [beq_eq_false_iff_ne]; omega
    go_enter Try.func30, Try.ntmps30
    go_wp2_with fail
    go_returns
    exact ⟨ret_tab_b _ hp.symm (Tm.pTab_no hp 0) (Tm.pTab_no hp 1) (Tm.pTab_no hp 2) (Tm.pTab_no hp 3) (Tm.pTab_no hp 4) (Tm.pTab_no hp 5) (Tm.pTab_no hp 6) (Tm.pTab_no hp 7) (Tm.pTab_no hp 8), by (repeat' (first | (with_reducible exact Below.refl _ _) | (with_reducible assumption) | (with_reducible refine below_drewN ?_ _) | (with_reducible refine Below.drew ?_) | (with_reducible refine Below.alloc ?_ ?_ _) | (with_reducible refine Below.setCell ?_ ?_ _) | (with_reducible refine below_gw ?_ ?_ _) | (with_reducible refine below_via ?_ ‹Below _ _ _› ?_) | (with_reducible exact Nat.le_refl _) | (with_reducible refine le_gw ?_ _) | (with_reducible refine le_alloc ?_ _) | (with_reducible refine le_setCell ?_ _ _) | (with_reducible refine le_drew ?_) | (with_reducible refine le_drewN ?_ _) | go_size))⟩
theorem idx_sign (c : Int) (h0 : 0 ≤ c) (h1 : c ≤ 255) : Lib.indexByte [45, 48, 43] c.toNat.toUInt8 = if c = 45 then 0 else if c = 48 then 1 else if c = 43 then 2 else -1 := by
  have : ∀ n : Fin 256, Lib.indexByte [45, 48, 43] (n.val).toUInt8 = if n.val = 45 then (0 : Int) else if n.val = 48 then 1 else if n.val = 43 then 2 else -1 := by decide +kernel
  have h := this ⟨c.toNat, by omega⟩
  simp only at h
  rw [h]
  have e : ∀ k : Nat, (c.toNat = k) = (c = (k : Int)) := by intro k; simp; omega
  simp only [e]
  rfl
theorem iReadTrit (c : Int) (w : World) (h0 : 0 ≤ c) (h1 : c ≤ 255) : Calls Try.prog 54 #[.int .u8 c] w fun e w' => e = .returned (.tuple #[.int .i64 (Tm.rdv c), .bool (Tm.rdOk c)]) ∧ w = w' := by
  have hx := idx_sign c h0 h1
  have hi : ∀ w, Calls Try.prog 61 #[.string ⟨#[45, 48, 43]⟩, .int .u8 c] w fun e w' => e = .returned (.int .i64 (if c = 45 then 0 else if c = 48 then 1 else if c = 43 then 2 else -1)) ∧ w' = w := by
    intro w
    rw [← hx]
    exact Try.strings_IndexByte ⟨#[45, 48, 43]⟩ c w
  have HI := Lib.hid hi
  clear hi hx
  have go : ∀ (n : Int), (if c = 45 then (0 : Int) else if c = 48 then 1 else if c = 43 then 2 else -1) = n → -1 ≤ n → n ≤ 2 → (if n < 0 then (0 : Int) else n - 1) = Tm.rdv c ∧ decide (0 ≤ n) = Tm.rdOk c := by
    intro n hn _ _
    subst hn
    simp only [Tm.rdv, Tm.rdOk, Tm.rd]
    split
    · exact ⟨by decide, by decide⟩
    · split
      · exact ⟨by decide, by decide⟩
      · split
        · exact ⟨by decide, by decide⟩
        · exact ⟨by decide, by decide⟩
  obtain ⟨n, hn⟩ : ∃ n : Int, (if c = 45 then (0 : Int) else if c = 48 then 1 else if c = 43 then 2 else -1) = n := ⟨_, rfl⟩
  have b0 : -1 ≤ n := by rw [← hn]; split <;> (try split) <;> (try split) <;> omega
  have b1 : n ≤ 2 := by rw [← hn]; split <;> (try split) <;> (try split) <;> omega
  obtain ⟨g1, g2⟩ := go n hn b0 b1
  rw [hn] at HI
  have G1 := Lib.hid g1
  have G2 := Lib.hid g2
  clear g1 g2 go hn
  by_cases hlt : n < 0
  · go_enter Try.func54, Try.ntmps54
    go_wp2_with (go_at_call 61; refine (HI.out _).mono ?_; rintro e w1 ⟨rfl, rfl⟩)
    go_ret2
    have h1 := G1.out
    have h2 := G2.out
    rw [if_pos hlt] at h1
    rw [decide_eq_false (by omega)] at h2
    rw [← h1, ← h2]
    exact ⟨rfl, rfl⟩
  · go_enter Try.func54, Try.ntmps54
    go_wp2_with (go_at_call 61; refine (HI.out _).mono ?_; rintro e w1 ⟨rfl, rfl⟩)
    go_ret2
    have h1 := G1.out
    have h2 := G2.out
    rw [if_neg (by omega)] at h1
    rw [decide_eq_true (by omega)] at h2
    rw [← h1, ← h2]
    exact ⟨rfl, rfl⟩
theorem byte_le (b : UInt8) : (b.toNat : Int) ≤ 255 := by have := b.toNat_lt; omega
theorem byte_ge (b : UInt8) : (0 : Int) ≤ (b.toNat : Int) := by omega
namespace Tm
theorem pOk_no {s : ByteArray} {k : Nat} (h : k < s.size) (h9 : s.size = 9) (hk : (!rdOk (s[k].toNat : Int)) = true) : pOk s = false := by
  simp only [pOk, h9, Bool.and_eq_false_iff]
  right
  simp only [Bool.not_eq_true'] at hk
  rw [rdOk, ← bt_at s k h] at hk
  by_cases ht : isTab (pT s) = true
  · have := isTab_at ht k (by omega)
    rw [pT, hk] at this
    cases this
  · simpa using ht
theorem pTab_v {s : ByteArray} (hp : pOk s = true) (k : Nat) (h : k < s.size) : rdv (s[k].toNat : Int) = pTab s k := by
  have ht : isTab (pT s) = true := by simp only [pOk, Bool.and_eq_true] at hp; exact hp.2
  have h9 : s.size = 9 := by simp only [pOk, Bool.and_eq_true, decide_eq_true_eq] at hp; exact hp.1
  have := isTab_at ht k (by omega)
  rw [pT] at this
  rw [pTab, if_pos hp, pT, rdv, rdOk, ← bt_at s k h, if_pos this]
theorem pOk_yes {s : ByteArray} (h9 : s.size = 9) (h0 : (!rdOk (s[0].toNat : Int)) = false) (h1 : (!rdOk (s[1].toNat : Int)) = false) (h2 : (!rdOk (s[2].toNat : Int)) = false) (h3 : (!rdOk (s[3].toNat : Int)) = false) (h4 : (!rdOk (s[4].toNat : Int)) = false)
    (h5 : (!rdOk (s[5].toNat : Int)) = false) (h6 : (!rdOk (s[6].toNat : Int)) = false) (h7 : (!rdOk (s[7].toNat : Int)) = false) (h8 : (!rdOk (s[8].toNat : Int)) = false) : pOk s = true := by
  simp only [Bool.not_eq_false', rdOk, ← bt_at] at h0 h1 h2 h3 h4 h5 h6 h7 h8
  simp [pOk, isTab, pT, h9, h0, h1, h2, h3, h4, h5, h6, h7, h8]
end Tm
set_option maxHeartbeats 4000000 in
theorem iParseTable (s : ByteArray) (w : World) : Calls Try.prog 31 #[.string s] w fun e w' => e = .returned (.tuple #[tabV (Tm.pTab s), .bool (Tm.pOk s)]) ∧ Below w.heap.size w w' := by
  by_cases hs : s.size = 9
  · have H9 := Lib.hid hs
    go_enter Try.func31, Try.ntmps31
    go_wp2_with fail
    repeat any_goals (first | (refine wp_loop_rounds 10 ?_; rw [rounds_succ]; go_wp2_with ((go_at_call 54; refine (iReadTrit _ _ (byte_ge _) (byte_le _)).mono ?_; rintro e w1 ⟨rfl, rfl⟩))) | (rw [rounds_succ]; go_wp2_with ((go_at_call 54; refine (iReadTrit _ _ (byte_ge _) (byte_le _)).mono ?_; rintro e w1 ⟨rfl, rfl⟩))))
    all_goals go_returns
    all_goals first
      | (have hp : Tm.pOk s = true := Tm.pOk_yes H9.out (by assumption) (by assumption) (by assumption) (by assumption) (by assumption) (by assumption) (by assumption) (by assumption) (by assumption); exact ⟨ret_tab_b _ hp.symm (Tm.pTab_v hp 0 (by rw [H9.out]; decide)) (Tm.pTab_v hp 1 (by rw [H9.out]; decide)) (Tm.pTab_v hp 2 (by rw [H9.out]; decide)) (Tm.pTab_v hp 3 (by rw [H9.out]; decide)) (Tm.pTab_v hp 4 (by rw [H9.out]; decide)) (Tm.pTab_v hp 5 (by rw [H9.out]; decide)) (Tm.pTab_v hp 6 (by rw [H9.out]; decide)) (Tm.pTab_v hp 7 (by rw [H9.out]; decide)) (Tm.pTab_v hp 8 (by rw [H9.out]; decide)), by (repeat' (first | (with_reducible exact Below.refl _ _) | (with_reducible assumption) | (with_reducible refine below_drewN ?_ _) | (with_reducible refine Below.drew ?_) | (with_reducible refine Below.alloc ?_ ?_ _) | (with_reducible refine Below.setCell ?_ ?_ _) | (with_reducible refine below_gw ?_ ?_ _) | (with_reducible refine below_via ?_ ‹Below _ _ _› ?_) | (with_reducible exact Nat.le_refl _) | (with_reducible refine le_gw ?_ _) | (with_reducible refine le_alloc ?_ _) | (with_reducible refine le_setCell ?_ _ _) | (with_reducible refine le_drew ?_) | (with_reducible refine le_drewN ?_ _) | go_size))⟩)
      | (have hp : Tm.pOk s = false := Tm.pOk_no (k := 0) (by omega) H9.out (by assumption); exact ⟨ret_tab_b _ hp.symm (Tm.pTab_no hp 0) (Tm.pTab_no hp 1) (Tm.pTab_no hp 2) (Tm.pTab_no hp 3) (Tm.pTab_no hp 4) (Tm.pTab_no hp 5) (Tm.pTab_no hp 6) (Tm.pTab_no hp 7) (Tm.pTab_no hp 8), by (repeat' (first | (with_reducible exact Below.refl _ _) | (with_reducible assumption) | (with_reducible refine below_drewN ?_ _) | (with_reducible refine Below.drew ?_) | (with_reducible refine Below.alloc ?_ ?_ _) | (with_reducible refine Below.setCell ?_ ?_ _) | (with_reducible refine below_gw ?_ ?_ _) | (with_reducible refine below_via ?_ ‹Below _ _ _› ?_) | (with_reducible exact Nat.le_refl _) | (with_reducible refine le_gw ?_ _) | (with_reducible refine le_alloc ?_ _) | (with_reducible refine le_setCell ?_ _ _) | (with_reducible refine le_drew ?_) | (with_reducible refine le_drewN ?_ _) | go_size))⟩)
      | (have hp : Tm.pOk s = false := Tm.pOk_no (k := 1) (by omega) H9.out (by assumption); exact ⟨ret_tab_b _ hp.symm (Tm.pTab_no hp 0) (Tm.pTab_no hp 1) (Tm.pTab_no hp 2) (Tm.pTab_no hp 3) (Tm.pTab_no hp 4) (Tm.pTab_no hp 5) (Tm.pTab_no hp 6) (Tm.pTab_no hp 7) (Tm.pTab_no hp 8), by (repeat' (first | (with_reducible exact Below.refl _ _) | (with_reducible assumption) | (with_reducible refine below_drewN ?_ _) | (with_reducible refine Below.drew ?_) | (with_reducible refine Below.alloc ?_ ?_ _) | (with_reducible refine Below.setCell ?_ ?_ _) | (with_reducible refine below_gw ?_ ?_ _) | (with_reducible refine below_via ?_ ‹Below _ _ _› ?_) | (with_reducible exact Nat.le_refl _) | (with_reducible refine le_gw ?_ _) | (with_reducible refine le_alloc ?_ _) | (with_reducible refine le_setCell ?_ _ _) | (with_reducible refine le_drew ?_) | (with_reducible refine le_drewN ?_ _) | go_size))⟩)
      | (have hp : Tm.pOk s = false := Tm.pOk_no (k := 2) (by omega) H9.out (by assumption); exact ⟨ret_tab_b _ hp.symm (Tm.pTab_no hp 0) (Tm.pTab_no hp 1) (Tm.pTab_no hp 2) (Tm.pTab_no hp 3) (Tm.pTab_no hp 4) (Tm.pTab_no hp 5) (Tm.pTab_no hp 6) (Tm.pTab_no hp 7) (Tm.pTab_no hp 8), by (repeat' (first | (with_reducible exact Below.refl _ _) | (with_reducible assumption) | (with_reducible refine below_drewN ?_ _) | (with_reducible refine Below.drew ?_) | (with_reducible refine Below.alloc ?_ ?_ _) | (with_reducible refine Below.setCell ?_ ?_ _) | (with_reducible refine below_gw ?_ ?_ _) | (with_reducible refine below_via ?_ ‹Below _ _ _› ?_) | (with_reducible exact Nat.le_refl _) | (with_reducible refine le_gw ?_ _) | (with_reducible refine le_alloc ?_ _) | (with_reducible refine le_setCell ?_ _ _) | (with_reducible refine le_drew ?_) | (with_reducible refine le_drewN ?_ _) | go_size))⟩)
      | (have hp : Tm.pOk s = false := Tm.pOk_no (k := 3) (by omega) H9.out (by assumption); exact ⟨ret_tab_b _ hp.symm (Tm.pTab_no hp 0) (Tm.pTab_no hp 1) (Tm.pTab_no hp 2) (Tm.pTab_no hp 3) (Tm.pTab_no hp 4) (Tm.pTab_no hp 5) (Tm.pTab_no hp 6) (Tm.pTab_no hp 7) (Tm.pTab_no hp 8), by (repeat' (first | (with_reducible exact Below.refl _ _) | (with_reducible assumption) | (with_reducible refine below_drewN ?_ _) | (with_reducible refine Below.drew ?_) | (with_reducible refine Below.alloc ?_ ?_ _) | (with_reducible refine Below.setCell ?_ ?_ _) | (with_reducible refine below_gw ?_ ?_ _) | (with_reducible refine below_via ?_ ‹Below _ _ _› ?_) | (with_reducible exact Nat.le_refl _) | (with_reducible refine le_gw ?_ _) | (with_reducible refine le_alloc ?_ _) | (with_reducible refine le_setCell ?_ _ _) | (with_reducible refine le_drew ?_) | (with_reducible refine le_drewN ?_ _) | go_size))⟩)
      | (have hp : Tm.pOk s = false := Tm.pOk_no (k := 4) (by omega) H9.out (by assumption); exact ⟨ret_tab_b _ hp.symm (Tm.pTab_no hp 0) (Tm.pTab_no hp 1) (Tm.pTab_no hp 2) (Tm.pTab_no hp 3) (Tm.pTab_no hp 4) (Tm.pTab_no hp 5) (Tm.pTab_no hp 6) (Tm.pTab_no hp 7) (Tm.pTab_no hp 8), by (repeat' (first | (with_reducible exact Below.refl _ _) | (with_reducible assumption) | (with_reducible refine below_drewN ?_ _) | (with_reducible refine Below.drew ?_) | (with_reducible refine Below.alloc ?_ ?_ _) | (with_reducible refine Below.setCell ?_ ?_ _) | (with_reducible refine below_gw ?_ ?_ _) | (with_reducible refine below_via ?_ ‹Below _ _ _› ?_) | (with_reducible exact Nat.le_refl _) | (with_reducible refine le_gw ?_ _) | (with_reducible refine le_alloc ?_ _) | (with_reducible refine le_setCell ?_ _ _) | (with_reducible refine le_drew ?_) | (with_reducible refine le_drewN ?_ _) | go_size))⟩)
      | (have hp : Tm.pOk s = false := Tm.pOk_no (k := 5) (by omega) H9.out (by assumption); exact ⟨ret_tab_b _ hp.symm (Tm.pTab_no hp 0) (Tm.pTab_no hp 1) (Tm.pTab_no hp 2) (Tm.pTab_no hp 3) (Tm.pTab_no hp 4) (Tm.pTab_no hp 5) (Tm.pTab_no hp 6) (Tm.pTab_no hp 7) (Tm.pTab_no hp 8), by (repeat' (first | (with_reducible exact Below.refl _ _) | (with_reducible assumption) | (with_reducible refine below_drewN ?_ _) | (with_reducible refine Below.drew ?_) | (with_reducible refine Below.alloc ?_ ?_ _) | (with_reducible refine Below.setCell ?_ ?_ _) | (with_reducible refine below_gw ?_ ?_ _) | (with_reducible refine below_via ?_ ‹Below _ _ _› ?_) | (with_reducible exact Nat.le_refl _) | (with_reducible refine le_gw ?_ _) | (with_reducible refine le_alloc ?_ _) | (with_reducible refine le_setCell ?_ _ _) | (with_reducible refine le_drew ?_) | (with_reducible refine le_drewN ?_ _) | go_size))⟩)
      | (have hp : Tm.pOk s = false := Tm.pOk_no (k := 6) (by omega) H9.out (by assumption); exact ⟨ret_tab_b _ hp.symm (Tm.pTab_no hp 0) (Tm.pTab_no hp 1) (Tm.pTab_no hp 2) (Tm.pTab_no hp 3) (Tm.pTab_no hp 4) (Tm.pTab_no hp 5) (Tm.pTab_no hp 6) (Tm.pTab_no hp 7) (Tm.pTab_no hp 8), by (repeat' (first | (with_reducible exact Below.refl _ _) | (with_reducible assumption) | (with_reducible refine below_drewN ?_ _) | (with_reducible refine Below.drew ?_) | (with_reducible refine Below.alloc ?_ ?_ _) | (with_reducible refine Below.setCell ?_ ?_ _) | (with_reducible refine below_gw ?_ ?_ _) | (with_reducible refine below_via ?_ ‹Below _ _ _› ?_) | (with_reducible exact Nat.le_refl _) | (with_reducible refine le_gw ?_ _) | (with_reducible refine le_alloc ?_ _) | (with_reducible refine le_setCell ?_ _ _) | (with_reducible refine le_drew ?_) | (with_reducible refine le_drewN ?_ _) | go_size))⟩)
      | (have hp : Tm.pOk s = false := Tm.pOk_no (k := 7) (by omega) H9.out (by assumption); exact ⟨ret_tab_b _ hp.symm (Tm.pTab_no hp 0) (Tm.pTab_no hp 1) (Tm.pTab_no hp 2) (Tm.pTab_no hp 3) (Tm.pTab_no hp 4) (Tm.pTab_no hp 5) (Tm.pTab_no hp 6) (Tm.pTab_no hp 7) (Tm.pTab_no hp 8), by (repeat' (first | (with_reducible exact Below.refl _ _) | (with_reducible assumption) | (with_reducible refine below_drewN ?_ _) | (with_reducible refine Below.drew ?_) | (with_reducible refine Below.alloc ?_ ?_ _) | (with_reducible refine Below.setCell ?_ ?_ _) | (with_reducible refine below_gw ?_ ?_ _) | (with_reducible refine below_via ?_ ‹Below _ _ _› ?_) | (with_reducible exact Nat.le_refl _) | (with_reducible refine le_gw ?_ _) | (with_reducible refine le_alloc ?_ _) | (with_reducible refine le_setCell ?_ _ _) | (with_reducible refine le_drew ?_) | (with_reducible refine le_drewN ?_ _) | go_size))⟩)
      | (have hp : Tm.pOk s = false := Tm.pOk_no (k := 8) (by omega) H9.out (by assumption); exact ⟨ret_tab_b _ hp.symm (Tm.pTab_no hp 0) (Tm.pTab_no hp 1) (Tm.pTab_no hp 2) (Tm.pTab_no hp 3) (Tm.pTab_no hp 4) (Tm.pTab_no hp 5) (Tm.pTab_no hp 6) (Tm.pTab_no hp 7) (Tm.pTab_no hp 8), by (repeat' (first | (with_reducible exact Below.refl _ _) | (with_reducible assumption) | (with_reducible refine below_drewN ?_ _) | (with_reducible refine Below.drew ?_) | (with_reducible refine Below.alloc ?_ ?_ _) | (with_reducible refine Below.setCell ?_ ?_ _) | (with_reducible refine below_gw ?_ ?_ _) | (with_reducible refine below_via ?_ ‹Below _ _ _› ?_) | (with_reducible exact Nat.le_refl _) | (with_reducible refine le_gw ?_ _) | (with_reducible refine le_alloc ?_ _) | (with_reducible refine le_setCell ?_ _ _) | (with_reducible refine le_drew ?_) | (with_reducible refine le_drewN ?_ _) | go_size))⟩)
  · have hp : Tm.pOk s = false := by simp [Tm.pOk, hs]
    have hq : ((s.size : Int) == 9) = false := by rw [beq_eq_false_iff_ne]; omega
    go_enter Try.func31, Try.ntmps31
    go_wp2_with fail
    go_returns
    exact ⟨ret_tab_b _ hp.symm (Tm.pTab_no hp 0) (Tm.pTab_no hp 1) (Tm.pTab_no hp 2) (Tm.pTab_no hp 3) (Tm.pTab_no hp 4) (Tm.pTab_no hp 5) (Tm.pTab_no hp 6) (Tm.pTab_no hp 7) (Tm.pTab_no hp 8), by (repeat' (first | (with_reducible exact Below.refl _ _) | (with_reducible assumption) | (with_reducible refine below_drewN ?_ _) | (with_reducible refine Below.drew ?_) | (with_reducible refine Below.alloc ?_ ?_ _) | (with_reducible refine Below.setCell ?_ ?_ _) | (with_reducible refine below_gw ?_ ?_ _) | (with_reducible refine below_via ?_ ‹Below _ _ _› ?_) | (with_reducible exact Nat.le_refl _) | (with_reducible refine le_gw ?_ _) | (with_reducible refine le_alloc ?_ _) | (with_reducible refine le_setCell ?_ _ _) | (with_reducible refine le_drew ?_) | (with_reducible refine le_drewN ?_ _) | go_size))⟩
end Go.Proofs.Ytkachiepealdmab

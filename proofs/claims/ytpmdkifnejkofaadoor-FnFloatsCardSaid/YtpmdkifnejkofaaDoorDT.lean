/- Texts of floats: numbers in decimal digits, the texts of the model and of the program. -/
import Derived.Test.YtpmdkifnejkofaaDoorFI1
import Derived.Test.YtpmdkifnejkofaaDoorFS2
import Derived.Test.YtpmdkifnejkofaaDoorShelf
import Derived.Lib.SmallJoins
import Derived.Laws.Concat
namespace Go.Proofs.YtpmdkifnejkofaaDoor
set_option maxRecDepth 20000
open Go.RowKit
namespace Tm
theorem decDig_eq (u : Nat) : ∀ f, u < 10 ^ (f + 1) → Lib.decDigits u = decN (f + 1) u := by
  induction u using Nat.strongRecOn with
  | ind u ih =>
    intro f hf
    rw [Lib.decDigits, decN]
    by_cases c : u < 10
    · rw [dif_pos c, if_pos c]
    · cases f with
      | zero => exact absurd hf (by simpa using c)
      | succ f => rw [dif_neg c, if_neg c, ih (u / 10) (by omega) f (by rw [Nat.pow_succ] at hf; omega)]
theorem itoa_dec {n : Int} (h : -20 ≤ n ∧ n ≤ 20) : Lib.itoa n = decZ n := by
  rw [Lib.itoa, decZ]
  split
  · rw [decDig_eq _ 19 (by have : n.natAbs ≤ 20 := by omega
                           exact Nat.lt_of_le_of_lt this (by decide)), show n.natAbs = (-n).toNat by omega]
  · rw [decDig_eq _ 19 (by have : n.toNat ≤ 20 := by omega
                           exact Nat.lt_of_le_of_lt this (by decide))]
theorem decN_one {k : Nat} (h : k < 10) : decN 20 k = [UInt8.ofNat (48 + k)] := by rw [decN, if_pos h]
theorem decN_two {k : Nat} (h : 10 ≤ k) (h2 : k < 100) : decN 20 k = [UInt8.ofNat (48 + k / 10), UInt8.ofNat (48 + k % 10)] := by
  rw [decN, if_neg (by omega), decN, if_pos (by omega)]; rfl
end Tm
theorem iItoa (n : Int) (w : World) (h : -20 ≤ n ∧ n ≤ 20) (htab : Lib.TabIs Tryd.prog w "internal/strconv.uint64pow10" .u64 Lib.pow10Tab) : Calls Tryd.prog 29 #[.int .i64 n] w fun e w' => e = .returned (.string ⟨(Tm.decZ n).toArray⟩) ∧ Below w.heap.size w w' := by
  refine (Tryd.strconv_Itoa n (by omega) (by omega) w htab).mono ?_
  rintro e w' ⟨rfl, k, os, rfl⟩
  rw [Tm.itoa_dec h]
  exact ⟨rfl, below_regrown w (w.drawn + k) os⟩
theorem tab_below {w w' : World} (h : Lib.TabIs Tryd.prog w "internal/strconv.uint64pow10" .u64 Lib.pow10Tab) (hb : Below w.heap.size w w') : Lib.TabIs Tryd.prog w' "internal/strconv.uint64pow10" .u64 Lib.pow10Tab := by
  have h0 := h
  unfold Lib.TabIs World.var? at h
  cases hg : Tryd.prog.globalNamed "internal/strconv.uint64pow10" with
  | none => rw [hg] at h; simp at h
  | some g => exact Joins.tab_stays hg h0 hb (Nat.le_refl _)
set_option maxRecDepth 20000 in
theorem iFormatFloat (a : Option Addr) (n cap : Nat) (xs : List Int) (e : Int) (w : World) (h : Ints w a n cap xs) (htab : Lib.TabIs Tryd.prog w "internal/strconv.uint64pow10" .u64 Lib.pow10Tab) : Calls Tryd.prog 9 #[.agg #[.slice a n cap, .int .i64 e]] w fun r w' => r = .returned (.string ⟨(Tm.fmtF xs e).toArray⟩) ∧ Below w.heap.size w w' := by
  have H := Lib.hid h
  obtain rfl : n = xs.length := h.1.symm
  clear h
  have HT := Lib.hid htab
  clear htab
  have IX := Lib.hid (fun (w : World) (h : Ints w a xs.length cap xs) => iIsFloat a _ cap xs e w h)
  rw [Tm.fmtF]
  cases hx : Tm.isF xs e with
  | false =>
    rw [hx] at IX
    clear hx
    go_enter Tryd.func9, Tryd.ntmps9
    go_wp2_with fail
    refine (IX.out _ (H.out.below (by (repeat' (first | (with_reducible exact Below.refl _ _) | (with_reducible assumption) | (with_reducible refine below_drewN ?_ _) | (with_reducible refine Below.drew ?_) | (with_reducible refine Below.alloc ?_ ?_ _) | (with_reducible refine Below.setCell ?_ ?_ _) | (with_reducible refine below_gw ?_ ?_ _) | (with_reducible refine below_via ?_ ‹Below _ _ _› ?_) | (with_reducible exact Nat.le_refl _) | (with_reducible refine le_gw ?_ _) | (with_reducible refine le_alloc ?_ _) | (with_reducible refine le_setCell ?_ _ _) | (with_reducible refine le_drew ?_) | (with_reducible refine le_drewN ?_ _) | go_size))))).mono ?_
    rintro r w1 ⟨rfl, hb⟩
    obtain ⟨p, rfl⟩ := gw_of_below hb
    clear hb
    go_wp2
    go_returns
    exact ⟨rfl, by (repeat' (first | (with_reducible exact Below.refl _ _) | (with_reducible assumption) | (with_reducible refine below_drewN ?_ _) | (with_reducible refine Below.drew ?_) | (with_reducible refine Below.alloc ?_ ?_ _) | (with_reducible refine Below.setCell ?_ ?_ _) | (with_reducible refine below_gw ?_ ?_ _) | (with_reducible refine below_via ?_ ‹Below _ _ _› ?_) | (with_reducible exact Nat.le_refl _) | (with_reducible refine le_gw ?_ _) | (with_reducible refine le_alloc ?_ _) | (with_reducible refine le_setCell ?_ _ _) | (with_reducible refine le_drew ?_) | (with_reducible refine le_drewN ?_ _) | go_size))⟩
  | true =>
    rw [hx] at IX
    rw [if_pos rfl]
    have b3 := ((Tm.isF_iff _ _).1 hx).2.2.1
    have FW := Lib.hid (fun (w : World) (h : Ints w a xs.length cap xs) => iFormatWord a _ cap xs w h)
    have IT := Lib.hid (fun (w : World) h => iItoa e w b3 h)
    have l1 : (Tm.fmtW xs).length ≤ 30 := by rw [Tm.fmtW]; split; · rw [Tm.txt_len]; exact Tm.isW_len (by assumption)
                                             · simp
    have l2 : (Tm.decZ e).length ≤ 30 := by
      obtain ⟨b31, b32⟩ := b3
      have g : ∀ k : Nat, k ≤ 20 → (Tm.decN 20 k).length ≤ 20 := fun k hk => by
        rcases Nat.lt_or_ge k 10 with c | c
        · rw [Tm.decN_one c]; simp
        · rw [Tm.decN_two c (by omega)]; simp
      rw [Tm.decZ]; split
      · have := g (-e).toNat (by omega); rw [List.length_cons]; omega
      · have := g e.toNat (by omega); omega
    obtain ⟨s1, hs1⟩ : ∃ s, s = Tm.fmtW xs := ⟨_, rfl⟩
    obtain ⟨s2, hs2⟩ : ∃ s, s = Tm.decZ e := ⟨_, rfl⟩
    rw [← hs1] at FW l1 ⊢
    rw [← hs2] at IT l2 ⊢
    have A1 : ∀ w, (Op.stringOp .add ⟨s1.toArray⟩ ⟨#[120]⟩).run Tryd.prog w = .ok (.string ⟨(s1 ++ [120]).toArray⟩) w := fun w => run_string_add_lists w s1 [120] (by omega) (by simp)
    have A2 : ∀ w, (Op.stringOp .add ⟨(s1 ++ [120]).toArray⟩ ⟨s2.toArray⟩).run Tryd.prog w = .ok (.string ⟨(s1 ++ [120] ++ s2).toArray⟩) w := fun w => run_string_add_lists w (s1 ++ [120]) s2 (by simp; omega) (by omega)
    obtain ⟨b1, hb1⟩ : ∃ b, b = (⟨s1.toArray⟩ : ByteArray) := ⟨_, rfl⟩
    obtain ⟨b2, hb2⟩ : ∃ b, b = (⟨(s1 ++ [120]).toArray⟩ : ByteArray) := ⟨_, rfl⟩
    obtain ⟨b5, hb3⟩ : ∃ b, b = (⟨s2.toArray⟩ : ByteArray) := ⟨_, rfl⟩
    obtain ⟨b4, hb4⟩ : ∃ b, b = (⟨(s1 ++ [120] ++ s2).toArray⟩ : ByteArray) := ⟨_, rfl⟩
    rw [← hb1, ← hb2] at A1
    rw [← hb2, ← hb3, ← hb4] at A2
    rw [← hb1] at FW
    rw [← hb3] at IT
    rw [← hb4]
    clear hx hs1 hs2 b3 hb1 hb2 hb3 hb4
    go_enter Tryd.func9, Tryd.ntmps9
    go_wp2_with fail
    refine (IX.out _ (H.out.below (by (repeat' (first | (with_reducible exact Below.refl _ _) | (with_reducible assumption) | (with_reducible refine below_drewN ?_ _) | (with_reducible refine Below.drew ?_) | (with_reducible refine Below.alloc ?_ ?_ _) | (with_reducible refine Below.setCell ?_ ?_ _) | (with_reducible refine below_gw ?_ ?_ _) | (with_reducible refine below_via ?_ ‹Below _ _ _› ?_) | (with_reducible exact Nat.le_refl _) | (with_reducible refine le_gw ?_ _) | (with_reducible refine le_alloc ?_ _) | (with_reducible refine le_setCell ?_ _ _) | (with_reducible refine le_drew ?_) | (with_reducible refine le_drewN ?_ _) | go_size))))).mono ?_
    rintro r w1 ⟨rfl, hb⟩
    obtain ⟨p, rfl⟩ := gw_of_below hb
    clear hb
    go_wp2_with fail
    go_region_held3 (fun W => W.cell? ⟨w.heap.size, 0, none⟩ = some (.slice a xs.length cap) ∧ W.cell? ⟨w.heap.size, 1, none⟩ = some (.int .i64 e)) (go_simp) ((first | (go_at_call 28; refine (FW.out _ (H.out.below (by (repeat' (first | (with_reducible exact Below.refl _ _) | (with_reducible assumption) | (with_reducible refine below_drewN ?_ _) | (with_reducible refine Below.drew ?_) | (with_reducible refine Below.alloc ?_ ?_ _) | (with_reducible refine Below.setCell ?_ ?_ _) | (with_reducible refine below_gw ?_ ?_ _) | (with_reducible refine below_via ?_ ‹Below _ _ _› ?_) | (with_reducible exact Nat.le_refl _) | (with_reducible refine le_gw ?_ _) | (with_reducible refine le_alloc ?_ _) | (with_reducible refine le_setCell ?_ _ _) | (with_reducible refine le_drew ?_) | (with_reducible refine le_drewN ?_ _) | go_size))))).mono ?_; rintro r w1 ⟨rfl, hb⟩; obtain ⟨q, rfl⟩ := gw_of_below hb; clear hb) | (go_at_call 29; refine (IT.out _ (tab_below HT.out (by (repeat' (first | (with_reducible exact Below.refl _ _) | (with_reducible assumption) | (with_reducible refine below_drewN ?_ _) | (with_reducible refine Below.drew ?_) | (with_reducible refine Below.alloc ?_ ?_ _) | (with_reducible refine Below.setCell ?_ ?_ _) | (with_reducible refine below_gw ?_ ?_ _) | (with_reducible refine below_via ?_ ‹Below _ _ _› ?_) | (with_reducible exact Nat.le_refl _) | (with_reducible refine le_gw ?_ _) | (with_reducible refine le_alloc ?_ _) | (with_reducible refine le_setCell ?_ _ _) | (with_reducible refine le_drew ?_) | (with_reducible refine le_drewN ?_ _) | go_size))))).mono ?_; rintro r w1 ⟨rfl, hb⟩; obtain ⟨q, rfl⟩ := gw_of_below hb; clear hb)))
    go_wp2
    go_returns
    exact ⟨rfl, by (repeat' (first | (with_reducible exact Below.refl _ _) | (with_reducible assumption) | (with_reducible refine below_drewN ?_ _) | (with_reducible refine Below.drew ?_) | (with_reducible refine Below.alloc ?_ ?_ _) | (with_reducible refine Below.setCell ?_ ?_ _) | (with_reducible refine below_gw ?_ ?_ _) | (with_reducible refine below_via ?_ ‹Below _ _ _› ?_) | (with_reducible exact Nat.le_refl _) | (with_reducible refine le_gw ?_ _) | (with_reducible refine le_alloc ?_ _) | (with_reducible refine le_setCell ?_ _ _) | (with_reducible refine le_drew ?_) | (with_reducible refine le_drewN ?_ _) | go_size))⟩
end Go.Proofs.YtpmdkifnejkofaaDoor

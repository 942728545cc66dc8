/- Texts of floats: numbers in decimal digits, the texts of the model and of the program. -/
import Derived.Test.YtkphbnejnilehaaDoorFI1
import Derived.Test.YtkphbnejnilehaaDoorFS2
import Derived.Test.YtkphbnejnilehaaDoorShelf
import Derived.Lib.SmallJoins
import Derived.Laws.Concat
namespace Go.Proofs.YtkphbnejnilehaaDoor
open Go.RowKit
namespace Tm
theorem decDig_eq (u : Nat) : ∀ f, u < 10 ^ (f + 1) → Lib.decDigits u = decN (f + 1) u := by
  induction u using Nat.strongRecOn with
  | ind u ih =>
    intro f hf
    rw [Lib.decDigits, decN]
    by_cases c : u < 10
    · rw [dif_pos c, if_pos c]
    · cases f with
      | zero => exact absurd hf (by simpa using c)
      | succ f => rw [dif_neg c, if_neg c, ih (u / 10) (by omega) f (by rw [Nat.pow_succ] at hf; omega)]
theorem itoa_dec {n : Int} (h : -20 ≤ n ∧ n ≤ 20) : Lib.itoa n = decZ n := by
  rw [Lib.itoa, decZ]
  split
  · rw [decDig_eq _ 19 (by have : n.natAbs ≤ 20 := by omega
                           exact Nat.lt_of_le_of_lt this (by decide)), show n.natAbs = (-n).toNat by omega]
  · rw [decDig_eq _ 19 (by have : n.toNat ≤ 20 := by omega
                           exact Nat.lt_of_le_of_lt this (by decide))]
theorem decN_one {k : Nat} (h : k < 10) : decN 20 k = [UInt8.ofNat (48 + k)] := by rw [decN, if_pos h]
theorem decN_two {k : Nat} (h : 10 ≤ k) (h2 : k < 100) : decN 20 k = [UInt8.ofNat (48 + k / 10), UInt8.ofNat (48 + k % 10)] := by
  rw [decN, if_neg (by omega), decN, if_pos (by omega)]; rfl
end Tm
theorem iItoa (n : Int) (w : World) (h : -20 ≤ n ∧ n ≤ 20) (htab : Lib.TabIs Tryd.prog w "internal/strconv.uint64pow10" .u64 Lib.pow10Tab) : Calls Tryd.prog 21 #[.int .i64 n] w fun e w' => e = .returned (.string ⟨(Tm.decZ n).toArray⟩) ∧ Below w.heap.size w w' := by
  refine (Tryd.strconv_Itoa n (by omega) (by omega) w htab).mono ?_
  rintro e w' ⟨rfl, k, os, rfl⟩
  rw [Tm.itoa_dec h]
  exact ⟨rfl, below_regrown w (w.drawn + k) os⟩
theorem tab_below {w w' : World} (h : Lib.TabIs Tryd.prog w "internal/strconv.uint64pow10" .u64 Lib.pow10Tab) (hb : Below w.heap.size w w') : Lib.TabIs Tryd.prog w' "internal/strconv.uint64pow10" .u64 Lib.pow10Tab := by
  have h0 := h
  unfold Lib.TabIs World.var? at h
  cases hg : Tryd.prog.globalNamed "internal/strconv.uint64pow10" with
  | none => rw [hg] at h; simp at h
  | some g => exact Joins.tab_stays hg h0 hb (Nat.le_refl _)
set_option maxRecDepth 20000 in
theorem iFormatFloat (a : Option Addr) (n cap : Nat) (xs : List Int) (e : Int) (w : World) (h : Ints w a n cap xs) (htab : Lib.TabIs Tryd.prog w "internal/strconv.uint64pow10" .u64 Lib.pow10Tab) : Calls Tryd.prog 8 #[.agg #[.slice a n cap, .int .i64 e]] w fun r w' => r = .returned (.string ⟨(Tm.fmtF xs e).toArray⟩) ∧ Below w.heap.size w w' := by
  have H := Lib.hid h
  obtain rfl : n = xs.length := h.1.symm
  clear h
  have HT := Lib.hid htab
  clear htab
  have IX := Lib.hid (fun (w : World) (h : Ints w a xs.length cap xs) => iIsFloat a _ cap xs e w h)
  rw [Tm.fmtF]
  cases hx : Tm.isF xs e with
  | false =>
    rw [hx] at IX
    clear hx
    go_enter Tryd.func8, Tryd.ntmps8
    go_wp2_with fail
    refine (IX.out _ (H.out.below (by (repeat' (first | (with_reducible exact Below.refl _ _) | (with_reducible assumption) | (with_reducible refine below_drewN ?_ _) | (with_reducible refine Below.drew ?_) | (with_reducible refine Below.alloc ?_ ?_ _) | (with_reducible refine Below.setCell ?_ ?_ _) | (with_reducible refine below_gw ?_ ?_ _) | (with_reducible refine below_via ?_ ‹Below _ _ _› ?_) | (with_reducible exact Nat.le_refl _) | (with_reducible refine le_gw ?_ _) | (with_reducible refine le_alloc ?_ _) | (with_reducible refine le_setCell ?_ _ _) | (with_reducible refine le_drew ?_) | (with_reducible refine le_drewN ?_ _) | go_size))))).mono ?_
    rintro r w1 ⟨rfl, hb⟩
    obtain ⟨p, rfl⟩ := gw_of_below hb
    clear hb
    go_wp2
    go_returns
    exact ⟨rfl, by (repeat' (first | (with_reducible exact Below.refl _ _) | (with_reducible assumption) | (with_reducible refine below_drewN ?_ _) | (with_reducible refine Below.drew ?_) | (with_reducible refine Below.alloc ?_ ?_ _) | (with_reducible refine Below.setCell ?_ ?_ _) | (with_reducible refine below_gw ?_ ?_ _) | (with_reducible refine below_via ?_ ‹Below _ _ _› ?_) | (with_reducible exact Nat.le_refl _) | (with_reducible refine le_gw ?_ _) | (with_reducible refine le_alloc ?_ _) | (with_reducible refine le_setCell ?_ _ _) | (with_reducible refine le_drew ?_) | (with_reducible refine le_drewN ?_ _) | go_size))⟩
  | true =>
    rw [hx] at IX
    rw [if_pos rfl]
    have b3 := ((Tm.isF_iff _ _).1 hx).2.2.1
    have FW := Lib.hid (fun (w : World) (h : Ints w a xs.length cap xs) => iFormatWord a _ cap xs w h)
    have IT := Lib.hid (fun (w : World) h => iItoa e w b3 h)
    have l1 : (Tm.fmtW xs).length ≤ 30 := by rw [Tm.fmtW]; split; · rw [Tm.txt_len]; exact Tm.isW_len (by assumption)
                                             · simp
    have l2 : (Tm.decZ e).length ≤ 30 := by
      obtain ⟨b31, b32⟩ := b3
      have g : ∀ k : Nat, k ≤ 20 → (Tm.decN 20 k).length ≤ 20 := fun k hk => by
        rcases Nat.lt_or_ge k 10 with c | c
        · rw [Tm.decN_one c]; simp
        · rw [Tm.decN_two c (by omega)]; simp
      rw [Tm.decZ]; split
      · have := g (-e).toNat (by omega); rw [List.length_cons]; omega
      · have := g e.toNat (by omega); omega
    obtain ⟨s1, hs1⟩ : ∃ s, s = Tm.fmtW xs := ⟨_, rfl⟩
    obtain ⟨s2, hs2⟩ : ∃ s, s = Tm.decZ e := ⟨_, rfl⟩
    rw [← hs1] at FW l1 ⊢
    rw [← hs2] at IT l2 ⊢
    have A1 : ∀ w, (Op.stringOp .add ⟨s1.toArray⟩ ⟨#[120]⟩).run Tryd.prog w = .ok (.string ⟨(s1 ++ [120]).toArray⟩) w := fun w => run_string_add_lists w s1 [120] (by omega) (by simp)
    have A2 : ∀ w, (Op.stringOp .add ⟨(s1 ++ [120]).toArray⟩ ⟨s2.toArray⟩).run Tryd.prog w = .ok (.string ⟨(s1 ++ [120] ++ s2).toArray⟩) w := fun w => run_string_add_lists w (s1 ++ [120]) s2 (by simp; omega) (by omega)
    obtain ⟨b1, hb1⟩ : ∃ b, b = (⟨s1.toArray⟩ : ByteArray) := ⟨_, rfl⟩
    obtain ⟨b2, hb2⟩ : ∃ b, b = (⟨(s1 ++ [120]).toArray⟩ : ByteArray) := ⟨_, rfl⟩
    obtain ⟨b5, hb3⟩ : ∃ b, b = (⟨s2.toArray⟩ : ByteArray) := ⟨_, rfl⟩
    obtain ⟨b4, hb4⟩ : ∃ b, b = (⟨(s1 ++ [120] ++ s2).toArray⟩ : ByteArray) := ⟨_, rfl⟩
    rw [← hb1, ← hb2] at A1
    rw [← hb2, ← hb3, ← hb4] at A2
    rw [← hb1] at FW
    rw [← hb3] at IT
    rw [← hb4]
    clear hx hs1 hs2 b3 hb1 hb2 hb3 hb4
    go_enter Tryd.func8, Tryd.ntmps8
    go_wp2_with fail
    refine (IX.out _ (H.out.below (by (repeat' (first | (with_reducible exact Below.refl _ _) | (with_reducible assumption) | (with_reducible refine below_drewN ?_ _) | (with_reducible refine Below.drew ?_) | (with_reducible refine Below.alloc ?_ ?_ _) | (with_reducible refine Below.setCell ?_ ?_ _) | (with_reducible refine below_gw ?_ ?_ _) | (with_reducible refine below_via ?_ ‹Below _ _ _› ?_) | (with_reducible exact Nat.le_refl _) | (with_reducible refine le_gw ?_ _) | (with_reducible refine le_alloc ?_ _) | (with_reducible refine le_setCell ?_ _ _) | (with_reducible refine le_drew ?_) | (with_reducible refine le_drewN ?_ _) | go_size))))).mono ?_
    rintro r w1 ⟨rfl, hb⟩
    obtain ⟨p, rfl⟩ := gw_of_below hb
    clear hb
    go_wp2_with fail
    go_region_held3 (fun W => W.cell? ⟨w.heap.size, 0, none⟩ = some (.slice a xs.length cap) ∧ W.cell? ⟨w.heap.size, 1, none⟩ = some (.int .i64 e)) (go_simp) ((first | (go_at_call 20; refine (FW.out _ (H.out.below (by (repeat' (first | (with_reducible exact Below.refl _ _) | (with_reducible assumption) | (with_reducible refine below_drewN ?_ _) | (with_reducible refine Below.drew ?_) | (with_reducible refine Below.alloc ?_ ?_ _) | (with_reducible refine Below.setCell ?_ ?_ _) | (with_reducible refine below_gw ?_ ?_ _) | (with_reducible refine below_via ?_ ‹Below _ _ _› ?_) | (with_reducible exact Nat.le_refl _) | (with_reducible refine le_gw ?_ _) | (with_reducible refine le_alloc ?_ _) | (with_reducible refine le_setCell ?_ _ _) | (with_reducible refine le_drew ?_) | (with_reducible refine le_drewN ?_ _) | go_size))))).mono ?_; rintro r w1 ⟨rfl, hb⟩; obtain ⟨q, rfl⟩ := gw_of_below hb; clear hb) | (go_at_call 21; refine (IT.out _ (tab_below HT.out (by (repeat' (first | (with_reducible exact Below.refl _ _) | (with_reducible assumption) | (with_reducible refine below_drewN ?_ _) | (with_reducible refine Below.drew ?_) | (with_reducible refine Below.alloc ?_ ?_ _) | (with_reducible refine Below.setCell ?_ ?_ _) | (with_reducible refine below_gw ?_ ?_ _) | (with_reducible refine below_via ?_ ‹Below _ _ _› ?_) | (with_reducible exact Nat.le_refl _) | (with_reducible refine le_gw ?_ _) | (with_reducible refine le_alloc ?_ _) | (with_reducible refine le_setCell ?_ _ _) | (with_reducible refine le_drew ?_) | (with_reducible refine le_drewN ?_ _) | go_size))))).mono ?_; rintro r w1 ⟨rfl, hb⟩; obtain ⟨q, rfl⟩ := gw_of_below hb; clear hb)))
    go_wp2
    go_returns
    exact ⟨rfl, by (repeat' (first | (with_reducible exact Below.refl _ _) | (with_reducible assumption) | (with_reducible refine below_drewN ?_ _) | (with_reducible refine Below.drew ?_) | (with_reducible refine Below.alloc ?_ ?_ _) | (with_reducible refine Below.setCell ?_ ?_ _) | (with_reducible refine below_gw ?_ ?_ _) | (with_reducible refine below_via ?_ ‹Below _ _ _› ?_) | (with_reducible exact Nat.le_refl _) | (with_reducible refine le_gw ?_ _) | (with_reducible refine le_alloc ?_ _) | (with_reducible refine le_setCell ?_ _ _) | (with_reducible refine le_drew ?_) | (with_reducible refine le_drewN ?_ _) | go_size))⟩
theorem conv_one (w : World) (d : Nat) (hd : d < 10) : (convert 54 9 (.slice (some ⟨w.heap.size, 0, none⟩) 1 1)).run Tryd.prog (w.alloc (.cells #[.int .u8 (48 + (d : Int))] 5)) = .ok (.string ⟨[UInt8.ofNat (48 + d)].toArray⟩) (w.alloc (.cells #[.int .u8 (48 + (d : Int))] 5)) :=
  run_convert_bytes_back (P := Tryd.prog) _ 54 9 5 ⟨w.heap.size, 0, none⟩ 1 [UInt8.ofNat (48 + d)] Tryd.underlying54 Tryd.underlying5 Tryd.underlying9 (fun j hj => by
    obtain rfl : j = 0 := by simp at hj; exact hj
    simp [Addr.add]; omega)
set_option maxRecDepth 20000 in
theorem sNumN (k : Nat) (w : World) (hk : k ≤ 20) : Calls Tryd.prog 17 #[.int .i64 k] w fun e w' => e = .returned (.string ⟨(Tm.decN 20 k).toArray⟩) ∧ Below w.heap.size w w' := by
  obtain ⟨d, hd⟩ : ∃ d : Nat, d = k % 10 := ⟨_, rfl⟩
  obtain ⟨q, hq⟩ : ∃ q : Nat, q = k / 10 := ⟨_, rfl⟩
  have d1 : d < 10 := by omega
  have q1 : q ≤ 2 := by omega
  have t1 : (k : Int).tmod 10 = (d : Int) := by rw [Int.tmod_eq_emod_of_nonneg (by omega)]; omega
  have t2 : (k : Int) % 10 = (d : Int) := by omega
  have t3 : (k : Int).tdiv 10 = (q : Int) := by rw [Int.tdiv_eq_ediv_of_nonneg (by omega)]; omega
  have t4 : (k : Int) / 10 = (q : Int) := by omega
  have t5 : (q : Int).tmod 10 = (q : Int) := by rw [Int.tmod_eq_emod_of_nonneg (by omega)]; omega
  have t6 : (q : Int).tdiv 10 = 0 := by rw [Int.tdiv_eq_ediv_of_nonneg (by omega)]; omega
  have t7 : (q : Int) % 10 = (q : Int) := by omega
  have t8 : (q : Int) / 10 = 0 := by omega
  have C1 := conv_one
  have hkn : ¬ ((k : Int) < 0) := by omega
  rcases Nat.lt_or_ge k 10 with c | c
  · have q0 : q = 0 := by omega
    subst q0
    rw [Tm.decN_one c]
    have ek : k = d := by omega
    clear hd hq t4 t5 t6 t7 t8 c
    subst ek
    have cv := fun w => C1 w k d1
    obtain ⟨b0, hb0⟩ : ∃ b, b = (⟨[UInt8.ofNat (48 + k)].toArray⟩ : ByteArray) := ⟨_, rfl⟩
    simp only [← hb0] at cv
    rw [← hb0]
    clear C1 hb0
    go_enter Tryd.func17, Tryd.ntmps17
    go_wp2_with fail
    go_loop [0, 3] (fun i v => i = .int .i64 0 ∧ v = .string b0) (fun i _ => (intOf i).toNat)
    case atStart => exact ⟨rfl, rfl⟩
    case round =>
      obtain ⟨rfl, rfl⟩ := hrel
      go_wp2
      go_ret
      exact ⟨rfl, by (repeat' (first | (with_reducible exact Below.refl _ _) | (with_reducible assumption) | (with_reducible refine below_drewN ?_ _) | (with_reducible refine Below.drew ?_) | (with_reducible refine Below.alloc ?_ ?_ _) | (with_reducible refine Below.setCell ?_ ?_ _) | (with_reducible refine below_gw ?_ ?_ _) | (with_reducible refine below_via ?_ ‹Below _ _ _› ?_) | (with_reducible exact Nat.le_refl _) | (with_reducible refine le_gw ?_ _) | (with_reducible refine le_alloc ?_ _) | (with_reducible refine le_setCell ?_ _ _) | (with_reducible refine le_drew ?_) | (with_reducible refine le_drewN ?_ _) | go_size))⟩
  · have q2 : 1 ≤ q := by omega
    rw [Tm.decN_two c (by omega)]
    have e1 : UInt8.ofNat (48 + k / 10) = UInt8.ofNat (48 + q) := by rw [hq]
    have e2 : UInt8.ofNat (48 + k % 10) = UInt8.ofNat (48 + d) := by rw [hd]
    rw [e1, e2]
    have cv := fun w => C1 w d d1
    have cu := fun w => C1 w q (by omega)
    have A1 : ∀ w, (Op.stringOp .add ⟨[UInt8.ofNat (48 + q)].toArray⟩ ⟨[UInt8.ofNat (48 + d)].toArray⟩).run Tryd.prog w = .ok (.string ⟨[UInt8.ofNat (48 + q), UInt8.ofNat (48 + d)].toArray⟩) w := fun w => run_string_add_lists w [UInt8.ofNat (48 + q)] [UInt8.ofNat (48 + d)] (by simp) (by simp)
    obtain ⟨b1, hb1⟩ : ∃ b, b = (⟨[UInt8.ofNat (48 + q)].toArray⟩ : ByteArray) := ⟨_, rfl⟩
    obtain ⟨b2, hb2⟩ : ∃ b, b = (⟨[UInt8.ofNat (48 + d)].toArray⟩ : ByteArray) := ⟨_, rfl⟩
    obtain ⟨b3, hb3⟩ : ∃ b, b = (⟨[UInt8.ofNat (48 + q), UInt8.ofNat (48 + d)].toArray⟩ : ByteArray) := ⟨_, rfl⟩
    rw [← hb1, ← hb2, ← hb3] at A1
    simp only [← hb2] at cv
    simp only [← hb1] at cu
    rw [← hb3]
    clear C1 hd hq e1 e2 c hb1 hb2 hb3
    go_enter Tryd.func17, Tryd.ntmps17
    go_wp2_with fail
    go_loopw [0, 3] (fun i v wr => (i = .int .i64 q ∧ v = .string b2 ∨ i = .int .i64 0 ∧ v = .string b3) ∧ Below w.heap.size w wr) (fun i _ _ => (intOf i).toNat)
    case atStart => exact ⟨.inl ⟨rfl, rfl⟩, by (repeat' (first | (with_reducible exact Below.refl _ _) | (with_reducible assumption) | (with_reducible refine below_drewN ?_ _) | (with_reducible refine Below.drew ?_) | (with_reducible refine Below.alloc ?_ ?_ _) | (with_reducible refine Below.setCell ?_ ?_ _) | (with_reducible refine below_gw ?_ ?_ _) | (with_reducible refine below_via ?_ ‹Below _ _ _› ?_) | (with_reducible exact Nat.le_refl _) | (with_reducible refine le_gw ?_ _) | (with_reducible refine le_alloc ?_ _) | (with_reducible refine le_setCell ?_ _ _) | (with_reducible refine le_drew ?_) | (with_reducible refine le_drewN ?_ _) | go_size))⟩
    case round =>
      obtain ⟨⟨rfl, rfl⟩ | ⟨rfl, rfl⟩, hb⟩ := hrel
      · have hs := hb.size
        go_wp2_with fail
        exact ⟨⟨.inr ⟨rfl, rfl⟩, by (repeat' (first | (with_reducible exact Below.refl _ _) | (with_reducible assumption) | (with_reducible refine below_drewN ?_ _) | (with_reducible refine Below.drew ?_) | (with_reducible refine Below.alloc ?_ ?_ _) | (with_reducible refine Below.setCell ?_ ?_ _) | (with_reducible refine below_gw ?_ ?_ _) | (with_reducible refine below_via ?_ ‹Below _ _ _› ?_) | (with_reducible exact Nat.le_refl _) | (with_reducible refine le_gw ?_ _) | (with_reducible refine le_alloc ?_ _) | (with_reducible refine le_setCell ?_ _ _) | (with_reducible refine le_drew ?_) | (with_reducible refine le_drewN ?_ _) | go_size))⟩, by simp [intOf]; omega⟩
      · go_wp2
        go_ret
        exact ⟨rfl, hb⟩
theorem sNumber (n : Int) (w : World) (h : -20 ≤ n ∧ n ≤ 20) : Calls Tryd.prog 17 #[.int .i64 n] w fun e w' => e = .returned (.string ⟨(Tm.decZ n).toArray⟩) ∧ Below w.heap.size w w' := by
  rw [Tm.decZ]
  by_cases c : n < 0
  · obtain ⟨k, hk⟩ : ∃ k : Nat, -n = (k : Int) := ⟨(-n).toNat, by omega⟩
    rw [if_pos c, show (-n).toNat = k by omega]
    have NN := Lib.hid (fun w => sNumN k w (by omega))
    have l : (Tm.decN 20 k).length ≤ 20 := by
      rcases Nat.lt_or_ge k 10 with c | c
      · rw [Tm.decN_one c]; simp
      · rw [Tm.decN_two c (by omega)]; simp
    obtain ⟨s, hs⟩ : ∃ s, s = Tm.decN 20 k := ⟨_, rfl⟩
    rw [← hs] at NN l ⊢
    have A1 : ∀ w, (Op.stringOp .add ⟨#[45]⟩ ⟨s.toArray⟩).run Tryd.prog w = .ok (.string ⟨(45 :: s).toArray⟩) w := fun w => run_string_add_lists w [45] s (by simp) (by omega)
    obtain ⟨b1, hb1⟩ : ∃ b, b = (⟨s.toArray⟩ : ByteArray) := ⟨_, rfl⟩
    obtain ⟨b2, hb2⟩ : ∃ b, b = (⟨(45 :: s).toArray⟩ : ByteArray) := ⟨_, rfl⟩
    rw [← hb1, ← hb2] at A1
    rw [← hb1] at NN
    rw [← hb2]
    clear hs hb1 hb2
    go_enter Tryd.func17, Tryd.ntmps17
    go_wp2_with fail
    refine (NN.out _).mono ?_
    rintro r w1 ⟨rfl, hb⟩
    obtain ⟨p, rfl⟩ := gw_of_below hb
    clear hb
    go_wp2
    go_ret
    exact ⟨rfl, by (repeat' (first | (with_reducible exact Below.refl _ _) | (with_reducible assumption) | (with_reducible refine below_drewN ?_ _) | (with_reducible refine Below.drew ?_) | (with_reducible refine Below.alloc ?_ ?_ _) | (with_reducible refine Below.setCell ?_ ?_ _) | (with_reducible refine below_gw ?_ ?_ _) | (with_reducible refine below_via ?_ ‹Below _ _ _› ?_) | (with_reducible exact Nat.le_refl _) | (with_reducible refine le_gw ?_ _) | (with_reducible refine le_alloc ?_ _) | (with_reducible refine le_setCell ?_ _ _) | (with_reducible refine le_drew ?_) | (with_reducible refine le_drewN ?_ _) | go_size))⟩
  · obtain ⟨k, rfl⟩ := Int.eq_ofNat_of_zero_le (show 0 ≤ n by omega)
    rw [if_neg c]
    exact sNumN k w (by omega)
set_option maxRecDepth 20000 in
theorem sFormatFloat (a : Option Addr) (n cap : Nat) (xs : List Int) (e : Int) (w : World) (h : Ints w a n cap xs) : Calls Tryd.prog 6 #[.agg #[.slice a n cap, .int .i64 e]] w fun r w' => r = .returned (.string ⟨(Tm.fmtF xs e).toArray⟩) ∧ Below w.heap.size w w' := by
  have H := Lib.hid h
  obtain rfl : n = xs.length := h.1.symm
  clear h
  have IX := Lib.hid (fun (w : World) (h : Ints w a xs.length cap xs) => sIsFloat a _ cap xs e w h)
  rw [Tm.fmtF]
  cases hx : Tm.isF xs e with
  | false =>
    rw [hx] at IX
    clear hx
    go_enter Tryd.func6, Tryd.ntmps6
    go_wp2_with fail
    refine (IX.out _ (H.out.below (by (repeat' (first | (with_reducible exact Below.refl _ _) | (with_reducible assumption) | (with_reducible refine below_drewN ?_ _) | (with_reducible refine Below.drew ?_) | (with_reducible refine Below.alloc ?_ ?_ _) | (with_reducible refine Below.setCell ?_ ?_ _) | (with_reducible refine below_gw ?_ ?_ _) | (with_reducible refine below_via ?_ ‹Below _ _ _› ?_) | (with_reducible exact Nat.le_refl _) | (with_reducible refine le_gw ?_ _) | (with_reducible refine le_alloc ?_ _) | (with_reducible refine le_setCell ?_ _ _) | (with_reducible refine le_drew ?_) | (with_reducible refine le_drewN ?_ _) | go_size))))).mono ?_
    rintro r w1 ⟨rfl, hb⟩
    obtain ⟨p, rfl⟩ := gw_of_below hb
    clear hb
    go_wp2
    go_returns
    exact ⟨rfl, by (repeat' (first | (with_reducible exact Below.refl _ _) | (with_reducible assumption) | (with_reducible refine below_drewN ?_ _) | (with_reducible refine Below.drew ?_) | (with_reducible refine Below.alloc ?_ ?_ _) | (with_reducible refine Below.setCell ?_ ?_ _) | (with_reducible refine below_gw ?_ ?_ _) | (with_reducible refine below_via ?_ ‹Below _ _ _› ?_) | (with_reducible exact Nat.le_refl _) | (with_reducible refine le_gw ?_ _) | (with_reducible refine le_alloc ?_ _) | (with_reducible refine le_setCell ?_ _ _) | (with_reducible refine le_drew ?_) | (with_reducible refine le_drewN ?_ _) | go_size))⟩
  | true =>
    rw [hx] at IX
    rw [if_pos rfl]
    have b3 := ((Tm.isF_iff _ _).1 hx).2.2.1
    have FW := Lib.hid (fun (w : World) (h : Ints w a xs.length cap xs) => sFormatWord a _ cap xs w h)
    have IT := Lib.hid (fun (w : World) => sNumber e w b3)
    have l1 : (Tm.fmtW xs).length ≤ 30 := by rw [Tm.fmtW]; split; · rw [Tm.txt_len]; exact Tm.isW_len (by assumption)
                                             · simp
    have l2 : (Tm.decZ e).length ≤ 30 := by
      obtain ⟨b31, b32⟩ := b3
      have g : ∀ k : Nat, k ≤ 20 → (Tm.decN 20 k).length ≤ 20 := fun k hk => by
        rcases Nat.lt_or_ge k 10 with c | c
        · rw [Tm.decN_one c]; simp
        · rw [Tm.decN_two c (by omega)]; simp
      rw [Tm.decZ]; split
      · have := g (-e).toNat (by omega); rw [List.length_cons]; omega
      · have := g e.toNat (by omega); omega
    obtain ⟨s1, hs1⟩ : ∃ s, s = Tm.fmtW xs := ⟨_, rfl⟩
    obtain ⟨s2, hs2⟩ : ∃ s, s = Tm.decZ e := ⟨_, rfl⟩
    rw [← hs1] at FW l1 ⊢
    rw [← hs2] at IT l2 ⊢
    have A1 : ∀ w, (Op.stringOp .add ⟨s1.toArray⟩ ⟨#[120]⟩).run Tryd.prog w = .ok (.string ⟨(s1 ++ [120]).toArray⟩) w := fun w => run_string_add_lists w s1 [120] (by omega) (by simp)
    have A2 : ∀ w, (Op.stringOp .add ⟨(s1 ++ [120]).toArray⟩ ⟨s2.toArray⟩).run Tryd.prog w = .ok (.string ⟨(s1 ++ [120] ++ s2).toArray⟩) w := fun w => run_string_add_lists w (s1 ++ [120]) s2 (by simp; omega) (by omega)
    obtain ⟨b1, hb1⟩ : ∃ b, b = (⟨s1.toArray⟩ : ByteArray) := ⟨_, rfl⟩
    obtain ⟨b2, hb2⟩ : ∃ b, b = (⟨(s1 ++ [120]).toArray⟩ : ByteArray) := ⟨_, rfl⟩
    obtain ⟨b5, hb3⟩ : ∃ b, b = (⟨s2.toArray⟩ : ByteArray) := ⟨_, rfl⟩
    obtain ⟨b4, hb4⟩ : ∃ b, b = (⟨(s1 ++ [120] ++ s2).toArray⟩ : ByteArray) := ⟨_, rfl⟩
    rw [← hb1, ← hb2] at A1
    rw [← hb2, ← hb3, ← hb4] at A2
    rw [← hb1] at FW
    rw [← hb3] at IT
    rw [← hb4]
    clear hx hs1 hs2 b3 hb1 hb2 hb3 hb4
    go_enter Tryd.func6, Tryd.ntmps6
    go_wp2_with fail
    refine (IX.out _ (H.out.below (by (repeat' (first | (with_reducible exact Below.refl _ _) | (with_reducible assumption) | (with_reducible refine below_drewN ?_ _) | (with_reducible refine Below.drew ?_) | (with_reducible refine Below.alloc ?_ ?_ _) | (with_reducible refine Below.setCell ?_ ?_ _) | (with_reducible refine below_gw ?_ ?_ _) | (with_reducible refine below_via ?_ ‹Below _ _ _› ?_) | (with_reducible exact Nat.le_refl _) | (with_reducible refine le_gw ?_ _) | (with_reducible refine le_alloc ?_ _) | (with_reducible refine le_setCell ?_ _ _) | (with_reducible refine le_drew ?_) | (with_reducible refine le_drewN ?_ _) | go_size))))).mono ?_
    rintro r w1 ⟨rfl, hb⟩
    obtain ⟨p, rfl⟩ := gw_of_below hb
    clear hb
    go_wp2_with fail
    go_region_held3 (fun W => W.cell? ⟨w.heap.size, 0, none⟩ = some (.slice a xs.length cap) ∧ W.cell? ⟨w.heap.size, 1, none⟩ = some (.int .i64 e)) (go_simp) ((first | (go_at_call 16; refine (FW.out _ (H.out.below (by (repeat' (first | (with_reducible exact Below.refl _ _) | (with_reducible assumption) | (with_reducible refine below_drewN ?_ _) | (with_reducible refine Below.drew ?_) | (with_reducible refine Below.alloc ?_ ?_ _) | (with_reducible refine Below.setCell ?_ ?_ _) | (with_reducible refine below_gw ?_ ?_ _) | (with_reducible refine below_via ?_ ‹Below _ _ _› ?_) | (with_reducible exact Nat.le_refl _) | (with_reducible refine le_gw ?_ _) | (with_reducible refine le_alloc ?_ _) | (with_reducible refine le_setCell ?_ _ _) | (with_reducible refine le_drew ?_) | (with_reducible refine le_drewN ?_ _) | go_size))))).mono ?_; rintro r w1 ⟨rfl, hb⟩; obtain ⟨q, rfl⟩ := gw_of_below hb; clear hb) | (go_at_call 17; refine (IT.out _).mono ?_; rintro r w1 ⟨rfl, hb⟩; obtain ⟨q, rfl⟩ := gw_of_below hb; clear hb)))
    go_wp2
    go_returns
    exact ⟨rfl, by (repeat' (first | (with_reducible exact Below.refl _ _) | (with_reducible assumption) | (with_reducible refine below_drewN ?_ _) | (with_reducible refine Below.drew ?_) | (with_reducible refine Below.alloc ?_ ?_ _) | (with_reducible refine Below.setCell ?_ ?_ _) | (with_reducible refine below_gw ?_ ?_ _) | (with_reducible refine below_via ?_ ‹Below _ _ _› ?_) | (with_reducible exact Nat.le_refl _) | (with_reducible refine le_gw ?_ _) | (with_reducible refine le_alloc ?_ _) | (with_reducible refine le_setCell ?_ _ _) | (with_reducible refine le_drew ?_) | (with_reducible refine le_drewN ?_ _) | go_size))⟩
end Go.Proofs.YtkphbnejnilehaaDoor

/- Numbers in decimal digits: what the model writes, what the program's Itoa writes. -/
import Derived.Test.YtfnhoiomdjmjhaaDoorShelf
import Derived.Test.YtfnhoiomdjmjhaaDoorRow
import Derived.Lib.SmallJoins
import Derived.Laws.Concat
import Derived.Shelf.Strconv.Itoa3
namespace Go.Proofs.YtfnhoiomdjmjhaaDoor
set_option maxRecDepth 20000
open Go.RowKit
theorem num_one {k : Nat} (h : k < 10) : Lib.decDigits k = [UInt8.ofNat (48 + k)] := by rw [Lib.decDigits, dif_pos h]
theorem num_two {k : Nat} (h : 10 ≤ k) (h2 : k < 100) : Lib.decDigits k = [UInt8.ofNat (48 + k / 10), UInt8.ofNat (48 + k % 10)] := by
  rw [Lib.decDigits, dif_neg (by omega), num_one (by omega)]; rfl
theorem iNum (n : Int) (w : World) (h : -99 ≤ n ∧ n ≤ 99) (htab : Lib.TabIs Tryd.prog w "internal/strconv.uint64pow10" .u64 Lib.pow10Tab) : Calls Tryd.prog 68 #[.int .i64 n] w fun e w' => e = .returned (.string ⟨(Lib.itoa n).toArray⟩) ∧ Below w.heap.size w w' := by
  refine (Tryd.strconv_Itoa n (by omega) (by omega) w htab).mono ?_
  rintro e w' ⟨rfl, k, os, rfl⟩
  exact ⟨rfl, below_regrown w (w.drawn + k) os⟩
theorem tab_belowN {w w' : World} (h : Lib.TabIs Tryd.prog w "internal/strconv.uint64pow10" .u64 Lib.pow10Tab) (hb : Below w.heap.size w w') : Lib.TabIs Tryd.prog w' "internal/strconv.uint64pow10" .u64 Lib.pow10Tab := by
  have h0 := h
  unfold Lib.TabIs World.var? at h
  cases hg : Tryd.prog.globalNamed "internal/strconv.uint64pow10" with
  | none => rw [hg] at h; simp at h
  | some g => exact Joins.tab_stays hg h0 hb (Nat.le_refl _)
theorem conv_dig (w : World) (d : Nat) (hd : d < 10) : (convert 22 9 (.slice (some ⟨w.heap.size, 0, none⟩) 1 1)).run Tryd.prog (w.alloc (.cells #[.int .u8 (48 + (d : Int))] 5)) = .ok (.string ⟨[UInt8.ofNat (48 + d)].toArray⟩) (w.alloc (.cells #[.int .u8 (48 + (d : Int))] 5)) :=
  run_convert_bytes_back (P := Tryd.prog) _ 22 9 5 ⟨w.heap.size, 0, none⟩ 1 [UInt8.ofNat (48 + d)] Tryd.underlying22 Tryd.underlying5 Tryd.underlying9 (fun j hj => by
    obtain rfl : j = 0 := by simp at hj; exact hj
    simp [Addr.add]; omega)
set_option maxRecDepth 20000 in
theorem sNumP (k : Nat) (w : World) (hk : k ≤ 99) : Calls Tryd.prog 29 #[.int .i64 k] w fun e w' => e = .returned (.string ⟨(Lib.decDigits k).toArray⟩) ∧ Below w.heap.size w w' := by
  obtain ⟨d, hd⟩ : ∃ d : Nat, d = k % 10 := ⟨_, rfl⟩
  obtain ⟨q, hq⟩ : ∃ q : Nat, q = k / 10 := ⟨_, rfl⟩
  have d1 : d < 10 := by omega
  have q1 : q ≤ 9 := by omega
  have t1 : (k : Int).tmod 10 = (d : Int) := by rw [Int.tmod_eq_emod_of_nonneg (by omega)]; omega
  have t2 : (k : Int) % 10 = (d : Int) := by omega
  have t3 : (k : Int).tdiv 10 = (q : Int) := by rw [Int.tdiv_eq_ediv_of_nonneg (by omega)]; omega
  have t4 : (k : Int) / 10 = (q : Int) := by omega
  have t5 : (q : Int).tmod 10 = (q : Int) := by rw [Int.tmod_eq_emod_of_nonneg (by omega)]; omega
  have t6 : (q : Int).tdiv 10 = 0 := by rw [Int.tdiv_eq_ediv_of_nonneg (by omega)]; omega
  have t7 : (q : Int) % 10 = (q : Int) := by omega
  have t8 : (q : Int) / 10 = 0 := by omega
  have C1 := conv_dig
  have hkn : ¬ ((k : Int) < 0) := by omega
  rcases Nat.lt_or_ge k 10 with c | c
  · have q0 : q = 0 := by omega
    subst q0
    rw [num_one c]
    have ek : k = d := by omega
    clear hd hq t4 t5 t6 t7 t8 c
    subst ek
    have cv := fun w => C1 w k d1
    obtain ⟨b0, hb0⟩ : ∃ b, b = (⟨[UInt8.ofNat (48 + k)].toArray⟩ : ByteArray) := ⟨_, rfl⟩
    simp only [← hb0] at cv
    rw [← hb0]
    clear C1 hb0
    go_enter Tryd.func29, Tryd.ntmps29
    go_wp2_with fail
    go_loop [0, 3] (fun i v => i = .int .i64 0 ∧ v = .string b0) (fun i _ => (intOf i).toNat)
    case atStart => exact ⟨rfl, rfl⟩
    case round =>
      obtain ⟨rfl, rfl⟩ := hrel
      go_wp2
      go_ret
      exact ⟨rfl, by (repeat' (first | (with_reducible exact Below.refl _ _) | (with_reducible assumption) | (with_reducible refine below_drewN ?_ _) | (with_reducible refine Below.drew ?_) | (with_reducible refine Below.alloc ?_ ?_ _) | (with_reducible refine Below.setCell ?_ ?_ _) | (with_reducible refine below_gw ?_ ?_ _) | (with_reducible refine below_via ?_ ‹Below _ _ _› ?_) | (with_reducible exact Nat.le_refl _) | (with_reducible refine le_gw ?_ _) | (with_reducible refine le_alloc ?_ _) | (with_reducible refine le_setCell ?_ _ _) | (with_reducible refine le_drew ?_) | (with_reducible refine le_drewN ?_ _) | go_size))⟩
  · have q2 : 1 ≤ q := by omega
    rw [num_two c (by omega)]
    have e1 : UInt8.ofNat (48 + k / 10) = UInt8.ofNat (48 + q) := by rw [hq]
    have e2 : UInt8.ofNat (48 + k % 10) = UInt8.ofNat (48 + d) := by rw [hd]
    rw [e1, e2]
    have cv := fun w => C1 w d d1
    have cu := fun w => C1 w q (by omega)
    have A1 : ∀ w, (Op.stringOp .add ⟨[UInt8.ofNat (48 + q)].toArray⟩ ⟨[UInt8.ofNat (48 + d)].toArray⟩).run Tryd.prog w = .ok (.string ⟨[UInt8.ofNat (48 + q), UInt8.ofNat (48 + d)].toArray⟩) w := fun w => run_string_add_lists w [UInt8.ofNat (48 + q)] [UInt8.ofNat (48 + d)] (by simp) (by simp)
    obtain ⟨b1, hb1⟩ : ∃ b, b = (⟨[UInt8.ofNat (48 + q)].toArray⟩ : ByteArray) := ⟨_, rfl⟩
    obtain ⟨b2, hb2⟩ : ∃ b, b = (⟨[UInt8.ofNat (48 + d)].toArray⟩ : ByteArray) := ⟨_, rfl⟩
    obtain ⟨b3, hb3⟩ : ∃ b, b = (⟨[UInt8.ofNat (48 + q), UInt8.ofNat (48 + d)].toArray⟩ : ByteArray) := ⟨_, rfl⟩
    rw [← hb1, ← hb2, ← hb3] at A1
    simp only [← hb2] at cv
    simp only [← hb1] at cu
    rw [← hb3]
    clear C1 hd hq e1 e2 c hb1 hb2 hb3
    go_enter Tryd.func29, Tryd.ntmps29
    go_wp2_with fail
    go_loopw [0, 3] (fun i v wr => (i = .int .i64 q ∧ v = .string b2 ∨ i = .int .i64 0 ∧ v = .string b3) ∧ Below w.heap.size w wr) (fun i _ _ => (intOf i).toNat)
    case atStart => exact ⟨.inl ⟨rfl, rfl⟩, by (repeat' (first | (with_reducible exact Below.refl _ _) | (with_reducible assumption) | (with_reducible refine below_drewN ?_ _) | (with_reducible refine Below.drew ?_) | (with_reducible refine Below.alloc ?_ ?_ _) | (with_reducible refine Below.setCell ?_ ?_ _) | (with_reducible refine below_gw ?_ ?_ _) | (with_reducible refine below_via ?_ ‹Below _ _ _› ?_) | (with_reducible exact Nat.le_refl _) | (with_reducible refine le_gw ?_ _) | (with_reducible refine le_alloc ?_ _) | (with_reducible refine le_setCell ?_ _ _) | (with_reducible refine le_drew ?_) | (with_reducible refine le_drewN ?_ _) | go_size))⟩
    case round =>
      obtain ⟨⟨rfl, rfl⟩ | ⟨rfl, rfl⟩, hb⟩ := hrel
      · have hs := hb.size
        go_wp2_with fail
        exact ⟨⟨.inr ⟨rfl, rfl⟩, by (repeat' (first | (with_reducible exact Below.refl _ _) | (with_reducible assumption) | (with_reducible refine below_drewN ?_ _) | (with_reducible refine Below.drew ?_) | (with_reducible refine Below.alloc ?_ ?_ _) | (with_reducible refine Below.setCell ?_ ?_ _) | (with_reducible refine below_gw ?_ ?_ _) | (with_reducible refine below_via ?_ ‹Below _ _ _› ?_) | (with_reducible exact Nat.le_refl _) | (with_reducible refine le_gw ?_ _) | (with_reducible refine le_alloc ?_ _) | (with_reducible refine le_setCell ?_ _ _) | (with_reducible refine le_drew ?_) | (with_reducible refine le_drewN ?_ _) | go_size))⟩, by simp [intOf]; omega⟩
      · go_wp2
        go_ret
        exact ⟨rfl, hb⟩
theorem sNum (n : Int) (w : World) (h : -99 ≤ n ∧ n ≤ 99) : Calls Tryd.prog 29 #[.int .i64 n] w fun e w' => e = .returned (.string ⟨(Lib.itoa n).toArray⟩) ∧ Below w.heap.size w w' := by
  rw [Lib.itoa]
  by_cases c : n < 0
  · obtain ⟨k, hk⟩ : ∃ k : Nat, -n = (k : Int) := ⟨(-n).toNat, by omega⟩
    rw [if_pos c, show n.natAbs = k by omega]
    have NN := Lib.hid (fun w => sNumP k w (by omega))
    have l : (Lib.decDigits k).length ≤ 20 := by
      rcases Nat.lt_or_ge k 10 with c | c
      · rw [num_one c]; simp
      · rw [num_two c (by omega)]; simp
    obtain ⟨s, hs⟩ : ∃ s, s = Lib.decDigits k := ⟨_, rfl⟩
    rw [← hs] at NN l ⊢
    have A1 : ∀ w, (Op.stringOp .add ⟨#[45]⟩ ⟨s.toArray⟩).run Tryd.prog w = .ok (.string ⟨(45 :: s).toArray⟩) w := fun w => run_string_add_lists w [45] s (by simp) (by omega)
    obtain ⟨b1, hb1⟩ : ∃ b, b = (⟨s.toArray⟩ : ByteArray) := ⟨_, rfl⟩
    obtain ⟨b2, hb2⟩ : ∃ b, b = (⟨(45 :: s).toArray⟩ : ByteArray) := ⟨_, rfl⟩
    rw [← hb1, ← hb2] at A1
    rw [← hb1] at NN
    rw [← hb2]
    clear hs hb1 hb2
    go_enter Tryd.func29, Tryd.ntmps29
    go_wp2_with fail
    refine (NN.out _).mono ?_
    rintro r w1 ⟨rfl, hb⟩
    obtain ⟨p, rfl⟩ := gw_of_below hb
    clear hb
    go_wp2
    go_ret
    exact ⟨rfl, by (repeat' (first | (with_reducible exact Below.refl _ _) | (with_reducible assumption) | (with_reducible refine below_drewN ?_ _) | (with_reducible refine Below.drew ?_) | (with_reducible refine Below.alloc ?_ ?_ _) | (with_reducible refine Below.setCell ?_ ?_ _) | (with_reducible refine below_gw ?_ ?_ _) | (with_reducible refine below_via ?_ ‹Below _ _ _› ?_) | (with_reducible exact Nat.le_refl _) | (with_reducible refine le_gw ?_ _) | (with_reducible refine le_alloc ?_ _) | (with_reducible refine le_setCell ?_ _ _) | (with_reducible refine le_drew ?_) | (with_reducible refine le_drewN ?_ _) | go_size))⟩
  · obtain ⟨k, rfl⟩ := Int.eq_ofNat_of_zero_le (show 0 ≤ n by omega)
    rw [if_neg c, show ((k : Int)).toNat = k from Int.toNat_natCast k]
    exact sNumP k w (by omega)
end Go.Proofs.YtfnhoiomdjmjhaaDoor

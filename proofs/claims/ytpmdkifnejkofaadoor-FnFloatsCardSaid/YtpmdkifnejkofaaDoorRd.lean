/- The program reads a trit off a byte. -/
import Derived.Test.YtpmdkifnejkofaaDoorChecked
import Derived.Test.YtpmdkifnejkofaaDoorBase
import Derived.Test.YtpmdkifnejkofaaDoorShelf
namespace Go.Proofs.YtpmdkifnejkofaaDoor
set_option maxRecDepth 20000
open Go.RowKit
theorem byte_le (b : UInt8) : (b.toNat : Int) ≤ 255 := by have := b.toNat_lt; omega
theorem byte_ge (b : UInt8) : (0 : Int) ≤ (b.toNat : Int) := by omega
theorem ret_str {a b : List UInt8} (h : a = b) : Ending.returned (.string ⟨a.toArray⟩) = .returned (.string ⟨b.toArray⟩) := by rw [h]
theorem infoByte : (Tryd.prog.info? 5).map (fun i => (i.zero, i.size, i.bytes)) = some (some (.int .u8 0), 1, 1) := by kernel_rfl
theorem idxSign (a : Int) (h : Tm.isT a = true) (w : World) : (Instr.index 9 (.string ⟨#[45, 48, 43]⟩) (.int .i64 (a + 1))).run Tryd.prog w = .ok (.int .u8 ((Tm.sg a).toNat : Int)) w := by
  rcases Tm.isT_cases h with rfl | rfl | rfl <;> kernel_rfl
theorem idx_sign (c : Int) (h0 : 0 ≤ c) (h1 : c ≤ 255) : Lib.indexByte [45, 48, 43] c.toNat.toUInt8 = if c = 45 then 0 else if c = 48 then 1 else if c = 43 then 2 else -1 := by
  have : ∀ n : Fin 256, Lib.indexByte [45, 48, 43] (n.val).toUInt8 = if n.val = 45 then (0 : Int) else if n.val = 48 then 1 else if n.val = 43 then 2 else -1 := by decide +kernel
  have h := this ⟨c.toNat, by omega⟩
  simp only at h
  rw [h]
  have e : ∀ k : Nat, (c.toNat = k) = (c = (k : Int)) := by intro k; simp; omega
  simp only [e]
  rfl
theorem iReadTrit (c : Int) (w : World) (h0 : 0 ≤ c) (h1 : c ≤ 255) : Calls Tryd.prog 40 #[.int .u8 c] w fun e w' => e = .returned (.tuple #[.int .i64 (Tm.rdv c), .bool (Tm.rdOk c)]) ∧ w = w' := by
  have hx := idx_sign c h0 h1
  have hi : ∀ w, Calls Tryd.prog 49 #[.string ⟨#[45, 48, 43]⟩, .int .u8 c] w fun e w' => e = .returned (.int .i64 (if c = 45 then 0 else if c = 48 then 1 else if c = 43 then 2 else -1)) ∧ w' = w := by
    intro w
    rw [← hx]
    exact Tryd.strings_IndexByte ⟨#[45, 48, 43]⟩ c w
  have HI := Lib.hid hi
  clear hi hx
  have go : ∀ (n : Int), (if c = 45 then (0 : Int) else if c = 48 then 1 else if c = 43 then 2 else -1) = n → -1 ≤ n → n ≤ 2 → (if n < 0 then (0 : Int) else n - 1) = Tm.rdv c ∧ decide (0 ≤ n) = Tm.rdOk c := by
    intro n hn _ _
    subst hn
    simp only [Tm.rdv, Tm.rdOk, Tm.rd]
    split
    · exact ⟨by decide, by decide⟩
    · split
      · exact ⟨by decide, by decide⟩
      · split
        · exact ⟨by decide, by decide⟩
        · exact ⟨by decide, by decide⟩
  obtain ⟨n, hn⟩ : ∃ n : Int, (if c = 45 then (0 : Int) else if c = 48 then 1 else if c = 43 then 2 else -1) = n := ⟨_, rfl⟩
  have b0 : -1 ≤ n := by rw [← hn]; split <;> (try split) <;> (try split) <;> omega
  have b1 : n ≤ 2 := by rw [← hn]; split <;> (try split) <;> (try split) <;> omega
  obtain ⟨g1, g2⟩ := go n hn b0 b1
  rw [hn] at HI
  have G1 := Lib.hid g1
  have G2 := Lib.hid g2
  clear g1 g2 go hn
  by_cases hlt : n < 0
  · go_enter Tryd.func40, Tryd.ntmps40
    go_wp2_with (go_at_call 49; refine (HI.out _).mono ?_; rintro e w1 ⟨rfl, rfl⟩)
    go_ret2
    have h1 := G1.out
    have h2 := G2.out
    rw [if_pos hlt] at h1
    rw [decide_eq_false (by omega)] at h2
    rw [← h1, ← h2]
    exact ⟨rfl, rfl⟩
  · go_enter Tryd.func40, Tryd.ntmps40
    go_wp2_with (go_at_call 49; refine (HI.out _).mono ?_; rintro e w1 ⟨rfl, rfl⟩)
    go_ret2
    have h1 := G1.out
    have h2 := G2.out
    rw [if_neg (by omega)] at h1
    rw [decide_eq_true (by omega)] at h2
    rw [← h1, ← h2]
    exact ⟨rfl, rfl⟩
end Go.Proofs.YtpmdkifnejkofaaDoor

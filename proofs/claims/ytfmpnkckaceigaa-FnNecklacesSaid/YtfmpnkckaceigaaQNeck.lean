/- Walks of laws: FnNecklaces. -/
import Derived.Test.YtfmpnkckaceigaaQC
import Derived.Test.YtfmpnkckaceigaaQI2
import Derived.Test.YtfmpnkckaceigaaQGd
import Derived.Test.YtfmpnkckaceigaaQNMath
import Derived.Test.YtfmpnkckaceigaaWSum
import Derived.Test.YtfmpnkckaceigaaWS4
import Derived.Test.YtfmpnkckaceigaaQS1
import Derived.Test.YtfmpnkckaceigaaLaw3
import Derived.Test.YtfmpnkckaceigaaRowL
import Derived.Test.YtfmpnkckaceigaaBOwn
import Derived.Test.YtfmpnkckaceigaaWVal
namespace Go.Proofs.Ytfmpnkckaceigaa
set_option maxRecDepth 20000
open Go.RowKit
namespace Tm
theorem sumT_low {xs ys : List Int} {k : Nat} (h : k ≤ xs.length) : sumT (xs ++ ys) k = sumT xs k := by
  induction k with
  | zero => rfl
  | succ k ih =>
    rw [sumT, sumT, ih (by omega)]
    congr 1
    rw [List.getD_eq_getElem?_getD, List.getElem?_append_left (by omega), ← List.getD_eq_getElem?_getD]
theorem sumT_high (xs ys : List Int) (k : Nat) : sumT (xs ++ ys) (xs.length + k) = sumT xs xs.length + sumT ys k := by
  induction k with
  | zero => rw [Nat.add_zero, sumT_low (Nat.le_refl _)]; simp [sumT]
  | succ k ih =>
    rw [← Nat.add_assoc, sumT, sumT, ih, Int.add_assoc]
    congr 2
    rw [List.getD_eq_getElem?_getD, List.getElem?_append_right (by omega), ← List.getD_eq_getElem?_getD]
    congr 1; omega
theorem sumW_rot {xs : List Int} (h : isW xs = true) {m : Nat} (hm : m ≤ xs.length) : sumW (rot xs m) = sumW xs := by
  rw [sumW, if_pos (isW_rot h m), sumW, if_pos h, rot_length]
  have a := sumT_high (xs.drop m) (xs.take m) m
  have b := sumT_high (xs.take m) (xs.drop m) (xs.length - m)
  rw [List.length_drop, show xs.length - m + m = xs.length from by omega] at a
  rw [List.length_take, Nat.min_eq_left hm, show m + (xs.length - m) = xs.length from by omega, List.take_append_drop] at b
  rw [rot, a, b, Int.add_comm]
def okL (k : Nat) (xs : List Int) : Bool := decide (1 ≤ xs.length) && decide (k % xs.length = 0) && lyn xs
def chkL (k : Nat) : List (List Int) → Bool
  | [] => true
  | [a] => okL k a
  | a :: b :: l => okL k a && decide (lexC a b < 0) && chkL k (b :: l)
theorem chkL_at {k : Nat} {L : List (List Int)} (h : chkL k L = true) : (∀ i, i < L.length → okL k (L.getD i []) = true) ∧ ∀ d, d + 1 < L.length → lexC (L.getD d []) (L.getD (d + 1) []) < 0 := by
  match L, h with
  | [], _ => exact ⟨fun i hi => by simp at hi, fun d hd => by simp at hd⟩
  | [a], h => exact ⟨fun i hi => by
                      have : i = 0 := by simpa using hi
                      subst this; exact h, fun d hd => by simp at hd⟩
  | a :: b :: l, h =>
    rw [chkL, Bool.and_eq_true, Bool.and_eq_true, decide_eq_true_eq] at h
    obtain ⟨h1, h2⟩ := chkL_at h.2
    refine ⟨fun i hi => ?_, fun d hd => ?_⟩
    · cases i with
      | zero => exact h.1.1
      | succ i => exact h1 i (by simpa using hi)
    · cases d with
      | zero => exact h.1.2
      | succ d => exact h2 d (by simpa using hd)
def lyL1 : List (List Int) := [[-1], [0], [1]]
theorem lyL1_eq : lyW 1 = lyL1 := by decide +kernel
theorem lyL1_ok : chkL 1 lyL1 = true ∧ lyL1.flatten.length = 3 := ⟨by decide +kernel, by decide +kernel⟩
def lyL2 : List (List Int) := [[-1], [-1, 0], [-1, 1], [0], [0, 1], [1]]
theorem lyL2_eq : lyW 2 = lyL2 := by decide +kernel
theorem lyL2_ok : chkL 2 lyL2 = true ∧ lyL2.flatten.length = 9 := ⟨by decide +kernel, by decide +kernel⟩
def lyL3 : List (List Int) := [[-1], [-1, -1, 0], [-1, -1, 1], [-1, 0, 0], [-1, 0, 1], [-1, 1, 0], [-1, 1, 1], [0], [0, 0, 1], [0, 1, 1], [1]]
theorem lyL3_eq : lyW 3 = lyL3 := by decide +kernel
theorem lyL3_ok : chkL 3 lyL3 = true ∧ lyL3.flatten.length = 27 := ⟨by decide +kernel, by decide +kernel⟩
def lyL4 : List (List Int) := [[-1], [-1, -1, -1, 0], [-1, -1, -1, 1], [-1, -1, 0, 0], [-1, -1, 0, 1], [-1, -1, 1, 0], [-1, -1, 1, 1], [-1, 0], [-1, 0, -1, 1], [-1, 0, 0, 0], [-1, 0, 0, 1], [-1, 0, 1, 0], [-1, 0, 1, 1], [-1, 1], [-1, 1, 0, 0], [-1, 1, 0, 1], [-1, 1, 1, 0], [-1, 1, 1, 1], [0], [0, 0, 0, 1], [0, 0, 1, 1], [0, 1], [0, 1, 1, 1], [1]]
theorem lyL4_eq : lyW 4 = lyL4 := by decide +kernel
theorem lyL4_ok : chkL 4 lyL4 = true ∧ lyL4.flatten.length = 81 := ⟨by decide +kernel, by decide +kernel⟩
def lyL5 : List (List Int) := [[-1], [-1, -1, -1, -1, 0], [-1, -1, -1, -1, 1], [-1, -1, -1, 0, 0], [-1, -1, -1, 0, 1], [-1, -1, -1, 1, 0], [-1, -1, -1, 1, 1], [-1, -1, 0, -1, 0], [-1, -1, 0, -1, 1], [-1, -1, 0, 0, 0], [-1, -1, 0, 0, 1], [-1, -1, 0, 1, 0], [-1, -1, 0, 1, 1], [-1, -1, 1, -1, 0], [-1, -1, 1, -1, 1], [-1, -1, 1, 0, 0], [-1, -1, 1, 0, 1], [-1, -1, 1, 1, 0], [-1, -1, 1, 1, 1], [-1, 0, -1, 0, 0], [-1, 0, -1, 0, 1], [-1, 0, -1, 1, 0], [-1, 0, -1, 1, 1], [-1, 0, 0, -1, 1], [-1, 0, 0, 0, 0], [-1, 0, 0, 0, 1], [-1, 0, 0, 1, 0], [-1, 0, 0, 1, 1], [-1, 0, 1, -1, 1], [-1, 0, 1, 0, 0], [-1, 0, 1, 0, 1], [-1, 0, 1, 1, 0], [-1, 0, 1, 1, 1], [-1, 1, -1, 1, 0], [-1, 1, -1, 1, 1], [-1, 1, 0, 0, 0], [-1, 1, 0, 0, 1], [-1, 1, 0, 1, 0], [-1, 1, 0, 1, 1], [-1, 1, 1, 0, 0], [-1, 1, 1, 0, 1], [-1, 1, 1, 1, 0], [-1, 1, 1, 1, 1], [0], [0, 0, 0, 0, 1], [0, 0, 0, 1, 1], [0, 0, 1, 0, 1], [0, 0, 1, 1, 1], [0, 1, 0, 1, 1], [0, 1, 1, 1, 1], [1]]
theorem lyL5_eq : lyW 5 = lyL5 := by decide +kernel
theorem lyL5_ok : chkL 5 lyL5 = true ∧ lyL5.flatten.length = 243 := ⟨by decide +kernel, by decide +kernel⟩
def lyL6 : List (List Int) := [[-1], [-1, -1, -1, -1, -1, 0], [-1, -1, -1, -1, -1, 1], [-1, -1, -1, -1, 0, 0], [-1, -1, -1, -1, 0, 1], [-1, -1, -1, -1, 1, 0], [-1, -1, -1, -1, 1, 1], [-1, -1, -1, 0, -1, 0], [-1, -1, -1, 0, -1, 1], [-1, -1, -1, 0, 0, 0], [-1, -1, -1, 0, 0, 1], [-1, -1, -1, 0, 1, 0], [-1, -1, -1, 0, 1, 1], [-1, -1, -1, 1, -1, 0], [-1, -1, -1, 1, -1, 1], [-1, -1, -1, 1, 0, 0], [-1, -1, -1, 1, 0, 1], [-1, -1, -1, 1, 1, 0], [-1, -1, -1, 1, 1, 1], [-1, -1, 0], [-1, -1, 0, -1, -1, 1], [-1, -1, 0, -1, 0, 0], [-1, -1, 0, -1, 0, 1], [-1, -1, 0, -1, 1, 0], [-1, -1, 0, -1, 1, 1], [-1, -1, 0, 0, -1, 0], [-1, -1, 0, 0, -1, 1], [-1, -1, 0, 0, 0, 0], [-1, -1, 0, 0, 0, 1], [-1, -1, 0, 0, 1, 0], [-1, -1, 0, 0, 1, 1], [-1, -1, 0, 1, -1, 0], [-1, -1, 0, 1, -1, 1], [-1, -1, 0, 1, 0, 0], [-1, -1, 0, 1, 0, 1], [-1, -1, 0, 1, 1, 0], [-1, -1, 0, 1, 1, 1], [-1, -1, 1], [-1, -1, 1, -1, 0, 0], [-1, -1, 1, -1, 0, 1], [-1, -1, 1, -1, 1, 0], [-1, -1, 1, -1, 1, 1], [-1, -1, 1, 0, -1, 0], [-1, -1, 1, 0, -1, 1], [-1, -1, 1, 0, 0, 0], [-1, -1, 1, 0, 0, 1], [-1, -1, 1, 0, 1, 0], [-1, -1, 1, 0, 1, 1], [-1, -1, 1, 1, -1, 0], [-1, -1, 1, 1, -1, 1], [-1, -1, 1, 1, 0, 0], [-1, -1, 1, 1, 0, 1], [-1, -1, 1, 1, 1, 0], [-1, -1, 1, 1, 1, 1], [-1, 0], [-1, 0, -1, 0, -1, 1], [-1, 0, -1, 0, 0, 0], [-1, 0, -1, 0, 0, 1], [-1, 0, -1, 0, 1, 0], [-1, 0, -1, 0, 1, 1], [-1, 0, -1, 1, -1, 1], [-1, 0, -1, 1, 0, 0], [-1, 0, -1, 1, 0, 1], [-1, 0, -1, 1, 1, 0], [-1, 0, -1, 1, 1, 1], [-1, 0, 0], [-1, 0, 0, -1, 0, 1], [-1, 0, 0, -1, 1, 0], [-1, 0, 0, -1, 1, 1], [-1, 0, 0, 0, -1, 1], [-1, 0, 0, 0, 0, 0], [-1, 0, 0, 0, 0, 1], [-1, 0, 0, 0, 1, 0], [-1, 0, 0, 0, 1, 1], [-1, 0, 0, 1, -1, 1], [-1, 0, 0, 1, 0, 0], [-1, 0, 0, 1, 0, 1], [-1, 0, 0, 1, 1, 0], [-1, 0, 0, 1, 1, 1], [-1, 0, 1], [-1, 0, 1, -1, 1, 0], [-1, 0, 1, -1, 1, 1], [-1, 0, 1, 0, -1, 1], [-1, 0, 1, 0, 0, 0], [-1, 0, 1, 0, 0, 1], [-1, 0, 1, 0, 1, 0], [-1, 0, 1, 0, 1, 1], [-1, 0, 1, 1, -1, 1], [-1, 0, 1, 1, 0, 0], [-1, 0, 1, 1, 0, 1], [-1, 0, 1, 1, 1, 0], [-1, 0, 1, 1, 1, 1], [-1, 1], [-1, 1, -1, 1, 0, 0], [-1, 1, -1, 1, 0, 1], [-1, 1, -1, 1, 1, 0], [-1, 1, -1, 1, 1, 1], [-1, 1, 0], [-1, 1, 0, -1, 1, 1], [-1, 1, 0, 0, 0, 0], [-1, 1, 0, 0, 0, 1], [-1, 1, 0, 0, 1, 0], [-1, 1, 0, 0, 1, 1], [-1, 1, 0, 1, 0, 0], [-1, 1, 0, 1, 0, 1], [-1, 1, 0, 1, 1, 0], [-1, 1, 0, 1, 1, 1], [-1, 1, 1], [-1, 1, 1, 0, 0, 0], [-1, 1, 1, 0, 0, 1], [-1, 1, 1, 0, 1, 0], [-1, 1, 1, 0, 1, 1], [-1, 1, 1, 1, 0, 0], [-1, 1, 1, 1, 0, 1], [-1, 1, 1, 1, 1, 0], [-1, 1, 1, 1, 1, 1], [0], [0, 0, 0, 0, 0, 1], [0, 0, 0, 0, 1, 1], [0, 0, 0, 1, 0, 1], [0, 0, 0, 1, 1, 1], [0, 0, 1], [0, 0, 1, 0, 1, 1], [0, 0, 1, 1, 0, 1], [0, 0, 1, 1, 1, 1], [0, 1], [0, 1, 0, 1, 1, 1], [0, 1, 1], [0, 1, 1, 1, 1, 1], [1]]
theorem lyL6_eq : lyW 6 = lyL6 := by decide +kernel
theorem lyL6_ok : chkL 6 lyL6 = true ∧ lyL6.flatten.length = 729 := ⟨by decide +kernel, by decide +kernel⟩
theorem ly_facts {k : Nat} (h1 : 1 ≤ k) (h6 : k ≤ 6) : ((lyW (k : Int)).flatten.length : Int) = pow3 k ∧ (∀ i, i < (lyW (k : Int)).length → 1 ≤ ((lyW (k : Int)).getD i []).length ∧ k % ((lyW (k : Int)).getD i []).length = 0 ∧ lyn ((lyW (k : Int)).getD i []) = true) ∧ ∀ d, d + 1 < (lyW (k : Int)).length → lexC ((lyW (k : Int)).getD d []) ((lyW (k : Int)).getD (d + 1) []) < 0 := by
  have go : ∀ (L : List (List Int)), chkL k L = true → (∀ i, i < L.length → 1 ≤ (L.getD i []).length ∧ k % (L.getD i []).length = 0 ∧ lyn (L.getD i []) = true) ∧ ∀ d, d + 1 < L.length → lexC (L.getD d []) (L.getD (d + 1) []) < 0 := fun L h => by
    obtain ⟨a, b⟩ := chkL_at h
    refine ⟨fun i hi => ?_, b⟩
    have := a i hi
    simp only [okL, Bool.and_eq_true, decide_eq_true_eq] at this
    exact ⟨this.1.1, this.1.2, this.2⟩
  have : k = 1 ∨ k = 2 ∨ k = 3 ∨ k = 4 ∨ k = 5 ∨ k = 6 := by omega
  rcases this with rfl | rfl | rfl | rfl | rfl | rfl
  · rw [show (((1 : Nat) : Int)) = 1 from rfl, lyL1_eq]; exact ⟨by rw [lyL1_ok.2]; rfl, go _ lyL1_ok.1⟩
  · rw [show (((2 : Nat) : Int)) = 2 from rfl, lyL2_eq]; exact ⟨by rw [lyL2_ok.2]; rfl, go _ lyL2_ok.1⟩
  · rw [show (((3 : Nat) : Int)) = 3 from rfl, lyL3_eq]; exact ⟨by rw [lyL3_ok.2]; rfl, go _ lyL3_ok.1⟩
  · rw [show (((4 : Nat) : Int)) = 4 from rfl, lyL4_eq]; exact ⟨by rw [lyL4_ok.2]; rfl, go _ lyL4_ok.1⟩
  · rw [show (((5 : Nat) : Int)) = 5 from rfl, lyL5_eq]; exact ⟨by rw [lyL5_ok.2]; rfl, go _ lyL5_ok.1⟩
  · rw [show (((6 : Nat) : Int)) = 6 from rfl, lyL6_eq]; exact ⟨by rw [lyL6_ok.2]; rfl, go _ lyL6_ok.1⟩
end Tm
set_option maxHeartbeats 4000000 in
theorem wFnNecklaces (a0 : Option Addr) (len0 cap0 : Nat) (z0 : List Int) (w : World) (w0 : IsRow .u8 w a0 len0 cap0 z0) : Calls Try.prog 14 #[.slice a0 len0 cap0] w fun e w' => e = .returned (.bool true) ∧ Below w.heap.size w w' := by
  have BY := Lib.hid (Byts.of_row w0)
  have m0 : len0 ≤ 9223372036854775807 := by obtain ⟨h1, h2, _⟩ := BY.out; unfold maxLen at h2; omega
  clear w0
  have B := Lib.hid (Below.refl w.heap.size w)
  by_cases g0 : len0 ≤ 1048576
  · skip
    go_enter Try.func14, Try.ntmps14
    go_wp2_with fail
    refine (makeWord_any a0 len0 cap0 14 _ BY.out (by omega) (by omega) (by omega)).mono ?_
    rintro e w0 ⟨ws, b0, c0, rfl, hw, hp, ho, hb⟩
    have hsz := hb.size
    replace BY := Lib.hid (BY.out.below hb)
    replace B := Lib.hid (B.out.trans (hb.mono B.out.size))
    clear hb hsz
    have I_ws := Lib.hid (Ints.of_own ho)
    clear ho
    have W_ws := Lib.hid hw
    have ws_1 := Tm.isW_pos hw
    have ws_2 : ws.length ≤ 14 := by omega
    clear hw hp
    have WLt : 1 ≤ ws.length := ws_1
    go_wp2_with fail
    refine (retI_ex (iNecklaceOf b0 ws.length c0 ws _ I_ws.out)).mono ?_
    rintro e w1 ⟨ns, b1, c1, hv, rfl, ho, hb, ln1⟩
    have H_ns : Hid (ns = Tm.nk ws) := Lib.hid hv
    have hsz := hb.size
    replace I_ws := Lib.hid (I_ws.out.below hb)
    replace BY := Lib.hid (BY.out.below hb)
    replace B := Lib.hid (B.out.trans (hb.mono B.out.size))
    clear hb hsz
    have I_ns := Lib.hid (Ints.of_own ho)
    clear ho hv
    have LN : Hid (ns.length = ws.length) := Lib.hid (by rw [H_ns.out, Tm.nk_length W_ws.out])
    have q1 : ((ns.length : Int) != (ws.length : Int)) = false := by rw [LN.out]; simp
    go_wp2_with fail
    refine (at_any a0 len0 cap0 1 _ BY.out (by omega) (by omega) (by omega)).mono ?_
    rintro e w' ⟨x, rfl, x_0, x_1, rfl⟩
    obtain ⟨b, hxb⟩ : ∃ b, x - 100 = b := ⟨_, rfl⟩
    have b_0 : -100 ≤ b := by omega
    have b_1 : b ≤ 155 := by omega
    go_wp2_with fail
    refine (retI_ex (iRotateWord b0 ws.length c0 ws b _ I_ws.out)).mono ?_
    rintro e w2 ⟨ts, b2, c2, hv, rfl, ho, hb, ln2⟩
    have H_ts : Hid (ts = Tm.rotW ws b) := Lib.hid hv
    have hsz := hb.size
    replace I_ws := Lib.hid (I_ws.out.below hb)
    replace I_ns := Lib.hid (I_ns.out.below hb)
    replace BY := Lib.hid (BY.out.below hb)
    replace B := Lib.hid (B.out.trans (hb.mono B.out.size))
    clear hb hsz
    have I_ts := Lib.hid (Ints.of_own ho)
    clear ho hv
    have RM := Lib.hid (Tm.rotM_lt ws_1 b)
    have ET : Hid (ts = Tm.rot ws (Tm.rotM ws b)) := Lib.hid (by rw [H_ts.out, Tm.rotW, if_pos W_ws.out])
    have W_ts : Hid (Tm.isW ts = true) := Lib.hid (by rw [ET.out]; exact Tm.isW_rot W_ws.out _)
    have LT : Hid (ts.length = ws.length) := Lib.hid (by rw [ET.out, Tm.rot_length])
    go_wp2_with fail
    refine (retI_ex (iNecklaceOf b2 ts.length c2 ts _ I_ts.out)).mono ?_
    rintro e w3 ⟨n2, b3, c3, hv, rfl, ho, hb, ln3⟩
    have H_n2 : Hid (n2 = Tm.nk ts) := Lib.hid hv
    have hsz := hb.size
    replace I_ws := Lib.hid (I_ws.out.below hb)
    replace I_ns := Lib.hid (I_ns.out.below hb)
    replace I_ts := Lib.hid (I_ts.out.below hb)
    replace BY := Lib.hid (BY.out.below hb)
    replace B := Lib.hid (B.out.trans (hb.mono B.out.size))
    clear hb hsz
    have I_n2 := Lib.hid (Ints.of_own ho)
    clear ho hv
    go_wp2_with fail
    refine (ints_any b3 b1 n2.length ns.length c3 c1 n2 ns _ I_n2.out I_ns.out).mono ?_
    rintro e w4 ⟨h0, hb⟩
    rw [decide_eq_true (show n2 = ns from by rw [H_n2.out, H_ns.out, ET.out, Tm.nk_rot W_ws.out RM.out])] at h0
    subst h0
    have hsz := hb.size
    replace I_ws := Lib.hid (I_ws.out.below hb)
    replace I_ns := Lib.hid (I_ns.out.below hb)
    replace I_ts := Lib.hid (I_ts.out.below hb)
    replace I_n2 := Lib.hid (I_n2.out.below hb)
    replace BY := Lib.hid (BY.out.below hb)
    replace B := Lib.hid (B.out.trans (hb.mono B.out.size))
    clear hb hsz
    clear I_n2
    go_wp2_with fail
    refine (retI_ex (iNecklaceOf b1 ns.length c1 ns _ I_ns.out)).mono ?_
    rintro e w5 ⟨n3, b5, c5, hv, rfl, ho, hb, ln5⟩
    have H_n3 : Hid (n3 = Tm.nk ns) := Lib.hid hv
    have hsz := hb.size
    replace I_ws := Lib.hid (I_ws.out.below hb)
    replace I_ns := Lib.hid (I_ns.out.below hb)
    replace I_ts := Lib.hid (I_ts.out.below hb)
    replace BY := Lib.hid (BY.out.below hb)
    replace B := Lib.hid (B.out.trans (hb.mono B.out.size))
    clear hb hsz
    have I_n3 := Lib.hid (Ints.of_own ho)
    clear ho hv
    go_wp2_with fail
    refine (ints_any b5 b1 n3.length ns.length c5 c1 n3 ns _ I_n3.out I_ns.out).mono ?_
    rintro e w6 ⟨h0, hb⟩
    rw [decide_eq_true (show n3 = ns from by rw [H_n3.out, H_ns.out, Tm.nk_nk W_ws.out])] at h0
    subst h0
    have hsz := hb.size
    replace I_ws := Lib.hid (I_ws.out.below hb)
    replace I_ns := Lib.hid (I_ns.out.below hb)
    replace I_ts := Lib.hid (I_ts.out.below hb)
    replace I_n3 := Lib.hid (I_n3.out.below hb)
    replace BY := Lib.hid (BY.out.below hb)
    replace B := Lib.hid (B.out.trans (hb.mono B.out.size))
    clear hb hsz
    clear I_n3
    go_wp2_with fail
    refine (retI_ex (iRotateWord b2 ts.length c2 ts (-b) _ I_ts.out)).mono ?_
    rintro e w7 ⟨w2, b7, c7, hv, rfl, ho, hb, ln7⟩
    have H_w2 : Hid (w2 = Tm.rotW ts (-b)) := Lib.hid hv
    have hsz := hb.size
    replace I_ws := Lib.hid (I_ws.out.below hb)
    replace I_ns := Lib.hid (I_ns.out.below hb)
    replace I_ts := Lib.hid (I_ts.out.below hb)
    replace BY := Lib.hid (BY.out.below hb)
    replace B := Lib.hid (B.out.trans (hb.mono B.out.size))
    clear hb hsz
    have I_w2 := Lib.hid (Ints.of_own ho)
    clear ho hv
    go_wp2_with fail
    refine (ints_any b7 b0 w2.length ws.length c7 c0 w2 ws _ I_w2.out I_ws.out).mono ?_
    rintro e w8 ⟨h0, hb⟩
    rw [decide_eq_true (show w2 = ws from by rw [H_w2.out, H_ts.out, Tm.rot_back W_ws.out])] at h0
    subst h0
    have hsz := hb.size
    replace I_ws := Lib.hid (I_ws.out.below hb)
    replace I_ns := Lib.hid (I_ns.out.below hb)
    replace I_ts := Lib.hid (I_ts.out.below hb)
    replace I_w2 := Lib.hid (I_w2.out.below hb)
    replace BY := Lib.hid (BY.out.below hb)
    replace B := Lib.hid (B.out.trans (hb.mono B.out.size))
    clear hb hsz
    clear I_w2
    go_wp2_with fail
    refine (iSumOf b2 ts.length c2 ts _ I_ts.out).mono ?_
    rintro e w' ⟨h0, rfl⟩
    obtain ⟨s1, hv⟩ : ∃ r_, r_ = Tm.sumW ts := ⟨_, rfl⟩
    rw [← hv] at h0
    subst h0
    have H_s1 : Hid (s1 = Tm.sumW ts) := Lib.hid hv
    clear hv
    go_wp2_with fail
    refine (iSumOf b0 ws.length c0 ws _ I_ws.out).mono ?_
    rintro e w' ⟨h0, rfl⟩
    obtain ⟨s2, hv⟩ : ∃ r_, r_ = Tm.sumW ws := ⟨_, rfl⟩
    rw [← hv] at h0
    subst h0
    have H_s2 : Hid (s2 = Tm.sumW ws) := Lib.hid hv
    clear hv
    have es : (s1 != s2) = false := by rw [H_s1.out, H_s2.out, ET.out, Tm.sumW_rot W_ws.out (by have := RM.out; omega)]; simp
    clear hxb
    clear I_ts
    obtain ⟨i0, hi, hz0, hz1, hz2⟩ := info_parts infoInt
    cases hly : Tm.lyn ws with
    | false =>
      have HY := Lib.hid (fun w h => iIsLyndon b0 ws.length c0 ws w h)
      rw [hly] at HY
      go_wp2_with fail
      refine (HY.out _ I_ws.out).mono ?_
      rintro e w9 ⟨rfl, hb⟩
      clear HY
      have hsz := hb.size
      replace I_ws := Lib.hid (I_ws.out.below hb)
      replace I_ns := Lib.hid (I_ns.out.below hb)
      replace BY := Lib.hid (BY.out.below hb)
      replace B := Lib.hid (B.out.trans (hb.mono B.out.size))
      clear hb hsz
      clear hly
      clear I_ns
      rcases I_ws.out.2.2.2 with h0 | ⟨b5, o5, rfl, hbl5, -⟩
      · omega
      have cu := I_ws.out.2.1
      have LD : Hid (Tm.lyn (ws ++ ws) = false) := Lib.hid (Tm.lyn_double ws_1)
      go_wp2_with (refine wpList_append_gd _ rfl _ _ 22 rfl w9.heap.size 3 i0 (.int .i64 0) 1 8 Try.underlying22 hi hz0 hz1 hz2 rfl (by decide) _ _ _ rfl (own_empty w9 _ _ (Nat.le_refl _)) ⟨b5, o5, none⟩ ws.length c0 (ws.map (Value.int .i64)) rfl (by simp) (I_ws.out.alloc _).newsAt (news_one _) (by unfold maxLen; omega) (by omega) (by simp) ?_)
      intro v' w10 hown' hgrow _
      have BA : Hid (Below w9.heap.size w9 w10) := Lib.hid (((Below.refl w9.heap.size w9).alloc (Nat.le_refl _) _).grown hgrow (by simp) (fun k hk => by simp [Value.ownBlock] at hk; omega))
      try rw [Nat.zero_add] at hown'
      try rw [List.nil_append] at hown'
      obtain ⟨a6, c6, rfl⟩ := own_form hown'
      have OA := Lib.hid hown'
      have IA := Lib.hid (I_ws.out.below BA.out)
      have hsA := BA.out.size
      clear hown' hgrow
      go_wp2_with (refine wpList_append_gd _ rfl _ _ 22 rfl w9.heap.size 3 i0 (.int .i64 0) 1 8 Try.underlying22 hi hz0 hz1 hz2 rfl (by decide) _ _ _ rfl OA.out ⟨b5, o5, none⟩ ws.length c0 (ws.map (Value.int .i64)) rfl (by simp) IA.out.newsAt (news_one _) (by unfold maxLen; omega) (by omega) hsA ?_)
      intro v' w11 hown' hgrow _
      have hb : Below w9.heap.size w9 w11 := BA.out.grown hgrow hsA (fun k hk => (OA.out.lt k hk).1)
      rw [← List.map_append] at hown'
      have h7 : w11.ownsRow w9.heap.size 3 1 v' (ws ++ ws).length ((ws ++ ws).map (Value.int .i64)) := by rw [List.length_append]; exact hown'
      obtain ⟨a7, c7, rfl⟩ := own_form h7
      have I7 := Lib.hid (Ints.of_own h7)
      clear hown' hgrow h7 OA BA IA hsA
      have hsz := hb.size
      replace I_ws := Lib.hid (I_ws.out.below hb)
      replace BY := Lib.hid (BY.out.below hb)
      replace B := Lib.hid (B.out.trans (hb.mono B.out.size))
      clear hb hsz
      have HS := Lib.hid (iIsLyndon a7 (ws ++ ws).length c7 (ws ++ ws) w11 I7.out)
      rw [LD.out, List.length_append] at HS
      clear I7
      go_wp2_with fail
      refine HS.out.mono ?_
      rintro e w12 ⟨rfl, hb⟩
      clear HS
      have hsz := hb.size
      replace I_ws := Lib.hid (I_ws.out.below hb)
      replace BY := Lib.hid (BY.out.below hb)
      replace B := Lib.hid (B.out.trans (hb.mono B.out.size))
      clear hb hsz
      go_wp2_with fail
      refine (at_any a0 len0 cap0 2 _ BY.out (by omega) (by omega) (by omega)).mono ?_
      rintro e w' ⟨y, rfl, y_0, y_1, rfl⟩
      obtain ⟨j, hj⟩ : ∃ j : Nat, y.tmod 6 = (j : Int) := ⟨_, (Int.toNat_of_nonneg (Int.tmod_nonneg _ y_0)).symm⟩
      have j_lt : j < 6 := by have := Int.tmod_lt_of_pos y (show (0 : Int) < 6 by omega); omega
      obtain ⟨K, hK⟩ : ∃ K : Nat, K = j + 1 := ⟨_, rfl⟩
      have K1 : 1 ≤ K := by omega
      have K6 : K ≤ 6 := by omega
      go_wp2_with fail
      rw [show (1 + (j : Int)) = ((K : Nat) : Int) from by omega]
      have hok := show Tm.lyOk (K : Int) = true from (Tm.inB_iff _ _ _).2 (by omega)
      refine (retLB_ex (iLyndonWords (K : Int) _) hok).mono ?_
      clear hok
      rintro e w13 ⟨rs, b13, c13, hv, rfl, hr, hb⟩
      have H_rs : Hid (rs = Tm.lyW (K : Int)) := Lib.hid hv
      have hsz := hb.size
      replace I_ws := Lib.hid (I_ws.out.below hb)
      replace BY := Lib.hid (BY.out.below hb)
      replace B := Lib.hid (B.out.trans (hb.mono B.out.size))
      clear hb hsz
      have R_rs := Lib.hid hr
      clear hr hv
      clear hK hj j_lt
      obtain ⟨ls, lf, ll⟩ := Tm.ly_facts K1 K6
      rw [← H_rs.out] at ls lf ll
      have RL := Tm.lyW_length (K : Int)
      rw [← H_rs.out] at RL
      have LS := Lib.hid ls
      have LF := Lib.hid lf
      have LL := Lib.hid ll
      have L7 : Hid (∀ z ∈ rs, z.length ≤ 7) := Lib.hid (fun z hz => (Tm.lyW_mem (k := (K : Int)) (by rw [← H_rs.out]; exact hz)).2.1)
      have FL := Lib.hid (Tm.flatN_len L7.out)
      have MP := Lib.hid (fun w => makePower K w (by omega))
      clear ls lf ll
      have rm := R_rs.out.2.2.1
      unfold maxLen at rm
      have rc := R_rs.out.2.1
      obtain ⟨wb, hwb⟩ : ∃ wb, wb = w13 := ⟨_, rfl⟩
      go_wp2_with fail
      go_loopw [10, 92] (fun sv iv wr => ∃ (i : Nat), i ≤ rs.length ∧ iv = .int .i64 i ∧ sv = .int .i64 ((Tm.flatN rs i).length : Int) ∧ Hid (Below w13.heap.size w13 wr)) (fun _ iv _ => rs.length - (intOf iv).toNat)
      case atStart => exact ⟨0, by omega, rfl, by rw [Tm.flatN_zero]; rfl, Lib.hid (by (repeat' (first | (with_reducible exact Below.refl _ _) | (with_reducible assumption) | (with_reducible refine below_drewN ?_ _) | (with_reducible refine Below.drew ?_) | (with_reducible refine Below.alloc ?_ ?_ _) | (with_reducible refine Below.setCell ?_ ?_ _) | (with_reducible refine below_gw ?_ ?_ _) | (with_reducible refine below_via ?_ ‹Below _ _ _› ?_) | (with_reducible exact Nat.le_refl _) | (with_reducible refine le_gw ?_ _) | (with_reducible refine le_alloc ?_ _) | (with_reducible refine le_setCell ?_ _ _) | (with_reducible refine le_drew ?_) | (with_reducible refine le_drewN ?_ _) | go_size)))⟩
      case round =>
        obtain ⟨i, hi', rfl, rfl, BB⟩ := hrel
        have hs := BB.out.size
        have FI := FL.out i
        by_cases hlt : i < rs.length
        · have RB := Lib.hid (R_rs.out.below BB.out)
          rcases RB.out.2.2.2 with h0 | ⟨b8, o8, rfl, hbl8, hc8⟩
          · omega
          obtain ⟨ax, mx, cx, zx, jx⟩ := hc8 i hlt
          have FS : Hid ((Tm.flatN rs (i + 1)).length = (Tm.flatN rs i).length + (rs.getD i []).length) := Lib.hid (by rw [Tm.flatN_succ hlt, List.length_append])
          obtain ⟨x1, xk, xl⟩ := LF.out i hlt
          have x7 := L7.out (rs.getD i []) (by rw [List.getD_eq_getElem?_getD, List.getElem?_eq_getElem hlt]; exact List.getElem_mem hlt)
          have LX : Hid (∀ d, i = d + 1 → Tm.lexC (rs.getD d []) (rs.getD i []) < 0) := Lib.hid (fun d e => by subst e; exact LL.out d hlt)
          obtain ⟨X, hX⟩ : ∃ X, X = rs.getD i [] := ⟨_, rfl⟩
          rw [← hX] at jx FS x1 xk xl x7 LX
          obtain rfl : mx = X.length := jx.1.symm
          have JX := Lib.hid jx
          have e1 : (K : Int).tmod (X.length : Int) = 0 := by rw [Int.tmod_eq_emod_of_nonneg (by omega)]; omega
          have e2 : (K : Int) % (X.length : Int) = 0 := by omega
          have nz : ¬ ((X.length : Int) = 0) := by omega
          have nz2 : ((X.length : Int) == 0) = false := by rw [beq_eq_false_iff_ne]; exact nz
          have xn : X ≠ [] := by intro e; subst e; simp at x1
          have HSX := Lib.hid (iIsLyndon ax X.length cx X wr JX.out)
          rw [xl] at HSX
          obtain ⟨S0, hS0⟩ : ∃ S0, S0 = (Tm.flatN rs i).length := ⟨_, rfl⟩
          rw [← hS0] at FS FI ⊢
          have CL := Lib.hid hc8
          clear hX jx xk xl hS0 hc8
          go_wp2_with fail
          refine HSX.out.mono ?_
          rintro e wy ⟨rfl, hb⟩
          have B2 := Lib.hid (BB.out.trans (hb.mono hs))
          have JY := Lib.hid (JX.out.below hb)
          have hsy := hb.size
          rcases Nat.eq_zero_or_pos i with h0 | h0
          · subst h0
            clear hb HSX JX BB CL
            go_wp2
            exact ⟨⟨1, by omega, rfl, val_int (by rw [FS.out]; omega), B2⟩, by simp [intOf]; omega⟩
          · obtain ⟨d, rfl⟩ : ∃ d, i = d + 1 := ⟨i - 1, by omega⟩
            obtain ⟨al, ml, cl, zl, jl⟩ := CL.out d (by omega)
            have zl2 : wy.cell? ⟨b8, o8 + d, none⟩ = some (.slice al ml cl) := by rw [hb.cell (p := ⟨b8, o8 + d, none⟩) hbl8]; exact zl
            have hl8 : b8 < wy.heap.size := by omega
            have LXD := LX.out d rfl
            have l7 := L7.out (rs.getD d []) (by rw [List.getD_eq_getElem?_getD, List.getElem?_eq_getElem (show d < rs.length by omega)]; exact List.getElem_mem _)
            obtain ⟨Y, hY⟩ : ∃ Y, Y = rs.getD d [] := ⟨_, rfl⟩
            rw [← hY] at jl LXD l7
            obtain rfl : ml = Y.length := jl.1.symm
            have JL := Lib.hid (jl.below hb)
            have LXH := Lib.hid LXD
            have d1 : ((d : Int) + 1 == 0) = false := by rw [beq_eq_false_iff_ne]; omega
            have d2 : ¬ ((d : Int) + 1 = 0) := by omega
            have d3 : IntKind.i64.wrap ((d : Int) + 1 - 1) = (d : Int) := by rw [IntWalk.i64_in _ (by omega)]; omega
            have d4 : (d : Int) + 1 - 1 = (d : Int) := by omega
            have d5 : IntKind.i64.wrap (d : Int) = (d : Int) := IntWalk.i64_in _ (by omega)
            have dl : d < rs.length := by omega
            clear hb HSX JX BB CL zl jl hY LXD LX zx RB
            go_wp2_with fail
            go_loopw [14] (fun pv wr => ∃ (p d' : Nat), p ≤ Y.length ∧ p ≤ X.length ∧ pv = .int .i64 p ∧ Hid (∀ q, q < p → Y.getD q 0 = X.getD q 0) ∧ wr = World.drewN wy d') (fun pv _ => Y.length - (intOf pv).toNat)
            case atStart => exact ⟨0, 0, by omega, by omega, rfl, Lib.hid (fun q hq => by omega), rfl⟩
            case round =>
              obtain ⟨p, d', hpY, hpX, rfl, SM, rfl⟩ := hrel
              have fin : ∀ (he : p < Y.length → p < X.length → Y.getD p 0 ≠ X.getD p 0), p < X.length ∧ (p < Y.length → Y.getD p 0 < X.getD p 0) := fun he => Tm.lex_first LXH.out hpY hpX SM.out he
              have B3 := Lib.hid (fun n => below_drewN B2.out n)
              by_cases py : p < Y.length
              · have px : p < X.length := by
                  rcases Nat.lt_or_ge p X.length with h | h
                  · exact h
                  · exact (fin (fun _ h2 => by omega)).1
                rcases JL.out.2.2.2 with h9 | ⟨bl, ol, rfl, hbl, hcl⟩
                · omega
                rcases JY.out.2.2.2 with h9 | ⟨bx, ox, rfl, hbx, hcx⟩
                · omega
                have c1 := hcl p py
                have c2 := hcx p px
                have q3 : ((p : Int) == (X.length : Int)) = false := by rw [beq_eq_false_iff_ne]; omega
                have FN : Hid (Y.getD p 0 ≠ X.getD p 0 → Y.getD p 0 < X.getD p 0) := Lib.hid (fun h => (fin (fun _ _ => h)).2 py)
                have SM2 : Hid (Y.getD p 0 = X.getD p 0 → ∀ q, q < p + 1 → Y.getD q 0 = X.getD q 0) := Lib.hid (fun h q hq => by
                  by_cases e : q = p
                  · subst e; exact h
                  · exact SM.out q (by omega))
                obtain ⟨u, hu⟩ : ∃ u, u = Y.getD p 0 := ⟨_, rfl⟩
                obtain ⟨v, hv⟩ : ∃ v, v = X.getD p 0 := ⟨_, rfl⟩
                rw [← hu] at c1 FN SM2
                rw [← hv] at c2 FN SM2
                clear hcl hcx hu hv fin SM
                by_cases euv : u = v
                · have S3 := Lib.hid (SM2.out euv)
                  have ee : (u == v) = true := by simpa using euv
                  clear FN SM2 euv
                  go_wp2
                  go_quiet (fail)
                  go_wp2
                  exact ⟨⟨p + 1, _, by omega, by omega, by go_num, S3, rfl⟩, by simp [intOf]; omega⟩
                · have lt := FN.out euv
                  have ee : (u == v) = false := by simpa using euv
                  have gg : ¬ (v < u) := by omega
                  clear FN SM2 euv
                  go_wp2
                  go_quiet (fail)
                  go_wp2
                  go_quiet (fail)
                  go_wp2
                  exact ⟨⟨d + 1 + 1, by omega, by go_num, val_int (by rw [FS.out]; omega), Lib.hid (B3.out _)⟩, by simp [intOf]; omega⟩
              · have px : p < X.length := (fin (fun h => absurd h py)).1
                have q3 : ((p : Int) == (X.length : Int)) = false := by rw [beq_eq_false_iff_ne]; omega
                clear fin SM
                go_wp2
                go_quiet (fail)
                go_wp2
                go_quiet (fail)
                go_wp2
                exact ⟨⟨d + 1 + 1, by omega, by go_num, val_int (by rw [FS.out]; omega), Lib.hid (B3.out _)⟩, by simp [intOf]; omega⟩
        · obtain rfl : i = rs.length := by omega
          have SE : Hid (((Tm.flatN rs rs.length).length : Int) = Tm.pow3 K) := Lib.hid (by rw [Tm.flatN_all]; exact LS.out)
          have BX := Lib.hid (B.out.trans (BB.out.mono B.out.size))
          obtain ⟨S1, hS1⟩ : ∃ S1, S1 = (Tm.flatN rs rs.length).length := ⟨_, rfl⟩
          rw [← hS1] at SE ⊢
          have MPX := Lib.hid (MP.out wr)
          rw [← SE.out] at MPX
          clear hS1
          go_wp2_with fail
          refine MPX.out.mono ?_
          rintro e w' ⟨rfl, rfl⟩
          go_wp2
          go_ret
          exact ⟨by simp, BX.out⟩
    | true =>
      have HY := Lib.hid (fun w h => iIsLyndon b0 ws.length c0 ws w h)
      rw [hly] at HY
      go_wp2_with fail
      refine (HY.out _ I_ws.out).mono ?_
      rintro e w9 ⟨rfl, hb⟩
      clear HY
      have hsz := hb.size
      replace I_ws := Lib.hid (I_ws.out.below hb)
      replace I_ns := Lib.hid (I_ns.out.below hb)
      replace BY := Lib.hid (BY.out.below hb)
      replace B := Lib.hid (B.out.trans (hb.mono B.out.size))
      clear hb hsz
      go_wp2_with fail
      refine (ints_any b1 b0 ns.length ws.length c1 c0 ns ws _ I_ns.out I_ws.out).mono ?_
      rintro e w10 ⟨h0, hb⟩
      rw [decide_eq_true (show ns = ws from by rw [H_ns.out]; exact Tm.lyn_nk hly)] at h0
      subst h0
      have hsz := hb.size
      replace I_ws := Lib.hid (I_ws.out.below hb)
      replace I_ns := Lib.hid (I_ns.out.below hb)
      replace BY := Lib.hid (BY.out.below hb)
      replace B := Lib.hid (B.out.trans (hb.mono B.out.size))
      clear hb hsz
      clear hly
      clear I_ns
      rcases I_ws.out.2.2.2 with h0 | ⟨b5, o5, rfl, hbl5, -⟩
      · omega
      have cu := I_ws.out.2.1
      have LD : Hid (Tm.lyn (ws ++ ws) = false) := Lib.hid (Tm.lyn_double ws_1)
      go_wp2_with (refine wpList_append_gd _ rfl _ _ 22 rfl w10.heap.size 3 i0 (.int .i64 0) 1 8 Try.underlying22 hi hz0 hz1 hz2 rfl (by decide) _ _ _ rfl (own_empty w10 _ _ (Nat.le_refl _)) ⟨b5, o5, none⟩ ws.length c0 (ws.map (Value.int .i64)) rfl (by simp) (I_ws.out.alloc _).newsAt (news_one _) (by unfold maxLen; omega) (by omega) (by simp) ?_)
      intro v' w11 hown' hgrow _
      have BA : Hid (Below w10.heap.size w10 w11) := Lib.hid (((Below.refl w10.heap.size w10).alloc (Nat.le_refl _) _).grown hgrow (by simp) (fun k hk => by simp [Value.ownBlock] at hk; omega))
      try rw [Nat.zero_add] at hown'
      try rw [List.nil_append] at hown'
      obtain ⟨a6, c6, rfl⟩ := own_form hown'
      have OA := Lib.hid hown'
      have IA := Lib.hid (I_ws.out.below BA.out)
      have hsA := BA.out.size
      clear hown' hgrow
      go_wp2_with (refine wpList_append_gd _ rfl _ _ 22 rfl w10.heap.size 3 i0 (.int .i64 0) 1 8 Try.underlying22 hi hz0 hz1 hz2 rfl (by decide) _ _ _ rfl OA.out ⟨b5, o5, none⟩ ws.length c0 (ws.map (Value.int .i64)) rfl (by simp) IA.out.newsAt (news_one _) (by unfold maxLen; omega) (by omega) hsA ?_)
      intro v' w12 hown' hgrow _
      have hb : Below w10.heap.size w10 w12 := BA.out.grown hgrow hsA (fun k hk => (OA.out.lt k hk).1)
      rw [← List.map_append] at hown'
      have h7 : w12.ownsRow w10.heap.size 3 1 v' (ws ++ ws).length ((ws ++ ws).map (Value.int .i64)) := by rw [List.length_append]; exact hown'
      obtain ⟨a7, c7, rfl⟩ := own_form h7
      have I7 := Lib.hid (Ints.of_own h7)
      clear hown' hgrow h7 OA BA IA hsA
      have hsz := hb.size
      replace I_ws := Lib.hid (I_ws.out.below hb)
      replace BY := Lib.hid (BY.out.below hb)
      replace B := Lib.hid (B.out.trans (hb.mono B.out.size))
      clear hb hsz
      have HS := Lib.hid (iIsLyndon a7 (ws ++ ws).length c7 (ws ++ ws) w12 I7.out)
      rw [LD.out, List.length_append] at HS
      clear I7
      go_wp2_with fail
      refine HS.out.mono ?_
      rintro e w13 ⟨rfl, hb⟩
      clear HS
      have hsz := hb.size
      replace I_ws := Lib.hid (I_ws.out.below hb)
      replace BY := Lib.hid (BY.out.below hb)
      replace B := Lib.hid (B.out.trans (hb.mono B.out.size))
      clear hb hsz
      go_wp2_with fail
      refine (at_any a0 len0 cap0 2 _ BY.out (by omega) (by omega) (by omega)).mono ?_
      rintro e w' ⟨y, rfl, y_0, y_1, rfl⟩
      obtain ⟨j, hj⟩ : ∃ j : Nat, y.tmod 6 = (j : Int) := ⟨_, (Int.toNat_of_nonneg (Int.tmod_nonneg _ y_0)).symm⟩
      have j_lt : j < 6 := by have := Int.tmod_lt_of_pos y (show (0 : Int) < 6 by omega); omega
      obtain ⟨K, hK⟩ : ∃ K : Nat, K = j + 1 := ⟨_, rfl⟩
      have K1 : 1 ≤ K := by omega
      have K6 : K ≤ 6 := by omega
      go_wp2_with fail
      rw [show (1 + (j : Int)) = ((K : Nat) : Int) from by omega]
      have hok := show Tm.lyOk (K : Int) = true from (Tm.inB_iff _ _ _).2 (by omega)
      refine (retLB_ex (iLyndonWords (K : Int) _) hok).mono ?_
      clear hok
      rintro e w14 ⟨rs, b14, c14, hv, rfl, hr, hb⟩
      have H_rs : Hid (rs = Tm.lyW (K : Int)) := Lib.hid hv
      have hsz := hb.size
      replace I_ws := Lib.hid (I_ws.out.below hb)
      replace BY := Lib.hid (BY.out.below hb)
      replace B := Lib.hid (B.out.trans (hb.mono B.out.size))
      clear hb hsz
      have R_rs := Lib.hid hr
      clear hr hv
      clear hK hj j_lt
      obtain ⟨ls, lf, ll⟩ := Tm.ly_facts K1 K6
      rw [← H_rs.out] at ls lf ll
      have RL := Tm.lyW_length (K : Int)
      rw [← H_rs.out] at RL
      have LS := Lib.hid ls
      have LF := Lib.hid lf
      have LL := Lib.hid ll
      have L7 : Hid (∀ z ∈ rs, z.length ≤ 7) := Lib.hid (fun z hz => (Tm.lyW_mem (k := (K : Int)) (by rw [← H_rs.out]; exact hz)).2.1)
      have FL := Lib.hid (Tm.flatN_len L7.out)
      have MP := Lib.hid (fun w => makePower K w (by omega))
      clear ls lf ll
      have rm := R_rs.out.2.2.1
      unfold maxLen at rm
      have rc := R_rs.out.2.1
      obtain ⟨wb, hwb⟩ : ∃ wb, wb = w14 := ⟨_, rfl⟩
      go_wp2_with fail
      go_loopw [10, 92] (fun sv iv wr => ∃ (i : Nat), i ≤ rs.length ∧ iv = .int .i64 i ∧ sv = .int .i64 ((Tm.flatN rs i).length : Int) ∧ Hid (Below w14.heap.size w14 wr)) (fun _ iv _ => rs.length - (intOf iv).toNat)
      case atStart => exact ⟨0, by omega, rfl, by rw [Tm.flatN_zero]; rfl, Lib.hid (by (repeat' (first | (with_reducible exact Below.refl _ _) | (with_reducible assumption) | (with_reducible refine below_drewN ?_ _) | (with_reducible refine Below.drew ?_) | (with_reducible refine Below.alloc ?_ ?_ _) | (with_reducible refine Below.setCell ?_ ?_ _) | (with_reducible refine below_gw ?_ ?_ _) | (with_reducible refine below_via ?_ ‹Below _ _ _› ?_) | (with_reducible exact Nat.le_refl _) | (with_reducible refine le_gw ?_ _) | (with_reducible refine le_alloc ?_ _) | (with_reducible refine le_setCell ?_ _ _) | (with_reducible refine le_drew ?_) | (with_reducible refine le_drewN ?_ _) | go_size)))⟩
      case round =>
        obtain ⟨i, hi', rfl, rfl, BB⟩ := hrel
        have hs := BB.out.size
        have FI := FL.out i
        by_cases hlt : i < rs.length
        · have RB := Lib.hid (R_rs.out.below BB.out)
          rcases RB.out.2.2.2 with h0 | ⟨b8, o8, rfl, hbl8, hc8⟩
          · omega
          obtain ⟨ax, mx, cx, zx, jx⟩ := hc8 i hlt
          have FS : Hid ((Tm.flatN rs (i + 1)).length = (Tm.flatN rs i).length + (rs.getD i []).length) := Lib.hid (by rw [Tm.flatN_succ hlt, List.length_append])
          obtain ⟨x1, xk, xl⟩ := LF.out i hlt
          have x7 := L7.out (rs.getD i []) (by rw [List.getD_eq_getElem?_getD, List.getElem?_eq_getElem hlt]; exact List.getElem_mem hlt)
          have LX : Hid (∀ d, i = d + 1 → Tm.lexC (rs.getD d []) (rs.getD i []) < 0) := Lib.hid (fun d e => by subst e; exact LL.out d hlt)
          obtain ⟨X, hX⟩ : ∃ X, X = rs.getD i [] := ⟨_, rfl⟩
          rw [← hX] at jx FS x1 xk xl x7 LX
          obtain rfl : mx = X.length := jx.1.symm
          have JX := Lib.hid jx
          have e1 : (K : Int).tmod (X.length : Int) = 0 := by rw [Int.tmod_eq_emod_of_nonneg (by omega)]; omega
          have e2 : (K : Int) % (X.length : Int) = 0 := by omega
          have nz : ¬ ((X.length : Int) = 0) := by omega
          have nz2 : ((X.length : Int) == 0) = false := by rw [beq_eq_false_iff_ne]; exact nz
          have xn : X ≠ [] := by intro e; subst e; simp at x1
          have HSX := Lib.hid (iIsLyndon ax X.length cx X wr JX.out)
          rw [xl] at HSX
          obtain ⟨S0, hS0⟩ : ∃ S0, S0 = (Tm.flatN rs i).length := ⟨_, rfl⟩
          rw [← hS0] at FS FI ⊢
          have CL := Lib.hid hc8
          clear hX jx xk xl hS0 hc8
          go_wp2_with fail
          refine HSX.out.mono ?_
          rintro e wy ⟨rfl, hb⟩
          have B2 := Lib.hid (BB.out.trans (hb.mono hs))
          have JY := Lib.hid (JX.out.below hb)
          have hsy := hb.size
          rcases Nat.eq_zero_or_pos i with h0 | h0
          · subst h0
            clear hb HSX JX BB CL
            go_wp2
            exact ⟨⟨1, by omega, rfl, val_int (by rw [FS.out]; omega), B2⟩, by simp [intOf]; omega⟩
          · obtain ⟨d, rfl⟩ : ∃ d, i = d + 1 := ⟨i - 1, by omega⟩
            obtain ⟨al, ml, cl, zl, jl⟩ := CL.out d (by omega)
            have zl2 : wy.cell? ⟨b8, o8 + d, none⟩ = some (.slice al ml cl) := by rw [hb.cell (p := ⟨b8, o8 + d, none⟩) hbl8]; exact zl
            have hl8 : b8 < wy.heap.size := by omega
            have LXD := LX.out d rfl
            have l7 := L7.out (rs.getD d []) (by rw [List.getD_eq_getElem?_getD, List.getElem?_eq_getElem (show d < rs.length by omega)]; exact List.getElem_mem _)
            obtain ⟨Y, hY⟩ : ∃ Y, Y = rs.getD d [] := ⟨_, rfl⟩
            rw [← hY] at jl LXD l7
            obtain rfl : ml = Y.length := jl.1.symm
            have JL := Lib.hid (jl.below hb)
            have LXH := Lib.hid LXD
            have d1 : ((d : Int) + 1 == 0) = false := by rw [beq_eq_false_iff_ne]; omega
            have d2 : ¬ ((d : Int) + 1 = 0) := by omega
            have d3 : IntKind.i64.wrap ((d : Int) + 1 - 1) = (d : Int) := by rw [IntWalk.i64_in _ (by omega)]; omega
            have d4 : (d : Int) + 1 - 1 = (d : Int) := by omega
            have d5 : IntKind.i64.wrap (d : Int) = (d : Int) := IntWalk.i64_in _ (by omega)
            have dl : d < rs.length := by omega
            clear hb HSX JX BB CL zl jl hY LXD LX zx RB
            go_wp2_with fail
            go_loopw [14] (fun pv wr => ∃ (p d' : Nat), p ≤ Y.length ∧ p ≤ X.length ∧ pv = .int .i64 p ∧ Hid (∀ q, q < p → Y.getD q 0 = X.getD q 0) ∧ wr = World.drewN wy d') (fun pv _ => Y.length - (intOf pv).toNat)
            case atStart => exact ⟨0, 0, by omega, by omega, rfl, Lib.hid (fun q hq => by omega), rfl⟩
            case round =>
              obtain ⟨p, d', hpY, hpX, rfl, SM, rfl⟩ := hrel
              have fin : ∀ (he : p < Y.length → p < X.length → Y.getD p 0 ≠ X.getD p 0), p < X.length ∧ (p < Y.length → Y.getD p 0 < X.getD p 0) := fun he => Tm.lex_first LXH.out hpY hpX SM.out he
              have B3 := Lib.hid (fun n => below_drewN B2.out n)
              by_cases py : p < Y.length
              · have px : p < X.length := by
                  rcases Nat.lt_or_ge p X.length with h | h
                  · exact h
                  · exact (fin (fun _ h2 => by omega)).1
                rcases JL.out.2.2.2 with h9 | ⟨bl, ol, rfl, hbl, hcl⟩
                · omega
                rcases JY.out.2.2.2 with h9 | ⟨bx, ox, rfl, hbx, hcx⟩
                · omega
                have c1 := hcl p py
                have c2 := hcx p px
                have q3 : ((p : Int) == (X.length : Int)) = false := by rw [beq_eq_false_iff_ne]; omega
                have FN : Hid (Y.getD p 0 ≠ X.getD p 0 → Y.getD p 0 < X.getD p 0) := Lib.hid (fun h => (fin (fun _ _ => h)).2 py)
                have SM2 : Hid (Y.getD p 0 = X.getD p 0 → ∀ q, q < p + 1 → Y.getD q 0 = X.getD q 0) := Lib.hid (fun h q hq => by
                  by_cases e : q = p
                  · subst e; exact h
                  · exact SM.out q (by omega))
                obtain ⟨u, hu⟩ : ∃ u, u = Y.getD p 0 := ⟨_, rfl⟩
                obtain ⟨v, hv⟩ : ∃ v, v = X.getD p 0 := ⟨_, rfl⟩
                rw [← hu] at c1 FN SM2
                rw [← hv] at c2 FN SM2
                clear hcl hcx hu hv fin SM
                by_cases euv : u = v
                · have S3 := Lib.hid (SM2.out euv)
                  have ee : (u == v) = true := by simpa using euv
                  clear FN SM2 euv
                  go_wp2
                  go_quiet (fail)
                  go_wp2
                  exact ⟨⟨p + 1, _, by omega, by omega, by go_num, S3, rfl⟩, by simp [intOf]; omega⟩
                · have lt := FN.out euv
                  have ee : (u == v) = false := by simpa using euv
                  have gg : ¬ (v < u) := by omega
                  clear FN SM2 euv
                  go_wp2
                  go_quiet (fail)
                  go_wp2
                  go_quiet (fail)
                  go_wp2
                  exact ⟨⟨d + 1 + 1, by omega, by go_num, val_int (by rw [FS.out]; omega), Lib.hid (B3.out _)⟩, by simp [intOf]; omega⟩
              · have px : p < X.length := (fin (fun h => absurd h py)).1
                have q3 : ((p : Int) == (X.length : Int)) = false := by rw [beq_eq_false_iff_ne]; omega
                clear fin SM
                go_wp2
                go_quiet (fail)
                go_wp2
                go_quiet (fail)
                go_wp2
                exact ⟨⟨d + 1 + 1, by omega, by go_num, val_int (by rw [FS.out]; omega), Lib.hid (B3.out _)⟩, by simp [intOf]; omega⟩
        · obtain rfl : i = rs.length := by omega
          have SE : Hid (((Tm.flatN rs rs.length).length : Int) = Tm.pow3 K) := Lib.hid (by rw [Tm.flatN_all]; exact LS.out)
          have BX := Lib.hid (B.out.trans (BB.out.mono B.out.size))
          obtain ⟨S1, hS1⟩ : ∃ S1, S1 = (Tm.flatN rs rs.length).length := ⟨_, rfl⟩
          rw [← hS1] at SE ⊢
          have MPX := Lib.hid (MP.out wr)
          rw [← SE.out] at MPX
          clear hS1
          go_wp2_with fail
          refine MPX.out.mono ?_
          rintro e w' ⟨rfl, rfl⟩
          go_wp2
          go_ret
          exact ⟨by simp, BX.out⟩
  · go_enter Try.func14, Try.ntmps14
    go_wp2
    go_ret
    exact ⟨rfl, B.out⟩
end Go.Proofs.Ytfmpnkckaceigaa

/- Walks of laws: FnCircle. -/
import Derived.Test.YtfmpnkckaceigaaQC
import Derived.Test.YtfmpnkckaceigaaQS1
import Derived.Test.YtfmpnkckaceigaaLaw3
import Derived.Test.YtfmpnkckaceigaaRowL
import Derived.Test.YtfmpnkckaceigaaBOwn
import Derived.Test.YtfmpnkckaceigaaWVal
namespace Go.Proofs.Ytfmpnkckaceigaa
set_option maxRecDepth 20000
open Go.RowKit
theorem infoBool : (Try.prog.info? 4).map (fun i => (i.zero, i.size, i.bytes)) = some (some (.bool false), 1, 1) := by kernel_rfl
def boolV (n : Nat) (g : Nat → Bool) : List Value := (List.range n).map fun i => .bool (g i)
def updB (g : Nat → Bool) (k : Nat) (v : Bool) : Nat → Bool := fun i => if i = k then v else g i
theorem boolV_length (n : Nat) (g : Nat → Bool) : (boolV n g).length = n := by simp [boolV]
theorem boolV_get (n : Nat) (g : Nat → Bool) (i : Nat) (h : i < n) : (boolV n g)[i]? = some (.bool (g i)) := by simp [boolV, h]
theorem boolV_set (n : Nat) (g : Nat → Bool) (k : Nat) (v : Bool) : (boolV n g).set k (.bool v) = boolV n (updB g k v) := by
  apply List.ext_getElem?
  intro i
  rw [List.getElem?_set, boolV_length]
  by_cases hi : i < n
  · rw [boolV_get _ _ _ hi, boolV_get _ _ _ hi]
    by_cases h2 : k = i
    · subst h2; simp [hi, updB]
    · rw [if_neg h2, updB, if_neg (fun e => h2 e.symm)]
  · rw [List.getElem?_eq_none (by rw [boolV_length]; omega), List.getElem?_eq_none (by rw [boolV_length]; omega)]
    split
    · rw [if_neg (by omega)]
    · rfl
theorem boolV_zero (n : Nat) : boolV n (fun _ => false) = List.replicate n (.bool false) := by
  apply List.ext_getElem?
  intro i
  by_cases hi : i < n
  · rw [boolV_get _ _ _ hi]; simp [hi]
  · rw [List.getElem?_eq_none (by rw [boolV_length]; omega), List.getElem?_eq_none (by simp; omega)]
theorem boolV_own {w : World} {B e b n : Nat} (h : w.ownsRow B e 1 (.slice (some ⟨b, 0, none⟩) n n) n (madeCells #[Value.bool false] n).toList) : w.ownsRow B e 1 (.slice (some ⟨b, 0, none⟩) n n) n (boolV n fun _ => false) := by
  rw [boolV_zero]; simpa [Value.cells, toList_madeCells_one] using h
theorem boolV_put {w : World} {B e b n : Nat} {g : Nat → Bool} (h : w.ownsRow B e 1 (.slice (some ⟨b, 0, none⟩) n n) n (boolV n g)) (k : Nat) (v : Bool) :
    (w.setCell ⟨b, k, none⟩ (.bool v)).ownsRow B e 1 (.slice (some ⟨b, 0, none⟩) n n) n (boolV n (updB g k v)) := by
  have := (h.stored k (.bool v)).1
  rwa [boolV_set] at this
namespace Tm
/-- The p trits from place i on, read around. -/
def win (cs : List Int) (i p : Nat) : List Int := (List.range p).map fun q => cs.getD ((i + q) % cs.length) 0
theorem win_succ (cs : List Int) (i p : Nat) : win cs i (p + 1) = win cs i p ++ [cs.getD ((i + p) % cs.length) 0] := by simp [win, List.range_succ]
theorem win_length (cs : List Int) (i p : Nat) : (win cs i p).length = p := by simp [win]
def winN (cs : List Int) (k i : Nat) : Int := val (win cs i k) + limN k
theorem win_isW {cs : List Int} {i p : Nat} (h : cs.all isT = true) (hc : 1 ≤ cs.length) (h1 : 1 ≤ p) (h2 : p ≤ 30) : isW (win cs i p) = true := by
  refine isW_mk (fun x hx => ?_) (by rw [win_length]; exact h1) (by rw [win_length]; exact h2)
  obtain ⟨q, -, rfl⟩ := List.mem_map.1 hx
  have hl : (i + q) % cs.length < cs.length := Nat.mod_lt _ (by omega)
  rw [← getD_at cs _ hl]
  exact (isT_iff _).1 (List.all_eq_true.1 h _ (List.getElem_mem hl))
def idxL (cs : List Int) (k : Nat) : List Int := (List.range cs.length).map fun i => winN cs k i
theorem idx_diff {cs : List Int} {k i j : Nat} (h : (idxL cs k).Nodup) (hij : i < j) (hj : j < cs.length) : winN cs k i ≠ winN cs k j := by
  have := (List.pairwise_iff_getElem.1 h) i j (by simp [idxL]; omega) (by simp [idxL]; omega) hij
  simpa [idxL] using this
def circ1 : List Int := [-1, 0, 1]
theorem circ1_eq : circle 1 = circ1 := by decide +kernel
def circ2 : List Int := [-1, -1, 0, -1, 1, 0, 0, 1, 1]
theorem circ2_eq : circle 2 = circ2 := by decide +kernel
def circ3 : List Int := [-1, -1, -1, 0, -1, -1, 1, -1, 0, 0, -1, 0, 1, -1, 1, 0, -1, 1, 1, 0, 0, 0, 1, 0, 1, 1, 1]
theorem circ3_eq : circle 3 = circ3 := by decide +kernel
def circ4 : List Int := [-1, -1, -1, -1, 0, -1, -1, -1, 1, -1, -1, 0, 0, -1, -1, 0, 1, -1, -1, 1, 0, -1, -1, 1, 1, -1, 0, -1, 0, -1, 1, -1, 0, 0, 0, -1, 0, 0, 1, -1, 0, 1, 0, -1, 0, 1, 1, -1, 1, -1, 1, 0, 0, -1, 1, 0, 1, -1, 1, 1, 0, -1, 1, 1, 1, 0, 0, 0, 0, 1, 0, 0, 1, 1, 0, 1, 0, 1, 1, 1, 1]
theorem circ4_eq : circle 4 = circ4 := by decide +kernel
def circ5 : List Int := [-1, -1, -1, -1, -1, 0, -1, -1, -1, -1, 1, -1, -1, -1, 0, 0, -1, -1, -1, 0, 1, -1, -1, -1, 1, 0, -1, -1, -1, 1, 1, -1, -1, 0, -1, 0, -1, -1, 0, -1, 1, -1, -1, 0, 0, 0, -1, -1, 0, 0, 1, -1, -1, 0, 1, 0, -1, -1, 0, 1, 1, -1, -1, 1, -1, 0, -1, -1, 1, -1, 1, -1, -1, 1, 0, 0, -1, -1, 1, 0, 1, -1, -1, 1, 1, 0, -1, -1, 1, 1, 1, -1, 0, -1, 0, 0, -1, 0, -1, 0, 1, -1, 0, -1, 1, 0, -1, 0, -1, 1, 1, -1, 0, 0, -1, 1, -1, 0, 0, 0, 0, -1, 0, 0, 0, 1, -1, 0, 0, 1, 0, -1, 0, 0, 1, 1, -1, 0, 1, -1, 1, -1, 0, 1, 0, 0, -1, 0, 1, 0, 1, -1, 0, 1, 1, 0, -1, 0, 1, 1, 1, -1, 1, -1, 1, 0, -1, 1, -1, 1, 1, -1, 1, 0, 0, 0, -1, 1, 0, 0, 1, -1, 1, 0, 1, 0, -1, 1, 0, 1, 1, -1, 1, 1, 0, 0, -1, 1, 1, 0, 1, -1, 1, 1, 1, 0, -1, 1, 1, 1, 1, 0, 0, 0, 0, 0, 1, 0, 0, 0, 1, 1, 0, 0, 1, 0, 1, 0, 0, 1, 1, 1, 0, 1, 0, 1, 1, 0, 1, 1, 1, 1, 1]
theorem circ5_eq : circle 5 = circ5 := by decide +kernel
theorem idx1_eq : idxL circ1 1 = [0, 1, 2] := by decide +kernel
theorem idx1_ok : (idxL circ1 1).Nodup ∧ circ1.length = 3 ∧ circ1.all isT = true := ⟨by rw [idx1_eq]; decide +kernel, by decide +kernel, by decide +kernel⟩
theorem idx2_eq : idxL circ2 2 = [0, 3, 1, 6, 5, 4, 7, 8, 2] := by decide +kernel
theorem idx2_ok : (idxL circ2 2).Nodup ∧ circ2.length = 9 ∧ circ2.all isT = true := ⟨by rw [idx2_eq]; decide +kernel, by decide +kernel, by decide +kernel⟩
theorem idx3_eq : idxL circ3 3 = [0, 9, 3, 1, 18, 6, 11, 12, 4, 10, 21, 7, 20, 15, 5, 19, 24, 17, 14, 13, 22, 16, 23, 25, 26, 8, 2] := by decide +kernel
theorem idx3_ok : (idxL circ3 3).Nodup ∧ circ3.length = 27 ∧ circ3.all isT = true := ⟨by rw [idx3_eq]; decide +kernel, by decide +kernel, by decide +kernel⟩
theorem idx4_eq : idxL circ4 4 = [0, 27, 9, 3, 1, 54, 18, 6, 29, 36, 12, 4, 28, 63, 21, 7, 56, 45, 15, 5, 55, 72, 24, 35, 11, 30, 10, 57, 19, 33, 38, 39, 13, 31, 37, 66, 22, 34, 65, 48, 16, 32, 64, 75, 25, 62, 20, 60, 47, 42, 14, 58, 46, 69, 23, 61, 74, 51, 17, 59, 73, 78, 53, 44, 41, 40, 67, 49, 43, 68, 76, 52, 71, 50, 70, 77, 79, 80, 26, 8, 2] := by decide +kernel
theorem idx4_ok : (idxL circ4 4).Nodup ∧ circ4.length = 81 ∧ circ4.all isT = true := ⟨by rw [idx4_eq]; decide +kernel, by decide +kernel, by decide +kernel⟩
theorem idx5_eq : idxL circ5 5 = [0, 81, 27, 9, 3, 1, 162, 54, 18, 6, 83, 108, 36, 12, 4, 82, 189, 63, 21, 7, 164, 135, 45, 15, 5, 163, 216, 72, 24, 89, 29, 90, 30, 10, 84, 28, 171, 57, 19, 87, 110, 117, 39, 13, 85, 109, 198, 66, 22, 88, 191, 144, 48, 16, 86, 190, 225, 75, 25, 170, 56, 99, 33, 11, 165, 55, 180, 60, 20, 168, 137, 126, 42, 14, 166, 136, 207, 69, 23, 169, 218, 153, 51, 17, 167, 217, 234, 78, 107, 35, 92, 111, 37, 93, 31, 91, 192, 64, 102, 34, 173, 138, 46, 96, 32, 172, 219, 73, 105, 116, 38, 174, 58, 100, 114, 119, 120, 40, 94, 112, 118, 201, 67, 103, 115, 200, 147, 49, 97, 113, 199, 228, 76, 106, 197, 65, 183, 61, 101, 195, 146, 129, 43, 95, 193, 145, 210, 70, 104, 196, 227, 156, 52, 98, 194, 226, 237, 79, 188, 62, 182, 141, 47, 177, 59, 181, 222, 74, 186, 143, 128, 123, 41, 175, 139, 127, 204, 68, 184, 142, 209, 150, 50, 178, 140, 208, 231, 77, 187, 224, 155, 132, 44, 176, 220, 154, 213, 71, 185, 223, 236, 159, 53, 179, 221, 235, 240, 161, 134, 125, 122, 121, 202, 148, 130, 124, 203, 229, 157, 133, 206, 149, 211, 151, 131, 205, 230, 238, 160, 215, 152, 212, 232, 158, 214, 233, 239, 241, 242, 80, 26, 8, 2] := by decide +kernel
theorem idx5_ok : (idxL circ5 5).Nodup ∧ circ5.length = 243 ∧ circ5.all isT = true := ⟨by rw [idx5_eq]; decide +kernel, by decide +kernel, by decide +kernel⟩
theorem circle_facts {k : Nat} (h1 : 1 ≤ k) (h5 : k ≤ 5) : ((circle (k : Int)).length : Int) = pow3 k ∧ (circle (k : Int)).all isT = true ∧ ∀ i j, i < j → j < (circle (k : Int)).length → winN (circle (k : Int)) k i ≠ winN (circle (k : Int)) k j := by
  have : k = 1 ∨ k = 2 ∨ k = 3 ∨ k = 4 ∨ k = 5 := by omega
  rcases this with rfl | rfl | rfl | rfl | rfl
  · rw [show (((1 : Nat) : Int)) = 1 from rfl, circ1_eq]; exact ⟨by rw [idx1_ok.2.1]; rfl, idx1_ok.2.2, fun i j h g => idx_diff idx1_ok.1 h g⟩
  · rw [show (((2 : Nat) : Int)) = 2 from rfl, circ2_eq]; exact ⟨by rw [idx2_ok.2.1]; rfl, idx2_ok.2.2, fun i j h g => idx_diff idx2_ok.1 h g⟩
  · rw [show (((3 : Nat) : Int)) = 3 from rfl, circ3_eq]; exact ⟨by rw [idx3_ok.2.1]; rfl, idx3_ok.2.2, fun i j h g => idx_diff idx3_ok.1 h g⟩
  · rw [show (((4 : Nat) : Int)) = 4 from rfl, circ4_eq]; exact ⟨by rw [idx4_ok.2.1]; rfl, idx4_ok.2.2, fun i j h g => idx_diff idx4_ok.1 h g⟩
  · rw [show (((5 : Nat) : Int)) = 5 from rfl, circ5_eq]; exact ⟨by rw [idx5_ok.2.1]; rfl, idx5_ok.2.2, fun i j h g => idx_diff idx5_ok.1 h g⟩
end Tm
set_option maxHeartbeats 4000000 in
theorem wFnCircle (a0 : Option Addr) (len0 cap0 : Nat) (z0 : List Int) (w : World) (w0 : IsRow .u8 w a0 len0 cap0 z0) : Calls Try.prog 13 #[.slice a0 len0 cap0] w fun e w' => e = .returned (.bool true) ∧ Below w.heap.size w w' := by
  have BY := Lib.hid (Byts.of_row w0)
  have m0 : len0 ≤ 9223372036854775807 := by obtain ⟨h1, h2, _⟩ := BY.out; unfold maxLen at h2; omega
  clear w0
  have B := Lib.hid (Below.refl w.heap.size w)
  by_cases g0 : len0 ≤ 1048576
  · skip
    go_enter Try.func13, Try.ntmps13
    go_wp2_with fail
    refine (at_any a0 len0 cap0 1 _ BY.out (by omega) (by omega) (by omega)).mono ?_
    rintro e w' ⟨x, rfl, x_0, x_1, rfl⟩
    obtain ⟨j, hj⟩ : ∃ j : Nat, x.tmod 5 = (j : Int) := ⟨_, (Int.toNat_of_nonneg (Int.tmod_nonneg _ x_0)).symm⟩
    have j_lt : j < 5 := by have := Int.tmod_lt_of_pos x (show (0 : Int) < 5 by omega); omega
    obtain ⟨K, hK⟩ : ∃ K : Nat, K = j + 1 := ⟨_, rfl⟩
    have K1 : 1 ≤ K := by omega
    have K5 : K ≤ 5 := by omega
    go_wp2_with fail
    rw [show (1 + (j : Int)) = ((K : Nat) : Int) from by omega]
    have hok := show Tm.lyOk (K : Int) = true from (Tm.inB_iff _ _ _).2 (by omega)
    refine (retIB_ex (iCircleOf (K : Int) _) hok).mono ?_
    clear hok
    rintro e w0 ⟨cs, b0, c0, hv, rfl, ho, hb, ln0⟩
    have H_cs : Hid (cs = Tm.circle (K : Int)) := Lib.hid hv
    have hsz := hb.size
    replace BY := Lib.hid (BY.out.below hb)
    replace B := Lib.hid (B.out.trans (hb.mono B.out.size))
    clear hb hsz
    have I_cs := Lib.hid (Ints.of_own ho)
    clear ho hv
    clear hK hj j_lt
    obtain ⟨cl, ct, cd⟩ := Tm.circle_facts K1 K5
    rw [← H_cs.out] at cl ct cd
    have CL := Lib.hid cl
    have CT := Lib.hid ct
    have CD := Lib.hid cd
    clear cl ct cd
    go_wp2_with fail
    refine (makePower K _ (by omega)).mono ?_
    rintro e w' ⟨h0, rfl⟩
    obtain ⟨P, hv⟩ : ∃ r_, r_ = Tm.pow3 K := ⟨_, rfl⟩
    rw [← hv] at h0
    subst h0
    have H_P : Hid (P = Tm.pow3 K) := Lib.hid hv
    have bd : 1 ≤ P ∧ P ≤ 243 := by rw [hv]; exact ⟨Tm.pow3_pos K, Tm.pow3_le K5⟩
    obtain ⟨P_0, P_1⟩ := bd
    clear hv
    obtain ⟨N, rfl⟩ : ∃ N : Nat, P = (N : Int) := ⟨P.toNat, by omega⟩
    have NL : Hid (cs.length = N) := Lib.hid (by have := CL.out; have := H_P.out; omega)
    have N1 : 1 ≤ N := by omega
    have N243 : N ≤ 243 := by omega
    have q1 : ((cs.length : Int) != (N : Int)) = false := by rw [NL.out]; simp
    have LM : Hid ((N : Int) = 2 * Tm.limN K + 1) := Lib.hid (by rw [H_P.out, Tm.pow3_limN])
    obtain ⟨i0, hi, hz0, hz1, hz2⟩ := info_parts infoInt
    obtain ⟨i1, hj1, hy0, hy1, hy2⟩ := info_parts infoBool
    go_wp2_with (at_make; refine wpList_make_full _ rfl _ _ 46 rfl w0.heap.size 4 i1 (.bool false) 1 Try.underlying46 hj1 hy0 hy1 _ _ _ _ N rfl rfl (by first | rfl | omega) (by first | rfl | omega) (by rw [hy2]; omega) (by unfold maxLen; omega) (Nat.le_refl _) ?_)
    intro wm hown hgrow
    have O1 := Lib.hid (boolV_own hown)
    have B1 : Hid (Below w0.heap.size w0 wm) := Lib.hid ((Below.refl _ _).grown hgrow (Nat.le_refl _) (fun k hk => by cases hk))
    have R1 : w0.heap.size < wm.heap.size := (O1.out.lt _ rfl).2
    obtain ⟨bm, hbm⟩ : ∃ bm, bm = w0.heap.size := ⟨_, rfl⟩
    rw [← hbm] at O1 R1
    have cM : Hid (w0.heap.size ≤ bm) := Lib.hid (by omega)
    clear hown hgrow
    go_wp2_with fail
    rw [← hbm]
    clear hbm
    go_loopw [38] (fun iv wr => ∃ (i : Nat) (g : Nat → Bool), i ≤ N ∧ iv = .int .i64 i ∧ Hid (∀ n, g n = true → ∃ i', i' < i ∧ Tm.winN cs K i' = (n : Int)) ∧ Hid (wr.ownsRow bm 4 1 (.slice (some ⟨bm, 0, none⟩) N N) N (boolV N g)) ∧ Hid (Below w0.heap.size w0 wr) ∧ bm < wr.heap.size) (fun iv _ => N - (intOf iv).toNat)
    case atStart => exact ⟨0, fun _ => false, by omega, rfl, Lib.hid (fun n h => by cases h), O1, B1, R1⟩
    case round =>
      obtain ⟨i, g, hi', rfl, GG, OO, BB, sz⟩ := hrel
      have hs := BB.out.size
      by_cases hlt : i < N
      · obtain ⟨wo, hwo⟩ : ∃ wo, wo = wr := ⟨_, rfl⟩
        subst hwo
        have nlt : i < cs.length := by rw [NL.out]; exact hlt
        go_wp2_with fail
        go_loopw [9, 10] (fun v pv wr => ∃ (p : Nat) (a2 : Option Addr) (c2 : Nat), p ≤ K ∧ pv = .int .i64 p ∧ v = .slice a2 p c2 ∧ Hid (wr.ownsRow wo.heap.size 3 1 (.slice a2 p c2) p ((Tm.win cs i p).map (Value.int .i64))) ∧ Hid (Below wo.heap.size wo wr)) (fun _ pv _ => K - (intOf pv).toNat)
        case atStart => exact ⟨0, _, 0, by omega, rfl, rfl, Lib.hid (own_empty wo _ _ (Nat.le_refl _)), Lib.hid (by (repeat' (first | (with_reducible exact Below.refl _ _) | (with_reducible assumption) | (with_reducible refine below_drewN ?_ _) | (with_reducible refine Below.drew ?_) | (with_reducible refine Below.alloc ?_ ?_ _) | (with_reducible refine Below.setCell ?_ ?_ _) | (with_reducible refine below_gw ?_ ?_ _) | (with_reducible refine below_via ?_ ‹Below _ _ _› ?_) | (with_reducible exact Nat.le_refl _) | (with_reducible refine le_gw ?_ _) | (with_reducible refine le_alloc ?_ _) | (with_reducible refine le_setCell ?_ _ _) | (with_reducible refine le_drew ?_) | (with_reducible refine le_drewN ?_ _) | go_size)))⟩
        case round =>
          obtain ⟨p, a2, c2, hp, rfl, rfl, O2, B2⟩ := hrel
          have hs2 := B2.out.size
          have BX := BB.out.trans (B2.out.mono hs)
          by_cases hlt2 : p < K
          · obtain ⟨q, hq⟩ : ∃ q : Nat, (i + p) % N = q := ⟨_, rfl⟩
            have ql : q < N := by rw [← hq]; exact Nat.mod_lt _ (by omega)
            rcases (I_cs.out.below BX).2.2.2 with h0 | ⟨b, o, rfl, hbl, hc⟩
            · omega
            have c1 := hc q (by rw [NL.out]; exact ql)
            have qlc : q < cs.length := by rw [NL.out]; exact ql
            have WS : Hid (Tm.win cs i (p + 1) = Tm.win cs i p ++ [cs.getD q 0]) := Lib.hid (by rw [Tm.win_succ, NL.out, hq])
            have e0 : IntKind.i64.wrap ((i : Int) + (p : Int)) = (i : Int) + (p : Int) := IntWalk.i64_in _ (by omega)
            have e2 : ((i : Int) + (p : Int)) % (N : Int) = (q : Int) := by
              have h := Int.natCast_emod (i + p) N
              rw [hq, Int.natCast_add] at h
              exact h.symm
            have e1 : ((i : Int) + (p : Int)).tmod (N : Int) = (q : Int) := by rw [Int.tmod_eq_emod_of_nonneg (by omega), e2]
            have nz : ¬ ((N : Int) = 0) := by omega
            obtain ⟨x1, hx1⟩ : ∃ x1, x1 = cs.getD q 0 := ⟨_, rfl⟩
            rw [← hx1] at c1 WS
            clear hc hx1 hq BX
            go_wp2_with (at_builtin; refine wpList_append_own _ rfl _ _ 22 rfl (wo.heap.size) 3 i0 (.int .i64 0) 1 8 Try.underlying22 hi hz0 hz1 hz2 rfl (by decide) _ _ _ rfl (World.ownsRow.alloc O2.out _) ⟨wr.heap.size, 0, none⟩ 1 1 [.int .i64 (x1)] rfl rfl (app_c1 (wr) (x1) _) (app_c2 _) (by unfold maxLen; omega) (by omega) (by simp; omega) ?_)
            intro v' w9 hown' hgrow _
            have B4 : Hid (Below wo.heap.size wo w9) := Lib.hid ((B2.out.alloc hs2 _).grown hgrow (by simp; omega) (fun k hk => (O2.out.lt k hk).1))
            have h5 : w9.ownsRow wo.heap.size 3 1 v' (p + 1) ((Tm.win cs i (p + 1)).map (Value.int .i64)) := by rw [WS.out, List.map_append]; exact hown'
            obtain ⟨a4, c4, rfl⟩ := own_form h5
            have O4 := Lib.hid h5
            clear hown' h5 hgrow O2 B2
            go_wp2
            exact ⟨⟨p + 1, a4, c4, by omega, by go_num, rfl, O4, B4⟩, by simp [intOf]; omega⟩
          · obtain rfl : p = K := by omega
            have WL := Tm.win_length cs i p
            have WT : Hid (Tm.isW (Tm.win cs i p) = true) := Lib.hid (Tm.win_isW CT.out (by rw [NL.out]; omega) K1 (by omega))
            have I2 : Hid (Ints wr a2 p c2 (Tm.win cs i p)) := Lib.hid (by have := O2.out; rw [← WL] at this; have h := Ints.of_own this; rwa [WL] at h)
            have IWd := Lib.hid (sIsWord a2 p c2 _ wr I2.out)
            rw [WT.out] at IWd
            have VA := Lib.hid (sValueOf a2 p c2 _ wr I2.out)
            have LI := Lib.hid (sLimitOf (p : Int) wr)
            rw [Tm.lim_nat K1 (by omega)] at LI
            have VB := Tm.val_bd _ (Tm.isW_trits WT.out)
            rw [WL] at VB
            have LL := LM.out
            have VE : Hid (Tm.value (Tm.win cs i p) + Tm.limN p = Tm.winN cs p i) := Lib.hid (by rw [Tm.value_eq WT.out]; rfl)
            rw [Tm.value_eq WT.out] at VA VE
            obtain ⟨V, hV⟩ : ∃ V, V = Tm.val (Tm.win cs i p) := ⟨_, rfl⟩
            obtain ⟨M, hM⟩ : ∃ M, M = Tm.limN p := ⟨_, rfl⟩
            rw [← hV] at VA VB VE
            rw [← hM] at LI VB LL VE
            obtain ⟨n, hn⟩ : ∃ n : Nat, V + M = (n : Int) := ⟨(V + M).toNat, by omega⟩
            have nN : n < N := by omega
            have vw : IntKind.i64.wrap (V + M) = (n : Int) := by rw [hn]; exact IntWalk.i64_in _ (by omega)
            have vw2 : wrap64 (V + M) = (n : Int) := by rw [hn]; unfold wrap64; omega
            rw [hn] at VE
            clear hV hM hn VB LL
            have gn : g n = false := by
              cases e : g n with
              | false => rfl
              | true =>
                obtain ⟨i', h1, h2⟩ := GG.out n e
                exact absurd (h2.trans VE.out) (CD.out i' i h1 nlt)
            have O3 := Lib.hid (own_below OO.out B2.out)
            have bc := O3.out.cellAt n (by omega)
            rw [boolV_get _ _ _ nN, gn] at bc
            have fz := O3.out.frozenAt n
            have PUT := Lib.hid (boolV_put O3.out n true)
            have B3 : Hid (Below w0.heap.size w0 (wr.setCell ⟨bm, n, none⟩ (.bool true))) := Lib.hid ((BB.out.trans (B2.out.mono hs)).setCell cM.out _)
            have bl : bm < wr.heap.size := by omega
            have GN : Hid (∀ m, updB g n true m = true → ∃ i', i' < i + 1 ∧ Tm.winN cs p i' = (m : Int)) := Lib.hid (fun m h => by
              unfold updB at h
              by_cases e : m = n
              · exact ⟨i, by omega, by rw [e]; exact VE.out.symm⟩
              · rw [if_neg e] at h
                obtain ⟨i', h1, h2⟩ := GG.out m h
                exact ⟨i', by omega, h2⟩)
            clear gn O2 I2 OO GG
            go_wp2_with fail
            refine IWd.out.mono ?_
            rintro e w' ⟨rfl, rfl⟩
            go_wp2_with fail
            refine VA.out.mono ?_
            rintro e w' ⟨rfl, rfl⟩
            go_wp2_with fail
            refine LI.out.mono ?_
            rintro e w' ⟨rfl, rfl⟩
            go_wp2
            exact ⟨⟨i + 1, updB g n true, by omega, by go_num, GN, PUT, B3, by simp; omega⟩, by simp [intOf]; omega⟩
      · have hx : ¬ (i < cs.length) := by rw [NL.out]; omega
        obtain rfl : i = N := by omega
        have BX := Lib.hid (B.out.trans (BB.out.mono B.out.size))
        go_wp2
        go_ret
        exact ⟨rfl, BX.out⟩
  · go_enter Try.func13, Try.ntmps13
    go_wp2
    go_ret
    exact ⟨rfl, B.out⟩
end Go.Proofs.Ytfmpnkckaceigaa

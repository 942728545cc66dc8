/- The model's machine: an operation is executed, all codes. The model's machine: a step. The model's machine: a run. Written by tools/laws/mrs.py. -/
import Derived.Test.YtlpdeeaebgclpaaDoorMS5
import Derived.Test.YtlpdeeaebgclpaaDoorMS8
import Derived.Test.YtlpdeeaebgclpaaDoorMBx
import Derived.Test.YtlpdeeaebgclpaaDoorMS1
import Derived.Test.YtlpdeeaebgclpaaDoorMS2
import Derived.Test.YtlpdeeaebgclpaaDoorMS3
import Derived.Test.YtlpdeeaebgclpaaDoorMCp
import Derived.Test.YtlpdeeaebgclpaaDoorTail
namespace Go.Proofs.YtlpdeeaebgclpaaDoor
set_option maxRecDepth 20000
open Go.RowKit
theorem sChange (x : Nat → Int) (n : Int) (B : Nat) (k : Int) (v u : Value) (s o : List Int) (w : World) (hB : B ≤ w.heap.size) (hv : w.ownsRow B 3 1 v s.length (s.map (Value.int .i64))) (hu : w.ownsRow B 3 1 u o.length (o.map (Value.int .i64))) (ap : Apart v u) (hok : Tm.opOk n x = true) (h15 : x 0 ≠ 15) (hp : Tm.popsN (x 0) ≤ (s.length : Int)) (hc : x 0 = 11 ∨ x 0 = 12 → -13 ≤ Tm.top s ∧ Tm.top s ≤ 13) (hs : Tm.cellsOk s = true) (ho : o.length = 27) (hn : s.length ≤ 20) (hk0 : 0 ≤ k ∧ k ≤ 1000) :
    Calls Tryd.prog 22 #[opV x, .agg #[.int .i64 k, v, u]] w fun e w' => ∃ v' u', e = .returned (.agg #[.int .i64 (Tm.opP x (k + 1) s), v', u']) ∧ w'.ownsRow B 3 1 v' (Tm.opS x s o).length ((Tm.opS x s o).map (Value.int .i64)) ∧ w'.ownsRow B 3 1 u' (Tm.opO x s o).length ((Tm.opO x s o).map (Value.int .i64)) ∧ Apart v' u' ∧ Below B w w' ∧ Fr v u w w' := by
  have hk := (Tm.opOk_iff n x).1 hok
  have cm := Tm.cells_mem hs
  obtain ⟨c, hc0⟩ : ∃ c, c = x 0 := ⟨_, rfl⟩
  unfold opV Tm.opP Tm.opS Tm.opO
  rw [← hc0] at hk h15 hp hc ⊢
  have one : 1 ≤ s.length → w.ownsRow B 3 1 v (s.take (s.length - 1) ++ [Tm.top s]).length ((s.take (s.length - 1) ++ [Tm.top s]).map (Value.int .i64)) := fun hl => by rw [← Tm.split_one hl]; exact hv
  have two : 2 ≤ s.length → w.ownsRow B 3 1 v (s.take (s.length - 2) ++ [Tm.nxt s, Tm.top s]).length ((s.take (s.length - 2) ++ [Tm.nxt s, Tm.top s]).map (Value.int .i64)) := fun hl => by rw [← Tm.split_two hl]; exact hv
  have hn1 : 1 ≤ s.length → (s.take (s.length - 1) ++ [Tm.top s]).length ≤ 20 := fun hl => by rw [← Tm.split_one hl]; exact hn
  have hn2 : 2 ≤ s.length → (s.take (s.length - 2) ++ [Tm.nxt s, Tm.top s]).length ≤ 20 := fun hl => by rw [← Tm.split_two hl]; exact hn
  have bt : 1 ≤ s.length → -9841 ≤ Tm.top s ∧ Tm.top s ≤ 9841 := fun hl => cm _ (Tm.top_mem hl)
  have bn : 2 ≤ s.length → -9841 ≤ Tm.nxt s ∧ Tm.nxt s ≤ 9841 := fun hl => cm _ (Tm.nxt_mem hl)
  have cc : c = 1 ∨ c = 2 ∨ c = 3 ∨ c = 4 ∨ c = 5 ∨ c = 6 ∨ c = 7 ∨ c = 8 ∨ c = 9 ∨ c = 10 ∨ c = 11 ∨ c = 12 ∨ c = 13 ∨ c = 14 := by omega
  rcases cc with rfl | rfl | rfl | rfl | rfl | rfl | rfl | rfl | rfl | rfl | rfl | rfl | rfl | rfl
  all_goals simp [Tm.popsN] at hp
  all_goals simp only [Int.reduceEq, ↓reduceIte]
  · exact sCh1 _ _ _ B k v u o s w hB hv hu ap hn hk0
  · exact sCh2 _ _ _ B k v u o _ _ _ w hB (two (by omega)) hu ap (hn2 (by omega)) (bn (by omega)) (bt (by omega)) hk0
  · exact sCh3 _ _ _ B k v u o _ _ _ w hB (two (by omega)) hu ap (hn2 (by omega)) (bn (by omega)) (bt (by omega)) hk0
  · exact sCh4 _ _ _ B k v u o _ _ _ w hB (two (by omega)) hu ap (hn2 (by omega)) (bn (by omega)) (bt (by omega)) hk0
  · exact sCh5 _ _ _ B k v u o _ _ w hB (one (by omega)) hu ap (hn1 (by omega)) (bt (by omega)) hk0
  · exact sCh6 _ _ _ B k v u o _ _ w hB (one (by omega)) hu ap (hn1 (by omega)) (bt (by omega)) hk0
  · exact sCh7 _ _ _ B k v u o _ _ w hB (one (by omega)) hu ap (hn1 (by omega)) hk0
  · exact sCh8 _ _ _ B k v u o _ _ _ w hB (two (by omega)) hu ap (hn2 (by omega)) hk0
  · exact sCh9 _ _ _ B k v u o _ _ w hB (one (by omega)) hu ap (hn1 (by omega)) hk0
  · exact sCh10 _ _ _ B k v u o _ _ w hB (one (by omega)) hu ap (hn1 (by omega)) (bt (by omega)) (by omega) hk0
  · have hb := hc (.inl rfl)
    obtain ⟨i, hi⟩ : ∃ i : Nat, i = (Tm.top s + 13).toNat := ⟨_, rfl⟩
    have E : Tm.top s = (i : Int) - 13 := by omega
    have o1 := one (by omega)
    have n1 := hn1 (by omega)
    rw [← hi]
    rw [E] at o1 n1
    exact sCh11 _ _ _ B k v u o _ i w hB o1 hu ap n1 _ rfl (by omega) ho hk0
  · have hb := hc (.inr rfl)
    obtain ⟨i, hi⟩ : ∃ i : Nat, i = (Tm.top s + 13).toNat := ⟨_, rfl⟩
    have E : Tm.top s = (i : Int) - 13 := by omega
    have o1 := two (by omega)
    have n1 := hn2 (by omega)
    rw [← hi]
    rw [E] at o1 n1
    exact sCh12 _ _ _ B k v u o _ _ i w hB o1 hu ap n1 (by omega) ho hk0
  · exact sCh13 _ _ _ B k v u s o w hB hv hu ap hn hk0
  · rcases Int.lt_or_le (Tm.top s) 0 with c1 | c1
    · rw [if_pos c1]
      exact sCh14n _ _ _ B k v u o _ _ w hB (one (by omega)) hu ap (hn1 (by omega)) c1 hk0
    · rw [if_neg (by omega)]
      by_cases c2 : Tm.top s = 0
      · rw [if_pos c2]
        exact sCh14z _ _ _ B k v u o _ _ w hB (one (by omega)) hu ap (hn1 (by omega)) c2 hk0
      · rw [if_neg c2]
        exact sCh14p _ _ _ B k v u o _ _ w hB (one (by omega)) hu ap (hn1 (by omega)) (by omega) hk0
/-- What was changed is handed back. -/
theorem own_back {w W : World} {B R : Nat} {v u : Value} {s o : List Int} (sv : w.ownsRow B 3 1 v s.length (s.map (Value.int .i64))) (ou : w.ownsRow B 3 1 u o.length (o.map (Value.int .i64))) (ap : Apart v u) (hW : ∀ q, q ≠ R → W.heap[q]? = w.heap[q]?) (hR : R < B) {B0 : Nat} (h0 : B0 ≤ B) {a b : Option Addr} {c d : Nat} (hv : v = .slice a s.length c) (hu : u = .slice b o.length d) : OwnM W B0 W.heap.size a s.length c s b o.length d o := by
  subst hv
  subst hu
  have g1 := own_stable sv (w' := W) fun q hq => hW q (by have := (sv.lt q hq).1; omega)
  have g2 := own_stable ou (w' := W) fun q hq => hW q (by have := (ou.lt q hq).1; omega)
  exact ⟨⟨own_weak2 g1 h0, fun q hq => (g1.lt q hq).2⟩, ⟨own_weak2 g2 h0, fun q hq => (g2.lt q hq).2⟩, ap, rfl, rfl⟩
/-- Why nothing bars the operation. -/
theorem Tm.why_nil {L : List (Nat → Int)} {j : Nat} {s : List Int} {x : Nat → Int} (hg : x = L.getD j Tm.g0) (hy : Tm.why L (j : Int) s = 0) : (j : Int) ≠ (L.length : Int) ∧ x 0 ≠ 15 ∧ Tm.popsN (x 0) ≤ (s.length : Int) ∧ (x 0 = 11 ∨ x 0 = 12 → -13 ≤ Tm.top s ∧ Tm.top s ≤ 13) := by
  unfold Tm.why at hy
  by_cases h1 : (j : Int) = (L.length : Int)
  · rw [if_pos h1] at hy; exact absurd hy (by decide)
  rw [if_neg h1, Int.toNat_natCast, ← hg] at hy
  by_cases h2 : x 0 = 15
  · rw [if_pos h2] at hy; exact absurd hy (by decide)
  rw [if_neg h2] at hy
  by_cases h3 : Tm.popsN (x 0) ≤ (s.length : Int) ∧ (s.length : Int) - Tm.popsN (x 0) + Tm.pushN (x 0) ≤ 20
  · rw [if_neg (fun hh => hh h3)] at hy
    refine ⟨h1, h2, h3.1, fun hh => Classical.not_not.1 fun hn => ?_⟩
    rw [if_pos ⟨hh, hn⟩] at hy; exact absurd hy (by decide)
  · rw [if_pos h3] at hy; exact absurd hy (by decide)
set_option maxHeartbeats 2000000 in
theorem sStepMachine (aL : Option Addr) (nL cL : Nat) (L : List (Nat → Int)) (k : Int) (a : Option Addr) (n c : Nat) (s : List Int) (b : Option Addr) (m d : Nat) (o : List Int) (w : World) (hL : OpR w aL nL cL L) (h : Ms w a n c s b m d o) :
    Calls Tryd.prog 7 #[.slice aL nL cL, machV k a n c b m d] w (RetMI w (Tm.stK L k s o) (Tm.stS L k s o) (Tm.stO L k s o) (Tm.stE L k s o)) := by
  have H := Lib.hid h
  have HL := Lib.hid hL
  obtain rfl : L.length = nL := hL.1
  obtain rfl : n = s.length := h.1.1.symm
  obtain rfl : m = o.length := h.2.1.symm
  clear h hL
  obtain ⟨A, hA⟩ : ∃ A, A = (w.alloc (.cells #[.int .i64 k, .slice a s.length c, .slice b o.length d] 28)).alloc (.cells #[.int .i64 0, .slice none 0 0, .slice none 0 0] 28) := ⟨_, rfl⟩
  have sA : A.heap.size = w.heap.size + 2 := by rw [hA]; simp
  have BA := Lib.hid (show Below w.heap.size w A by rw [hA]; (repeat' (first | (with_reducible exact Below.refl _ _) | (with_reducible assumption) | (with_reducible refine below_drewN ?_ _) | (with_reducible refine Below.drew ?_) | (with_reducible refine Below.alloc ?_ ?_ _) | (with_reducible refine Below.setCell ?_ ?_ _) | (with_reducible refine below_gw ?_ ?_ _) | (with_reducible refine below_via ?_ ‹Below _ _ _› ?_) | (with_reducible exact Nat.le_refl _) | (with_reducible refine le_gw ?_ _) | (with_reducible refine le_alloc ?_ _) | (with_reducible refine le_setCell ?_ _ _) | (with_reducible refine le_drew ?_) | (with_reducible refine le_drewN ?_ _) | go_size)))
  have RB : Hid (Blk3 A (w.heap.size + 1) (.int .i64 0) (.slice none 0 0) (.slice none 0 0) 28) := Lib.hid (by
    have h := blk3_new (w.alloc (.cells #[.int .i64 k, .slice a s.length c, .slice b o.length d] 28)) (.int .i64 0) (.slice none 0 0) (.slice none 0 0) 28
    rw [World.size_alloc] at h
    rw [hA]; exact h)
  have PB : Hid (Blk3 A w.heap.size (.int .i64 k) (.slice a s.length c) (.slice b o.length d) 28) := Lib.hid (by
    have h := (blk3_new w (.int .i64 k) (.slice a s.length c) (.slice b o.length d) 28).later (w' := A) (by rw [hA]; exact (Below.refl _ _).alloc (Nat.le_refl _) _)
    exact h)
  obtain ⟨p0, p1, p2⟩ := PB.out.cells
  have lA : w.heap.size < A.heap.size := by omega
  have IM := Lib.hid (fun (W : World) (hW : Below w.heap.size w W) => sIsMachine aL L.length cL L k a s.length c s b o.length d o W (HL.out.below hW) (H.out.below hW))
  cases hM : Tm.machOk L k s o with
  | false =>
    rw [hM] at IM
    rw [show Tm.stK L k s o = 0 by unfold Tm.stK; rw [hM]; rfl, show Tm.stS L k s o = [] by unfold Tm.stS; rw [hM]; rfl, show Tm.stO L k s o = [] by unfold Tm.stO; rw [hM]; rfl, show Tm.stE L k s o = 0 by unfold Tm.stE; rw [hM]; rfl]
    clear hM
    go_enter Tryd.func7, Tryd.ntmps7
    go_wp2_with fail
    rw [← hA]
    clear hA
    refine (IM.out _ BA.out).mono ?_
    rintro e w1 ⟨rfl, hb1⟩
    have R1 := Lib.hid (RB.out.later hb1)
    have B1 := Lib.hid (BA.out.trans (hb1.mono (by omega)))
    have s1 := hb1.size
    obtain ⟨r0, r1, r2⟩ := R1.out.cells
    have rz := R1.out.frozen
    clear hb1 p0 p1 p2
    go_wp2
    have BG := ((R1.out.set0 (.int .i64 0)).set1 (.slice none 0 0)).set2 (.slice none 0 0)
    obtain ⟨e0, e1, e2⟩ := BG.cells
    refine bodyPost_ret (v := .tuple #[machV 0 none 0 0 none 0 0, .int .i64 0]) (by simp [results, Tryd.results7, go_sem, e0, e1, e2]) rfl ?_
    exact ⟨none, 0, none, 0, rfl, ownM_nil _ _ _, by have b1 := B1.out; (repeat' (first | (with_reducible exact Below.refl _ _) | (with_reducible assumption) | (with_reducible refine below_drewN ?_ _) | (with_reducible refine Below.drew ?_) | (with_reducible refine Below.alloc ?_ ?_ _) | (with_reducible refine Below.setCell ?_ ?_ _) | (with_reducible refine below_gw ?_ ?_ _) | (with_reducible refine below_via ?_ ‹Below _ _ _› ?_) | (with_reducible exact Nat.le_refl _) | (with_reducible refine le_gw ?_ _) | (with_reducible refine le_alloc ?_ _) | (with_reducible refine le_setCell ?_ _ _) | (with_reducible refine le_drew ?_) | (with_reducible refine le_drewN ?_ _) | go_size)), by simp, by simp⟩
  | true =>
    rw [hM] at IM
    rw [show Tm.stK L k s o = Tm.nxP L k s by unfold Tm.stK; rw [hM]; rfl, show Tm.stS L k s o = Tm.nxS L k s o by unfold Tm.stS; rw [hM]; rfl, show Tm.stO L k s o = Tm.nxO L k s o by unfold Tm.stO; rw [hM]; rfl, show Tm.stE L k s o = Tm.why L k s by unfold Tm.stE; rw [hM]; rfl]
    obtain ⟨hC, ⟨k0, k1⟩, hs20, ho27, hcs, hco⟩ := (Tm.machOk_iff L k s o).1 hM
    obtain ⟨⟨l1, l2⟩, hop⟩ := (Tm.codeOk_iff L).1 hC
    have SW := Lib.hid (fun (W : World) (hW : Below w.heap.size w W) => sWhy aL L.length cL L k a s.length c s b o.length d o W (HL.out.below hW) (H.out.below hW) hM)
    have CM := Lib.hid (fun (W : World) (hW : Below w.heap.size w W) => sCopyM k a s.length c s b o.length d o W (H.out.below hW) (by omega) (by omega))
    by_cases hy : Tm.why L k s = 0
    · obtain ⟨j, rfl⟩ : ∃ j : Nat, k = (j : Int) := ⟨k.toNat, by omega⟩
      obtain ⟨x, hx⟩ : ∃ x, x = L.getD j Tm.g0 := ⟨_, rfl⟩
      obtain ⟨hk, c15, hp, hc⟩ := Tm.why_nil hx hy
      have jl : j < L.length := by omega
      have hxo := hop j jl
      rw [← hx] at hxo
      have P : Tm.nxP L (j : Int) s = Tm.opP x ((j : Int) + 1) s ∧ Tm.nxS L (j : Int) s o = Tm.opS x s o ∧ Tm.nxO L (j : Int) s o = Tm.opO x s o := by
        unfold Tm.nxP Tm.nxS Tm.nxO; rw [if_pos hy, if_pos hy, if_pos hy, Int.toNat_natCast, ← hx]; exact ⟨rfl, rfl, rfl⟩
      have LS : Hid ((Tm.opS x s o).length ≤ 1048576 ∧ (Tm.opO x s o).length ≤ 1048576) := Lib.hid (by
        have h1 := Tm.nxS_len L (j : Int) s o
        have h2 := Tm.nxO_len L (j : Int) s o
        rw [P.2.1] at h1
        rw [P.2.2] at h2
        omega)
      rw [P.1, P.2.1, P.2.2, hy]
      rw [hy] at SW
      have CH := Lib.hid (fun B v u (W : World) hB hv hu ap => sChange x L.length B (j : Int) v u s o W hB hv hu ap hxo c15 hp hc hcs ho27 hs20 (by omega))
      obtain ⟨bb, oo, rfl, hbl, hcl⟩ : ∃ b o, aL = some ⟨b, o, none⟩ ∧ b < w.heap.size ∧ ∀ i, i < L.length → ∀ j, j < 4 → w.cell? ⟨b, o + i * 4 + j, none⟩ = some (.int .i64 (L.getD i Tm.g0 j)) := by
        rcases HL.out.2.2.2 with h0 | h1
        · omega
        · exact h1
      have Q : ∀ i, i < 4 → w.cell? ⟨bb, oo + j * 4 + i, none⟩ = some (.int .i64 (x i)) := by
        intro i hi; rw [hx]; exact hcl j jl i hi
      have QH := Lib.hid Q
      have HL2 := HL.out.2.1
      have HL3 := HL.out.2.2.1
      unfold maxLen at HL3
      clear hM hop hC hcs hco P hx hxo hp hc hcl Q hy hk c15 l1 ho27
      go_enter Tryd.func7, Tryd.ntmps7
      go_wp2_with fail
      rw [← hA]
      clear hA
      refine (IM.out _ BA.out).mono ?_
      rintro e w1 ⟨rfl, hb1⟩
      have R1 := Lib.hid (RB.out.later hb1)
      have P1 := Lib.hid (PB.out.later hb1)
      have B1 := Lib.hid (BA.out.trans (hb1.mono (by omega)))
      have s1 := hb1.size
      obtain ⟨p0, p1, p2⟩ := P1.out.cells
      clear hb1
      go_wp2_with fail
      refine (SW.out _ B1.out).mono ?_
      rintro e w2 ⟨rfl, hb2⟩
      have R2 := Lib.hid (R1.out.later hb2)
      have P2 := Lib.hid (P1.out.later hb2)
      have s2 := hb2.size
      have B2 := Lib.hid (B1.out.trans (hb2.mono (by omega)))
      clear hb2 p0 p1 p2
      obtain ⟨p0, p1, p2⟩ := P2.out.cells
      go_wp2_with fail
      have j0 : (0 : Int) ≤ (j : Int) := by omega
      have j1 : (j : Int) < (L.length : Int) := by omega
      have SB : Hid (∀ W, Below w2.heap.size w2 W → W.cell? ⟨w.heap.size, 0, none⟩ = some (.int .i64 (j : Int)) ∧ W.cell? ⟨w.heap.size, 1, none⟩ = some (.slice a s.length c) ∧ W.cell? ⟨w.heap.size, 2, none⟩ = some (.slice b o.length d) ∧ W.cell? ⟨bb, oo + j * 4, none⟩ = some (.int .i64 (x 0)) ∧ W.cell? ⟨bb, oo + j * 4 + 1, none⟩ = some (.int .i64 (x 1)) ∧ W.cell? ⟨bb, oo + j * 4 + 2, none⟩ = some (.int .i64 (x 2)) ∧ W.cell? ⟨bb, oo + j * 4 + 3, none⟩ = some (.int .i64 (x 3))) := Lib.hid (fun W hW => by
        have sz : w.heap.size < w2.heap.size := by omega
        have qq : ∀ i, i < 4 → W.cell? ⟨bb, oo + j * 4 + i, none⟩ = some (.int .i64 (x i)) := fun i hi => by
          rw [hW.cell (p := ⟨bb, oo + j * 4 + i, none⟩) (show bb < w2.heap.size by omega), B2.out.cell (p := ⟨bb, oo + j * 4 + i, none⟩) hbl]; exact QH.out i hi
        exact ⟨by rw [hW.cell (p := ⟨w.heap.size, 0, none⟩) sz]; exact p0, by rw [hW.cell (p := ⟨w.heap.size, 1, none⟩) sz]; exact p1, by rw [hW.cell (p := ⟨w.heap.size, 2, none⟩) sz]; exact p2, qq 0 (by omega), qq 1 (by omega), qq 2 (by omega), qq 3 (by omega)⟩)
      have HS : Hid ((fun W : World => W.cell? ⟨w.heap.size, 0, none⟩ = some (.int .i64 (j : Int)) ∧ W.cell? ⟨w.heap.size, 1, none⟩ = some (.slice a s.length c) ∧ W.cell? ⟨w.heap.size, 2, none⟩ = some (.slice b o.length d) ∧ W.cell? ⟨bb, oo + j * 4, none⟩ = some (.int .i64 (x 0)) ∧ W.cell? ⟨bb, oo + j * 4 + 1, none⟩ = some (.int .i64 (x 1)) ∧ W.cell? ⟨bb, oo + j * 4 + 2, none⟩ = some (.int .i64 (x 2)) ∧ W.cell? ⟨bb, oo + j * 4 + 3, none⟩ = some (.int .i64 (x 3))) w2.drew) := Lib.hid (SB.out _ (Below.drew (Below.refl _ _)))
      refine wp_region_T [8] (fun W : World => W.cell? ⟨w.heap.size, 0, none⟩ = some (.int .i64 (j : Int)) ∧ W.cell? ⟨w.heap.size, 1, none⟩ = some (.slice a s.length c) ∧ W.cell? ⟨w.heap.size, 2, none⟩ = some (.slice b o.length d) ∧ W.cell? ⟨bb, oo + j * 4, none⟩ = some (.int .i64 (x 0)) ∧ W.cell? ⟨bb, oo + j * 4 + 1, none⟩ = some (.int .i64 (x 1)) ∧ W.cell? ⟨bb, oo + j * 4 + 2, none⟩ = some (.int .i64 (x 2)) ∧ W.cell? ⟨bb, oo + j * 4 + 3, none⟩ = some (.int .i64 (x 3))) (by kernel_rfl) ?_
      refine wpAnyT_take (i := 0) (v := ?v1) rfl (by kernel_rfl) (by kernel_rfl) (by kernel_rfl) (by kernel_rfl) (by kernel_rfl) (fun _ _ _ h => h) HS.out rfl ?hy1 ?hh1
      case hy1 => (intro W hW; obtain ⟨h1, h2, h3, h4, h5, h6, h7⟩ := hW; go_simp; try with_reducible rfl)
      case hh1 =>
      (try simp only [Act.put])
      refine wpAnyT_take (i := 1) (v := ?v2) rfl (by kernel_rfl) (by kernel_rfl) (by kernel_rfl) (by kernel_rfl) (by kernel_rfl) (fun _ _ _ h => h) HS.out rfl ?hy2 ?hh2
      case hy2 => (intro W hW; obtain ⟨h1, h2, h3, h4, h5, h6, h7⟩ := hW; go_simp; try with_reducible rfl)
      case hh2 =>
      (try simp only [Act.put])
      refine wpAnyT_take (i := 2) (v := ?v3) rfl (by kernel_rfl) (by kernel_rfl) (by kernel_rfl) (by kernel_rfl) (by kernel_rfl) (fun _ _ _ h => h) HS.out rfl ?hy3 ?hh3
      case hy3 => (intro W hW; obtain ⟨h1, h2, h3, h4, h5, h6, h7⟩ := hW; go_simp; try with_reducible rfl)
      case hh3 =>
      (try simp only [Act.put])
      refine wpAnyT_take (i := 3) (v := ?v4) rfl (by kernel_rfl) (by kernel_rfl) (by kernel_rfl) (by kernel_rfl) (by kernel_rfl) (fun _ _ _ h => h) HS.out rfl ?hy4 ?hh4
      case hy4 => (intro W hW; obtain ⟨h1, h2, h3, h4, h5, h6, h7⟩ := hW; go_simp; try with_reducible rfl)
      case hh4 =>
      (try simp only [Act.put])
      refine wpAnyT_take (i := 4) (v := ?v5) rfl (by kernel_rfl) (by kernel_rfl) (by kernel_rfl) (by kernel_rfl) (by kernel_rfl) (fun _ _ _ h => h) HS.out rfl ?hy5 ?hh5
      case hy5 => (intro W hW; obtain ⟨h1, h2, h3, h4, h5, h6, h7⟩ := hW; go_simp; try with_reducible rfl)
      case hh5 =>
      (try simp only [Act.put])
      refine wpAnyT_take (i := 5) (v := ?v6) rfl (by kernel_rfl) (by kernel_rfl) (by kernel_rfl) (by kernel_rfl) (by kernel_rfl) (fun _ _ _ h => h) HS.out rfl ?hy6 ?hh6
      case hy6 => (intro W hW; obtain ⟨h1, h2, h3, h4, h5, h6, h7⟩ := hW; go_simp; try with_reducible rfl)
      case hh6 =>
      (try simp only [Act.put])
      refine wpAnyT_only (i := 6) rfl (by kernel_rfl) (fun K hK => ?_)
      go_simp
      go_at_call 21
      refine (CM.out _ (Below.drew B2.out)).mono ?_
      intro r w3 hh
      unfold RetM at hh
      obtain ⟨a1, c1, b1, d1, rfl, om, hb3, -, -⟩ := hh
      simp only [World.size_drew] at om hb3
      have b3 : Below w2.heap.size w2 w3 := (Below.drew (Below.refl _ _)).trans hb3
      have s3 := b3.size
      have OM := Lib.hid om
      have B3 := Lib.hid b3
      refine hK _ _ (fun _ _ => SB.out _ B3.out) ?_
      clear hK K om hb3 b3
      (try simp only [Act.put])
      refine wpAnyT_only (i := 7) rfl (by kernel_rfl) (fun K hK => ?_)
      go_simp
      go_at_call 22
      refine (CH.out w2.heap.size _ _ _ s3 OM.out.g.1 OM.out.i.1 OM.out.ap).mono ?_
      rintro e w4 ⟨v', u', rfl, hv, hu, hap, b4, -⟩
      have b34 := B3.out.trans b4
      have s4 := b34.size
      refine hK _ _ (fun _ _ => SB.out _ b34) ?_
      clear hK K
      (try simp only [Act.put])
      have R4 := Lib.hid (R2.out.later b34)
      have B4 : Hid (Below w.heap.size w w4) := Lib.hid (B2.out.trans (b34.mono (by omega)))
      have HVV := Lib.hid (And.intro hv (And.intro hu hap))
      obtain ⟨va, vc, rfl⟩ := own_form hv
      obtain ⟨ua, uc, rfl⟩ := own_form hu
      obtain ⟨r0, r1, r2⟩ := R4.out.cells
      have rz := R4.out.frozen
      have lr := R4.out.lt
      clear hv hu hap b4 b34
      obtain ⟨P', hP⟩ : ∃ z, z = Tm.opP x ((j : Int) + 1) s := ⟨_, rfl⟩
      obtain ⟨S', hS⟩ : ∃ z, z = Tm.opS x s o := ⟨_, rfl⟩
      obtain ⟨O', hO⟩ : ∃ z, z = Tm.opO x s o := ⟨_, rfl⟩
      rw [← hS, ← hO] at HVV LS
      have HP := Lib.hid (And.intro hP (And.intro hS hO))
      rw [← hP]
      clear hP hS hO
      refine wpAnyT_only (i := 8) rfl (by kernel_rfl) (fun K hK => ?_)
      go_simp
      refine hK _ _ (fun h => (h (by decide)).elim) ?_
      clear hK K
      (try simp only [Act.put])
      refine wpAnyT_only (i := 9) rfl (by kernel_rfl) (fun K hK => ?_)
      go_simp
      refine hK _ _ (fun _ h => h) ?_
      clear hK K
      (try simp only [Act.put])
      refine wpAnyT_done (by kernel_rfl) ?_ _
      go_wp2
      rw [← HP.out.1, ← HP.out.2.1, ← HP.out.2.2]
      obtain ⟨e0, e1, e2⟩ := (((R4.out.set0 (.int .i64 P')).set1 (.slice va S'.length vc)).set2 (.slice ua O'.length uc)).cells
      refine bodyPost_ret (v := .tuple #[machV P' va S'.length vc ua O'.length uc, .int .i64 0]) (by simp [results, Tryd.results7, go_sem, e0, e1, e2]) rfl ?_
      exact ⟨va, vc, ua, uc, rfl, own_back HVV.out.1 HVV.out.2.1 HVV.out.2.2 (R := w.heap.size + 1) (fun q hq => by rw [heap_setCell_other _ ⟨w.heap.size + 1, 2, none⟩ q _ hq, heap_setCell_other _ ⟨w.heap.size + 1, 1, none⟩ q _ hq, heap_setCell_other _ ⟨w.heap.size + 1, 0, none⟩ q _ hq]) (by omega) (by omega) rfl rfl, by have b4 := B4.out; (repeat' (first | (with_reducible exact Below.refl _ _) | (with_reducible assumption) | (with_reducible refine below_drewN ?_ _) | (with_reducible refine Below.drew ?_) | (with_reducible refine Below.alloc ?_ ?_ _) | (with_reducible refine Below.setCell ?_ ?_ _) | (with_reducible refine below_gw ?_ ?_ _) | (with_reducible refine below_via ?_ ‹Below _ _ _› ?_) | (with_reducible exact Nat.le_refl _) | (with_reducible refine le_gw ?_ _) | (with_reducible refine le_alloc ?_ _) | (with_reducible refine le_setCell ?_ _ _) | (with_reducible refine le_drew ?_) | (with_reducible refine le_drewN ?_ _) | go_size)), LS.out.1, LS.out.2⟩
    · have P : Tm.nxP L k s = k ∧ Tm.nxS L k s o = s ∧ Tm.nxO L k s o = o := by
        unfold Tm.nxP Tm.nxS Tm.nxO; rw [if_neg hy, if_neg hy, if_neg hy]; exact ⟨rfl, rfl, rfl⟩
      rw [P.1, P.2.1, P.2.2]
      obtain ⟨y, hye⟩ : ∃ y, y = Tm.why L k s := ⟨_, rfl⟩
      rw [← hye] at SW hy ⊢
      have hyn : (y != 0) = true := by simpa using hy
      have hyn2 : (y == 0) = false := by simpa using hy
      have LO := Lib.hid (show o.length ≤ 1048576 by omega)
      clear hM hop hC hcs hco P hye l1 ho27
      go_enter Tryd.func7, Tryd.ntmps7
      go_wp2_with fail
      rw [← hA]
      clear hA
      refine (IM.out _ BA.out).mono ?_
      rintro e w1 ⟨rfl, hb1⟩
      have R1 := Lib.hid (RB.out.later hb1)
      have P1 := Lib.hid (PB.out.later hb1)
      have B1 := Lib.hid (BA.out.trans (hb1.mono (by omega)))
      have s1 := hb1.size
      obtain ⟨p0, p1, p2⟩ := P1.out.cells
      clear hb1
      go_wp2_with fail
      refine (SW.out _ B1.out).mono ?_
      rintro e w2 ⟨rfl, hb2⟩
      have R2 := Lib.hid (R1.out.later hb2)
      have P2 := Lib.hid (P1.out.later hb2)
      have s2 := hb2.size
      have B2 := Lib.hid (B1.out.trans (hb2.mono (by omega)))
      clear hb2 p0 p1 p2
      obtain ⟨p0, p1, p2⟩ := P2.out.cells
      go_wp2_with fail
      refine (CM.out _ B2.out).mono ?_
      intro r w3 hh
      unfold RetM at hh
      obtain ⟨a1, c1, b1, d1, rfl, om, hb3, -, -⟩ := hh
      have R3 := Lib.hid (R2.out.later hb3)
      have s3 := hb3.size
      have B3 := Lib.hid (B2.out.trans (hb3.mono (by omega)))
      have OM := Lib.hid om
      obtain ⟨r0, r1, r2⟩ := R3.out.cells
      have rz := R3.out.frozen
      have lr := R3.out.lt
      clear hb3 om p0 p1 p2
      go_wp2
      obtain ⟨e0, e1, e2⟩ := (((R3.out.set0 (.int .i64 k)).set1 (.slice a1 s.length c1)).set2 (.slice b1 o.length d1)).cells
      refine bodyPost_ret (v := .tuple #[machV k a1 s.length c1 b1 o.length d1, .int .i64 y]) (by simp [results, Tryd.results7, go_sem, e0, e1, e2]) rfl ?_
      exact ⟨a1, c1, b1, d1, rfl, own_back (B := w2.heap.size) OM.out.g.1 OM.out.i.1 OM.out.ap (R := w.heap.size + 1) (fun q hq => by rw [heap_setCell_other _ ⟨w.heap.size + 1, 2, none⟩ q _ hq, heap_setCell_other _ ⟨w.heap.size + 1, 1, none⟩ q _ hq, heap_setCell_other _ ⟨w.heap.size + 1, 0, none⟩ q _ hq]) (by omega) (by omega) rfl rfl, by have b3 := B3.out; (repeat' (first | (with_reducible exact Below.refl _ _) | (with_reducible assumption) | (with_reducible refine below_drewN ?_ _) | (with_reducible refine Below.drew ?_) | (with_reducible refine Below.alloc ?_ ?_ _) | (with_reducible refine Below.setCell ?_ ?_ _) | (with_reducible refine below_gw ?_ ?_ _) | (with_reducible refine below_via ?_ ‹Below _ _ _› ?_) | (with_reducible exact Nat.le_refl _) | (with_reducible refine le_gw ?_ _) | (with_reducible refine le_alloc ?_ _) | (with_reducible refine le_setCell ?_ _ _) | (with_reducible refine le_drew ?_) | (with_reducible refine le_drewN ?_ _) | go_size)), by omega, LO.out⟩
/-- A row of another type lies in another block. -/
theorem Blk3.ne_own {w : World} {p B n : Nat} {v0 v1 v2 v : Value} {t e : TypeId} {xs : List Value} (h : Blk3 w p v0 v1 v2 t) (hv : w.ownsRow B e 1 v n xs) (hne : e ≠ t) : v.ownBlock ≠ some p := by
  unfold Blk3 at h
  rcases hv.2 with ⟨rfl, _⟩ | ⟨g, cap, cur, rfl, _, hg, _⟩
  · exact fun e => by cases e
  · intro e1
    obtain rfl : g = p := Option.some.inj e1
    rw [h] at hg
    have := Option.some.inj hg
    injection this with _ h2 _
    exact hne h2.symm
/-- What was changed is laid into the machine's box. -/
theorem MSt.set_all {w w' W : World} {B p : Nat} {k k' : Int} {v u v' u' : Value} {s o s' o' : List Int} (h : MSt w B p k v s u o) (hf : Fr v u w w') (sv : w'.ownsRow B 3 1 v' s'.length (s'.map (Value.int .i64))) (ou : w'.ownsRow B 3 1 u' o'.length (o'.map (Value.int .i64))) (ap : Apart v' u') (hW : W = ((w'.setCell ⟨p, 0, none⟩ (.int .i64 k')).setCell ⟨p, 1, none⟩ v').setCell ⟨p, 2, none⟩ u') : MSt W B p k' v' s' u' o' := by
  have b := h.blk.keep (hf.block p h.blk.lt h.vp h.up)
  have nv : v'.ownBlock ≠ some p := b.ne_own sv (by decide)
  have nu : u'.ownBlock ≠ some p := b.ne_own ou (by decide)
  subst hW
  exact ⟨((b.set0 _).set1 _).set2 _, h.low, own_set_far (own_set_far (own_set_far sv nv) nv) nv, own_set_far (own_set_far (own_set_far ou nu) nu) nu, ap, nv, nu⟩
set_option maxHeartbeats 2000000 in
theorem sRunMachine (aL : Option Addr) (nL cL : Nat) (L : List (Nat → Int)) (k : Int) (a : Option Addr) (n c : Nat) (s : List Int) (b : Option Addr) (m d : Nat) (o : List Int) (f : Int) (w : World) (hL : OpR w aL nL cL L) (h : Ms w a n c s b m d o) :
    Calls Tryd.prog 16 #[.slice aL nL cL, machV k a n c b m d, .int .i64 f] w (RetMI w (Tm.rnK L k s o f) (Tm.rnS L k s o f) (Tm.rnO L k s o f) (Tm.rnE L k s o f)) := by
  have H := Lib.hid h
  have HL := Lib.hid hL
  obtain rfl : L.length = nL := hL.1
  obtain rfl : n = s.length := h.1.1.symm
  obtain rfl : m = o.length := h.2.1.symm
  clear h hL
  obtain ⟨A, hA⟩ : ∃ A, A = (w.alloc (.cells #[.int .i64 k, .slice a s.length c, .slice b o.length d] 28)).alloc (.cells #[.int .i64 0, .slice none 0 0, .slice none 0 0] 28) := ⟨_, rfl⟩
  have sA : A.heap.size = w.heap.size + 2 := by rw [hA]; simp
  have BA := Lib.hid (show Below w.heap.size w A by rw [hA]; (repeat' (first | (with_reducible exact Below.refl _ _) | (with_reducible assumption) | (with_reducible refine below_drewN ?_ _) | (with_reducible refine Below.drew ?_) | (with_reducible refine Below.alloc ?_ ?_ _) | (with_reducible refine Below.setCell ?_ ?_ _) | (with_reducible refine below_gw ?_ ?_ _) | (with_reducible refine below_via ?_ ‹Below _ _ _› ?_) | (with_reducible exact Nat.le_refl _) | (with_reducible refine le_gw ?_ _) | (with_reducible refine le_alloc ?_ _) | (with_reducible refine le_setCell ?_ _ _) | (with_reducible refine le_drew ?_) | (with_reducible refine le_drewN ?_ _) | go_size)))
  have RB : Hid (Blk3 A (w.heap.size + 1) (.int .i64 0) (.slice none 0 0) (.slice none 0 0) 28) := Lib.hid (by
    have h := blk3_new (w.alloc (.cells #[.int .i64 k, .slice a s.length c, .slice b o.length d] 28)) (.int .i64 0) (.slice none 0 0) (.slice none 0 0) 28
    rw [World.size_alloc] at h
    rw [hA]; exact h)
  have PB : Hid (Blk3 A w.heap.size (.int .i64 k) (.slice a s.length c) (.slice b o.length d) 28) := Lib.hid (by
    have h := (blk3_new w (.int .i64 k) (.slice a s.length c) (.slice b o.length d) 28).later (w' := A) (by rw [hA]; exact (Below.refl _ _).alloc (Nat.le_refl _) _)
    exact h)
  obtain ⟨p0, p1, p2⟩ := PB.out.cells
  have lA : w.heap.size < A.heap.size := by omega
  have IM := Lib.hid (fun (W : World) (hW : Below w.heap.size w W) => sIsMachine aL L.length cL L k a s.length c s b o.length d o W (HL.out.below hW) (H.out.below hW))
  cases hM : Tm.machOk L k s o with
  | false =>
    have hX : Tm.rnOk L k s o f = false := by unfold Tm.rnOk; rw [hM]; rfl
    rw [hM] at IM
    rw [show Tm.rnK L k s o f = 0 by unfold Tm.rnK; rw [hX]; rfl, show Tm.rnS L k s o f = [] by unfold Tm.rnS; rw [hX]; rfl, show Tm.rnO L k s o f = [] by unfold Tm.rnO; rw [hX]; rfl, show Tm.rnE L k s o f = 0 by unfold Tm.rnE; rw [hX]; rfl]
    clear hM hX
    go_enter Tryd.func16, Tryd.ntmps16
    go_wp2_with fail
    rw [← hA]
    clear hA
    refine (IM.out _ BA.out).mono ?_
    rintro e w1 ⟨rfl, hb1⟩
    have R1 := Lib.hid (RB.out.later hb1)
    have B1 := Lib.hid (BA.out.trans (hb1.mono (by omega)))
    have s1 := hb1.size
    obtain ⟨r0, r1, r2⟩ := R1.out.cells
    have rz := R1.out.frozen
    clear hb1 p0 p1 p2
    go_wp2
    have BG := ((R1.out.set0 (.int .i64 0)).set1 (.slice none 0 0)).set2 (.slice none 0 0)
    obtain ⟨e0, e1, e2⟩ := BG.cells
    refine bodyPost_ret (v := .tuple #[machV 0 none 0 0 none 0 0, .int .i64 0]) (by simp [results, Tryd.results16, go_sem, e0, e1, e2]) rfl ?_
    exact ⟨none, 0, none, 0, rfl, ownM_nil _ _ _, by have b1 := B1.out; (repeat' (first | (with_reducible exact Below.refl _ _) | (with_reducible assumption) | (with_reducible refine below_drewN ?_ _) | (with_reducible refine Below.drew ?_) | (with_reducible refine Below.alloc ?_ ?_ _) | (with_reducible refine Below.setCell ?_ ?_ _) | (with_reducible refine below_gw ?_ ?_ _) | (with_reducible refine below_via ?_ ‹Below _ _ _› ?_) | (with_reducible exact Nat.le_refl _) | (with_reducible refine le_gw ?_ _) | (with_reducible refine le_alloc ?_ _) | (with_reducible refine le_setCell ?_ _ _) | (with_reducible refine le_drew ?_) | (with_reducible refine le_drewN ?_ _) | go_size)), by simp, by simp⟩
  | true =>
    rw [hM] at IM
    cases hF : Tm.inB f 0 2000 with
    | false =>
      have hX : Tm.rnOk L k s o f = false := by unfold Tm.rnOk; rw [hM, hF]; rfl
      rw [show Tm.rnK L k s o f = 0 by unfold Tm.rnK; rw [hX]; rfl, show Tm.rnS L k s o f = [] by unfold Tm.rnS; rw [hX]; rfl, show Tm.rnO L k s o f = [] by unfold Tm.rnO; rw [hX]; rfl, show Tm.rnE L k s o f = 0 by unfold Tm.rnE; rw [hX]; rfl]
      clear hM hX
      go_enter Tryd.func16, Tryd.ntmps16
      go_wp2_with fail
      rw [← hA]
      clear hA
      refine (IM.out _ BA.out).mono ?_
      rintro e w1 ⟨rfl, hb1⟩
      have R1 := Lib.hid (RB.out.later hb1)
      have B1 := Lib.hid (BA.out.trans (hb1.mono (by omega)))
      have s1 := hb1.size
      obtain ⟨r0, r1, r2⟩ := R1.out.cells
      have rz := R1.out.frozen
      clear hb1 p0 p1 p2
      go_wp2_with fail
      refine (sIn f 0 2000 _).mono ?_
      rintro e w2 ⟨rfl, rfl⟩
      rw [hF]
      go_wp2
      have BG := ((R1.out.set0 (.int .i64 0)).set1 (.slice none 0 0)).set2 (.slice none 0 0)
      obtain ⟨e0, e1, e2⟩ := BG.cells
      refine bodyPost_ret (v := .tuple #[machV 0 none 0 0 none 0 0, .int .i64 0]) (by simp [results, Tryd.results16, go_sem, e0, e1, e2]) rfl ?_
      exact ⟨none, 0, none, 0, rfl, ownM_nil _ _ _, by have b1 := B1.out; (repeat' (first | (with_reducible exact Below.refl _ _) | (with_reducible assumption) | (with_reducible refine below_drewN ?_ _) | (with_reducible refine Below.drew ?_) | (with_reducible refine Below.alloc ?_ ?_ _) | (with_reducible refine Below.setCell ?_ ?_ _) | (with_reducible refine below_gw ?_ ?_ _) | (with_reducible refine below_via ?_ ‹Below _ _ _› ?_) | (with_reducible exact Nat.le_refl _) | (with_reducible refine le_gw ?_ _) | (with_reducible refine le_alloc ?_ _) | (with_reducible refine le_setCell ?_ _ _) | (with_reducible refine le_drew ?_) | (with_reducible refine le_drewN ?_ _) | go_size)), by simp, by simp⟩
    | true =>
      have hF2 := (Tm.inB_iff _ _ _).1 hF
      obtain ⟨F, rfl⟩ : ∃ F : Nat, f = (F : Int) := ⟨f.toNat, by omega⟩
      have hX : Tm.rnOk L k s o (F : Int) = true := by unfold Tm.rnOk; rw [hM, hF]; rfl
      rw [show Tm.rnK L k s o (F : Int) = Tm.runP L F k s o by unfold Tm.rnK; rw [hX]; rfl, show Tm.rnS L k s o (F : Int) = Tm.runS L F k s o by unfold Tm.rnS; rw [hX]; rfl, show Tm.rnO L k s o (F : Int) = Tm.runO L F k s o by unfold Tm.rnO; rw [hX]; rfl, show Tm.rnE L k s o (F : Int) = Tm.runE L F k s o by unfold Tm.rnE; rw [hX]; rfl]
      have MO := (Tm.machOk_iff L k s o).1 hM
      have s20 := MO.2.2.1
      have o27 : o.length ≤ 27 := by have := MO.2.2.2.1; omega
      have F1 : F ≤ 2000 := by omega
      have MK := Lib.hid hM
      have CM := Lib.hid (fun (W : World) (hW : Below w.heap.size w W) => sCopyM k a s.length c s b o.length d o W (H.out.below hW) (by omega) (by omega))
      have SW := Lib.hid (fun k' a' c' s' b' d' o' (W : World) (hW : Below w.heap.size w W) (hm : Ms W a' s'.length c' s' b' o'.length d' o') (hM : Tm.machOk L k' s' o' = true) => sWhy aL L.length cL L k' a' s'.length c' s' b' o'.length d' o' W (HL.out.below hW) hm hM)
      obtain ⟨⟨l1, l2⟩, hop⟩ := (Tm.codeOk_iff L).1 MO.1
      obtain ⟨bb, oo, rfl, hbl, hcl⟩ : ∃ b o, aL = some ⟨b, o, none⟩ ∧ b < w.heap.size ∧ ∀ i, i < L.length → ∀ j, j < 4 → w.cell? ⟨b, o + i * 4 + j, none⟩ = some (.int .i64 (L.getD i Tm.g0 j)) := by
        rcases HL.out.2.2.2 with h0 | h1
        · omega
        · exact h1
      have HCL := Lib.hid hcl
      have HOP := Lib.hid hop
      have HL2 := HL.out.2.1
      have HL3 := HL.out.2.2.1
      unfold maxLen at HL3
      clear hM MO hX hF hF2 hcl hop
      go_enter Tryd.func16, Tryd.ntmps16
      go_wp2_with fail
      rw [← hA]
      clear hA
      refine (IM.out _ BA.out).mono ?_
      rintro e w1 ⟨rfl, hb1⟩
      have R1 := Lib.hid (RB.out.later hb1)
      have P1 := Lib.hid (PB.out.later hb1)
      have B1 := Lib.hid (BA.out.trans (hb1.mono (by omega)))
      have s1 := hb1.size
      obtain ⟨p0, p1, p2⟩ := P1.out.cells
      clear hb1
      go_wp2_with fail
      refine (sIn (F : Int) 0 2000 _).mono ?_
      rintro e w1' ⟨rfl, rfl⟩
      rw [show Tm.inB (F : Int) 0 2000 = true from (Tm.inB_iff _ _ _).2 ⟨by omega, by omega⟩]
      go_wp2_with fail
      refine (CM.out _ B1.out).mono ?_
      intro r w2 hh
      unfold RetM at hh
      obtain ⟨a1, c1, b1, d1, rfl, om, hb2, -, -⟩ := hh
      have R2 := Lib.hid (R1.out.later hb2)
      have s2 := hb2.size
      have B2 := Lib.hid (B1.out.trans (hb2.mono (by omega)))
      have OM := Lib.hid om
      clear hb2 om p0 p1 p2
      go_wp2_with fail
      have MS : Hid (MSt (w2.alloc (.cells #[.int .i64 k, .slice a1 s.length c1, .slice b1 o.length d1] 28)) w1.heap.size w2.heap.size k (.slice a1 s.length c1) s (.slice b1 o.length d1) o) := Lib.hid
        ⟨blk3_new _ _ _ _ _, s2, own_below OM.out.g.1 ((Below.refl _ _).alloc (Nat.le_refl _) _), own_below OM.out.i.1 ((Below.refl _ _).alloc (Nat.le_refl _) _), OM.out.ap, fun e => by have := (OM.out.g.lt _ e).2; omega, fun e => by have := (OM.out.i.lt _ e).2; omega⟩
      have R3' := Lib.hid (R2.out.later ((Below.refl _ _).alloc (Nat.le_refl _) (.cells #[.int .i64 k, .slice a1 s.length c1, .slice b1 o.length d1] 28)))
      have B3' := Lib.hid (B2.out.alloc (by omega) (.cells #[.int .i64 k, .slice a1 s.length c1, .slice b1 o.length d1] 28))
      have hpr : w2.heap.size ≠ w.heap.size + 1 := by omega
      go_loopw [2] (fun i wr => ∃ q : Nat, q ≤ F ∧ i = .int .i64 q ∧ ∃ ki vi ui si oi, Hid (MSt wr w1.heap.size w2.heap.size ki vi si ui oi) ∧ Hid (Tm.machOk L ki si oi = true) ∧ Hid (Tm.SameRun L F k s o q ki si oi) ∧ Hid (Below w.heap.size w wr) ∧ Hid (Blk3 wr (w.heap.size + 1) (.int .i64 0) (.slice none 0 0) (.slice none 0 0) 28)) (fun i _ => (intOf i).toNat)
      case atStart => exact ⟨F, by omega, rfl, k, _, _, s, o, MS, MK, Lib.hid ⟨rfl, rfl, rfl, rfl⟩, B3', R3'⟩
      case round =>
        clear MS R3' B3' MK R1 R2 B1 B2 OM
        obtain ⟨q, hq, rfl, ki, vi, ui, si, oi, MI, MK, SR, BI, RI⟩ := hrel
        obtain ⟨va, vc, rfl⟩ := own_form MI.out.sv
        obtain ⟨ua, uc, rfl⟩ := own_form MI.out.ou
        obtain ⟨m0, m1, m2⟩ := MI.out.blk.cells
        have ml := MI.out.blk.lt
        have MM := (Tm.machOk_iff L ki si oi).1 MK.out
        have sl := MM.2.2.1
        have ol : oi.length ≤ 27 := by have := MM.2.2.2.1; omega
        rcases Nat.eq_zero_or_pos q with rfl | hlt
        · have YY : Hid (Tm.runP L F k s o = ki ∧ Tm.runS L F k s o = si ∧ Tm.runO L F k s o = oi ∧ Tm.runE L F k s o = 5) := Lib.hid SR.out
          have LL : Hid (si.length ≤ 1048576 ∧ oi.length ≤ 1048576) := Lib.hid ⟨by omega, by omega⟩
          have M3 := MI
          have R3 := RI
          have B3 := BI
          obtain ⟨r0, r1, r2⟩ := R3.out.cells
          have rz := R3.out.frozen
          have lr := R3.out.lt
          clear MM
          go_wp2
          have BG := ((R3.out.set0 (.int .i64 (ki))).set1 (.slice va (si).length vc)).set2 (.slice ua (oi).length uc)
          obtain ⟨e0, e1, e2⟩ := BG.cells
          refine bodyPost_ret (v := .tuple #[machV (ki) va (si).length vc ua (oi).length uc, .int .i64 (5)]) (by simp [results, Tryd.results16, go_sem, e0, e1, e2]) rfl ?_
          rw [YY.out.1, YY.out.2.1, YY.out.2.2.1, YY.out.2.2.2]
          exact ⟨va, vc, ua, uc, rfl, M3.out.own (R := w.heap.size + 1) (fun q hq => by rw [heap_setCell_other _ ⟨w.heap.size + 1, 2, none⟩ q _ hq, heap_setCell_other _ ⟨w.heap.size + 1, 1, none⟩ q _ hq, heap_setCell_other _ ⟨w.heap.size + 1, 0, none⟩ q _ hq]) (by omega) (by omega) rfl rfl, by have b3 := B3.out; (repeat' (first | (with_reducible exact Below.refl _ _) | (with_reducible assumption) | (with_reducible refine below_drewN ?_ _) | (with_reducible refine Below.drew ?_) | (with_reducible refine Below.alloc ?_ ?_ _) | (with_reducible refine Below.setCell ?_ ?_ _) | (with_reducible refine below_gw ?_ ?_ _) | (with_reducible refine below_via ?_ ‹Below _ _ _› ?_) | (with_reducible exact Nat.le_refl _) | (with_reducible refine le_gw ?_ _) | (with_reducible refine le_alloc ?_ _) | (with_reducible refine le_setCell ?_ _ _) | (with_reducible refine le_drew ?_) | (with_reducible refine le_drewN ?_ _) | go_size)), by have := LL.out.1; omega, by have := LL.out.2; omega⟩
        · obtain ⟨p, rfl⟩ : ∃ p, q = p + 1 := ⟨q - 1, by omega⟩
          have q0 : (0 : Int) < ((p + 1 : Nat) : Int) := by omega
          have qw : IntKind.i64.wrap (((p + 1 : Nat) : Int) - 1) = (p : Int) := by rw [IntWalk.i64_in _ (by omega)]; omega
          have WY := Lib.hid (SW.out ki va vc si ua uc oi wr BI.out ⟨Ints.of_own MI.out.sv, Ints.of_own MI.out.ou⟩ MK.out)
          by_cases hy : Tm.why L ki si = 0
          · obtain ⟨j, rfl⟩ : ∃ j : Nat, ki = (j : Int) := ⟨ki.toNat, by omega⟩
            obtain ⟨x, hx⟩ : ∃ x, x = L.getD j Tm.g0 := ⟨_, rfl⟩
            obtain ⟨hk, c15, hp, hc⟩ := Tm.why_nil hx hy
            have jl : j < L.length := by omega
            have hxo := HOP.out j jl
            rw [← hx] at hxo
            have SN := Lib.hid (SR.out.step hy)
            have KN := Lib.hid (Tm.step_ok MK.out)
            have P : Tm.nxP L (j : Int) si = Tm.opP x ((j : Int) + 1) si ∧ Tm.nxS L (j : Int) si oi = Tm.opS x si oi ∧ Tm.nxO L (j : Int) si oi = Tm.opO x si oi := by
              unfold Tm.nxP Tm.nxS Tm.nxO; rw [if_pos hy, if_pos hy, if_pos hy, Int.toNat_natCast, ← hx]; exact ⟨rfl, rfl, rfl⟩
            rw [P.1, P.2.1, P.2.2] at SN KN
            have CH := Lib.hid (fun B v u (W : World) hB hv hu ap => sChange x L.length B (j : Int) v u si oi W hB hv hu ap hxo c15 hp hc MM.2.2.2.2.1 MM.2.2.2.1 sl (by omega))
            have QH : Hid (∀ i, i < 4 → w.cell? ⟨bb, oo + j * 4 + i, none⟩ = some (.int .i64 (x i))) := Lib.hid (by
              intro i hi; rw [hx]; exact HCL.out j jl i hi)
            rw [hy] at WY
            clear hxo hx hp hc P hy hk c15 ol MM
            go_wp2_with fail
            refine WY.out.mono ?_
            rintro e w3 ⟨rfl, hb3⟩
            have M3 := Lib.hid (MI.out.later hb3)
            have R3 := Lib.hid (RI.out.later hb3)
            have s3 := hb3.size
            have B3 := Lib.hid (BI.out.trans (hb3.mono (by omega)))
            clear hb3 m0 m1 m2
            obtain ⟨m0, m1, m2⟩ := M3.out.blk.cells
            go_wp2_with fail
            have j0 : (0 : Int) ≤ (j : Int) := by omega
            have j1 : (j : Int) < (L.length : Int) := by omega
            have SB : Hid (∀ W : World, W.heap[w2.heap.size]? = w3.heap[w2.heap.size]? → Below w.heap.size w W → W.cell? ⟨w2.heap.size, 0, none⟩ = some (.int .i64 (j : Int)) ∧ W.cell? ⟨w2.heap.size, 1, none⟩ = some (.slice va si.length vc) ∧ W.cell? ⟨w2.heap.size, 2, none⟩ = some (.slice ua oi.length uc) ∧ W.cell? ⟨bb, oo + j * 4, none⟩ = some (.int .i64 (x 0)) ∧ W.cell? ⟨bb, oo + j * 4 + 1, none⟩ = some (.int .i64 (x 1)) ∧ W.cell? ⟨bb, oo + j * 4 + 2, none⟩ = some (.int .i64 (x 2)) ∧ W.cell? ⟨bb, oo + j * 4 + 3, none⟩ = some (.int .i64 (x 3))) := Lib.hid (fun W hW hB => by
              have qq : ∀ i, i < 4 → W.cell? ⟨bb, oo + j * 4 + i, none⟩ = some (.int .i64 (x i)) := fun i hi => by
                rw [hB.cell (p := ⟨bb, oo + j * 4 + i, none⟩) hbl]; exact QH.out i hi
              obtain ⟨m0, m1, m2⟩ := (M3.out.blk.keep hW).cells
              exact ⟨m0, m1, m2, qq 0 (by omega), qq 1 (by omega), qq 2 (by omega), qq 3 (by omega)⟩)
            have HS : Hid ((fun W : World => W.cell? ⟨w2.heap.size, 0, none⟩ = some (.int .i64 (j : Int)) ∧ W.cell? ⟨w2.heap.size, 1, none⟩ = some (.slice va si.length vc) ∧ W.cell? ⟨w2.heap.size, 2, none⟩ = some (.slice ua oi.length uc) ∧ W.cell? ⟨bb, oo + j * 4, none⟩ = some (.int .i64 (x 0)) ∧ W.cell? ⟨bb, oo + j * 4 + 1, none⟩ = some (.int .i64 (x 1)) ∧ W.cell? ⟨bb, oo + j * 4 + 2, none⟩ = some (.int .i64 (x 2)) ∧ W.cell? ⟨bb, oo + j * 4 + 3, none⟩ = some (.int .i64 (x 3))) w3.drew) := Lib.hid (SB.out _ rfl (Below.drew B3.out))
            refine wp_region_T [7] (fun W : World => W.cell? ⟨w2.heap.size, 0, none⟩ = some (.int .i64 (j : Int)) ∧ W.cell? ⟨w2.heap.size, 1, none⟩ = some (.slice va si.length vc) ∧ W.cell? ⟨w2.heap.size, 2, none⟩ = some (.slice ua oi.length uc) ∧ W.cell? ⟨bb, oo + j * 4, none⟩ = some (.int .i64 (x 0)) ∧ W.cell? ⟨bb, oo + j * 4 + 1, none⟩ = some (.int .i64 (x 1)) ∧ W.cell? ⟨bb, oo + j * 4 + 2, none⟩ = some (.int .i64 (x 2)) ∧ W.cell? ⟨bb, oo + j * 4 + 3, none⟩ = some (.int .i64 (x 3))) (by kernel_rfl) ?_
            refine wpAnyT_take (i := 0) (v := ?v1) rfl (by kernel_rfl) (by kernel_rfl) (by kernel_rfl) (by kernel_rfl) (by kernel_rfl) (fun _ _ _ h => h) HS.out rfl ?hy1 ?hh1
            case hy1 => (intro W hW; obtain ⟨h1, h2, h3, h4, h5, h6, h7⟩ := hW; go_simp; try with_reducible rfl)
            case hh1 =>
            (try simp only [Act.put])
            refine wpAnyT_take (i := 1) (v := ?v2) rfl (by kernel_rfl) (by kernel_rfl) (by kernel_rfl) (by kernel_rfl) (by kernel_rfl) (fun _ _ _ h => h) HS.out rfl ?hy2 ?hh2
            case hy2 => (intro W hW; obtain ⟨h1, h2, h3, h4, h5, h6, h7⟩ := hW; go_simp; try with_reducible rfl)
            case hh2 =>
            (try simp only [Act.put])
            refine wpAnyT_take (i := 2) (v := ?v3) rfl (by kernel_rfl) (by kernel_rfl) (by kernel_rfl) (by kernel_rfl) (by kernel_rfl) (fun _ _ _ h => h) HS.out rfl ?hy3 ?hh3
            case hy3 => (intro W hW; obtain ⟨h1, h2, h3, h4, h5, h6, h7⟩ := hW; go_simp; try with_reducible rfl)
            case hh3 =>
            (try simp only [Act.put])
            refine wpAnyT_take (i := 3) (v := ?v4) rfl (by kernel_rfl) (by kernel_rfl) (by kernel_rfl) (by kernel_rfl) (by kernel_rfl) (fun _ _ _ h => h) HS.out rfl ?hy4 ?hh4
            case hy4 => (intro W hW; obtain ⟨h1, h2, h3, h4, h5, h6, h7⟩ := hW; go_simp; try with_reducible rfl)
            case hh4 =>
            (try simp only [Act.put])
            refine wpAnyT_take (i := 4) (v := ?v5) rfl (by kernel_rfl) (by kernel_rfl) (by kernel_rfl) (by kernel_rfl) (by kernel_rfl) (fun _ _ _ h => h) HS.out rfl ?hy5 ?hh5
            case hy5 => (intro W hW; obtain ⟨h1, h2, h3, h4, h5, h6, h7⟩ := hW; go_simp; try with_reducible rfl)
            case hh5 =>
            (try simp only [Act.put])
            refine wpAnyT_take (i := 5) (v := ?v6) rfl (by kernel_rfl) (by kernel_rfl) (by kernel_rfl) (by kernel_rfl) (by kernel_rfl) (fun _ _ _ h => h) HS.out rfl ?hy6 ?hh6
            case hy6 => (intro W hW; obtain ⟨h1, h2, h3, h4, h5, h6, h7⟩ := hW; go_simp; try with_reducible rfl)
            case hh6 =>
            (try simp only [Act.put])
            refine wpAnyT_only (i := 6) rfl (by kernel_rfl) (fun K hK => ?_)
            go_simp
            go_at_call 22
            refine (CH.out w1.heap.size _ _ w3.drew (by simp only [World.size_drew]; omega) M3.out.sv.drew M3.out.ou.drew M3.out.ap).mono ?_
            rintro e w4 ⟨v', u', rfl, hv, hu, hap, b4, f4⟩
            obtain ⟨va2, vc2, rfl⟩ := own_form hv
            obtain ⟨ua2, uc2, rfl⟩ := own_form hu
            have b4' : Below w1.heap.size w3 w4 := (Below.drew (Below.refl _ _)).trans b4
            have F4 : Fr (.slice va si.length vc) (.slice ua oi.length uc) w3 w4 := ⟨f4.block⟩
            have s4 := b4'.size
            have B4 : Hid (Below w.heap.size w w4) := Lib.hid (B3.out.trans (b4'.mono (by omega)))
            have R4 : Hid (Blk3 w4 (w.heap.size + 1) (.int .i64 0) (.slice none 0 0) (.slice none 0 0) 28) := Lib.hid (R3.out.keep (b4'.block _ (by omega)))
            have hp4 := F4.block w2.heap.size M3.out.blk.lt M3.out.vp M3.out.up
            have HW : ∀ W, W = ((w4.setCell ⟨w2.heap.size, 0, none⟩ (.int .i64 (Tm.opP x ((j : Int) + 1) si))).setCell ⟨w2.heap.size, 1, none⟩ (.slice va2 (Tm.opS x si oi).length vc2)).setCell ⟨w2.heap.size, 2, none⟩ (.slice ua2 (Tm.opO x si oi).length uc2) → MSt W w1.heap.size w2.heap.size (Tm.opP x ((j : Int) + 1) si) (.slice va2 (Tm.opS x si oi).length vc2) (Tm.opS x si oi) (.slice ua2 (Tm.opO x si oi).length uc2) (Tm.opO x si oi) ∧ Below w.heap.size w W ∧ Blk3 W (w.heap.size + 1) (.int .i64 0) (.slice none 0 0) (.slice none 0 0) 28 := fun W hW => ⟨M3.out.set_all F4 hv hu hap hW, by subst hW; exact ((B4.out.setCell (show w.heap.size ≤ w2.heap.size by omega) _).setCell (show w.heap.size ≤ w2.heap.size by omega) _).setCell (show w.heap.size ≤ w2.heap.size by omega) _, by
              subst hW
              exact R4.out.keep (by rw [heap_setCell_other _ ⟨w2.heap.size, 2, none⟩ _ _ (Ne.symm hpr), heap_setCell_other _ ⟨w2.heap.size, 1, none⟩ _ _ (Ne.symm hpr), heap_setCell_other _ ⟨w2.heap.size, 0, none⟩ _ _ (Ne.symm hpr)])⟩
            have HWH := Lib.hid HW
            have M4 := M3.out.blk.keep hp4
            have mz := M4.frozen
            have ml4 := M4.lt
            obtain ⟨n0, n1, n2⟩ := M4.cells
            refine hK _ _ (fun _ _ => SB.out _ hp4 B4.out) ?_
            clear hK K b4 b4' f4 F4 hv hu hap hp4 HW M4
            (try simp only [Act.put])
            refine wpAnyT_only (i := 7) rfl (by kernel_rfl) (fun K hK => ?_)
            go_simp
            refine hK _ _ (fun h => (h (by decide)).elim) ?_
            clear hK K
            (try simp only [Act.put])
            refine wpAnyT_done (by kernel_rfl) ?_ _
            obtain ⟨W1, hW1⟩ : ∃ W1, W1 = ((w4.setCell ⟨w2.heap.size, 0, none⟩ (.int .i64 (Tm.opP x ((j : Int) + 1) si))).setCell ⟨w2.heap.size, 1, none⟩ (.slice va2 (Tm.opS x si oi).length vc2)).setCell ⟨w2.heap.size, 2, none⟩ (.slice ua2 (Tm.opO x si oi).length uc2) := ⟨_, rfl⟩
            rw [← hW1]
            obtain ⟨mw, bw, rw_⟩ := HWH.out W1 hW1
            have MW := Lib.hid mw
            have BW := Lib.hid bw
            have RW := Lib.hid rw_
            clear hW1 mw bw rw_ HWH n0 n1 n2 m0 m1 m2 mz
            go_wp2
            exact ⟨⟨p, by omega, by first | rfl | go_num, _, _, _, _, _, MW, KN, SN, BW, RW⟩, by simp [intOf]⟩
          · obtain ⟨y1, y2, y3, y4⟩ := SR.out.stop hy
            rw [y1, y2, y3, y4]
            have P : Tm.nxP L ki si = ki ∧ Tm.nxS L ki si oi = si ∧ Tm.nxO L ki si oi = oi := by
              unfold Tm.nxP Tm.nxS Tm.nxO; rw [if_neg hy, if_neg hy, if_neg hy]; exact ⟨rfl, rfl, rfl⟩
            rw [P.1, P.2.1, P.2.2]
            have LL : Hid (si.length ≤ 1048576 ∧ oi.length ≤ 1048576) := Lib.hid ⟨by omega, by omega⟩
            obtain ⟨y, hye⟩ : ∃ y, y = Tm.why L ki si := ⟨_, rfl⟩
            rw [← hye] at WY hy ⊢
            have hyn : (y != 0) = true := by simpa using hy
            have hyn2 : (y == 0) = false := by simpa using hy
            clear y1 y2 y3 y4 hye P MM
            go_wp2_with fail
            refine WY.out.mono ?_
            rintro e w3 ⟨rfl, hb3⟩
            have M3 := Lib.hid (MI.out.later hb3)
            have R3 := Lib.hid (RI.out.later hb3)
            have s3 := hb3.size
            have B3 := Lib.hid (BI.out.trans (hb3.mono (by omega)))
            clear hb3 m0 m1 m2
            obtain ⟨m0, m1, m2⟩ := M3.out.blk.cells
            obtain ⟨r0, r1, r2⟩ := R3.out.cells
            have rz := R3.out.frozen
            have lr := R3.out.lt
            go_wp2
            have BG := ((R3.out.set0 (.int .i64 (ki))).set1 (.slice va (si).length vc)).set2 (.slice ua (oi).length uc)
            obtain ⟨e0, e1, e2⟩ := BG.cells
            refine bodyPost_ret (v := .tuple #[machV (ki) va (si).length vc ua (oi).length uc, .int .i64 (y)]) (by simp [results, Tryd.results16, go_sem, e0, e1, e2]) rfl ?_
            exact ⟨va, vc, ua, uc, rfl, M3.out.own (R := w.heap.size + 1) (fun q hq => by rw [heap_setCell_other _ ⟨w.heap.size + 1, 2, none⟩ q _ hq, heap_setCell_other _ ⟨w.heap.size + 1, 1, none⟩ q _ hq, heap_setCell_other _ ⟨w.heap.size + 1, 0, none⟩ q _ hq]) (by omega) (by omega) rfl rfl, by have b3 := B3.out; (repeat' (first | (with_reducible exact Below.refl _ _) | (with_reducible assumption) | (with_reducible refine below_drewN ?_ _) | (with_reducible refine Below.drew ?_) | (with_reducible refine Below.alloc ?_ ?_ _) | (with_reducible refine Below.setCell ?_ ?_ _) | (with_reducible refine below_gw ?_ ?_ _) | (with_reducible refine below_via ?_ ‹Below _ _ _› ?_) | (with_reducible exact Nat.le_refl _) | (with_reducible refine le_gw ?_ _) | (with_reducible refine le_alloc ?_ _) | (with_reducible refine le_setCell ?_ _ _) | (with_reducible refine le_drew ?_) | (with_reducible refine le_drewN ?_ _) | go_size)), by have := LL.out.1; omega, by have := LL.out.2; omega⟩
end Go.Proofs.YtlpdeeaebgclpaaDoor

/- The model's circuits, on: lines and outputs. -/
import Derived.Test.YtpmdkifnejkofaaGS
import Derived.Test.YtpmdkifnejkofaaStep
import Derived.Test.YtpmdkifnejkofaaWI
import Derived.Deep.RegionHeldLaw
namespace Go.Proofs.Ytpmdkifnejkofaa
set_option maxRecDepth 20000
open Go.RowKit
/-- The three constant lines, just made. -/
theorem own_three (W : World) (b B e : Nat) (hb : b = W.heap.size) (hB : B ≤ b) : (W.alloc (.cells #[.int .i64 (-1), .int .i64 0, .int .i64 1] e)).ownsRow B e 1 (.slice (some ⟨b, 0, none⟩) 3 3) 3 (([-1, 0, 1] : List Int).map (Value.int .i64)) := by
  subst hb
  exact World.ownsRow_lit W #[.int .i64 (-1), .int .i64 0, .int .i64 1] 3 hB (by unfold maxLen; omega) rfl
set_option maxHeartbeats 8000000 in
theorem sLines6 (k : Int) (a : Option Addr) (n c : Nat) (L : List (Nat → Int)) (b : Option Addr) (m d : Nat) (o : List Int) (ai : Option Addr) (ni ci : Nat) (inp : List Int) (w : World) (h : Cs w a n c L b m d o) (h2 : Ints w ai ni ci inp) (hC : Tm.isCirc k L o = true) (hI : Tm.inOk k inp = true) (hz : ai = none → ci = 0) :
    Calls Try.prog 37 #[circV k a n c b m d, .slice ai ni ci] w (RetI 3 w (Tm.lines inp L)) := by
  obtain ⟨i0, hi, hz0, hz1, hz2⟩ := info_parts infoInt
  have H := Lib.hid h
  have H2 := Lib.hid h2
  obtain rfl : L.length = n := h.1.1
  obtain rfl : o.length = m := h.2.1
  obtain rfl : inp.length = ni := h2.1
  have hc1 := h.1.2.1
  have hc2 := h.1.2.2.1
  unfold maxLen at hc2
  have hCi := (Tm.isCirc_iff _ _ _).1 hC
  obtain ⟨⟨k1, k2⟩, hn, -⟩ := hCi
  rw [Tm.inOk, Bool.and_eq_true, decide_eq_true_eq] at hI
  have hIl : inp.length ≤ 8 := by omega
  have K3 : (3 + k).toNat = 3 + inp.length := by omega
  have GL : Hid (∀ j, j < L.length → ∀ g, g = L.getD j Tm.g0 → ∃ A B : Nat, g 9 = (A : Int) ∧ g 10 = (B : Int) ∧ A < 3 + inp.length + j ∧ B < 3 + inp.length + j ∧ Tm.isTab g = true) := Lib.hid fun j hj g hg => by rw [← K3]; exact Tm.gate_lines hC hj hg
  have TR : Hid (∀ j, ∀ x ∈ Tm.lines inp (L.take j), -1 ≤ x ∧ x ≤ 1) := Lib.hid fun j => Tm.lines_trits _ hI.2
  have LN : Hid (∀ M : List (Nat → Int), (Tm.lines inp M).length = 3 + inp.length + M.length) := Lib.hid fun M => Tm.lines_length _ _
  clear h h2 hC hI K3
  obtain ⟨o0, ho0⟩ : ∃ o0, o0 = Obj.cells #[.int .i64 k, .slice a L.length c, .slice b o.length d] 30 := ⟨_, rfl⟩
  have NC : Hid (∀ ad, ai = some ad → ∀ j u, (inp.map (Value.int .i64))[j]? = some u → ((w.alloc (.cells #[.int .i64 k, .slice a L.length c, .slice b o.length d] 30)).alloc (.cells #[.int .i64 (-1), .int .i64 0, .int .i64 1] 3)).cell? (ad.add j) = some u) := Lib.hid fun ad had j u hu => by
    have hjl := (List.getElem?_eq_some_iff.1 hu).1
    rw [List.length_map] at hjl
    rcases ((H2.out.alloc (.cells #[.int .i64 k, .slice a L.length c, .slice b o.length d] 30)).alloc (.cells #[.int .i64 (-1), .int .i64 0, .int .i64 1] 3)).2.2.2 with e0 | ⟨bb, oo, e1, hbl, hc⟩
    · omega
    · rw [e1] at had
      cases had
      exact news_of rfl hc j u hu
  clear ho0
  clear o0
  go_enter Try.func37, Try.ntmps37
  by_cases h00 : inp.length = 0
  · have HZ := Lib.hid hz
    have H00 := Lib.hid h00
    clear hz h00
    go_wp2_with (at_builtin; refine wpList_append_fits_any _ rfl _ _ 23 rfl (w.heap.size + 1) 3 i0 1 Try.underlying23 hi hz1 (w.heap.size + 1) 3 3 _ rfl (own_three _ (w.heap.size + 1) (w.heap.size + 1) 3 (by simp) (Nat.le_refl _)) ai inp.length ci (inp.map (Value.int .i64)) rfl (by simp) (fun e => ⟨H00.out, HZ.out e⟩) NC.out (news_one _) (by have := H00.out; omega) ?_)
    intro w1 hown hgrow
    have HO0 : Hid (w1.ownsRow (w.heap.size + 1) 3 1 (.slice (some ⟨w.heap.size + 1, 0, none⟩) (3 + inp.length) 3) (3 + inp.length) ((Tm.lines inp (L.take 0)).map (Value.int .i64))) := Lib.hid (by
      have e : Tm.lines inp (L.take 0) = [-1, 0, 1] ++ inp := rfl
      rw [e, List.map_append]; exact hown)
    have BB0 := Lib.hid ((((Below.refl w.heap.size w).alloc (Nat.le_refl _) (.cells #[.int .i64 k, .slice a L.length c, .slice b o.length d] 30)).alloc (by simp) (.cells #[.int .i64 (-1), .int .i64 0, .int .i64 1] 3)).grown hgrow (by simp; omega) (fun q hq => by cases hq; omega))
    have S0 : w.heap.size + 1 ≤ w1.heap.size := Nat.le_trans (by simp) hgrow.size
    have bx1 : w1.cell? ⟨w.heap.size, 1, none⟩ = some (.slice a L.length c) := by
      rw [hgrow.cell_far' ⟨w.heap.size, 1, none⟩ (by simp; omega) (by simp)]; simp
    clear hown hgrow NC
    go_wp2_with fail
    clear bx1
    go_loopw [5, 14] (fun v i wr => ∃ j : Nat, j ≤ L.length ∧ i = .int .i64 j ∧ Hid (∃ v', v' = v ∧ wr.ownsRow (w.heap.size + 1) 3 1 v' (3 + inp.length + j) ((Tm.lines inp (L.take j)).map (Value.int .i64))) ∧ Hid (Below w.heap.size w wr) ∧ w.heap.size + 1 ≤ wr.heap.size) (fun _ i _ => L.length - (intOf i).toNat)
    case atStart => exact ⟨0, by omega, rfl, Lib.hid ⟨_, rfl, HO0.out⟩, BB0, S0⟩
    case round =>
      clear HO0 BB0
      obtain ⟨j, hj, rfl, OO, BB, hs1⟩ := hrel
      have hs0 : w.heap.size ≤ wr.heap.size := by omega
      by_cases hlt : j < L.length
      · obtain ⟨v', rfl, ho⟩ := OO.out
        obtain ⟨gb, cap, rfl⟩ := own_shapeN ho (by omega)
        have HO := Lib.hid ho
        obtain ⟨-, -, -, yy⟩ := H.out.1.below BB.out
        rcases yy with h0' | ⟨bb, oo, rfl, hbl, hc⟩
        · omega
        obtain ⟨g, hg, g1⟩ := Gs.gate hc hlt
        obtain ⟨A, B, hA, hB, lA, lB, hT⟩ := GL.out j hlt g hg
        obtain ⟨p0, p1, p2, p3, p4, p5, p6, p7, p8, p9, p10⟩ := g1
        rw [hA] at p9
        rw [hB] at p10
        obtain ⟨x, hx⟩ : ∃ x, x = (Tm.lines inp (L.take j)).getD A 0 := ⟨_, rfl⟩
        obtain ⟨y, hy⟩ : ∃ y, y = (Tm.lines inp (L.take j)).getD B 0 := ⟨_, rfl⟩
        have cx := own_get ho lA
        have cy := own_get ho lB
        rw [← hx] at cx
        rw [← hy] at cy
        have DL : (Tm.lines inp (L.take j)).length = 3 + inp.length + j := by rw [LN.out, List.length_take]; omega
        obtain ⟨bx, bx2⟩ := TR.out j _ (Tm.getD_mem (i := A) (by omega))
        obtain ⟨bY, by2⟩ := TR.out j _ (Tm.getD_mem (i := B) (by omega))
        rw [← hx] at bx bx2
        rw [← hy] at bY by2
        obtain ⟨I, hI⟩ : ∃ I, I = Tm.ix x y := ⟨_, rfl⟩
        have hI2 : (I : Int) = 3 * (x + 1) + y + 1 := by rw [hI, Tm.ix]; omega
        have hI9 : I < 9 := by omega
        obtain ⟨z, hz⟩ : ∃ z, z = g I := ⟨_, rfl⟩
        have DS : Hid (Tm.lines inp (L.take (j + 1)) = Tm.lines inp (L.take j) ++ [z]) := Lib.hid (by
          have e := Tm.readL_step Tm.lk ([-1, 0, 1] ++ inp) L hlt
          have hx' : (Tm.readL Tm.lk ([-1, 0, 1] ++ inp) (L.take j)).getD A 0 = x := hx.symm
          have hy' : (Tm.readL Tm.lk ([-1, 0, 1] ++ inp) (L.take j)).getD B 0 = y := hy.symm
          rw [← hg, hA, hB, Int.toNat_natCast, Int.toNat_natCast, hx', hy', Tm.lk, Tm.look_ix hT ⟨bx, bx2⟩ ⟨bY, by2⟩, ← hI, ← hz] at e
          exact e)
        obtain ⟨hbg1, hbg⟩ := HO.out.lt gb rfl
        have HS : Hid (∀ W, Below (wr.heap.size + 1) (wr.alloc (.cells #[.int .i64 (g 0), .int .i64 (g 1), .int .i64 (g 2), .int .i64 (g 3), .int .i64 (g 4), .int .i64 (g 5), .int .i64 (g 6), .int .i64 (g 7), .int .i64 (g 8), .int .i64 (A : Int), .int .i64 (B : Int)] 48)) W → W.cell? ⟨wr.heap.size, I, none⟩ = some (.int .i64 z) ∧ W.cell? ⟨wr.heap.size, 9, none⟩ = some (.int .i64 (A : Int)) ∧ W.cell? ⟨wr.heap.size, 10, none⟩ = some (.int .i64 (B : Int)) ∧ W.cell? ⟨gb, A, none⟩ = some (.int .i64 x) ∧ W.cell? ⟨gb, B, none⟩ = some (.int .i64 y)) := Lib.hid fun W hW => by
          have rg := below_range hW (Nat.lt_succ_self _) (range_new wr [.int .i64 (g 0), .int .i64 (g 1), .int .i64 (g 2), .int .i64 (g 3), .int .i64 (g 4), .int .i64 (g 5), .int .i64 (g 6), .int .i64 (g 7), .int .i64 (g 8), .int .i64 (A : Int), .int .i64 (B : Int)] 48)
          have ol : ∀ (b o : Nat), b < wr.heap.size → W.cell? ⟨b, o, none⟩ = wr.cell? ⟨b, o, none⟩ := fun b o hb => by
            rw [hW.cell (p := ⟨b, o, none⟩) (by simp; omega)]; exact World.cell?_alloc_lt _ _ _ hb
          refine ⟨?_, rg 9 _ rfl, rg 10 _ rfl, by rw [ol _ _ hbg]; exact cx, by rw [ol _ _ hbg]; exact cy⟩
          have := rg I (.int .i64 (g I)) (by
            match I, hI9 with
            | 0, _ | 1, _ | 2, _ | 3, _ | 4, _ | 5, _ | 6, _ | 7, _ | 8, _ => rfl)
          rw [Nat.zero_add, ← hz] at this
          exact this
        have HK : Hid (∀ W W3 : World, (W.cell? ⟨wr.heap.size, I, none⟩ = some (.int .i64 z) ∧ W.cell? ⟨wr.heap.size, 9, none⟩ = some (.int .i64 (A : Int)) ∧ W.cell? ⟨wr.heap.size, 10, none⟩ = some (.int .i64 (B : Int)) ∧ W.cell? ⟨gb, A, none⟩ = some (.int .i64 x) ∧ W.cell? ⟨gb, B, none⟩ = some (.int .i64 y)) → W.grownBy W3 (some gb) → (∀ q u, ((Tm.lines inp (L.take j)).map (Value.int .i64))[q]? = some u → W3.cell? ⟨gb, q, none⟩ = some u) → wr.heap.size < W.heap.size → W3.cell? ⟨wr.heap.size, I, none⟩ = some (.int .i64 z) ∧ W3.cell? ⟨wr.heap.size, 9, none⟩ = some (.int .i64 (A : Int)) ∧ W3.cell? ⟨wr.heap.size, 10, none⟩ = some (.int .i64 (B : Int)) ∧ W3.cell? ⟨gb, A, none⟩ = some (.int .i64 x) ∧ W3.cell? ⟨gb, B, none⟩ = some (.int .i64 y)) := Lib.hid fun W W3 hS hg3 hk hsz => by
          obtain ⟨s1, s2, s3, s5, s6⟩ := hS
          have far : ∀ (b o : Nat), b < W.heap.size → b ≠ gb → W3.cell? ⟨b, o, none⟩ = W.cell? ⟨b, o, none⟩ := fun b o hb hne => hg3.cell_far' ⟨b, o, none⟩ hb (fun e => hne (by simpa using e))
          have at_ : ∀ q, q < 3 + inp.length + j → W3.cell? ⟨gb, q, none⟩ = some (.int .i64 ((Tm.lines inp (L.take j)).getD q 0)) := fun q hq => hk q _ (by rw [List.getElem?_map, List.getElem?_eq_getElem (by omega), List.getD_eq_getElem?_getD, List.getElem?_eq_getElem (by omega)]; rfl)
          exact ⟨by rw [far _ _ hsz (by omega)]; exact s1, by rw [far _ _ hsz (by omega)]; exact s2, by rw [far _ _ hsz (by omega)]; exact s3, by rw [at_ A lA, hx], by rw [at_ B lB, hy]⟩
        have hsz : wr.heap.size + 1 ≤ (wr.alloc (.cells #[.int .i64 (g 0), .int .i64 (g 1), .int .i64 (g 2), .int .i64 (g 3), .int .i64 (g 4), .int .i64 (g 5), .int .i64 (g 6), .int .i64 (g 7), .int .i64 (g 8), .int .i64 (A : Int), .int .i64 (B : Int)] 48)).heap.size := by simp
        have iA1 : (0 : Int) ≤ (A : Int) := by omega
        have iA3 : (A : Int) < 3 + (inp.length : Int) + (j : Int) := by omega
        have iB1 : (0 : Int) ≤ (B : Int) := by omega
        have iB3 : (B : Int) < 3 + (inp.length : Int) + (j : Int) := by omega
        have iI1 : (0 : Int) ≤ (I : Int) := by omega
        have iI2 : (I : Int) < 9 := by omega
        have e1 : IntKind.i64.wrap (x + 1) = x + 1 := IntWalk.i64_in _ (by omega)
        have e2 : IntKind.i64.wrap (3 * (x + 1)) = 3 * (x + 1) := IntWalk.i64_in _ (by omega)
        have e3 : IntKind.i64.wrap (3 * (x + 1) + y) = 3 * (x + 1) + y := IntWalk.i64_in _ (by omega)
        have e4 : IntKind.i64.wrap (3 * (x + 1) + y + 1) = (I : Int) := by rw [hI2]; exact IntWalk.i64_in _ (by omega)
        have HO2 := Lib.hid (own_below (w' := wr.alloc (.cells #[.int .i64 (g 0), .int .i64 (g 1), .int .i64 (g 2), .int .i64 (g 3), .int .i64 (g 4), .int .i64 (g 5), .int .i64 (g 6), .int .i64 (g 7), .int .i64 (g 8), .int .i64 (A : Int), .int .i64 (B : Int)] 48)) HO.out (by (repeat' (first | (with_reducible exact Below.refl _ _) | (with_reducible assumption) | (with_reducible refine below_drewN ?_ _) | (with_reducible refine Below.drew ?_) | (with_reducible refine Below.alloc ?_ ?_ _) | (with_reducible refine Below.setCell ?_ ?_ _) | (with_reducible refine below_gw ?_ ?_ _) | (with_reducible refine below_via ?_ ‹Below _ _ _› ?_) | (with_reducible exact Nat.le_refl _) | (with_reducible refine le_gw ?_ _) | (with_reducible refine le_alloc ?_ _) | (with_reducible refine le_setCell ?_ _ _) | (with_reducible refine le_drew ?_) | (with_reducible refine le_drewN ?_ _) | go_size))))
        clear hA hB hx hy hg hc DL ho OO hT hz hI hI2
        go_wp2_with fail
        clear p0 p1 p2 p3 p4 p5 p6 p7 p8 p9 p10 cx cy
        go_region_held_law (fun W => W.cell? ⟨wr.heap.size, I, none⟩ = some (.int .i64 z) ∧ W.cell? ⟨wr.heap.size, 9, none⟩ = some (.int .i64 (A : Int)) ∧ W.cell? ⟨wr.heap.size, 10, none⟩ = some (.int .i64 (B : Int)) ∧ W.cell? ⟨gb, A, none⟩ = some (.int .i64 x) ∧ W.cell? ⟨gb, B, none⟩ = some (.int .i64 y)) (first | exact HS3.out | exact HS.out _ (by ((repeat' (first | (with_reducible exact Below.refl _ _) | (with_reducible assumption) | (with_reducible refine below_drewN ?_ _) | (with_reducible refine Below.drew ?_) | (with_reducible refine Below.alloc ?_ ?_ _) | (with_reducible refine Below.setCell ?_ ?_ _) | (with_reducible refine below_gw ?_ ?_ _) | (with_reducible refine below_via ?_ ‹Below _ _ _› ?_) | (with_reducible exact Nat.le_refl _) | (with_reducible refine le_gw ?_ _) | (with_reducible refine le_alloc ?_ _) | (with_reducible refine le_setCell ?_ _ _) | (with_reducible refine le_drew ?_) | (with_reducible refine le_drewN ?_ _) | go_size))); done)) ((refine step_append_keep rfl (.tmp 18) (.tmp 36) 23 rfl (w.heap.size + 1) 3 i0 (.int .i64 0) 1 8 Try.underlying23 hi hz0 hz1 hz2 rfl (by decide) gb (3 + inp.length + j) cap ((Tm.lines inp (L.take j)).map (Value.int .i64)) (by simp [Act.eval]) (HO2.out.alloc _) ⟨wr.heap.size + 1, 0, none⟩ 1 1 [.int .i64 z] (by simp [Act.eval]) rfl (by have := app_c1 (wr.alloc (.cells #[.int .i64 (g 0), .int .i64 (g 1), .int .i64 (g 2), .int .i64 (g 3), .int .i64 (g 4), .int .i64 (g 5), .int .i64 (g 6), .int .i64 (g 7), .int .i64 (g 8), .int .i64 (A : Int), .int .i64 (B : Int)] 48)) z 3; simp only [World.size_alloc] at this; exact this) (app_c2 _) (by unfold maxLen; omega) (by omega) (le_drew (le_alloc (le_alloc hs1 _) _)) ?_; intro v3 w3 hown hgr hkp; have HS3 := Lib.hid (HK.out _ _ (HS.out _ (by (repeat' (first | (with_reducible exact Below.refl _ _) | (with_reducible assumption) | (with_reducible refine below_drewN ?_ _) | (with_reducible refine Below.drew ?_) | (with_reducible refine Below.alloc ?_ ?_ _) | (with_reducible refine Below.setCell ?_ ?_ _) | (with_reducible refine below_gw ?_ ?_ _) | (with_reducible refine below_via ?_ ‹Below _ _ _› ?_) | (with_reducible exact Nat.le_refl _) | (with_reducible refine le_gw ?_ _) | (with_reducible refine le_alloc ?_ _) | (with_reducible refine le_setCell ?_ _ _) | (with_reducible refine le_drew ?_) | (with_reducible refine le_drewN ?_ _) | go_size)))) hgr hkp (Nat.lt_of_lt_of_le (Nat.lt_succ_self _) (le_drew (le_alloc hsz _)))); have O3 := Lib.hid hown; have G3 := Lib.hid hgr; clear hown hgr hkp))
        have B3 := Lib.hid ((((BB.out.alloc hs0 (.cells #[.int .i64 (g 0), .int .i64 (g 1), .int .i64 (g 2), .int .i64 (g 3), .int .i64 (g 4), .int .i64 (g 5), .int .i64 (g 6), .int .i64 (g 7), .int .i64 (g 8), .int .i64 (A : Int), .int .i64 (B : Int)] 48)).alloc (le_alloc hs0 _) (.cells #[.int .i64 z] 3))).drew.grown G3.out (le_drew (le_alloc (le_alloc hs0 _) _)) (fun q hq => by cases hq; omega))
        have S3 : w.heap.size + 1 ≤ w3.heap.size := Nat.le_trans (le_drew (le_alloc (le_alloc hs1 _) _)) G3.out.size
        have O4 : Hid (∃ v', v' = v3 ∧ w3.ownsRow (w.heap.size + 1) 3 1 v' (3 + inp.length + (j + 1)) ((Tm.lines inp (L.take (j + 1))).map (Value.int .i64))) := Lib.hid ⟨_, rfl, by rw [DS.out, List.map_append]; exact O3.out⟩
        clear O3 G3 HS HK HO HO2 HS3 DS e1 e2 e3 e4
        go_wp2
        go_roundw
        case rel => exact ⟨j + 1, by omega, by go_num, O4, B3, S3⟩
        case measure => simp [intOf]; omega
      · obtain rfl : j = L.length := by omega
        obtain ⟨v', rfl, ho⟩ := OO.out
        rw [List.take_length, ← LN.out] at ho
        have HO := Lib.hid ho
        have hl : (Tm.lines inp L).length ≤ 1048576 := by rw [LN.out]; omega
        clear ho OO
        go_wp2
        go_ret
        exact ret_own (own_weak2 HO.out (by omega)) BB.out hl
  · rcases H2.out.2.2.2 with e0 | ⟨bi, oi, rfl, hbi, hci⟩
    · omega
    clear hci hz
    go_wp2_with (at_builtin; refine wpList_append_own _ rfl _ _ 23 rfl (w.heap.size + 1) 3 i0 (.int .i64 0) 1 8 Try.underlying23 hi hz0 hz1 hz2 rfl (by decide) _ _ _ rfl (own_three _ (w.heap.size + 1) (w.heap.size + 1) 3 (by simp) (Nat.le_refl _)) ⟨bi, oi, none⟩ inp.length ci (inp.map (Value.int .i64)) rfl (by simp) (NC.out _ rfl) (news_one _) (by unfold maxLen; omega) (by omega) (by simp) ?_)
    intro v1 w1 hown hgrow _
    have HO0 : Hid (w1.ownsRow (w.heap.size + 1) 3 1 v1 (3 + inp.length) ((Tm.lines inp (L.take 0)).map (Value.int .i64))) := Lib.hid (by
      have e : Tm.lines inp (L.take 0) = [-1, 0, 1] ++ inp := rfl
      rw [e, List.map_append]; exact hown)
    have BB0 := Lib.hid ((((Below.refl w.heap.size w).alloc (Nat.le_refl _) (.cells #[.int .i64 k, .slice a L.length c, .slice b o.length d] 30)).alloc (by simp) (.cells #[.int .i64 (-1), .int .i64 0, .int .i64 1] 3)).grown hgrow (by simp; omega) (fun q hq => by simp [Value.ownBlock] at hq; omega))
    have S0 : w.heap.size + 1 ≤ w1.heap.size := Nat.le_trans (by simp) hgrow.size
    have bx1 : w1.cell? ⟨w.heap.size, 1, none⟩ = some (.slice a L.length c) := by
      rw [hgrow.cell_far' ⟨w.heap.size, 1, none⟩ (by simp; omega) (by simp [Value.ownBlock])]; simp
    clear hown hgrow NC
    go_wp2_with fail
    clear bx1
    go_loopw [5, 14] (fun v i wr => ∃ j : Nat, j ≤ L.length ∧ i = .int .i64 j ∧ Hid (∃ v', v' = v ∧ wr.ownsRow (w.heap.size + 1) 3 1 v' (3 + inp.length + j) ((Tm.lines inp (L.take j)).map (Value.int .i64))) ∧ Hid (Below w.heap.size w wr) ∧ w.heap.size + 1 ≤ wr.heap.size) (fun _ i _ => L.length - (intOf i).toNat)
    case atStart => exact ⟨0, by omega, rfl, Lib.hid ⟨_, rfl, HO0.out⟩, BB0, S0⟩
    case round =>
      clear HO0 BB0
      obtain ⟨j, hj, rfl, OO, BB, hs1⟩ := hrel
      have hs0 : w.heap.size ≤ wr.heap.size := by omega
      by_cases hlt : j < L.length
      · obtain ⟨v', rfl, ho⟩ := OO.out
        obtain ⟨gb, cap, rfl⟩ := own_shapeN ho (by omega)
        have HO := Lib.hid ho
        obtain ⟨-, -, -, yy⟩ := H.out.1.below BB.out
        rcases yy with h0' | ⟨bb, oo, rfl, hbl, hc⟩
        · omega
        obtain ⟨g, hg, g1⟩ := Gs.gate hc hlt
        obtain ⟨A, B, hA, hB, lA, lB, hT⟩ := GL.out j hlt g hg
        obtain ⟨p0, p1, p2, p3, p4, p5, p6, p7, p8, p9, p10⟩ := g1
        rw [hA] at p9
        rw [hB] at p10
        obtain ⟨x, hx⟩ : ∃ x, x = (Tm.lines inp (L.take j)).getD A 0 := ⟨_, rfl⟩
        obtain ⟨y, hy⟩ : ∃ y, y = (Tm.lines inp (L.take j)).getD B 0 := ⟨_, rfl⟩
        have cx := own_get ho lA
        have cy := own_get ho lB
        rw [← hx] at cx
        rw [← hy] at cy
        have DL : (Tm.lines inp (L.take j)).length = 3 + inp.length + j := by rw [LN.out, List.length_take]; omega
        obtain ⟨bx, bx2⟩ := TR.out j _ (Tm.getD_mem (i := A) (by omega))
        obtain ⟨bY, by2⟩ := TR.out j _ (Tm.getD_mem (i := B) (by omega))
        rw [← hx] at bx bx2
        rw [← hy] at bY by2
        obtain ⟨I, hI⟩ : ∃ I, I = Tm.ix x y := ⟨_, rfl⟩
        have hI2 : (I : Int) = 3 * (x + 1) + y + 1 := by rw [hI, Tm.ix]; omega
        have hI9 : I < 9 := by omega
        obtain ⟨z, hz⟩ : ∃ z, z = g I := ⟨_, rfl⟩
        have DS : Hid (Tm.lines inp (L.take (j + 1)) = Tm.lines inp (L.take j) ++ [z]) := Lib.hid (by
          have e := Tm.readL_step Tm.lk ([-1, 0, 1] ++ inp) L hlt
          have hx' : (Tm.readL Tm.lk ([-1, 0, 1] ++ inp) (L.take j)).getD A 0 = x := hx.symm
          have hy' : (Tm.readL Tm.lk ([-1, 0, 1] ++ inp) (L.take j)).getD B 0 = y := hy.symm
          rw [← hg, hA, hB, Int.toNat_natCast, Int.toNat_natCast, hx', hy', Tm.lk, Tm.look_ix hT ⟨bx, bx2⟩ ⟨bY, by2⟩, ← hI, ← hz] at e
          exact e)
        obtain ⟨hbg1, hbg⟩ := HO.out.lt gb rfl
        have HS : Hid (∀ W, Below (wr.heap.size + 1) (wr.alloc (.cells #[.int .i64 (g 0), .int .i64 (g 1), .int .i64 (g 2), .int .i64 (g 3), .int .i64 (g 4), .int .i64 (g 5), .int .i64 (g 6), .int .i64 (g 7), .int .i64 (g 8), .int .i64 (A : Int), .int .i64 (B : Int)] 48)) W → W.cell? ⟨wr.heap.size, I, none⟩ = some (.int .i64 z) ∧ W.cell? ⟨wr.heap.size, 9, none⟩ = some (.int .i64 (A : Int)) ∧ W.cell? ⟨wr.heap.size, 10, none⟩ = some (.int .i64 (B : Int)) ∧ W.cell? ⟨gb, A, none⟩ = some (.int .i64 x) ∧ W.cell? ⟨gb, B, none⟩ = some (.int .i64 y)) := Lib.hid fun W hW => by
          have rg := below_range hW (Nat.lt_succ_self _) (range_new wr [.int .i64 (g 0), .int .i64 (g 1), .int .i64 (g 2), .int .i64 (g 3), .int .i64 (g 4), .int .i64 (g 5), .int .i64 (g 6), .int .i64 (g 7), .int .i64 (g 8), .int .i64 (A : Int), .int .i64 (B : Int)] 48)
          have ol : ∀ (b o : Nat), b < wr.heap.size → W.cell? ⟨b, o, none⟩ = wr.cell? ⟨b, o, none⟩ := fun b o hb => by
            rw [hW.cell (p := ⟨b, o, none⟩) (by simp; omega)]; exact World.cell?_alloc_lt _ _ _ hb
          refine ⟨?_, rg 9 _ rfl, rg 10 _ rfl, by rw [ol _ _ hbg]; exact cx, by rw [ol _ _ hbg]; exact cy⟩
          have := rg I (.int .i64 (g I)) (by
            match I, hI9 with
            | 0, _ | 1, _ | 2, _ | 3, _ | 4, _ | 5, _ | 6, _ | 7, _ | 8, _ => rfl)
          rw [Nat.zero_add, ← hz] at this
          exact this
        have HK : Hid (∀ W W3 : World, (W.cell? ⟨wr.heap.size, I, none⟩ = some (.int .i64 z) ∧ W.cell? ⟨wr.heap.size, 9, none⟩ = some (.int .i64 (A : Int)) ∧ W.cell? ⟨wr.heap.size, 10, none⟩ = some (.int .i64 (B : Int)) ∧ W.cell? ⟨gb, A, none⟩ = some (.int .i64 x) ∧ W.cell? ⟨gb, B, none⟩ = some (.int .i64 y)) → W.grownBy W3 (some gb) → (∀ q u, ((Tm.lines inp (L.take j)).map (Value.int .i64))[q]? = some u → W3.cell? ⟨gb, q, none⟩ = some u) → wr.heap.size < W.heap.size → W3.cell? ⟨wr.heap.size, I, none⟩ = some (.int .i64 z) ∧ W3.cell? ⟨wr.heap.size, 9, none⟩ = some (.int .i64 (A : Int)) ∧ W3.cell? ⟨wr.heap.size, 10, none⟩ = some (.int .i64 (B : Int)) ∧ W3.cell? ⟨gb, A, none⟩ = some (.int .i64 x) ∧ W3.cell? ⟨gb, B, none⟩ = some (.int .i64 y)) := Lib.hid fun W W3 hS hg3 hk hsz => by
          obtain ⟨s1, s2, s3, s5, s6⟩ := hS
          have far : ∀ (b o : Nat), b < W.heap.size → b ≠ gb → W3.cell? ⟨b, o, none⟩ = W.cell? ⟨b, o, none⟩ := fun b o hb hne => hg3.cell_far' ⟨b, o, none⟩ hb (fun e => hne (by simpa using e))
          have at_ : ∀ q, q < 3 + inp.length + j → W3.cell? ⟨gb, q, none⟩ = some (.int .i64 ((Tm.lines inp (L.take j)).getD q 0)) := fun q hq => hk q _ (by rw [List.getElem?_map, List.getElem?_eq_getElem (by omega), List.getD_eq_getElem?_getD, List.getElem?_eq_getElem (by omega)]; rfl)
          exact ⟨by rw [far _ _ hsz (by omega)]; exact s1, by rw [far _ _ hsz (by omega)]; exact s2, by rw [far _ _ hsz (by omega)]; exact s3, by rw [at_ A lA, hx], by rw [at_ B lB, hy]⟩
        have hsz : wr.heap.size + 1 ≤ (wr.alloc (.cells #[.int .i64 (g 0), .int .i64 (g 1), .int .i64 (g 2), .int .i64 (g 3), .int .i64 (g 4), .int .i64 (g 5), .int .i64 (g 6), .int .i64 (g 7), .int .i64 (g 8), .int .i64 (A : Int), .int .i64 (B : Int)] 48)).heap.size := by simp
        have iA1 : (0 : Int) ≤ (A : Int) := by omega
        have iA3 : (A : Int) < 3 + (inp.length : Int) + (j : Int) := by omega
        have iB1 : (0 : Int) ≤ (B : Int) := by omega
        have iB3 : (B : Int) < 3 + (inp.length : Int) + (j : Int) := by omega
        have iI1 : (0 : Int) ≤ (I : Int) := by omega
        have iI2 : (I : Int) < 9 := by omega
        have e1 : IntKind.i64.wrap (x + 1) = x + 1 := IntWalk.i64_in _ (by omega)
        have e2 : IntKind.i64.wrap (3 * (x + 1)) = 3 * (x + 1) := IntWalk.i64_in _ (by omega)
        have e3 : IntKind.i64.wrap (3 * (x + 1) + y) = 3 * (x + 1) + y := IntWalk.i64_in _ (by omega)
        have e4 : IntKind.i64.wrap (3 * (x + 1) + y + 1) = (I : Int) := by rw [hI2]; exact IntWalk.i64_in _ (by omega)
        have HO2 := Lib.hid (own_below (w' := wr.alloc (.cells #[.int .i64 (g 0), .int .i64 (g 1), .int .i64 (g 2), .int .i64 (g 3), .int .i64 (g 4), .int .i64 (g 5), .int .i64 (g 6), .int .i64 (g 7), .int .i64 (g 8), .int .i64 (A : Int), .int .i64 (B : Int)] 48)) HO.out (by (repeat' (first | (with_reducible exact Below.refl _ _) | (with_reducible assumption) | (with_reducible refine below_drewN ?_ _) | (with_reducible refine Below.drew ?_) | (with_reducible refine Below.alloc ?_ ?_ _) | (with_reducible refine Below.setCell ?_ ?_ _) | (with_reducible refine below_gw ?_ ?_ _) | (with_reducible refine below_via ?_ ‹Below _ _ _› ?_) | (with_reducible exact Nat.le_refl _) | (with_reducible refine le_gw ?_ _) | (with_reducible refine le_alloc ?_ _) | (with_reducible refine le_setCell ?_ _ _) | (with_reducible refine le_drew ?_) | (with_reducible refine le_drewN ?_ _) | go_size))))
        clear hA hB hx hy hg hc DL ho OO hT hz hI hI2
        go_wp2_with fail
        clear p0 p1 p2 p3 p4 p5 p6 p7 p8 p9 p10 cx cy
        go_region_held_law (fun W => W.cell? ⟨wr.heap.size, I, none⟩ = some (.int .i64 z) ∧ W.cell? ⟨wr.heap.size, 9, none⟩ = some (.int .i64 (A : Int)) ∧ W.cell? ⟨wr.heap.size, 10, none⟩ = some (.int .i64 (B : Int)) ∧ W.cell? ⟨gb, A, none⟩ = some (.int .i64 x) ∧ W.cell? ⟨gb, B, none⟩ = some (.int .i64 y)) (first | exact HS3.out | exact HS.out _ (by ((repeat' (first | (with_reducible exact Below.refl _ _) | (with_reducible assumption) | (with_reducible refine below_drewN ?_ _) | (with_reducible refine Below.drew ?_) | (with_reducible refine Below.alloc ?_ ?_ _) | (with_reducible refine Below.setCell ?_ ?_ _) | (with_reducible refine below_gw ?_ ?_ _) | (with_reducible refine below_via ?_ ‹Below _ _ _› ?_) | (with_reducible exact Nat.le_refl _) | (with_reducible refine le_gw ?_ _) | (with_reducible refine le_alloc ?_ _) | (with_reducible refine le_setCell ?_ _ _) | (with_reducible refine le_drew ?_) | (with_reducible refine le_drewN ?_ _) | go_size))); done)) ((refine step_append_keep rfl (.tmp 18) (.tmp 36) 23 rfl (w.heap.size + 1) 3 i0 (.int .i64 0) 1 8 Try.underlying23 hi hz0 hz1 hz2 rfl (by decide) gb (3 + inp.length + j) cap ((Tm.lines inp (L.take j)).map (Value.int .i64)) (by simp [Act.eval]) (HO2.out.alloc _) ⟨wr.heap.size + 1, 0, none⟩ 1 1 [.int .i64 z] (by simp [Act.eval]) rfl (by have := app_c1 (wr.alloc (.cells #[.int .i64 (g 0), .int .i64 (g 1), .int .i64 (g 2), .int .i64 (g 3), .int .i64 (g 4), .int .i64 (g 5), .int .i64 (g 6), .int .i64 (g 7), .int .i64 (g 8), .int .i64 (A : Int), .int .i64 (B : Int)] 48)) z 3; simp only [World.size_alloc] at this; exact this) (app_c2 _) (by unfold maxLen; omega) (by omega) (le_drew (le_alloc (le_alloc hs1 _) _)) ?_; intro v3 w3 hown hgr hkp; have HS3 := Lib.hid (HK.out _ _ (HS.out _ (by (repeat' (first | (with_reducible exact Below.refl _ _) | (with_reducible assumption) | (with_reducible refine below_drewN ?_ _) | (with_reducible refine Below.drew ?_) | (with_reducible refine Below.alloc ?_ ?_ _) | (with_reducible refine Below.setCell ?_ ?_ _) | (with_reducible refine below_gw ?_ ?_ _) | (with_reducible refine below_via ?_ ‹Below _ _ _› ?_) | (with_reducible exact Nat.le_refl _) | (with_reducible refine le_gw ?_ _) | (with_reducible refine le_alloc ?_ _) | (with_reducible refine le_setCell ?_ _ _) | (with_reducible refine le_drew ?_) | (with_reducible refine le_drewN ?_ _) | go_size)))) hgr hkp (Nat.lt_of_lt_of_le (Nat.lt_succ_self _) (le_drew (le_alloc hsz _)))); have O3 := Lib.hid hown; have G3 := Lib.hid hgr; clear hown hgr hkp))
        have B3 := Lib.hid ((((BB.out.alloc hs0 (.cells #[.int .i64 (g 0), .int .i64 (g 1), .int .i64 (g 2), .int .i64 (g 3), .int .i64 (g 4), .int .i64 (g 5), .int .i64 (g 6), .int .i64 (g 7), .int .i64 (g 8), .int .i64 (A : Int), .int .i64 (B : Int)] 48)).alloc (le_alloc hs0 _) (.cells #[.int .i64 z] 3))).drew.grown G3.out (le_drew (le_alloc (le_alloc hs0 _) _)) (fun q hq => by cases hq; omega))
        have S3 : w.heap.size + 1 ≤ w3.heap.size := Nat.le_trans (le_drew (le_alloc (le_alloc hs1 _) _)) G3.out.size
        have O4 : Hid (∃ v', v' = v3 ∧ w3.ownsRow (w.heap.size + 1) 3 1 v' (3 + inp.length + (j + 1)) ((Tm.lines inp (L.take (j + 1))).map (Value.int .i64))) := Lib.hid ⟨_, rfl, by rw [DS.out, List.map_append]; exact O3.out⟩
        clear O3 G3 HS HK HO HO2 HS3 DS e1 e2 e3 e4
        go_wp2
        go_roundw
        case rel => exact ⟨j + 1, by omega, by go_num, O4, B3, S3⟩
        case measure => simp [intOf]; omega
      · obtain rfl : j = L.length := by omega
        obtain ⟨v', rfl, ho⟩ := OO.out
        rw [List.take_length, ← LN.out] at ho
        have HO := Lib.hid ho
        have hl : (Tm.lines inp L).length ≤ 1048576 := by rw [LN.out]; omega
        clear ho OO
        go_wp2
        go_ret
        exact ret_own (own_weak2 HO.out (by omega)) BB.out hl
theorem own_nilc {w : World} {B e n c : Nat} {a : Option Addr} {xs : List Value} (h : w.ownsRow B e 1 (.slice a n c) n xs) : a = none → c = 0 := by
  rintro rfl
  rcases h.2 with ⟨e1, _⟩ | ⟨g, cap, cur, e1, _⟩
  · cases e1; rfl
  · cases e1
set_option maxHeartbeats 4000000 in
theorem sLinesOf (k : Int) (a : Option Addr) (n c : Nat) (L : List (Nat → Int)) (b : Option Addr) (m d : Nat) (o : List Int) (ai : Option Addr) (ni ci : Nat) (inp : List Int) (w : World) (h : Cs w a n c L b m d o) (h2 : Ints w ai ni ci inp) (hz : ai = none → ci = 0) :
    Calls Try.prog 13 #[circV k a n c b m d, .slice ai ni ci] w (RetIB 3 w (Tm.linesX k L o inp) (Tm.linesOn k L o inp)) := by
  have H := Lib.hid h
  have H2 := Lib.hid h2
  have HZ := Lib.hid hz
  obtain rfl : L.length = n := h.1.1
  obtain rfl : o.length = m := h.2.1
  obtain rfl : inp.length = ni := h2.1
  have hi1 := h2.2.1
  have hi2 := h2.2.2.1
  unfold maxLen at hi2
  have IS := Lib.hid (fun (w : World) h => sIsCircuit k a L.length c L b o.length d o w h)
  clear h h2 hz
  cases hC : Tm.isCirc k L o with
  | false =>
    rw [hC] at IS
    have LO : Tm.linesOn k L o inp = false := by rw [Tm.linesOn, hC]; rfl
    rw [LO, (Tm.linesOn_no LO).1]
    clear hC LO
    go_enter Try.func13, Try.ntmps13
    go_wp2_with fail
    refine (IS.out _ (H.out.alloc _)).mono ?_
    rintro r w1 ⟨rfl, hb1⟩
    obtain ⟨p, rfl⟩ := gw_of_below hb1
    clear hb1
    go_wp2
    go_ret2
    exact ret_nil_b (by (repeat' (first | (with_reducible exact Below.refl _ _) | (with_reducible assumption) | (with_reducible refine below_drewN ?_ _) | (with_reducible refine Below.drew ?_) | (with_reducible refine Below.alloc ?_ ?_ _) | (with_reducible refine Below.setCell ?_ ?_ _) | (with_reducible refine below_gw ?_ ?_ _) | (with_reducible refine below_via ?_ ‹Below _ _ _› ?_) | (with_reducible exact Nat.le_refl _) | (with_reducible refine le_gw ?_ _) | (with_reducible refine le_alloc ?_ _) | (with_reducible refine le_setCell ?_ _ _) | (with_reducible refine le_drew ?_) | (with_reducible refine le_drewN ?_ _) | go_size)))
  | true =>
    rw [hC] at IS
    by_cases hl : (inp.length : Int) = k
    · have HC := Lib.hid hC
      subst hl
      have LO : Hid (Tm.linesOn (inp.length : Int) L o inp = inp.all Tm.isT) := Lib.hid (by rw [Tm.linesOn, hC, Tm.inOk, decide_eq_true rfl]; rfl)
      have hkk := (Tm.isCirc_iff _ _ _).1 hC
      have hk8 : inp.length ≤ 8 := by omega
      clear hC hkk
      go_enter Try.func13, Try.ntmps13
      go_wp2_with fail
      refine (IS.out _ (H.out.alloc _)).mono ?_
      rintro r w1 ⟨rfl, hb1⟩
      obtain ⟨p, rfl⟩ := gw_of_below hb1
      clear hb1
      go_wp2
      go_loop [20] (fun i => ∃ j : Nat, j ≤ inp.length ∧ i = .int .i64 j ∧ Hid (Tm.AllT inp j)) (fun i => inp.length - (intOf i).toNat)
      case atStart => exact ⟨0, by omega, rfl, Lib.hid (Tm.AllT_zero _)⟩
      case round =>
        obtain ⟨j, hj, rfl, AT⟩ := hrel
        by_cases hlt : j < inp.length
        · rcases H2.out.2.2.2 with h0 | ⟨bi, oi, rfl, hbl, hc⟩
          · omega
          have c1 := hc j hlt
          obtain ⟨x, hx⟩ : ∃ x, x = inp.getD j 0 := ⟨_, rfl⟩
          rw [← hx] at c1
          have IT := Lib.hid (fun w => sIsTrit x w)
          have XX : Hid (inp[j] = x) := Lib.hid (by rw [hx, getD_at])
          clear hc hx
          cases hT : Tm.isT x with
          | false =>
            rw [hT] at IT
            have NO : Hid (inp.all Tm.isT = false) := Lib.hid (allT_no (k := j) hlt (by rw [XX.out, hT]; rfl))
            clear hT
            go_wp2_with fail
            refine (IT.out _).mono ?_
            rintro r w' ⟨rfl, rfl⟩
            go_wp2
            go_ret2
            have e := LO.out
            rw [NO.out] at e
            rw [(Tm.linesOn_no e).1, e]
            exact ret_nil_b (by (repeat' (first | (with_reducible exact Below.refl _ _) | (with_reducible assumption) | (with_reducible refine below_drewN ?_ _) | (with_reducible refine Below.drew ?_) | (with_reducible refine Below.alloc ?_ ?_ _) | (with_reducible refine Below.setCell ?_ ?_ _) | (with_reducible refine below_gw ?_ ?_ _) | (with_reducible refine below_via ?_ ‹Below _ _ _› ?_) | (with_reducible exact Nat.le_refl _) | (with_reducible refine le_gw ?_ _) | (with_reducible refine le_alloc ?_ _) | (with_reducible refine le_setCell ?_ _ _) | (with_reducible refine le_drew ?_) | (with_reducible refine le_drewN ?_ _) | go_size)))
          | true =>
            rw [hT] at IT
            have AT2 : Hid (Tm.AllT inp (j + 1)) := Lib.hid (Tm.AllT_succ AT.out hlt (by rw [XX.out, hT]; rfl))
            clear hT AT
            go_wp2_with fail
            refine (IT.out _).mono ?_
            rintro r w' ⟨rfl, rfl⟩
            go_wp2
            go_round
            case rel => exact ⟨j + 1, by omega, by go_num, AT2⟩
            case measure => simp [intOf]; omega
        · obtain rfl : j = inp.length := by omega
          have OK : Hid (inp.all Tm.isT = true) := Lib.hid (allT_all AT.out)
          have LO2 : Hid (Tm.linesOn (inp.length : Int) L o inp = true) := Lib.hid (by rw [LO.out]; exact OK.out)
          have hl2 : (Tm.lines inp L).length ≤ 1048576 := by rw [Tm.lines_length]; have := (Tm.isCirc_iff _ _ _).1 HC.out; omega
          have IO : Hid (Tm.inOk (inp.length : Int) inp = true) := Lib.hid (by rw [Tm.inOk, decide_eq_true rfl, OK.out]; rfl)
          clear AT
          go_wp2_with fail
          refine (sLines6 (inp.length : Int) a L.length c L b o.length d o ai inp.length ci inp _ (H.out.below (by (repeat' (first | (with_reducible exact Below.refl _ _) | (with_reducible assumption) | (with_reducible refine below_drewN ?_ _) | (with_reducible refine Below.drew ?_) | (with_reducible refine Below.alloc ?_ ?_ _) | (with_reducible refine Below.setCell ?_ ?_ _) | (with_reducible refine below_gw ?_ ?_ _) | (with_reducible refine below_via ?_ ‹Below _ _ _› ?_) | (with_reducible exact Nat.le_refl _) | (with_reducible refine le_gw ?_ _) | (with_reducible refine le_alloc ?_ _) | (with_reducible refine le_setCell ?_ _ _) | (with_reducible refine le_drew ?_) | (with_reducible refine le_drewN ?_ _) | go_size)))) (H2.out.below (by (repeat' (first | (with_reducible exact Below.refl _ _) | (with_reducible assumption) | (with_reducible refine below_drewN ?_ _) | (with_reducible refine Below.drew ?_) | (with_reducible refine Below.alloc ?_ ?_ _) | (with_reducible refine Below.setCell ?_ ?_ _) | (with_reducible refine below_gw ?_ ?_ _) | (with_reducible refine below_via ?_ ‹Below _ _ _› ?_) | (with_reducible exact Nat.le_refl _) | (with_reducible refine le_gw ?_ _) | (with_reducible refine le_alloc ?_ _) | (with_reducible refine le_setCell ?_ _ _) | (with_reducible refine le_drew ?_) | (with_reducible refine le_drewN ?_ _) | go_size)))) HC.out IO.out HZ.out).mono ?_
          rintro r w2 ⟨a2, c2, rfl, hown, hb2, -⟩
          have HO := Lib.hid hown
          obtain ⟨q, rfl⟩ := gw_of_below hb2
          clear hown hb2
          go_wp2
          go_ret2
          rw [(Tm.linesOn_yes LO2.out).1, LO2.out]
          have ho := HO.out
          rw [gw_gw] at ho
          exact ret_own_b (own_weak2 ho (by simp only [gw_size, World.size_alloc]; omega)) (by (repeat' (first | (with_reducible exact Below.refl _ _) | (with_reducible assumption) | (with_reducible refine below_drewN ?_ _) | (with_reducible refine Below.drew ?_) | (with_reducible refine Below.alloc ?_ ?_ _) | (with_reducible refine Below.setCell ?_ ?_ _) | (with_reducible refine below_gw ?_ ?_ _) | (with_reducible refine below_via ?_ ‹Below _ _ _› ?_) | (with_reducible exact Nat.le_refl _) | (with_reducible refine le_gw ?_ _) | (with_reducible refine le_alloc ?_ _) | (with_reducible refine le_setCell ?_ _ _) | (with_reducible refine le_drew ?_) | (with_reducible refine le_drewN ?_ _) | go_size))) hl2
    · have LO : Tm.linesOn k L o inp = false := by rw [Tm.linesOn, Tm.inOk, decide_eq_false hl]; simp
      rw [LO, (Tm.linesOn_no LO).1]
      have hl2 : ((inp.length : Int) != k) = true := by simpa using hl
      clear hC LO hl
      go_enter Try.func13, Try.ntmps13
      go_wp2_with fail
      refine (IS.out _ (H.out.alloc _)).mono ?_
      rintro r w1 ⟨rfl, hb1⟩
      obtain ⟨p, rfl⟩ := gw_of_below hb1
      clear hb1
      go_wp2
      go_ret2
      exact ret_nil_b (by (repeat' (first | (with_reducible exact Below.refl _ _) | (with_reducible assumption) | (with_reducible refine below_drewN ?_ _) | (with_reducible refine Below.drew ?_) | (with_reducible refine Below.alloc ?_ ?_ _) | (with_reducible refine Below.setCell ?_ ?_ _) | (with_reducible refine below_gw ?_ ?_ _) | (with_reducible refine below_via ?_ ‹Below _ _ _› ?_) | (with_reducible exact Nat.le_refl _) | (with_reducible refine le_gw ?_ _) | (with_reducible refine le_alloc ?_ _) | (with_reducible refine le_setCell ?_ _ _) | (with_reducible refine le_drew ?_) | (with_reducible refine le_drewN ?_ _) | go_size)))
set_option maxHeartbeats 4000000 in
theorem sRunCircuit (k : Int) (a : Option Addr) (n c : Nat) (L : List (Nat → Int)) (b : Option Addr) (m d : Nat) (o : List Int) (ai : Option Addr) (ni ci : Nat) (inp : List Int) (w : World) (h : Cs w a n c L b m d o) (h2 : Ints w ai ni ci inp) (hz : ai = none → ci = 0) :
    Calls Try.prog 20 #[circV k a n c b m d, .slice ai ni ci] w (RetIB 3 w (Tm.outsX k L o inp) (Tm.linesOn k L o inp)) := by
  obtain ⟨i0, hi, hz0, hz1, hz2⟩ := info_parts infoInt
  have H := Lib.hid h
  have H2 := Lib.hid h2
  have HZ := Lib.hid hz
  obtain rfl : L.length = n := h.1.1
  obtain rfl : o.length = m := h.2.1
  obtain rfl : inp.length = ni := h2.1
  have SL := Lib.hid (fun (w : World) h h2 => sLinesOf k a L.length c L b o.length d o ai inp.length ci inp w h h2 hz)
  clear h h2 hz
  cases hO : Tm.linesOn k L o inp with
  | false =>
    rw [hO, (Tm.linesOn_no hO).1] at SL
    rw [(Tm.linesOn_no hO).2]
    clear hO
    go_enter Try.func20, Try.ntmps20
    go_wp2_with fail
    refine (SL.out _ (H.out.alloc _) (H2.out.alloc _)).mono ?_
    rintro r w1 ⟨a1, c1, rfl, hown, hb1, -⟩
    obtain ⟨p, rfl⟩ := gw_of_below hb1
    clear hb1 hown
    go_wp2
    go_ret2
    exact ret_nil_b (by (repeat' (first | (with_reducible exact Below.refl _ _) | (with_reducible assumption) | (with_reducible refine below_drewN ?_ _) | (with_reducible refine Below.drew ?_) | (with_reducible refine Below.alloc ?_ ?_ _) | (with_reducible refine Below.setCell ?_ ?_ _) | (with_reducible refine below_gw ?_ ?_ _) | (with_reducible refine below_via ?_ ‹Below _ _ _› ?_) | (with_reducible exact Nat.le_refl _) | (with_reducible refine le_gw ?_ _) | (with_reducible refine le_alloc ?_ _) | (with_reducible refine le_setCell ?_ _ _) | (with_reducible refine le_drew ?_) | (with_reducible refine le_drewN ?_ _) | go_size)))
  | true =>
    rw [hO, (Tm.linesOn_yes hO).1] at SL
    rw [(Tm.linesOn_yes hO).2]
    have hC : Tm.isCirc k L o = true := by rw [Tm.linesOn, Bool.and_eq_true] at hO; exact hO.1
    have hI : Tm.inOk k inp = true := by rw [Tm.linesOn, Bool.and_eq_true] at hO; exact hO.2
    have hCi := (Tm.isCirc_iff _ _ _).1 hC
    have hn : L.length ≤ 60 := hCi.2.1
    have hm : o.length ≤ 60 := hCi.2.2.1
    have hil : 3 + inp.length + L.length ≤ 80 := by
      rw [Tm.inOk, Bool.and_eq_true, decide_eq_true_eq] at hI; omega
    have LN : (Tm.lines inp L).length = 3 + inp.length + L.length := Tm.lines_length _ _
    have OL : Hid (∀ j, j < o.length → ∃ A : Nat, o.getD j 0 = (A : Int) ∧ A < (Tm.lines inp L).length) := Lib.hid fun j hj => by
      obtain ⟨A, h1, h2⟩ := Tm.outs_lines hC hj
      refine ⟨A, h1, ?_⟩
      rw [Tm.inOk, Bool.and_eq_true, decide_eq_true_eq] at hI
      omega
    obtain ⟨Z, hZ⟩ : ∃ Z, Z = Tm.lines inp L := ⟨_, rfl⟩
    have OT : Hid (o.map (fun x => Z.getD x.toNat 0) = Tm.outsTo inp L o o.length) := Lib.hid (by rw [Tm.outsTo, List.take_length, hZ])
    have OS : Hid (∀ j, j < o.length → Tm.outsTo inp L o (j + 1) = Tm.outsTo inp L o j ++ [Z.getD (o.getD j 0).toNat 0]) := Lib.hid fun j hj => by rw [hZ]; exact Tm.outsTo_succ _ _ _ hj
    rw [← hZ] at SL OL LN ⊢
    clear hO hC hI hCi hZ
    go_enter Try.func20, Try.ntmps20
    go_wp2_with fail
    refine (SL.out _ (H.out.alloc _) (H2.out.alloc _)).mono ?_
    rintro r w1 ⟨a1, c1, rfl, hown, hb1, -⟩
    have IZ := Lib.hid (Ints.of_own hown)
    obtain ⟨p, rfl⟩ := gw_of_below hb1
    clear hb1 hown
    go_wp2_with fail
    go_loopw [8, 23] (fun v i wr => ∃ j : Nat, j ≤ o.length ∧ i = .int .i64 j ∧ Hid (∃ v', v' = v ∧ wr.ownsRow (w.heap.size + 1 + p.os.size) 3 1 v' j ((Tm.outsTo inp L o j).map (Value.int .i64))) ∧ Hid (Below (w.heap.size + 1 + p.os.size) (gw (w.alloc (.cells #[.int .i64 k, .slice a L.length c, .slice b o.length d] 30)) p) wr)) (fun _ i _ => o.length - (intOf i).toNat)
    case atStart => exact ⟨0, by omega, rfl, Lib.hid ⟨_, rfl, by have := own_empty (gw (w.alloc (.cells #[.int .i64 k, .slice a L.length c, .slice b o.length d] 30)) p) (w.heap.size + 1 + p.os.size) 3 (by simp only [gw_size, World.size_alloc]; omega); have e : Tm.outsTo inp L o 0 = [] := rfl; rw [e]; simp only [gw_size, World.size_alloc] at this; exact this⟩, Lib.hid ((Below.refl _ _).alloc (by simp only [gw_size, World.size_alloc]; omega) _)⟩
    case round =>
      obtain ⟨j, hj, rfl, OO, BB⟩ := hrel
      have hb0 : Below w.heap.size w wr := ((((Below.refl w.heap.size w).alloc (Nat.le_refl _) _).trans ((below_gw (Below.refl _ _) (Nat.le_refl _) p).mono (by simp)))).trans (BB.out.mono (by omega))
      have hs1 : w.heap.size + 1 + p.os.size ≤ wr.heap.size := by have := BB.out.size; simp only [gw_size, World.size_alloc] at this; exact this
      by_cases hlt : j < o.length
      · obtain ⟨v', rfl, ho⟩ := OO.out
        have HO := Lib.hid ho
        obtain ⟨A, hA, lA⟩ := OL.out j hlt
        rcases (H.out.2.below hb0).2.2.2 with h0 | ⟨bo, oo, rfl, hbl, hc⟩
        · omega
        have co := hc j hlt
        rw [hA] at co
        rcases (IZ.out.below (w' := wr) (by have := BB.out; simp only [gw_size, World.size_alloc]; exact this)).2.2.2 with h0 | ⟨bz, oz, rfl, hbz, hcz⟩
        · omega
        have cz := hcz A lA
        obtain ⟨z, hz⟩ : ∃ z, z = Z.getD A 0 := ⟨_, rfl⟩
        rw [← hz] at cz
        have DS : Hid (Tm.outsTo inp L o (j + 1) = Tm.outsTo inp L o j ++ [z]) := Lib.hid (by rw [OS.out j hlt, hA, Int.toNat_natCast, hz])
        have lA2 : (A : Int) < (Z.length : Int) := by omega
        have hz1' : Z.length ≤ 80 := by omega
        clear hc hcz hz hA ho OO
        go_wp2_with (at_builtin; refine wpList_append_own_at _ rfl _ _ 23 rfl (w.heap.size + 1 + p.os.size) 3 i0 (.int .i64 0) 1 8 Try.underlying23 hi hz0 hz1 hz2 rfl (by decide) _ _ _ rfl (World.ownsRow.alloc HO.out _) ⟨wr.heap.size, 0, none⟩ 1 1 [.int .i64 (z)] rfl rfl (app_c1 (wr) (z) _) (app_c2 _) (by unfold maxLen; omega) (by omega) (by simp; omega) ?_)
        intro v3 w3 hown hgr _ _
        have O4 : Hid (∃ v', v' = v3 ∧ w3.ownsRow (w.heap.size + 1 + p.os.size) 3 1 v' (j + 1) ((Tm.outsTo inp L o (j + 1)).map (Value.int .i64))) := Lib.hid ⟨_, rfl, by rw [DS.out, List.map_append]; exact hown⟩
        have B3 := Lib.hid ((BB.out.alloc hs1 (.cells #[.int .i64 z] 3)).grown hgr (le_alloc hs1 _) (fun q hq => by have := (HO.out.lt q hq).1; omega))
        clear hown hgr HO DS
        go_wp2
        go_roundw
        case rel => exact ⟨j + 1, by omega, by go_num, O4, B3⟩
        case measure => simp [intOf]; omega
      · obtain rfl : j = o.length := by omega
        obtain ⟨v', rfl, ho⟩ := OO.out
        have HO := Lib.hid ho
        clear ho OO
        go_wp2
        go_ret2
        rw [OT.out]
        exact ret_own_b (own_weak2 HO.out (by omega)) hb0 (by omega)
end Go.Proofs.Ytpmdkifnejkofaa

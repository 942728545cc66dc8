/- The program's circuits, on: lines and outputs. -/
import Derived.Test.YtpmdkifnejkofaaGI2
import Derived.Test.YtpmdkifnejkofaaGS2
namespace Go.Proofs.Ytpmdkifnejkofaa
set_option maxRecDepth 20000
open Go.RowKit
set_option maxHeartbeats 8000000 in
theorem iReadLook (a : Option Addr) (n c0 : Nat) (xs : List Int) (aL : Option Addr) (m cL : Nat) (L : List (Nat → Int)) (w : World) (h : Ints w a n c0 xs) (hL : Gs w aL m cL L) (h0 : 0 < n) (hn : n ≤ 11) (hm : m ≤ 60)
    (hg : ∀ j, j < L.length → ∀ g, g = L.getD j Tm.g0 → ∃ A B : Nat, g 9 = (A : Int) ∧ g 10 = (B : Int) ∧ A < xs.length + j ∧ B < xs.length + j ∧ Tm.isTab g = true) :
    Calls Try.prog 40 #[.agg #[.slice a n c0, .func (Fn.func 39) #[] #[]], .slice aL m cL] w (RetI 3 w (Tm.readL Tm.lk xs L)) := by
  obtain ⟨i0, hi, hz0, hz1, hz2⟩ := info_parts infoInt
  have H := Lib.hid h
  have HL := Lib.hid hL
  obtain rfl : xs.length = n := h.1
  obtain rfl : L.length = m := hL.1
  have hc1 := hL.2.1
  have hc2 := hL.2.2.1
  unfold maxLen at hc2
  have GL := Lib.hid hg
  have LN : Hid ((Tm.readL Tm.lk xs L).length = xs.length + L.length) := Lib.hid (Tm.readL_length _ _ _)
  clear h hL hg
  have rs := store_func
  go_enter Try.func40, Try.ntmps40
  go_wp2_with fail
  refine (iClone a xs.length c0 xs _ (H.out.alloc _) h0 (by omega)).mono ?_
  rintro r w1 ⟨a1, c1, rfl, hown, hb1, -⟩
  have HO0 := Lib.hid hown
  have BB0 : Hid (Below (w.heap.size + 1) (w.alloc (.cells #[.slice a xs.length c0, .func (Fn.func 39) #[] #[]] 58)) w1) := Lib.hid (by have := hb1; rw [World.size_alloc] at this; exact this)
  clear hown hb1 rs
  go_wp2_with fail
  go_loopw [5, 13] (fun v i wr => ∃ j : Nat, j ≤ L.length ∧ i = .int .i64 j ∧ Hid (∃ v', v' = v ∧ wr.ownsRow (w.heap.size + 1) 3 1 v' (xs.length + j) ((Tm.readL Tm.lk xs (L.take j)).map (Value.int .i64))) ∧ Hid (Below (w.heap.size + 1) (w.alloc (.cells #[.slice a xs.length c0, .func (Fn.func 39) #[] #[]] 58)) wr)) (fun _ i _ => L.length - (intOf i).toNat)
  case atStart => exact ⟨0, by omega, rfl, Lib.hid ⟨_, rfl, by have := HO0.out; rw [World.size_alloc] at this; exact this⟩, BB0⟩
  case round =>
    clear HO0 BB0
    obtain ⟨j, hj, rfl, OO, BB⟩ := hrel
    have hb0 : Below w.heap.size w wr := ((Below.refl w.heap.size w).alloc (Nat.le_refl _) _).trans (BB.out.mono (by omega))
    have hs1 : w.heap.size + 1 ≤ wr.heap.size := by have := BB.out.size; rw [World.size_alloc] at this; exact this
    by_cases hlt : j < L.length
    · obtain ⟨v', rfl, ho⟩ := OO.out
      obtain ⟨gb, cap, rfl⟩ := own_shapeN ho (by omega)
      have HO := Lib.hid ho
      obtain ⟨-, -, -, y⟩ := HL.out.below hb0
      rcases y with h0' | ⟨bb, oo, rfl, hbl, hc⟩
      · omega
      obtain ⟨g, hg, g1⟩ := Gs.gate hc hlt
      obtain ⟨A, B, hA, hB, lA, lB, hT⟩ := GL.out j hlt g hg
      obtain ⟨p0, p1, p2, p3, p4, p5, p6, p7, p8, p9, p10⟩ := g1
      rw [hA] at p9
      rw [hB] at p10
      obtain ⟨x, hx⟩ : ∃ x, x = (Tm.readL Tm.lk xs (L.take j)).getD A 0 := ⟨_, rfl⟩
      obtain ⟨y, hy⟩ : ∃ y, y = (Tm.readL Tm.lk xs (L.take j)).getD B 0 := ⟨_, rfl⟩
      have cx := own_get ho lA
      have cy := own_get ho lB
      rw [← hx] at cx
      rw [← hy] at cy
      have DL : (Tm.readL Tm.lk xs (L.take j)).length = xs.length + j := by rw [Tm.readL_length, List.length_take]; omega
      have DS : Hid (Tm.readL Tm.lk xs (L.take (j + 1)) = Tm.readL Tm.lk xs (L.take j) ++ [Tm.lk g x y]) := Lib.hid (by rw [Tm.readL_step _ _ _ hlt, ← hg, hA, hB, hx, hy]; rfl)
      obtain ⟨hbg1, hbg⟩ := HO.out.lt gb rfl
      have bx1 : wr.cell? ⟨w.heap.size, 1, none⟩ = some (.func (Fn.func 39) #[] #[]) := by rw [BB.out.cell (p := ⟨w.heap.size, 1, none⟩) (by simp)]; simp
      have HS : Hid (∀ W, Below (wr.heap.size + 1) (wr.alloc (.cells #[.int .i64 (g 0), .int .i64 (g 1), .int .i64 (g 2), .int .i64 (g 3), .int .i64 (g 4), .int .i64 (g 5), .int .i64 (g 6), .int .i64 (g 7), .int .i64 (g 8), .int .i64 (A : Int), .int .i64 (B : Int)] 48)) W → W.cell? ⟨w.heap.size, 1, none⟩ = some (.func (Fn.func 39) #[] #[]) ∧ W.rangeAt wr.heap.size 0 [.int .i64 (g 0), .int .i64 (g 1), .int .i64 (g 2), .int .i64 (g 3), .int .i64 (g 4), .int .i64 (g 5), .int .i64 (g 6), .int .i64 (g 7), .int .i64 (g 8)] ∧ W.cell? ⟨wr.heap.size, 9, none⟩ = some (.int .i64 (A : Int)) ∧ W.cell? ⟨wr.heap.size, 10, none⟩ = some (.int .i64 (B : Int)) ∧ W.cell? ⟨gb, A, none⟩ = some (.int .i64 x) ∧ W.cell? ⟨gb, B, none⟩ = some (.int .i64 y)) := Lib.hid fun W hW => by
        have rg := below_range hW (Nat.lt_succ_self _) (range_new wr [.int .i64 (g 0), .int .i64 (g 1), .int .i64 (g 2), .int .i64 (g 3), .int .i64 (g 4), .int .i64 (g 5), .int .i64 (g 6), .int .i64 (g 7), .int .i64 (g 8), .int .i64 (A : Int), .int .i64 (B : Int)] 48)
        have ol : ∀ (b o : Nat), b < wr.heap.size → W.cell? ⟨b, o, none⟩ = wr.cell? ⟨b, o, none⟩ := fun b o hb => by
          rw [hW.cell (p := ⟨b, o, none⟩) (by simp; omega)]; exact World.cell?_alloc_lt _ _ _ hb
        refine ⟨by rw [ol _ _ (by omega)]; exact bx1, range_part rg 0 ?_, rg 9 _ rfl, rg 10 _ rfl, by rw [ol _ _ hbg]; exact cx, by rw [ol _ _ hbg]; exact cy⟩
        intro j v hj
        match j, hj with
        | 0, hj | 1, hj | 2, hj | 3, hj | 4, hj | 5, hj | 6, hj | 7, hj | 8, hj => simpa using hj
        | j + 9, hj => simp at hj
      have HK : Hid (∀ W W3 : World, (W.cell? ⟨w.heap.size, 1, none⟩ = some (.func (Fn.func 39) #[] #[]) ∧ W.rangeAt wr.heap.size 0 [.int .i64 (g 0), .int .i64 (g 1), .int .i64 (g 2), .int .i64 (g 3), .int .i64 (g 4), .int .i64 (g 5), .int .i64 (g 6), .int .i64 (g 7), .int .i64 (g 8)] ∧ W.cell? ⟨wr.heap.size, 9, none⟩ = some (.int .i64 (A : Int)) ∧ W.cell? ⟨wr.heap.size, 10, none⟩ = some (.int .i64 (B : Int)) ∧ W.cell? ⟨gb, A, none⟩ = some (.int .i64 x) ∧ W.cell? ⟨gb, B, none⟩ = some (.int .i64 y)) → W.grownBy W3 (some gb) → (∀ j u, ((Tm.readL Tm.lk xs (L.take j)).map (Value.int .i64))[j]? = some u → True) → (∀ q u, ((Tm.readL Tm.lk xs (L.take j)).map (Value.int .i64))[q]? = some u → W3.cell? ⟨gb, q, none⟩ = some u) → wr.heap.size < W.heap.size → W3.cell? ⟨w.heap.size, 1, none⟩ = some (.func (Fn.func 39) #[] #[]) ∧ W3.rangeAt wr.heap.size 0 [.int .i64 (g 0), .int .i64 (g 1), .int .i64 (g 2), .int .i64 (g 3), .int .i64 (g 4), .int .i64 (g 5), .int .i64 (g 6), .int .i64 (g 7), .int .i64 (g 8)] ∧ W3.cell? ⟨wr.heap.size, 9, none⟩ = some (.int .i64 (A : Int)) ∧ W3.cell? ⟨wr.heap.size, 10, none⟩ = some (.int .i64 (B : Int)) ∧ W3.cell? ⟨gb, A, none⟩ = some (.int .i64 x) ∧ W3.cell? ⟨gb, B, none⟩ = some (.int .i64 y)) := Lib.hid fun W W3 hS hg3 _ hk hsz => by
        obtain ⟨s1, s2, s3, s4, s5, s6⟩ := hS
        have far : ∀ (b o : Nat), b < W.heap.size → b ≠ gb → W3.cell? ⟨b, o, none⟩ = W.cell? ⟨b, o, none⟩ := fun b o hb hne => hg3.cell_far' ⟨b, o, none⟩ hb (fun e => hne (by simpa using e))
        have at_ : ∀ q, q < xs.length + j → W3.cell? ⟨gb, q, none⟩ = some (.int .i64 ((Tm.readL Tm.lk xs (L.take j)).getD q 0)) := fun q hq => hk q _ (by rw [List.getElem?_map, List.getElem?_eq_getElem (by omega), List.getD_eq_getElem?_getD, List.getElem?_eq_getElem (by omega)]; rfl)
        exact ⟨by rw [far _ _ (by omega) (by omega)]; exact s1, fun q v hv => by rw [far _ _ hsz (by omega)]; exact s2 q v hv, by rw [far _ _ hsz (by omega)]; exact s3, by rw [far _ _ hsz (by omega)]; exact s4, by rw [at_ A lA, hx], by rw [at_ B lB, hy]⟩
      have hsz : wr.heap.size + 1 ≤ (wr.alloc (.cells #[.int .i64 (g 0), .int .i64 (g 1), .int .i64 (g 2), .int .i64 (g 3), .int .i64 (g 4), .int .i64 (g 5), .int .i64 (g 6), .int .i64 (g 7), .int .i64 (g 8), .int .i64 (A : Int), .int .i64 (B : Int)] 48)).heap.size := by simp
      have hu45 := Try.underlying46
      have hi45 : (Try.prog.info? 46).map (·.size) = some ([.int .i64 (g 0), .int .i64 (g 1), .int .i64 (g 2), .int .i64 (g 3), .int .i64 (g 4), .int .i64 (g 5), .int .i64 (g 6), .int .i64 (g 7), .int .i64 (g 8)] : List Value).length := by kernel_rfl
      have iA1 : (0 : Int) ≤ (A : Int) := by omega
      have iA2 : (A : Int) < ((xs.length + j : Nat) : Int) := by omega
      have iA3 : (A : Int) < (xs.length : Int) + (j : Int) := by omega
      have iB1 : (0 : Int) ≤ (B : Int) := by omega
      have iB2 : (B : Int) < ((xs.length + j : Nat) : Int) := by omega
      have iB3 : (B : Int) < (xs.length : Int) + (j : Int) := by omega
      have CF := Lib.hid (fun (w : World) => iLookUp g x y w)
      obtain ⟨z, hz⟩ : ∃ z, z = Tm.lk g x y := ⟨_, rfl⟩
      rw [show Tm.look g x y = z from hz.symm] at CF
      rw [← hz] at DS
      clear hA hB hx hy hg hc DL ho OO hT hz
      go_wp2_with fail
      clear p0 p1 p2 p3 p4 p5 p6 p7 p8 p9 p10 bx1 cx cy
      go_region_held_law (fun W => W.cell? ⟨w.heap.size, 1, none⟩ = some (.func (Fn.func 39) #[] #[]) ∧ W.rangeAt wr.heap.size 0 [.int .i64 (g 0), .int .i64 (g 1), .int .i64 (g 2), .int .i64 (g 3), .int .i64 (g 4), .int .i64 (g 5), .int .i64 (g 6), .int .i64 (g 7), .int .i64 (g 8)] ∧ W.cell? ⟨wr.heap.size, 9, none⟩ = some (.int .i64 (A : Int)) ∧ W.cell? ⟨wr.heap.size, 10, none⟩ = some (.int .i64 (B : Int)) ∧ W.cell? ⟨gb, A, none⟩ = some (.int .i64 x) ∧ W.cell? ⟨gb, B, none⟩ = some (.int .i64 y)) (first | exact HS3.out | exact HS.out _ (by ((repeat' (first | (with_reducible exact Below.refl _ _) | (with_reducible assumption) | (with_reducible refine below_drewN ?_ _) | (with_reducible refine Below.drew ?_) | (with_reducible refine Below.alloc ?_ ?_ _) | (with_reducible refine Below.setCell ?_ ?_ _) | (with_reducible refine below_gw ?_ ?_ _) | (with_reducible refine below_via ?_ ‹Below _ _ _› ?_) | (with_reducible exact Nat.le_refl _) | (with_reducible refine le_gw ?_ _) | (with_reducible refine le_alloc ?_ _) | (with_reducible refine le_setCell ?_ _ _) | (with_reducible refine le_drew ?_) | (with_reducible refine le_drewN ?_ _) | go_size))); done)) ((first
        | (refine step_append_keep rfl (.tmp 17) (.tmp 33) 23 rfl (w.heap.size + 1) 3 i0 (.int .i64 0) 1 8 Try.underlying23 hi hz0 hz1 hz2 rfl (by decide) gb (xs.length + j) cap ((Tm.readL Tm.lk xs (L.take j)).map (Value.int .i64)) (by simp [Act.eval]) (HO2.out.alloc _) ⟨wr.heap.size + 1 + p2.os.size, 0, none⟩ 1 1 [.int .i64 z] (by simp [Act.eval]) rfl (by have := app_c1 (gw (wr.alloc (.cells #[.int .i64 (g 0), .int .i64 (g 1), .int .i64 (g 2), .int .i64 (g 3), .int .i64 (g 4), .int .i64 (g 5), .int .i64 (g 6), .int .i64 (g 7), .int .i64 (g 8), .int .i64 (A : Int), .int .i64 (B : Int)] 48)) p2) z 3; simpa only [gw_size, World.size_alloc] using this) (app_c2 _) (by unfold maxLen; omega) (by omega) (by simp only [gw_size, World.size_alloc]; omega) ?_; intro v3 w3 hown hgr hkp; have HS3 := Lib.hid (HK.out _ _ (HS.out _ (by (repeat' (first | (with_reducible exact Below.refl _ _) | (with_reducible assumption) | (with_reducible refine below_drewN ?_ _) | (with_reducible refine Below.drew ?_) | (with_reducible refine Below.alloc ?_ ?_ _) | (with_reducible refine Below.setCell ?_ ?_ _) | (with_reducible refine below_gw ?_ ?_ _) | (with_reducible refine below_via ?_ ‹Below _ _ _› ?_) | (with_reducible exact Nat.le_refl _) | (with_reducible refine le_gw ?_ _) | (with_reducible refine le_alloc ?_ _) | (with_reducible refine le_setCell ?_ _ _) | (with_reducible refine le_drew ?_) | (with_reducible refine le_drewN ?_ _) | go_size)))) hgr (fun _ _ _ => trivial) hkp (by simp only [gw_size, World.size_alloc]; omega)); have O3 := Lib.hid hown; have G3 := Lib.hid hgr; clear hown hgr hkp)
        | (go_simp; go_at_call 39; refine (CF.out _).mono ?_; rintro e w2 ⟨rfl, hb2⟩; obtain ⟨p2, rfl⟩ := gw_of_below hb2; clear hb2; have HO2 := Lib.hid (own_below (w' := gw (wr.alloc (.cells #[.int .i64 (g 0), .int .i64 (g 1), .int .i64 (g 2), .int .i64 (g 3), .int .i64 (g 4), .int .i64 (g 5), .int .i64 (g 6), .int .i64 (g 7), .int .i64 (g 8), .int .i64 (A : Int), .int .i64 (B : Int)] 48)) p2) HO.out (by (repeat' (first | (with_reducible exact Below.refl _ _) | (with_reducible assumption) | (with_reducible refine below_drewN ?_ _) | (with_reducible refine Below.drew ?_) | (with_reducible refine Below.alloc ?_ ?_ _) | (with_reducible refine Below.setCell ?_ ?_ _) | (with_reducible refine below_gw ?_ ?_ _) | (with_reducible refine below_via ?_ ‹Below _ _ _› ?_) | (with_reducible exact Nat.le_refl _) | (with_reducible refine le_gw ?_ _) | (with_reducible refine le_alloc ?_ _) | (with_reducible refine le_setCell ?_ _ _) | (with_reducible refine le_drew ?_) | (with_reducible refine le_drewN ?_ _) | go_size)))))))
      have B3 := Lib.hid (((BB.out.alloc hs1 (.cells #[.int .i64 (g 0), .int .i64 (g 1), .int .i64 (g 2), .int .i64 (g 3), .int .i64 (g 4), .int .i64 (g 5), .int .i64 (g 6), .int .i64 (g 7), .int .i64 (g 8), .int .i64 (A : Int), .int .i64 (B : Int)] 48)).trans ((below_gw (Below.refl _ _) (Nat.le_refl _) p2).mono (le_alloc hs1 _))).alloc (le_gw (le_alloc hs1 _) _) (.cells #[.int .i64 z] 3) |>.grown G3.out (le_alloc (le_gw (le_alloc hs1 _) _) _) (fun q hq => by cases hq; exact hbg1))
      have O4 : Hid (∃ v', v' = v3 ∧ w3.ownsRow (w.heap.size + 1) 3 1 v' (xs.length + (j + 1)) ((Tm.readL Tm.lk xs (L.take (j + 1))).map (Value.int .i64))) := Lib.hid ⟨_, rfl, by rw [DS.out, List.map_append]; exact O3.out⟩
      clear O3 G3 HS HK HO HO2 HS3 DS
      go_wp2
      go_roundw
      case rel => exact ⟨j + 1, by omega, by go_num, O4, B3⟩
      case measure => simp [intOf]; omega
    · obtain rfl : j = L.length := by omega
      obtain ⟨v', rfl, ho⟩ := OO.out
      rw [List.take_length, ← LN.out] at ho
      have HO := Lib.hid ho
      clear ho OO
      go_wp2
      go_ret
      exact ret_own (own_weak2 HO.out (by omega)) hb0 (by rw [LN.out]; omega)
set_option maxHeartbeats 4000000 in
theorem iLinesOf (k : Int) (a : Option Addr) (n c : Nat) (L : List (Nat → Int)) (b : Option Addr) (m d : Nat) (o : List Int) (ai : Option Addr) (ni ci : Nat) (inp : List Int) (w : World) (h : Cs w a n c L b m d o) (h2 : Ints w ai ni ci inp) (hz : ai = none → ci = 0) :
    Calls Try.prog 15 #[circV k a n c b m d, .slice ai ni ci] w (RetIB 3 w (Tm.linesX k L o inp) (Tm.linesOn k L o inp)) := by
  obtain ⟨i0, hi, hz0, hz1, hz2⟩ := info_parts infoInt
  have H := Lib.hid h
  have H2 := Lib.hid h2
  have HZ := Lib.hid hz
  obtain rfl : L.length = n := h.1.1
  obtain rfl : o.length = m := h.2.1
  obtain rfl : inp.length = ni := h2.1
  have hi1 := h2.2.1
  have hi2 := h2.2.2.1
  unfold maxLen at hi2
  have IS := Lib.hid (fun (w : World) h => iIsCircuit k a L.length c L b o.length d o w h)
  have AT := Lib.hid (fun (w : World) h => iAllTrits ai inp.length ci inp w h)
  clear h h2 hz
  cases hC : Tm.isCirc k L o with
  | false =>
    rw [hC] at IS
    have LO : Tm.linesOn k L o inp = false := by rw [Tm.linesOn, hC]; rfl
    rw [LO, (Tm.linesOn_no LO).1]
    clear hC LO
    go_enter Try.func15, Try.ntmps15
    go_wp2_with fail
    refine (IS.out _ (H.out.alloc _)).mono ?_
    rintro r w1 ⟨rfl, hb1⟩
    obtain ⟨p, rfl⟩ := gw_of_below hb1
    clear hb1
    go_wp2
    go_ret2
    exact ret_nil_b (by (repeat' (first | (with_reducible exact Below.refl _ _) | (with_reducible assumption) | (with_reducible refine below_drewN ?_ _) | (with_reducible refine Below.drew ?_) | (with_reducible refine Below.alloc ?_ ?_ _) | (with_reducible refine Below.setCell ?_ ?_ _) | (with_reducible refine below_gw ?_ ?_ _) | (with_reducible refine below_via ?_ ‹Below _ _ _› ?_) | (with_reducible exact Nat.le_refl _) | (with_reducible refine le_gw ?_ _) | (with_reducible refine le_alloc ?_ _) | (with_reducible refine le_setCell ?_ _ _) | (with_reducible refine le_drew ?_) | (with_reducible refine le_drewN ?_ _) | go_size)))
  | true =>
    rw [hC] at IS
    by_cases hl : (inp.length : Int) = k
    · cases hA : inp.all Tm.isT with
      | false =>
        rw [hA] at AT
        have LO : Tm.linesOn k L o inp = false := by rw [Tm.linesOn, Tm.inOk, hA]; simp
        rw [LO, (Tm.linesOn_no LO).1]
        subst hl
        clear hC hA LO
        go_enter Try.func15, Try.ntmps15
        go_wp2_with fail
        refine (IS.out _ (H.out.alloc _)).mono ?_
        rintro r w1 ⟨rfl, hb1⟩
        obtain ⟨p, rfl⟩ := gw_of_below hb1
        clear hb1
        go_wp2_with fail
        refine (AT.out _ (H2.out.below (by (repeat' (first | (with_reducible exact Below.refl _ _) | (with_reducible assumption) | (with_reducible refine below_drewN ?_ _) | (with_reducible refine Below.drew ?_) | (with_reducible refine Below.alloc ?_ ?_ _) | (with_reducible refine Below.setCell ?_ ?_ _) | (with_reducible refine below_gw ?_ ?_ _) | (with_reducible refine below_via ?_ ‹Below _ _ _› ?_) | (with_reducible exact Nat.le_refl _) | (with_reducible refine le_gw ?_ _) | (with_reducible refine le_alloc ?_ _) | (with_reducible refine le_setCell ?_ _ _) | (with_reducible refine le_drew ?_) | (with_reducible refine le_drewN ?_ _) | go_size))))).mono ?_
        rintro r w1 ⟨rfl, rfl⟩
        go_wp2
        go_ret2
        exact ret_nil_b (by (repeat' (first | (with_reducible exact Below.refl _ _) | (with_reducible assumption) | (with_reducible refine below_drewN ?_ _) | (with_reducible refine Below.drew ?_) | (with_reducible refine Below.alloc ?_ ?_ _) | (with_reducible refine Below.setCell ?_ ?_ _) | (with_reducible refine below_gw ?_ ?_ _) | (with_reducible refine below_via ?_ ‹Below _ _ _› ?_) | (with_reducible exact Nat.le_refl _) | (with_reducible refine le_gw ?_ _) | (with_reducible refine le_alloc ?_ _) | (with_reducible refine le_setCell ?_ _ _) | (with_reducible refine le_drew ?_) | (with_reducible refine le_drewN ?_ _) | go_size)))
      | true =>
        rw [hA] at AT
        have LO : Hid (Tm.linesOn k L o inp = true) := Lib.hid (by rw [Tm.linesOn, Tm.inOk, hA, hC, decide_eq_true hl]; rfl)
        have hCi := (Tm.isCirc_iff _ _ _).1 hC
        have hn : L.length ≤ 60 := hCi.2.1
        have hk8 : inp.length ≤ 8 := by omega
        have K3 : (3 + k).toNat = 3 + inp.length := by omega
        have GL : Hid (∀ j, j < L.length → ∀ g, g = L.getD j Tm.g0 → ∃ A B : Nat, g 9 = (A : Int) ∧ g 10 = (B : Int) ∧ A < [(-1 : Int), 0, 1].length + inp.length + j ∧ B < [(-1 : Int), 0, 1].length + inp.length + j ∧ Tm.isTab g = true) := Lib.hid fun j hj g hg => by
          have := Tm.gate_lines hC hj hg
          rw [K3] at this; exact this
        have hl2 : (Tm.lines inp L).length ≤ 1048576 := by rw [Tm.lines_length]; omega
        subst hl
        have NC : Hid (∀ (W : World), Below w.heap.size w W → ∀ ad, ai = some ad → ∀ j u, (inp.map (Value.int .i64))[j]? = some u → W.cell? (ad.add j) = some u) := Lib.hid fun W hW ad had j u hu => by
          have hjl := (List.getElem?_eq_some_iff.1 hu).1
          rw [List.length_map] at hjl
          rcases (H2.out.below hW).2.2.2 with e0 | ⟨bb, oo, e1, hbl, hc⟩
          · omega
          · rw [e1] at had
            cases had
            exact news_of rfl hc j u hu
        have rs := store_func
        clear hC hA hCi K3
        go_enter Try.func15, Try.ntmps15
        go_wp2_with fail
        refine (IS.out _ (H.out.alloc _)).mono ?_
        rintro r w1 ⟨rfl, hb1⟩
        obtain ⟨p, rfl⟩ := gw_of_below hb1
        clear hb1
        go_wp2_with fail
        refine (AT.out _ (H2.out.below (by (repeat' (first | (with_reducible exact Below.refl _ _) | (with_reducible assumption) | (with_reducible refine below_drewN ?_ _) | (with_reducible refine Below.drew ?_) | (with_reducible refine Below.alloc ?_ ?_ _) | (with_reducible refine Below.setCell ?_ ?_ _) | (with_reducible refine below_gw ?_ ?_ _) | (with_reducible refine below_via ?_ ‹Below _ _ _› ?_) | (with_reducible exact Nat.le_refl _) | (with_reducible refine le_gw ?_ _) | (with_reducible refine le_alloc ?_ _) | (with_reducible refine le_setCell ?_ _ _) | (with_reducible refine le_drew ?_) | (with_reducible refine le_drewN ?_ _) | go_size))))).mono ?_
        rintro r w1 ⟨rfl, rfl⟩
        by_cases h00 : inp.length = 0
        · have H00 := Lib.hid h00
          clear h00
          go_wp2_with (at_builtin; refine wpList_append_fits_any _ rfl _ _ 23 rfl (w.heap.size + 1 + p.os.size) 3 i0 1 Try.underlying23 hi hz1 (w.heap.size + 1 + p.os.size) 3 3 _ rfl (own_three _ (w.heap.size + 1 + p.os.size) (w.heap.size + 1 + p.os.size) 3 (by simp only [gw_size, World.size_alloc]) (Nat.le_refl _)) ai inp.length ci (inp.map (Value.int .i64)) rfl (by simp) (fun e => ⟨H00.out, HZ.out e⟩) (NC.out _ (by (repeat' (first | (with_reducible exact Below.refl _ _) | (with_reducible assumption) | (with_reducible refine below_drewN ?_ _) | (with_reducible refine Below.drew ?_) | (with_reducible refine Below.alloc ?_ ?_ _) | (with_reducible refine Below.setCell ?_ ?_ _) | (with_reducible refine below_gw ?_ ?_ _) | (with_reducible refine below_via ?_ ‹Below _ _ _› ?_) | (with_reducible exact Nat.le_refl _) | (with_reducible refine le_gw ?_ _) | (with_reducible refine le_alloc ?_ _) | (with_reducible refine le_setCell ?_ _ _) | (with_reducible refine le_drew ?_) | (with_reducible refine le_drewN ?_ _) | go_size)))) (news_one _) (by have := H00.out; omega) ?_)
          intro w1 hown hgrow
          have HO : Hid (w1.ownsRow (w.heap.size + 1 + p.os.size) 3 1 (.slice (some ⟨w.heap.size + 1 + p.os.size, 0, none⟩) (3 + inp.length) 3) (3 + inp.length) (([-1, 0, 1] ++ inp).map (Value.int .i64))) := Lib.hid (by rw [List.map_append]; exact hown)
          have BB := Lib.hid ((((Below.refl _ (gw (w.alloc (.cells #[.int .i64 (inp.length : Int), .slice a L.length c, .slice b o.length d] 30)) p)).alloc (B := w.heap.size + 1 + p.os.size) (by simp only [gw_size, World.size_alloc]; omega) (.cells #[.int .i64 (-1), .int .i64 0, .int .i64 1] 3))).grown hgrow (by simp only [gw_size, World.size_alloc]; omega) (fun q hq => by cases hq; omega))
          have S1 : w.heap.size + 1 + p.os.size ≤ w1.heap.size := Nat.le_trans (by simp only [gw_size, World.size_alloc]; omega) hgrow.size
          have bx1 : w1.cell? ⟨w.heap.size, 1, none⟩ = some (.slice a L.length c) := by
            rw [BB.out.cell (p := ⟨w.heap.size, 1, none⟩) (by simp; omega), gw_cell _ _ _ _ (by simp)]; simp
          have lt1 : w.heap.size < w1.heap.size := by omega
          have hb0 : Below w.heap.size w w1 := ((((Below.refl w.heap.size w).alloc (Nat.le_refl _) _).trans ((below_gw (Below.refl _ _) (Nat.le_refl _) p).mono (by simp)))).trans (BB.out.mono (by omega))
          have IX := Lib.hid (Ints.of_own (xs := [-1, 0, 1] ++ inp) (n := 3 + inp.length) HO.out)
          clear hown hgrow
          go_wp2_with fail
          refine (iReadLook _ (3 + inp.length) _ ([-1, 0, 1] ++ inp) a L.length c L _ (IX.out.alloc _) ((H.out.1.below hb0).alloc _) (by omega) (by omega) hn (by rw [List.length_append]; exact GL.out)).mono ?_
          rintro r w2 ⟨a2, c2, rfl, hown, hb2, -⟩
          have HO3 := Lib.hid hown
          have HB2 := Lib.hid hb2
          clear hown hb2
          go_wp2
          go_ret2
          rw [LO.out, (Tm.linesOn_yes LO.out).1]
          exact ret_own_b (own_weak2 HO3.out (by rw [World.size_alloc]; have := hb0.size; omega)) ((hb0.alloc hb0.size _).trans (HB2.out.mono (by rw [World.size_alloc]; have := hb0.size; omega))) hl2
        · rcases H2.out.2.2.2 with e0 | ⟨bi, oi, rfl, hbi, hci⟩
          · omega
          clear hci h00
          go_wp2_with (at_builtin; refine wpList_append_own _ rfl _ _ 23 rfl (w.heap.size + 1 + p.os.size) 3 i0 (.int .i64 0) 1 8 Try.underlying23 hi hz0 hz1 hz2 rfl (by decide) _ _ _ rfl (own_three _ (w.heap.size + 1 + p.os.size) (w.heap.size + 1 + p.os.size) 3 (by simp only [gw_size, World.size_alloc]) (Nat.le_refl _)) ⟨bi, oi, none⟩ inp.length ci (inp.map (Value.int .i64)) rfl (by simp) (NC.out _ (by (repeat' (first | (with_reducible exact Below.refl _ _) | (with_reducible assumption) | (with_reducible refine below_drewN ?_ _) | (with_reducible refine Below.drew ?_) | (with_reducible refine Below.alloc ?_ ?_ _) | (with_reducible refine Below.setCell ?_ ?_ _) | (with_reducible refine below_gw ?_ ?_ _) | (with_reducible refine below_via ?_ ‹Below _ _ _› ?_) | (with_reducible exact Nat.le_refl _) | (with_reducible refine le_gw ?_ _) | (with_reducible refine le_alloc ?_ _) | (with_reducible refine le_setCell ?_ _ _) | (with_reducible refine le_drew ?_) | (with_reducible refine le_drewN ?_ _) | go_size))) _ rfl) (news_one _) (by unfold maxLen; omega) (by omega) (by simp only [gw_size, World.size_alloc]; omega) ?_)
          intro v1 w1 hown hgrow _
          obtain ⟨a1, c1, rfl⟩ := own_form hown
          have HO : Hid (w1.ownsRow (w.heap.size + 1 + p.os.size) 3 1 (.slice a1 (3 + inp.length) c1) (3 + inp.length) (([-1, 0, 1] ++ inp).map (Value.int .i64))) := Lib.hid (by rw [List.map_append]; exact hown)
          have BB := Lib.hid ((((Below.refl _ (gw (w.alloc (.cells #[.int .i64 (inp.length : Int), .slice a L.length c, .slice b o.length d] 30)) p)).alloc (B := w.heap.size + 1 + p.os.size) (by simp only [gw_size, World.size_alloc]; omega) (.cells #[.int .i64 (-1), .int .i64 0, .int .i64 1] 3))).grown hgrow (by simp only [gw_size, World.size_alloc]; omega) (fun q hq => by simp [Value.ownBlock] at hq; omega))
          have S1 : w.heap.size + 1 + p.os.size ≤ w1.heap.size := Nat.le_trans (by simp only [gw_size, World.size_alloc]; omega) hgrow.size
          have bx1 : w1.cell? ⟨w.heap.size, 1, none⟩ = some (.slice a L.length c) := by
            rw [BB.out.cell (p := ⟨w.heap.size, 1, none⟩) (by simp; omega), gw_cell _ _ _ _ (by simp)]; simp
          have lt1 : w.heap.size < w1.heap.size := by omega
          have hb0 : Below w.heap.size w w1 := ((((Below.refl w.heap.size w).alloc (Nat.le_refl _) _).trans ((below_gw (Below.refl _ _) (Nat.le_refl _) p).mono (by simp)))).trans (BB.out.mono (by omega))
          have IX := Lib.hid (Ints.of_own (xs := [-1, 0, 1] ++ inp) (n := 3 + inp.length) HO.out)
          clear hown hgrow
          go_wp2_with fail
          refine (iReadLook _ (3 + inp.length) _ ([-1, 0, 1] ++ inp) a L.length c L _ (IX.out.alloc _) ((H.out.1.below hb0).alloc _) (by omega) (by omega) hn (by rw [List.length_append]; exact GL.out)).mono ?_
          rintro r w2 ⟨a2, c2, rfl, hown, hb2, -⟩
          have HO3 := Lib.hid hown
          have HB2 := Lib.hid hb2
          clear hown hb2
          go_wp2
          go_ret2
          rw [LO.out, (Tm.linesOn_yes LO.out).1]
          exact ret_own_b (own_weak2 HO3.out (by rw [World.size_alloc]; have := hb0.size; omega)) ((hb0.alloc hb0.size _).trans (HB2.out.mono (by rw [World.size_alloc]; have := hb0.size; omega))) hl2
    · have LO : Tm.linesOn k L o inp = false := by rw [Tm.linesOn, Tm.inOk, decide_eq_false hl]; simp
      rw [LO, (Tm.linesOn_no LO).1]
      have hl2 : ((inp.length : Int) != k) = true := by simpa using hl
      clear hC LO hl
      go_enter Try.func15, Try.ntmps15
      go_wp2_with fail
      refine (IS.out _ (H.out.alloc _)).mono ?_
      rintro r w1 ⟨rfl, hb1⟩
      obtain ⟨p, rfl⟩ := gw_of_below hb1
      clear hb1
      go_wp2
      go_ret2
      exact ret_nil_b (by (repeat' (first | (with_reducible exact Below.refl _ _) | (with_reducible assumption) | (with_reducible refine below_drewN ?_ _) | (with_reducible refine Below.drew ?_) | (with_reducible refine Below.alloc ?_ ?_ _) | (with_reducible refine Below.setCell ?_ ?_ _) | (with_reducible refine below_gw ?_ ?_ _) | (with_reducible refine below_via ?_ ‹Below _ _ _› ?_) | (with_reducible exact Nat.le_refl _) | (with_reducible refine le_gw ?_ _) | (with_reducible refine le_alloc ?_ _) | (with_reducible refine le_setCell ?_ _ _) | (with_reducible refine le_drew ?_) | (with_reducible refine le_drewN ?_ _) | go_size)))
/-- The first k of xs are there, zeros behind them. -/
theorem fillTo_snoc {xs : List Int} {n k : Nat} (hk : k < n) : (fillTo xs n k).set k (.int .i64 (xs.getD k 0)) = fillTo xs n (k + 1) := fillTo_set xs n k hk
set_option maxHeartbeats 4000000 in
theorem iRunCircuit (k : Int) (a : Option Addr) (n c : Nat) (L : List (Nat → Int)) (b : Option Addr) (m d : Nat) (o : List Int) (ai : Option Addr) (ni ci : Nat) (inp : List Int) (w : World) (h : Cs w a n c L b m d o) (h2 : Ints w ai ni ci inp) (hz : ai = none → ci = 0) :
    Calls Try.prog 21 #[circV k a n c b m d, .slice ai ni ci] w (RetIB 3 w (Tm.outsX k L o inp) (Tm.linesOn k L o inp)) := by
  obtain ⟨i0, hi, hz0, hz1, hz2⟩ := info_parts infoInt
  have H := Lib.hid h
  have H2 := Lib.hid h2
  have HZ := Lib.hid hz
  obtain rfl : L.length = n := h.1.1
  obtain rfl : o.length = m := h.2.1
  obtain rfl : inp.length = ni := h2.1
  have hd1 := h.2.2.1
  have hd2 := h.2.2.2.1
  unfold maxLen at hd2
  have SL := Lib.hid (fun (w : World) h h2 => iLinesOf k a L.length c L b o.length d o ai inp.length ci inp w h h2 hz)
  clear h h2 hz
  cases hO : Tm.linesOn k L o inp with
  | false =>
    rw [hO, (Tm.linesOn_no hO).1] at SL
    rw [(Tm.linesOn_no hO).2]
    clear hO
    go_enter Try.func21, Try.ntmps21
    go_wp2_with fail
    refine (SL.out _ (H.out.alloc _) (H2.out.alloc _)).mono ?_
    rintro r w1 ⟨a1, c1, rfl, hown, hb1, -⟩
    obtain ⟨p, rfl⟩ := gw_of_below hb1
    clear hb1 hown
    go_wp2
    go_ret2
    exact ret_nil_b (by (repeat' (first | (with_reducible exact Below.refl _ _) | (with_reducible assumption) | (with_reducible refine below_drewN ?_ _) | (with_reducible refine Below.drew ?_) | (with_reducible refine Below.alloc ?_ ?_ _) | (with_reducible refine Below.setCell ?_ ?_ _) | (with_reducible refine below_gw ?_ ?_ _) | (with_reducible refine below_via ?_ ‹Below _ _ _› ?_) | (with_reducible exact Nat.le_refl _) | (with_reducible refine le_gw ?_ _) | (with_reducible refine le_alloc ?_ _) | (with_reducible refine le_setCell ?_ _ _) | (with_reducible refine le_drew ?_) | (with_reducible refine le_drewN ?_ _) | go_size)))
  | true =>
    rw [hO, (Tm.linesOn_yes hO).1] at SL
    rw [(Tm.linesOn_yes hO).2]
    have hC : Tm.isCirc k L o = true := by rw [Tm.linesOn, Bool.and_eq_true] at hO; exact hO.1
    have hI : Tm.inOk k inp = true := by rw [Tm.linesOn, Bool.and_eq_true] at hO; exact hO.2
    have hCi := (Tm.isCirc_iff _ _ _).1 hC
    have hn : L.length ≤ 60 := hCi.2.1
    have hm : o.length ≤ 60 := hCi.2.2.1
    have hil : 3 + inp.length + L.length ≤ 80 := by
      rw [Tm.inOk, Bool.and_eq_true, decide_eq_true_eq] at hI; omega
    have LN : (Tm.lines inp L).length = 3 + inp.length + L.length := Tm.lines_length _ _
    have OL : Hid (∀ j, j < o.length → ∃ A : Nat, o.getD j 0 = (A : Int) ∧ A < (Tm.lines inp L).length) := Lib.hid fun j hj => by
      obtain ⟨A, h1, h2⟩ := Tm.outs_lines hC hj
      refine ⟨A, h1, ?_⟩
      rw [Tm.inOk, Bool.and_eq_true, decide_eq_true_eq] at hI
      omega
    obtain ⟨Z, hZ⟩ : ∃ Z, Z = Tm.lines inp L := ⟨_, rfl⟩
    obtain ⟨Y, hY⟩ : ∃ Y, Y = o.map fun x => Z.getD x.toNat 0 := ⟨_, rfl⟩
    have hYl : Y.length = o.length := by rw [hY, List.length_map]
    have YA : Hid (∀ j, j < o.length → Y.getD j 0 = Z.getD (o.getD j 0).toNat 0) := Lib.hid fun j hj => by
      rw [hY]; simp [List.getD, List.getElem?_eq_getElem hj]
    rw [← hZ] at SL OL LN ⊢
    rw [← hY]
    have FA : Hid (fillTo Y o.length o.length = Y.map (Value.int .i64)) := Lib.hid (fillTo_all _ _ hYl)
    have YL := Lib.hid hYl
    clear hO hC hI hCi hZ hY hYl
    go_enter Try.func21, Try.ntmps21
    go_wp2_with fail
    refine (SL.out _ (H.out.alloc _) (H2.out.alloc _)).mono ?_
    rintro r w1 ⟨a1, c1, rfl, hown, hb1, -⟩
    have IZ := Lib.hid (Ints.of_own hown)
    obtain ⟨p, rfl⟩ := gw_of_below hb1
    clear hb1 hown
    go_wp2_with (at_make; refine wpList_make_full _ rfl _ _ 23 rfl (w.heap.size + 1 + p.os.size) 3 i0 (.int .i64 0) 1 Try.underlying23 hi hz0 hz1 _ _ _ _ (o.length) rfl rfl (by first | rfl | omega) (by first | rfl | omega) (by rw [hz2]; omega) (by unfold maxLen; omega) (by first | go_size | (simp only [gw_size, World.size_alloc]; omega) | exact Nat.le_refl _ | omega) ?_)
    intro w1 hown hgrow
    have BB := Lib.hid ((Below.refl _ (gw (w.alloc (.cells #[.int .i64 k, .slice a L.length c, .slice b o.length d] 30)) p)).grown (B := w.heap.size + 1 + p.os.size) hgrow (by simp only [gw_size, World.size_alloc]; omega) (fun q hq => by cases hq))
    have HO : Hid (w1.ownsRow (w.heap.size + 1 + p.os.size) 3 1 (.slice (some ⟨w.heap.size + 1 + p.os.size, 0, none⟩) o.length o.length) o.length (fillTo Y o.length 0)) := Lib.hid (by rw [fillTo_zero]; rw [toList_madeCells_one] at hown; exact hown)
    have bx2 : w1.cell? ⟨w.heap.size, 2, none⟩ = some (.slice b o.length d) := by
      rw [BB.out.cell (p := ⟨w.heap.size, 2, none⟩) (by simp; omega), gw_cell _ _ _ _ (by simp)]; simp
    clear hown hgrow
    go_wp2_with fail
    clear bx2
    go_loopw [26] (fun i wr => ∃ j : Nat, j ≤ o.length ∧ i = .int .i64 j ∧ Hid (wr.ownsRow (w.heap.size + 1 + p.os.size) 3 1 (.slice (some ⟨w.heap.size + 1 + p.os.size, 0, none⟩) o.length o.length) o.length (fillTo Y o.length j)) ∧ Hid (Below (w.heap.size + 1 + p.os.size) (gw (w.alloc (.cells #[.int .i64 k, .slice a L.length c, .slice b o.length d] 30)) p) wr)) (fun i _ => o.length - (intOf i).toNat)
    case atStart => exact ⟨0, by omega, rfl, HO, BB⟩
    case round =>
      clear HO BB
      obtain ⟨j, hj, rfl, HO, BB⟩ := hrel
      have hb0 : Below w.heap.size w wr := ((((Below.refl w.heap.size w).alloc (Nat.le_refl _) _).trans ((below_gw (Below.refl _ _) (Nat.le_refl _) p).mono (by simp)))).trans (BB.out.mono (by omega))
      have hs1 : w.heap.size + 1 + p.os.size ≤ wr.heap.size := by have := BB.out.size; simp only [gw_size, World.size_alloc] at this; exact this
      by_cases hlt : j < o.length
      · obtain ⟨A, hA, lA⟩ := OL.out j hlt
        rcases (H.out.2.below hb0).2.2.2 with h0 | ⟨bo, oo, rfl, hbl, hc⟩
        · omega
        have co := hc j hlt
        rw [hA] at co
        rcases (IZ.out.below (w' := wr) (by have := BB.out; simp only [gw_size, World.size_alloc]; exact this)).2.2.2 with h0 | ⟨bz, oz, rfl, hbz, hcz⟩
        · omega
        have cz := hcz A lA
        obtain ⟨z, hz⟩ : ∃ z, z = Z.getD A 0 := ⟨_, rfl⟩
        rw [← hz] at cz
        have fz := HO.out.frozenAt j
        have hst := HO.out.stored j (.int .i64 z)
        have ck := HO.out.cellAt j (by omega)
        rw [fillTo_get _ _ _ _ hlt] at ck
        have e2 : z = Y.getD j 0 := by rw [YA.out j hlt, hA, Int.toNat_natCast, hz]
        have e3 := fillTo_snoc (xs := Y) hlt
        rw [← e2] at e3
        rw [e3] at hst
        obtain ⟨s1, s2⟩ := hst
        have S1 := Lib.hid s1
        have B2 := Lib.hid (BB.out.grown s2 hs1 (fun q hq => by cases hq; exact Nat.le_refl _))
        have lA2 : (A : Int) < (Z.length : Int) := by omega
        have hz1' : Z.length ≤ 80 := by omega
        clear hc hcz hz hA HO BB e2 e3 s1 s2
        go_wp2
        exact ⟨⟨j + 1, by omega, by go_num, S1, B2⟩, by simp [intOf]; omega⟩
      · obtain rfl : j = o.length := by omega
        have ho := HO.out
        rw [FA.out] at ho
        have HO2 := Lib.hid ho
        clear ho HO
        go_wp2
        go_ret2
        exact ret_own_b (own_weak2 HO2.out (by omega)) hb0 (by omega)
end Go.Proofs.Ytpmdkifnejkofaa

/- The program's circuits, on: lines, outputs, depths. -/
import Derived.Test.YtpmdkifnejkofaaGI1
import Derived.Test.YtpmdkifnejkofaaClone
import Derived.Deep.RegionHeldLaw
import Derived.Test.YtpmdkifnejkofaaStep
namespace Go.Proofs.Ytpmdkifnejkofaa
set_option maxRecDepth 20000
open Go.RowKit
theorem store_func (fn : Fn) (a : Addr) (w : World) : (store a (.func fn #[] #[])).run Try.prog w = match w.cell? a with
      | some _ => if w.frozen? a then .halt (.unsupported (.unsafePointer "a write to bytes that a string shares")) w else .ok () (w.setCell a (.func fn #[] #[]))
      | none => match w.farStore Try.prog a (.func fn #[] #[]) false with
        | .ok (w', _) => .ok () w'
        | .error h => .halt h w := run_store Try.prog w a _ .plain rfl
theorem iMaxS (a : Option Addr) (n cap : Nat) (xs : List Int) (w : World) (h : Ints w a n cap xs) (h0 : 0 < n) (hp : ∀ x ∈ xs, 0 ≤ x) : Calls Try.prog 43 #[.slice a n cap] w fun e w' => e = .returned (.int .i64 (Tm.mxl xs)) ∧ w = w' := by
  obtain ⟨x1, x2, x3, x4⟩ := h
  subst x1
  unfold maxLen at x3
  rcases x4 with e0 | ⟨b, o, rfl, hbl, hc⟩
  · omega
  have HC := Lib.hid hc
  have c0 := hc 0 h0
  rw [Nat.add_zero] at c0
  have p0 := hp _ (Tm.getD_mem h0)
  have HP := Lib.hid hp
  obtain ⟨x0, hx0⟩ : ∃ x, x = xs.getD 0 0 := ⟨_, rfl⟩
  rw [← hx0] at c0 p0
  have M1 : Hid (Tm.mxl (xs.take 1) = x0) := Lib.hid (by
    have : xs.take 1 = [] ++ [xs.getD 0 0] := Tm.take_snoc' xs 0 h0
    rw [this, Tm.mxl_snoc, ← hx0]
    show max 0 x0 = x0
    omega)
  clear hc hx0 hp
  go_enter Try.func43, Try.ntmps43
  go_wp2
  go_loop [3, 4] (fun ms i => ∃ k : Nat, 1 ≤ k ∧ k ≤ xs.length ∧ i = .int .i64 k ∧ ms = .int .i64 (Tm.mxl (xs.take k))) (fun _ i => xs.length - (intOf i).toNat)
  case atStart => exact ⟨1, by omega, by omega, rfl, by rw [M1.out]⟩
  case round =>
    obtain ⟨k, hk1, hk, rfl, rfl⟩ := hrel
    by_cases hlt : k < xs.length
    · have ck := HC.out k hlt
      obtain ⟨x, hx⟩ : ∃ x, x = xs.getD k 0 := ⟨_, rfl⟩
      rw [← hx] at ck
      obtain ⟨M, hM⟩ : ∃ M, M = Tm.mxl (xs.take k) := ⟨_, rfl⟩
      rw [← hM]
      have MM : Hid (Tm.mxl (xs.take (k + 1)) = if M < x then x else M) := Lib.hid (by rw [Tm.take_snoc' xs 0 hlt, Tm.mxl_snoc, ← hM, ← hx, Int.max_def]; split <;> split <;> omega)
      clear hx hM
      go_wp2
      go_round
      case rel => exact ⟨k + 1, by omega, by omega, by go_num, by rw [MM.out]⟩
      case measure => simp [intOf]; omega
    · obtain rfl : k = xs.length := by omega
      go_wp2
      go_ret
      exact ⟨rfl, rfl⟩
theorem iDeeper (g : Nat → Int) (x y : Int) (w : World) (h0 : 0 ≤ x ∧ x ≤ 60) (h1 : 0 ≤ y ∧ y ≤ 60) : Calls Try.prog 42 #[tabV g, .int .i64 x, .int .i64 y] w fun e w' => e = .returned (.int .i64 (Tm.dp g x y)) ∧ Below w.heap.size w w' := by
  obtain ⟨x0, x1⟩ := h0
  obtain ⟨y0, y1⟩ := h1
  rcases Int.lt_or_le x y with hl | hl
  · go_enter Try.func42, Try.ntmps42
    go_wp2
    go_ret
    exact ⟨ret_int (by rw [Tm.dp]; omega), by (repeat' (first | (with_reducible exact Below.refl _ _) | (with_reducible assumption) | (with_reducible refine below_drewN ?_ _) | (with_reducible refine Below.drew ?_) | (with_reducible refine Below.alloc ?_ ?_ _) | (with_reducible refine Below.setCell ?_ ?_ _) | (with_reducible refine below_gw ?_ ?_ _) | (with_reducible refine below_via ?_ ‹Below _ _ _› ?_) | (with_reducible exact Nat.le_refl _) | (with_reducible refine le_gw ?_ _) | (with_reducible refine le_alloc ?_ _) | (with_reducible refine le_setCell ?_ _ _) | (with_reducible refine le_drew ?_) | (with_reducible refine le_drewN ?_ _) | go_size))⟩
  · go_enter Try.func42, Try.ntmps42
    go_wp2
    go_ret
    exact ⟨ret_int (by rw [Tm.dp]; omega), by (repeat' (first | (with_reducible exact Below.refl _ _) | (with_reducible assumption) | (with_reducible refine below_drewN ?_ _) | (with_reducible refine Below.drew ?_) | (with_reducible refine Below.alloc ?_ ?_ _) | (with_reducible refine Below.setCell ?_ ?_ _) | (with_reducible refine below_gw ?_ ?_ _) | (with_reducible refine below_via ?_ ‹Below _ _ _› ?_) | (with_reducible exact Nat.le_refl _) | (with_reducible refine le_gw ?_ _) | (with_reducible refine le_alloc ?_ _) | (with_reducible refine le_setCell ?_ _ _) | (with_reducible refine le_drew ?_) | (with_reducible refine le_drewN ?_ _) | go_size))⟩
set_option maxHeartbeats 8000000 in
theorem iReadDeep (a : Option Addr) (n c0 : Nat) (xs : List Int) (aL : Option Addr) (m cL : Nat) (L : List (Nat → Int)) (w : World) (h : Ints w a n c0 xs) (hL : Gs w aL m cL L) (h0 : 0 < n) (hn : n ≤ 11) (hm : m ≤ 60)
    (hg : ∀ j, j < L.length → ∀ g, g = L.getD j Tm.g0 → ∃ A B : Nat, g 9 = (A : Int) ∧ g 10 = (B : Int) ∧ A < xs.length + j ∧ B < xs.length + j ∧ Tm.isTab g = true) (hx : ∀ x ∈ xs, x = 0) :
    Calls Try.prog 40 #[.agg #[.slice a n c0, .func (Fn.func 42) #[] #[]], .slice aL m cL] w (RetI 3 w (Tm.readL Tm.dp xs L)) := by
  obtain ⟨i0, hi, hz0, hz1, hz2⟩ := info_parts infoInt
  have H := Lib.hid h
  have HL := Lib.hid hL
  obtain rfl : xs.length = n := h.1
  obtain rfl : L.length = m := hL.1
  have hc1 := hL.2.1
  have hc2 := hL.2.2.1
  unfold maxLen at hc2
  have GL := Lib.hid hg
  have LN : Hid ((Tm.readL Tm.dp xs L).length = xs.length + L.length) := Lib.hid (Tm.readL_length _ _ _)
  clear h hL hg
  have rs := store_func
  have BD : Hid (∀ j, j ≤ L.length → ∀ x ∈ Tm.readL Tm.dp xs (L.take j), 0 ≤ x ∧ x ≤ (j : Int)) := Lib.hid (Tm.dp_bound hx (fun j hj => by
    obtain ⟨A, B, h1, h2, h3, h4, _⟩ := GL.out j hj _ rfl
    exact ⟨A, B, h1, h2, h3, h4⟩))
  go_enter Try.func40, Try.ntmps40
  go_wp2_with fail
  refine (iClone a xs.length c0 xs _ (H.out.alloc _) h0 (by omega)).mono ?_
  rintro r w1 ⟨a1, c1, rfl, hown, hb1, -⟩
  have HO0 := Lib.hid hown
  have BB0 : Hid (Below (w.heap.size + 1) (w.alloc (.cells #[.slice a xs.length c0, .func (Fn.func 42) #[] #[]] 58)) w1) := Lib.hid (by have := hb1; rw [World.size_alloc] at this; exact this)
  clear hown hb1 rs
  go_wp2_with fail
  go_loopw [5, 13] (fun v i wr => ∃ j : Nat, j ≤ L.length ∧ i = .int .i64 j ∧ Hid (∃ v', v' = v ∧ wr.ownsRow (w.heap.size + 1) 3 1 v' (xs.length + j) ((Tm.readL Tm.dp xs (L.take j)).map (Value.int .i64))) ∧ Hid (Below (w.heap.size + 1) (w.alloc (.cells #[.slice a xs.length c0, .func (Fn.func 42) #[] #[]] 58)) wr)) (fun _ i _ => L.length - (intOf i).toNat)
  case atStart => exact ⟨0, by omega, rfl, Lib.hid ⟨_, rfl, by have := HO0.out; rw [World.size_alloc] at this; exact this⟩, BB0⟩
  case round =>
    clear HO0 BB0
    obtain ⟨j, hj, rfl, OO, BB⟩ := hrel
    have hb0 : Below w.heap.size w wr := ((Below.refl w.heap.size w).alloc (Nat.le_refl _) _).trans (BB.out.mono (by omega))
    have hs1 : w.heap.size + 1 ≤ wr.heap.size := by have := BB.out.size; rw [World.size_alloc] at this; exact this
    by_cases hlt : j < L.length
    · obtain ⟨v', rfl, ho⟩ := OO.out
      obtain ⟨gb, cap, rfl⟩ := own_shapeN ho (by omega)
      have HO := Lib.hid ho
      obtain ⟨-, -, -, y⟩ := HL.out.below hb0
      rcases y with h0' | ⟨bb, oo, rfl, hbl, hc⟩
      · omega
      obtain ⟨g, hg, g1⟩ := Gs.gate hc hlt
      obtain ⟨A, B, hA, hB, lA, lB, hT⟩ := GL.out j hlt g hg
      obtain ⟨p0, p1, p2, p3, p4, p5, p6, p7, p8, p9, p10⟩ := g1
      rw [hA] at p9
      rw [hB] at p10
      obtain ⟨x, hx⟩ : ∃ x, x = (Tm.readL Tm.dp xs (L.take j)).getD A 0 := ⟨_, rfl⟩
      obtain ⟨y, hy⟩ : ∃ y, y = (Tm.readL Tm.dp xs (L.take j)).getD B 0 := ⟨_, rfl⟩
      have cx := own_get ho lA
      have cy := own_get ho lB
      rw [← hx] at cx
      rw [← hy] at cy
      have DL : (Tm.readL Tm.dp xs (L.take j)).length = xs.length + j := by rw [Tm.readL_length, List.length_take]; omega
      obtain ⟨bx, bx2⟩ := BD.out j hj _ (Tm.getD_mem (i := A) (by omega))
      obtain ⟨bY, by2⟩ := BD.out j hj _ (Tm.getD_mem (i := B) (by omega))
      rw [← hx] at bx bx2
      rw [← hy] at bY by2
      have DS : Hid (Tm.readL Tm.dp xs (L.take (j + 1)) = Tm.readL Tm.dp xs (L.take j) ++ [Tm.dp g x y]) := Lib.hid (by rw [Tm.readL_step _ _ _ hlt, ← hg, hA, hB, hx, hy]; rfl)
      obtain ⟨hbg1, hbg⟩ := HO.out.lt gb rfl
      have bx1 : wr.cell? ⟨w.heap.size, 1, none⟩ = some (.func (Fn.func 42) #[] #[]) := by rw [BB.out.cell (p := ⟨w.heap.size, 1, none⟩) (by simp)]; simp
      have HS : Hid (∀ W, Below (wr.heap.size + 1) (wr.alloc (.cells #[.int .i64 (g 0), .int .i64 (g 1), .int .i64 (g 2), .int .i64 (g 3), .int .i64 (g 4), .int .i64 (g 5), .int .i64 (g 6), .int .i64 (g 7), .int .i64 (g 8), .int .i64 (A : Int), .int .i64 (B : Int)] 48)) W → W.cell? ⟨w.heap.size, 1, none⟩ = some (.func (Fn.func 42) #[] #[]) ∧ W.rangeAt wr.heap.size 0 [.int .i64 (g 0), .int .i64 (g 1), .int .i64 (g 2), .int .i64 (g 3), .int .i64 (g 4), .int .i64 (g 5), .int .i64 (g 6), .int .i64 (g 7), .int .i64 (g 8)] ∧ W.cell? ⟨wr.heap.size, 9, none⟩ = some (.int .i64 (A : Int)) ∧ W.cell? ⟨wr.heap.size, 10, none⟩ = some (.int .i64 (B : Int)) ∧ W.cell? ⟨gb, A, none⟩ = some (.int .i64 x) ∧ W.cell? ⟨gb, B, none⟩ = some (.int .i64 y)) := Lib.hid fun W hW => by
        have rg := below_range hW (Nat.lt_succ_self _) (range_new wr [.int .i64 (g 0), .int .i64 (g 1), .int .i64 (g 2), .int .i64 (g 3), .int .i64 (g 4), .int .i64 (g 5), .int .i64 (g 6), .int .i64 (g 7), .int .i64 (g 8), .int .i64 (A : Int), .int .i64 (B : Int)] 48)
        have ol : ∀ (b o : Nat), b < wr.heap.size → W.cell? ⟨b, o, none⟩ = wr.cell? ⟨b, o, none⟩ := fun b o hb => by
          rw [hW.cell (p := ⟨b, o, none⟩) (by simp; omega)]; exact World.cell?_alloc_lt _ _ _ hb
        refine ⟨by rw [ol _ _ (by omega)]; exact bx1, range_part rg 0 ?_, rg 9 _ rfl, rg 10 _ rfl, by rw [ol _ _ hbg]; exact cx, by rw [ol _ _ hbg]; exact cy⟩
        intro j v hj
        match j, hj with
        | 0, hj | 1, hj | 2, hj | 3, hj | 4, hj | 5, hj | 6, hj | 7, hj | 8, hj => simpa using hj
        | j + 9, hj => simp at hj
      have HK : Hid (∀ W W3 : World, (W.cell? ⟨w.heap.size, 1, none⟩ = some (.func (Fn.func 42) #[] #[]) ∧ W.rangeAt wr.heap.size 0 [.int .i64 (g 0), .int .i64 (g 1), .int .i64 (g 2), .int .i64 (g 3), .int .i64 (g 4), .int .i64 (g 5), .int .i64 (g 6), .int .i64 (g 7), .int .i64 (g 8)] ∧ W.cell? ⟨wr.heap.size, 9, none⟩ = some (.int .i64 (A : Int)) ∧ W.cell? ⟨wr.heap.size, 10, none⟩ = some (.int .i64 (B : Int)) ∧ W.cell? ⟨gb, A, none⟩ = some (.int .i64 x) ∧ W.cell? ⟨gb, B, none⟩ = some (.int .i64 y)) → W.grownBy W3 (some gb) → (∀ j u, ((Tm.readL Tm.dp xs (L.take j)).map (Value.int .i64))[j]? = some u → True) → (∀ q u, ((Tm.readL Tm.dp xs (L.take j)).map (Value.int .i64))[q]? = some u → W3.cell? ⟨gb, q, none⟩ = some u) → wr.heap.size < W.heap.size → W3.cell? ⟨w.heap.size, 1, none⟩ = some (.func (Fn.func 42) #[] #[]) ∧ W3.rangeAt wr.heap.size 0 [.int .i64 (g 0), .int .i64 (g 1), .int .i64 (g 2), .int .i64 (g 3), .int .i64 (g 4), .int .i64 (g 5), .int .i64 (g 6), .int .i64 (g 7), .int .i64 (g 8)] ∧ W3.cell? ⟨wr.heap.size, 9, none⟩ = some (.int .i64 (A : Int)) ∧ W3.cell? ⟨wr.heap.size, 10, none⟩ = some (.int .i64 (B : Int)) ∧ W3.cell? ⟨gb, A, none⟩ = some (.int .i64 x) ∧ W3.cell? ⟨gb, B, none⟩ = some (.int .i64 y)) := Lib.hid fun W W3 hS hg3 _ hk hsz => by
        obtain ⟨s1, s2, s3, s4, s5, s6⟩ := hS
        have far : ∀ (b o : Nat), b < W.heap.size → b ≠ gb → W3.cell? ⟨b, o, none⟩ = W.cell? ⟨b, o, none⟩ := fun b o hb hne => hg3.cell_far' ⟨b, o, none⟩ hb (fun e => hne (by simpa using e))
        have at_ : ∀ q, q < xs.length + j → W3.cell? ⟨gb, q, none⟩ = some (.int .i64 ((Tm.readL Tm.dp xs (L.take j)).getD q 0)) := fun q hq => hk q _ (by rw [List.getElem?_map, List.getElem?_eq_getElem (by omega), List.getD_eq_getElem?_getD, List.getElem?_eq_getElem (by omega)]; rfl)
        exact ⟨by rw [far _ _ (by omega) (by omega)]; exact s1, fun q v hv => by rw [far _ _ hsz (by omega)]; exact s2 q v hv, by rw [far _ _ hsz (by omega)]; exact s3, by rw [far _ _ hsz (by omega)]; exact s4, by rw [at_ A lA, hx], by rw [at_ B lB, hy]⟩
      have hsz : wr.heap.size + 1 ≤ (wr.alloc (.cells #[.int .i64 (g 0), .int .i64 (g 1), .int .i64 (g 2), .int .i64 (g 3), .int .i64 (g 4), .int .i64 (g 5), .int .i64 (g 6), .int .i64 (g 7), .int .i64 (g 8), .int .i64 (A : Int), .int .i64 (B : Int)] 48)).heap.size := by simp
      have hu45 := Try.underlying46
      have hi45 : (Try.prog.info? 46).map (·.size) = some ([.int .i64 (g 0), .int .i64 (g 1), .int .i64 (g 2), .int .i64 (g 3), .int .i64 (g 4), .int .i64 (g 5), .int .i64 (g 6), .int .i64 (g 7), .int .i64 (g 8)] : List Value).length := by kernel_rfl
      have iA1 : (0 : Int) ≤ (A : Int) := by omega
      have iA2 : (A : Int) < ((xs.length + j : Nat) : Int) := by omega
      have iA3 : (A : Int) < (xs.length : Int) + (j : Int) := by omega
      have iB1 : (0 : Int) ≤ (B : Int) := by omega
      have iB2 : (B : Int) < ((xs.length + j : Nat) : Int) := by omega
      have iB3 : (B : Int) < (xs.length : Int) + (j : Int) := by omega
      have CF := Lib.hid (fun (w : World) => iDeeper g x y w ⟨by omega, by omega⟩ ⟨by omega, by omega⟩)
      obtain ⟨z, hz⟩ : ∃ z, z = Tm.dp g x y := ⟨_, rfl⟩
      rw [← hz] at CF DS
      clear hA hB hx hy hg hc DL ho OO hT hz
      go_wp2_with fail
      clear p0 p1 p2 p3 p4 p5 p6 p7 p8 p9 p10 bx1 cx cy
      go_region_held_law (fun W => W.cell? ⟨w.heap.size, 1, none⟩ = some (.func (Fn.func 42) #[] #[]) ∧ W.rangeAt wr.heap.size 0 [.int .i64 (g 0), .int .i64 (g 1), .int .i64 (g 2), .int .i64 (g 3), .int .i64 (g 4), .int .i64 (g 5), .int .i64 (g 6), .int .i64 (g 7), .int .i64 (g 8)] ∧ W.cell? ⟨wr.heap.size, 9, none⟩ = some (.int .i64 (A : Int)) ∧ W.cell? ⟨wr.heap.size, 10, none⟩ = some (.int .i64 (B : Int)) ∧ W.cell? ⟨gb, A, none⟩ = some (.int .i64 x) ∧ W.cell? ⟨gb, B, none⟩ = some (.int .i64 y)) (first | exact HS3.out | exact HS.out _ (by ((repeat' (first | (with_reducible exact Below.refl _ _) | (with_reducible assumption) | (with_reducible refine below_drewN ?_ _) | (with_reducible refine Below.drew ?_) | (with_reducible refine Below.alloc ?_ ?_ _) | (with_reducible refine Below.setCell ?_ ?_ _) | (with_reducible refine below_gw ?_ ?_ _) | (with_reducible refine below_via ?_ ‹Below _ _ _› ?_) | (with_reducible exact Nat.le_refl _) | (with_reducible refine le_gw ?_ _) | (with_reducible refine le_alloc ?_ _) | (with_reducible refine le_setCell ?_ _ _) | (with_reducible refine le_drew ?_) | (with_reducible refine le_drewN ?_ _) | go_size))); done)) ((first
        | (refine step_append_keep rfl (.tmp 17) (.tmp 33) 23 rfl (w.heap.size + 1) 3 i0 (.int .i64 0) 1 8 Try.underlying23 hi hz0 hz1 hz2 rfl (by decide) gb (xs.length + j) cap ((Tm.readL Tm.dp xs (L.take j)).map (Value.int .i64)) (by simp [Act.eval]) (HO2.out.alloc _) ⟨wr.heap.size + 1 + p2.os.size, 0, none⟩ 1 1 [.int .i64 z] (by simp [Act.eval]) rfl (by have := app_c1 (gw (wr.alloc (.cells #[.int .i64 (g 0), .int .i64 (g 1), .int .i64 (g 2), .int .i64 (g 3), .int .i64 (g 4), .int .i64 (g 5), .int .i64 (g 6), .int .i64 (g 7), .int .i64 (g 8), .int .i64 (A : Int), .int .i64 (B : Int)] 48)) p2) z 3; simpa only [gw_size, World.size_alloc] using this) (app_c2 _) (by unfold maxLen; omega) (by omega) (by simp only [gw_size, World.size_alloc]; omega) ?_; intro v3 w3 hown hgr hkp; have HS3 := Lib.hid (HK.out _ _ (HS.out _ (by (repeat' (first | (with_reducible exact Below.refl _ _) | (with_reducible assumption) | (with_reducible refine below_drewN ?_ _) | (with_reducible refine Below.drew ?_) | (with_reducible refine Below.alloc ?_ ?_ _) | (with_reducible refine Below.setCell ?_ ?_ _) | (with_reducible refine below_gw ?_ ?_ _) | (with_reducible refine below_via ?_ ‹Below _ _ _› ?_) | (with_reducible exact Nat.le_refl _) | (with_reducible refine le_gw ?_ _) | (with_reducible refine le_alloc ?_ _) | (with_reducible refine le_setCell ?_ _ _) | (with_reducible refine le_drew ?_) | (with_reducible refine le_drewN ?_ _) | go_size)))) hgr (fun _ _ _ => trivial) hkp (by simp only [gw_size, World.size_alloc]; omega)); have O3 := Lib.hid hown; have G3 := Lib.hid hgr; clear hown hgr hkp)
        | (go_simp; go_at_call 42; refine (CF.out _).mono ?_; rintro e w2 ⟨rfl, hb2⟩; obtain ⟨p2, rfl⟩ := gw_of_below hb2; clear hb2; have HO2 := Lib.hid (own_below (w' := gw (wr.alloc (.cells #[.int .i64 (g 0), .int .i64 (g 1), .int .i64 (g 2), .int .i64 (g 3), .int .i64 (g 4), .int .i64 (g 5), .int .i64 (g 6), .int .i64 (g 7), .int .i64 (g 8), .int .i64 (A : Int), .int .i64 (B : Int)] 48)) p2) HO.out (by (repeat' (first | (with_reducible exact Below.refl _ _) | (with_reducible assumption) | (with_reducible refine below_drewN ?_ _) | (with_reducible refine Below.drew ?_) | (with_reducible refine Below.alloc ?_ ?_ _) | (with_reducible refine Below.setCell ?_ ?_ _) | (with_reducible refine below_gw ?_ ?_ _) | (with_reducible refine below_via ?_ ‹Below _ _ _› ?_) | (with_reducible exact Nat.le_refl _) | (with_reducible refine le_gw ?_ _) | (with_reducible refine le_alloc ?_ _) | (with_reducible refine le_setCell ?_ _ _) | (with_reducible refine le_drew ?_) | (with_reducible refine le_drewN ?_ _) | go_size)))))))
      have B3 := Lib.hid (((BB.out.alloc hs1 (.cells #[.int .i64 (g 0), .int .i64 (g 1), .int .i64 (g 2), .int .i64 (g 3), .int .i64 (g 4), .int .i64 (g 5), .int .i64 (g 6), .int .i64 (g 7), .int .i64 (g 8), .int .i64 (A : Int), .int .i64 (B : Int)] 48)).trans ((below_gw (Below.refl _ _) (Nat.le_refl _) p2).mono (le_alloc hs1 _))).alloc (le_gw (le_alloc hs1 _) _) (.cells #[.int .i64 z] 3) |>.grown G3.out (le_alloc (le_gw (le_alloc hs1 _) _) _) (fun q hq => by cases hq; exact hbg1))
      have O4 : Hid (∃ v', v' = v3 ∧ w3.ownsRow (w.heap.size + 1) 3 1 v' (xs.length + (j + 1)) ((Tm.readL Tm.dp xs (L.take (j + 1))).map (Value.int .i64))) := Lib.hid ⟨_, rfl, by rw [DS.out, List.map_append]; exact O3.out⟩
      clear O3 G3 HS HK HO HO2 HS3 DS
      go_wp2
      go_roundw
      case rel => exact ⟨j + 1, by omega, by go_num, O4, B3⟩
      case measure => simp [intOf]; omega
    · obtain rfl : j = L.length := by omega
      obtain ⟨v', rfl, ho⟩ := OO.out
      rw [List.take_length, ← LN.out] at ho
      have HO := Lib.hid ho
      clear ho OO
      go_wp2
      go_ret
      exact ret_own (own_weak2 HO.out (by omega)) hb0 (by rw [LN.out]; omega)
set_option maxHeartbeats 4000000 in
theorem iDepthOf (k : Int) (a : Option Addr) (n c : Nat) (L : List (Nat → Int)) (b : Option Addr) (m d : Nat) (o : List Int) (w : World) (h : Cs w a n c L b m d o) : Calls Try.prog 23 #[circV k a n c b m d] w fun r w' => r = .returned (.int .i64 (Tm.depth k L o)) ∧ Below w.heap.size w w' := by
  obtain ⟨i0, hi, hz0, hz1, hz2⟩ := info_parts infoInt
  have H := Lib.hid h
  obtain rfl : L.length = n := h.1.1
  obtain rfl : o.length = m := h.2.1
  have hc1 := h.1.2.1
  have hc2 := h.1.2.2.1
  unfold maxLen at hc2
  have IS := Lib.hid (fun (w : World) h => iIsCircuit k a L.length c L b o.length d o w h)
  clear h
  cases hC : Tm.isCirc k L o with
  | false =>
    rw [hC] at IS
    have DP : Tm.depth k L o = 0 := by rw [Tm.depth, hC]; rfl
    rw [DP]
    clear hC DP
    go_enter Try.func23, Try.ntmps23
    go_wp2_with fail
    refine (IS.out _ (H.out.alloc _)).mono ?_
    rintro r w1 ⟨rfl, hb1⟩
    obtain ⟨p, rfl⟩ := gw_of_below hb1
    clear hb1
    go_wp2
    go_ret
    exact ⟨rfl, by (repeat' (first | (with_reducible exact Below.refl _ _) | (with_reducible assumption) | (with_reducible refine below_drewN ?_ _) | (with_reducible refine Below.drew ?_) | (with_reducible refine Below.alloc ?_ ?_ _) | (with_reducible refine Below.setCell ?_ ?_ _) | (with_reducible refine below_gw ?_ ?_ _) | (with_reducible refine below_via ?_ ‹Below _ _ _› ?_) | (with_reducible exact Nat.le_refl _) | (with_reducible refine le_gw ?_ _) | (with_reducible refine le_alloc ?_ _) | (with_reducible refine le_setCell ?_ _ _) | (with_reducible refine le_drew ?_) | (with_reducible refine le_drewN ?_ _) | go_size))⟩
  | true =>
    rw [hC] at IS
    have hCi := (Tm.isCirc_iff _ _ _).1 hC
    obtain ⟨⟨k1, k2⟩, hn, -⟩ := hCi
    obtain ⟨K, hK⟩ : ∃ K : Nat, K = (3 + k).toNat := ⟨_, rfl⟩
    have K1 : (K : Int) = 3 + k := by omega
    have K2 : K ≤ 11 := by omega
    have DP : Hid (Tm.depth k L o = Tm.mxl (Tm.deeps K L)) := Lib.hid (by rw [Tm.depth, hC, hK]; rfl)
    have GL : Hid (∀ j, j < L.length → ∀ g, g = L.getD j Tm.g0 → ∃ A B : Nat, g 9 = (A : Int) ∧ g 10 = (B : Int) ∧ A < K + j ∧ B < K + j ∧ Tm.isTab g = true) := Lib.hid fun j hj g hg => by rw [hK]; exact Tm.gate_lines hC hj hg
    clear hC hK
    go_enter Try.func23, Try.ntmps23
    go_wp2_with fail
    refine (IS.out _ (H.out.alloc _)).mono ?_
    rintro r w1 ⟨rfl, hb1⟩
    obtain ⟨p, rfl⟩ := gw_of_below hb1
    clear hb1
    go_wp2_with fail
    refine (iFirstGate k _ _ c b _ d _ (by omega) (by omega)).mono ?_
    rintro r w1 ⟨rfl, hb1⟩
    obtain ⟨p2, rfl⟩ := gw_of_below hb1
    clear hb1
    have rs := store_func
    go_wp2_with (at_make; refine wpList_make_full _ rfl _ _ 23 rfl (w.heap.size + 1) 3 i0 (.int .i64 0) 1 Try.underlying23 hi hz0 hz1 _ _ _ _ (K) rfl rfl (by first | rfl | omega) (by first | rfl | omega) (by rw [hz2]; omega) (by unfold maxLen; omega) (by first | go_size | (simp only [gw_size, World.size_alloc]; omega) | exact Nat.le_refl _ | omega) ?_)
    intro w1 hown hgrow
    have hb1 := (Below.refl (gw (w.alloc (.cells #[.int .i64 k, .slice a L.length c, .slice b o.length d] 30)) (gcat p p2)).heap.size _).grown hgrow (Nat.le_refl _) (fun k hk => by cases hk)
    have IX := Ints.of_own (xs := List.replicate K 0) (by rw [toList_madeCells_one] at hown; rw [List.map_replicate]; exact hown)
    obtain ⟨q, rfl⟩ := gw_of_below hb1
    rw [gw_gw] at IX
    have IX := Lib.hid IX
    clear hown hgrow hb1
    go_wp2_with fail
    refine (iReadDeep _ K K (List.replicate K 0) a L.length c L _ (IX.out.below (by (repeat' (first | (with_reducible exact Below.refl _ _) | (with_reducible assumption) | (with_reducible refine below_drewN ?_ _) | (with_reducible refine Below.drew ?_) | (with_reducible refine Below.alloc ?_ ?_ _) | (with_reducible refine Below.setCell ?_ ?_ _) | (with_reducible refine below_gw ?_ ?_ _) | (with_reducible refine below_via ?_ ‹Below _ _ _› ?_) | (with_reducible exact Nat.le_refl _) | (with_reducible refine le_gw ?_ _) | (with_reducible refine le_alloc ?_ _) | (with_reducible refine le_setCell ?_ _ _) | (with_reducible refine le_drew ?_) | (with_reducible refine le_drewN ?_ _) | go_size)))) (H.out.1.below (by (repeat' (first | (with_reducible exact Below.refl _ _) | (with_reducible assumption) | (with_reducible refine below_drewN ?_ _) | (with_reducible refine Below.drew ?_) | (with_reducible refine Below.alloc ?_ ?_ _) | (with_reducible refine Below.setCell ?_ ?_ _) | (with_reducible refine below_gw ?_ ?_ _) | (with_reducible refine below_via ?_ ‹Below _ _ _› ?_) | (with_reducible exact Nat.le_refl _) | (with_reducible refine le_gw ?_ _) | (with_reducible refine le_alloc ?_ _) | (with_reducible refine le_setCell ?_ _ _) | (with_reducible refine le_drew ?_) | (with_reducible refine le_drewN ?_ _) | go_size)))) (by omega) K2 hn (by rw [List.length_replicate]; exact GL.out) (fun x hx => (List.mem_replicate.1 hx).2)).mono ?_
    rintro r w2 ⟨a2, c2, rfl, hown, hb1, -⟩
    have IM := Lib.hid (Ints.of_own hown)
    obtain ⟨p3, rfl⟩ := gw_of_below hb1
    clear hown hb1
    have NN : Hid (∀ x ∈ Tm.readL Tm.dp (List.replicate K 0) L, 0 ≤ x) := Lib.hid fun x hx => by
      have := Tm.dp_bound (xs := List.replicate K 0) (L := L) (fun x hx => (List.mem_replicate.1 hx).2) (fun j hj => by
        obtain ⟨A, B, h1, h2, h3, h4, _⟩ := GL.out j hj _ rfl
        exact ⟨A, B, h1, h2, by rw [List.length_replicate]; exact h3, by rw [List.length_replicate]; exact h4⟩) L.length (Nat.le_refl _) x (by rw [List.take_length]; exact hx)
      exact this.1
    go_wp2_with fail
    refine (iMaxS a2 _ c2 _ _ IM.out (by rw [Tm.readL_length, List.length_replicate]; omega) NN.out).mono ?_
    rintro r w3 ⟨rfl, rfl⟩
    go_wp2
    go_ret
    exact ⟨ret_int DP.out.symm, by (repeat' (first | (with_reducible exact Below.refl _ _) | (with_reducible assumption) | (with_reducible refine below_drewN ?_ _) | (with_reducible refine Below.drew ?_) | (with_reducible refine Below.alloc ?_ ?_ _) | (with_reducible refine Below.setCell ?_ ?_ _) | (with_reducible refine below_gw ?_ ?_ _) | (with_reducible refine below_via ?_ ‹Below _ _ _› ?_) | (with_reducible exact Nat.le_refl _) | (with_reducible refine le_gw ?_ _) | (with_reducible refine le_alloc ?_ _) | (with_reducible refine le_setCell ?_ _ _) | (with_reducible refine le_drew ?_) | (with_reducible refine le_drewN ?_ _) | go_size))⟩
end Go.Proofs.Ytpmdkifnejkofaa

/- The program's circuits: what is valid. -/
import Derived.Test.YtjbmgppgkgacpaaGRow
import Derived.Test.YtjbmgppgkgacpaaGI0
import Derived.Test.YtjbmgppgkgacpaaWI
namespace Go.Proofs.Ytjbmgppgkgacpaa
set_option maxRecDepth 20000
open Go.RowKit
theorem iFirstGate (k : Int) (a : Option Addr) (n c : Nat) (b : Option Addr) (m d : Nat) (w : World) (h1 : -10 ≤ k) (h2 : k ≤ 10) : Calls Try.prog 34 #[circV k a n c b m d] w fun r w' => r = .returned (.int .i64 (3 + k)) ∧ Below w.heap.size w w' := by
  go_enter Try.func34, Try.ntmps34
  go_wp2
  go_ret
  exact ⟨rfl, by (repeat' (first | (with_reducible exact Below.refl _ _) | (with_reducible assumption) | (with_reducible refine below_drewN ?_ _) | (with_reducible refine Below.drew ?_) | (with_reducible refine Below.alloc ?_ ?_ _) | (with_reducible refine Below.setCell ?_ ?_ _) | (with_reducible refine below_gw ?_ ?_ _) | (with_reducible refine below_via ?_ ‹Below _ _ _› ?_) | (with_reducible exact Nat.le_refl _) | (with_reducible refine le_gw ?_ _) | (with_reducible refine le_alloc ?_ _) | (with_reducible refine le_setCell ?_ _ _) | (with_reducible refine le_drew ?_) | (with_reducible refine le_drewN ?_ _) | go_size))⟩
theorem iLineCount (k : Int) (a : Option Addr) (n c : Nat) (b : Option Addr) (m d : Nat) (w : World) (h1 : -10 ≤ k) (h2 : k ≤ 10) (hn : n ≤ 1048576) : Calls Try.prog 53 #[circV k a n c b m d] w fun r w' => r = .returned (.int .i64 (3 + k + (n : Int))) ∧ Below w.heap.size w w' := by
  have e1 : IntKind.i64.wrap (3 + k + (n : Int)) = 3 + k + (n : Int) := IntWalk.i64_in _ (by omega)
  go_enter Try.func53, Try.ntmps53
  go_wp2
  (refine wp_region_quiet_below (by kernel_rfl) (by kernel_rfl) ?_; (repeat (go_big_quiet_step ((go_at_call 34; exact met_below (fun _ => iFirstGate k a n c b m d _ h1 h2))))); refine wpQuiet_nil ?_; intro wq hwq; obtain ⟨pq, hpq⟩ := hwq; have hpq' : wq = gw _ pq := hpq; clear hpq; subst hpq')
  go_wp2
  go_ret
  exact ⟨rfl, by (repeat' (first | (with_reducible exact Below.refl _ _) | (with_reducible assumption) | (with_reducible refine below_drewN ?_ _) | (with_reducible refine Below.drew ?_) | (with_reducible refine Below.alloc ?_ ?_ _) | (with_reducible refine Below.setCell ?_ ?_ _) | (with_reducible refine below_gw ?_ ?_ _) | (with_reducible refine below_via ?_ ‹Below _ _ _› ?_) | (with_reducible exact Nat.le_refl _) | (with_reducible refine le_gw ?_ _) | (with_reducible refine le_alloc ?_ _) | (with_reducible refine le_setCell ?_ _ _) | (with_reducible refine le_drew ?_) | (with_reducible refine le_drewN ?_ _) | go_size))⟩
/-- A slice of two numbers, just made. -/
theorem ints_two {W : World} {b : Nat} (x y : Int) (t : TypeId) (hb : b = W.heap.size) : Ints (W.alloc (.cells #[.int .i64 x, .int .i64 y] t)) (some ⟨b, 0, none⟩) 2 2 [x, y] := by
  subst hb
  refine ⟨rfl, by omega, by unfold maxLen; omega, .inr ⟨_, 0, rfl, by simp, fun i hi => ?_⟩⟩
  match i, hi with
  | 0, _ | 1, _ => simp
theorem ints_two_gw {W : World} {b : Nat} (x y : Int) (t : TypeId) (p : Regrown) (hb : b = W.heap.size) : Ints (gw (W.alloc (.cells #[.int .i64 x, .int .i64 y] t)) p) (some ⟨b, 0, none⟩) 2 2 [x, y] := (ints_two x y t hb).gw p
set_option maxHeartbeats 2000000 in
theorem iIsCircuit (k : Int) (a : Option Addr) (n c : Nat) (L : List (Nat → Int)) (b : Option Addr) (m d : Nat) (o : List Int) (w : World) (h : Cs w a n c L b m d o) : Calls Try.prog 48 #[circV k a n c b m d] w fun r w' => r = .returned (.bool (Tm.isCirc k L o)) ∧ Below w.heap.size w w' := by
  have H := Lib.hid h
  obtain rfl : L.length = n := h.1.1
  obtain rfl : o.length = m := h.2.1
  have hc1 := h.1.2.1
  have hc2 := h.1.2.2.1
  have hd1 := h.2.2.1
  have hd2 := h.2.2.2.1
  unfold maxLen at hc2 hd2
  clear h
  by_cases hk : Tm.inB k 0 8 = true
  · have hk' := (Tm.inB_iff _ _ _).1 hk
    obtain ⟨k1, k2⟩ := hk'
    by_cases hn : L.length ≤ 60
    · by_cases hm : o.length ≤ 60
      · have IC : Hid (Tm.isCirc k L o = (Tm.gatesOk (3 + k) L && Tm.linesOk (3 + k + (L.length : Int)) o)) := Lib.hid (by rw [Tm.isCirc, hk, decide_eq_true hn, decide_eq_true hm]; simp)
        clear hk
        go_enter Try.func48, Try.ntmps48
        go_wp2
        go_loopw [28] (fun i wr => ∃ j : Nat, j ≤ L.length ∧ i = .int .i64 j ∧ Hid (∀ q, q < j → Tm.gateOk (3 + k + (q : Int)) (L.getD q Tm.g0) = true) ∧ Below (w.heap.size + 1) (w.alloc (.cells #[.int .i64 k, .slice a L.length c, .slice b o.length d] 25)) wr) (fun i _ => L.length - (intOf i).toNat)
        case atStart => exact ⟨0, by omega, rfl, Lib.hid (fun q hq => by omega), Below.refl _ _⟩
        case round =>
          obtain ⟨j, hj, rfl, GK, hb⟩ := hrel
          have hb0 : Below w.heap.size w wr := ((Below.refl w.heap.size w).alloc (Nat.le_refl _) _).trans (hb.mono (by omega))
          have hs1 : w.heap.size + 1 ≤ wr.heap.size := by have := hb.size; rw [World.size_alloc] at this; exact this
          have bx0 : wr.cell? ⟨w.heap.size, 0, none⟩ = some (.int .i64 k) := by rw [hb.cell (p := ⟨w.heap.size, 0, none⟩) (by simp)]; simp
          have bx1 : wr.cell? ⟨w.heap.size, 1, none⟩ = some (.slice a L.length c) := by rw [hb.cell (p := ⟨w.heap.size, 1, none⟩) (by simp)]; simp
          have bx2 : wr.cell? ⟨w.heap.size, 2, none⟩ = some (.slice b o.length d) := by rw [hb.cell (p := ⟨w.heap.size, 2, none⟩) (by simp)]; simp
          by_cases hlt : j < L.length
          · obtain ⟨-, -, -, y⟩ := H.out.1.below hb0
            rcases y with h0 | ⟨bb, oo, rfl, hbl, hc⟩
            · omega
            obtain ⟨g, hg, g1⟩ := Gs.gate hc hlt
            have GG := Lib.hid hg
            obtain ⟨p0, p1, p2, p3, p4, p5, p6, p7, p8, p9, p10⟩ := g1
            clear hg hc
            have OK : Hid (Tm.gateOk (3 + k + (j : Int)) g = (Tm.isTab g && Tm.linesOk (3 + k + (j : Int)) [g 9, g 10])) := Lib.hid (by simp [Tm.gateOk, Tm.linesOk, Bool.and_assoc])
            have NO : Hid (Tm.gateOk (3 + k + (j : Int)) g = false → false = Tm.isCirc k L o) := Lib.hid fun e => by rw [IC.out, Tm.gatesOk_no hlt (by rw [← GG.out]; exact e)]; rfl
            have IT := Lib.hid (fun w => iIsTable g w)
            have AB := Lib.hid (fun (a : Option Addr) (w : World) h => iAreBefore (3 + k + (j : Int)) a 2 2 [g 9, g 10] w h)
            cases hT : Tm.isTab g with
            | false =>
              rw [hT] at IT OK
              clear hT
              go_wp2
              (refine wp_region_quiet_below (by kernel_rfl) (by kernel_rfl) ?_; (repeat (go_big_quiet_step ((go_at_call 33; exact met_below (fun _ => IT.out _))))); refine wpQuiet_nil ?_; intro wq hwq; obtain ⟨pq, hpq⟩ := hwq; have hpq' : wq = gw _ pq := hpq; clear hpq; subst hpq')
              go_wp2
              go_ret
              exact ⟨ret_bool (NO.out (by rw [OK.out]; rfl)), by (repeat' (first | (with_reducible exact Below.refl _ _) | (with_reducible assumption) | (with_reducible refine below_drewN ?_ _) | (with_reducible refine Below.drew ?_) | (with_reducible refine Below.alloc ?_ ?_ _) | (with_reducible refine Below.setCell ?_ ?_ _) | (with_reducible refine below_gw ?_ ?_ _) | (with_reducible refine below_via ?_ ‹Below _ _ _› ?_) | (with_reducible exact Nat.le_refl _) | (with_reducible refine le_gw ?_ _) | (with_reducible refine le_alloc ?_ _) | (with_reducible refine le_setCell ?_ _ _) | (with_reducible refine le_drew ?_) | (with_reducible refine le_drewN ?_ _) | go_size))⟩
            | true =>
              rw [hT] at IT OK
              clear hT
              have e1 : IntKind.i64.wrap (3 + k + (j : Int)) = 3 + k + (j : Int) := IntWalk.i64_in _ (by omega)
              go_wp2
              have HS : Hid (∀ W, Below (wr.heap.size + 1) (wr.alloc (.cells #[.int .i64 (g 0), .int .i64 (g 1), .int .i64 (g 2), .int .i64 (g 3), .int .i64 (g 4), .int .i64 (g 5), .int .i64 (g 6), .int .i64 (g 7), .int .i64 (g 8), .int .i64 (g 9), .int .i64 (g 10)] 59)) W → W.cell? ⟨w.heap.size, 0, none⟩ = some (.int .i64 k) ∧ W.cell? ⟨w.heap.size, 1, none⟩ = some (.slice (some ⟨bb, oo, none⟩) L.length c) ∧ W.cell? ⟨w.heap.size, 2, none⟩ = some (.slice b o.length d) ∧ W.rangeAt wr.heap.size 0 [.int .i64 (g 0), .int .i64 (g 1), .int .i64 (g 2), .int .i64 (g 3), .int .i64 (g 4), .int .i64 (g 5), .int .i64 (g 6), .int .i64 (g 7), .int .i64 (g 8)] ∧ W.cell? ⟨wr.heap.size, 9, none⟩ = some (.int .i64 (g 9)) ∧ W.cell? ⟨wr.heap.size, 10, none⟩ = some (.int .i64 (g 10))) := Lib.hid fun W hW => by
                have rg := below_range hW (Nat.lt_succ_self _) (range_new wr [.int .i64 (g 0), .int .i64 (g 1), .int .i64 (g 2), .int .i64 (g 3), .int .i64 (g 4), .int .i64 (g 5), .int .i64 (g 6), .int .i64 (g 7), .int .i64 (g 8), .int .i64 (g 9), .int .i64 (g 10)] 59)
                have rc := below_range hW (by omega) (World.rangeAt_alloc (below_range hb (by omega) (range_new w [.int .i64 k, .slice (some ⟨bb, oo, none⟩) L.length c, .slice b o.length d] 25)) (.cells #[.int .i64 (g 0), .int .i64 (g 1), .int .i64 (g 2), .int .i64 (g 3), .int .i64 (g 4), .int .i64 (g 5), .int .i64 (g 6), .int .i64 (g 7), .int .i64 (g 8), .int .i64 (g 9), .int .i64 (g 10)] 59))
                refine ⟨rc 0 _ rfl, rc 1 _ rfl, rc 2 _ rfl, range_part rg 0 ?_, rg 9 _ rfl, rg 10 _ rfl⟩
                intro j v hj
                match j, hj with
                | 0, hj | 1, hj | 2, hj | 3, hj | 4, hj | 5, hj | 6, hj | 7, hj | 8, hj => simpa using hj
                | j + 9, hj => simp at hj
              have hsz : wr.heap.size + 1 ≤ (wr.alloc (.cells #[.int .i64 (g 0), .int .i64 (g 1), .int .i64 (g 2), .int .i64 (g 3), .int .i64 (g 4), .int .i64 (g 5), .int .i64 (g 6), .int .i64 (g 7), .int .i64 (g 8), .int .i64 (g 9), .int .i64 (g 10)] 59)).heap.size := by simp
              have hu45 := Try.underlying33
              have hi45 : (Try.prog.info? 33).map (·.size) = some ([.int .i64 (g 0), .int .i64 (g 1), .int .i64 (g 2), .int .i64 (g 3), .int .i64 (g 4), .int .i64 (g 5), .int .i64 (g 6), .int .i64 (g 7), .int .i64 (g 8)] : List Value).length := by kernel_rfl
              clear p0 p1 p2 p3 p4 p5 p6 p7 p8 p9 p10 bx0 bx1 bx2
              cases hL : Tm.linesOk (3 + k + (j : Int)) [g 9, g 10] with
              | false =>
                rw [hL] at AB OK
                clear hL
                go_region_held3 (fun W => W.cell? ⟨w.heap.size, 0, none⟩ = some (.int .i64 k) ∧ W.cell? ⟨w.heap.size, 1, none⟩ = some (.slice (some ⟨bb, oo, none⟩) L.length c) ∧ W.cell? ⟨w.heap.size, 2, none⟩ = some (.slice b o.length d) ∧ W.rangeAt wr.heap.size 0 [.int .i64 (g 0), .int .i64 (g 1), .int .i64 (g 2), .int .i64 (g 3), .int .i64 (g 4), .int .i64 (g 5), .int .i64 (g 6), .int .i64 (g 7), .int .i64 (g 8)] ∧ W.cell? ⟨wr.heap.size, 9, none⟩ = some (.int .i64 (g 9)) ∧ W.cell? ⟨wr.heap.size, 10, none⟩ = some (.int .i64 (g 10))) (exact HS.out _ (by (repeat' (first | (with_reducible exact Below.refl _ _) | (with_reducible assumption) | (with_reducible refine below_drewN ?_ _) | (with_reducible refine Below.drew ?_) | (with_reducible refine Below.alloc ?_ ?_ _) | (with_reducible refine Below.setCell ?_ ?_ _) | (with_reducible refine below_gw ?_ ?_ _) | (with_reducible refine below_via ?_ ‹Below _ _ _› ?_) | (with_reducible exact Nat.le_refl _) | (with_reducible refine le_gw ?_ _) | (with_reducible refine le_alloc ?_ _) | (with_reducible refine le_setCell ?_ _ _) | (with_reducible refine le_drew ?_) | (with_reducible refine le_drewN ?_ _) | go_size)))) ((first | (go_at_call 33; refine (IT.out _).mono ?_; rintro e w1 ⟨rfl, hb1⟩; obtain ⟨p1, rfl⟩ := gw_of_below hb1; clear hb1) | (go_at_call 34; refine (iFirstGate k _ _ c b _ d _ (by omega) (by omega)).mono ?_; rintro e w1 ⟨rfl, hb1⟩; obtain ⟨p2, rfl⟩ := gw_of_below hb1; clear hb1) | (go_at_call 73; refine (AB.out _ _ (by first | exact ints_two _ _ _ (by simp only [gw_size, World.size_alloc]) | exact ints_two_gw _ _ _ _ (by simp only [gw_size, World.size_alloc]))).mono ?_; rintro e w1 ⟨rfl, rfl⟩)))
                all_goals
                  go_wp2
                  go_ret
                  exact ⟨ret_bool (NO.out (by rw [OK.out]; rfl)), by (repeat' (first | (with_reducible exact Below.refl _ _) | (with_reducible assumption) | (with_reducible refine below_drewN ?_ _) | (with_reducible refine Below.drew ?_) | (with_reducible refine Below.alloc ?_ ?_ _) | (with_reducible refine Below.setCell ?_ ?_ _) | (with_reducible refine below_gw ?_ ?_ _) | (with_reducible refine below_via ?_ ‹Below _ _ _› ?_) | (with_reducible exact Nat.le_refl _) | (with_reducible refine le_gw ?_ _) | (with_reducible refine le_alloc ?_ _) | (with_reducible refine le_setCell ?_ _ _) | (with_reducible refine le_drew ?_) | (with_reducible refine le_drewN ?_ _) | go_size))⟩
              | true =>
                rw [hL] at AB OK
                have GK2 : Hid (∀ q, q < j + 1 → Tm.gateOk (3 + k + (q : Int)) (L.getD q Tm.g0) = true) := Lib.hid fun q hq => by
                  by_cases e : q = j
                  · subst e; rw [← GG.out, OK.out]; rfl
                  · exact GK.out q (by omega)
                clear hL GK
                go_region_held3 (fun W => W.cell? ⟨w.heap.size, 0, none⟩ = some (.int .i64 k) ∧ W.cell? ⟨w.heap.size, 1, none⟩ = some (.slice (some ⟨bb, oo, none⟩) L.length c) ∧ W.cell? ⟨w.heap.size, 2, none⟩ = some (.slice b o.length d) ∧ W.rangeAt wr.heap.size 0 [.int .i64 (g 0), .int .i64 (g 1), .int .i64 (g 2), .int .i64 (g 3), .int .i64 (g 4), .int .i64 (g 5), .int .i64 (g 6), .int .i64 (g 7), .int .i64 (g 8)] ∧ W.cell? ⟨wr.heap.size, 9, none⟩ = some (.int .i64 (g 9)) ∧ W.cell? ⟨wr.heap.size, 10, none⟩ = some (.int .i64 (g 10))) (exact HS.out _ (by (repeat' (first | (with_reducible exact Below.refl _ _) | (with_reducible assumption) | (with_reducible refine below_drewN ?_ _) | (with_reducible refine Below.drew ?_) | (with_reducible refine Below.alloc ?_ ?_ _) | (with_reducible refine Below.setCell ?_ ?_ _) | (with_reducible refine below_gw ?_ ?_ _) | (with_reducible refine below_via ?_ ‹Below _ _ _› ?_) | (with_reducible exact Nat.le_refl _) | (with_reducible refine le_gw ?_ _) | (with_reducible refine le_alloc ?_ _) | (with_reducible refine le_setCell ?_ _ _) | (with_reducible refine le_drew ?_) | (with_reducible refine le_drewN ?_ _) | go_size)))) ((first | (go_at_call 33; refine (IT.out _).mono ?_; rintro e w1 ⟨rfl, hb1⟩; obtain ⟨p1, rfl⟩ := gw_of_below hb1; clear hb1) | (go_at_call 34; refine (iFirstGate k _ _ c b _ d _ (by omega) (by omega)).mono ?_; rintro e w1 ⟨rfl, hb1⟩; obtain ⟨p2, rfl⟩ := gw_of_below hb1; clear hb1) | (go_at_call 73; refine (AB.out _ _ (by first | exact ints_two _ _ _ (by simp only [gw_size, World.size_alloc]) | exact ints_two_gw _ _ _ _ (by simp only [gw_size, World.size_alloc]))).mono ?_; rintro e w1 ⟨rfl, rfl⟩)))
                all_goals
                  have hn1 := (below_gw (hb.alloc hs1 (.cells #[.int .i64 (g 0), .int .i64 (g 1), .int .i64 (g 2), .int .i64 (g 3), .int .i64 (g 4), .int .i64 (g 5), .int .i64 (g 6), .int .i64 (g 7), .int .i64 (g 8), .int .i64 (g 9), .int .i64 (g 10)] 59)) (le_alloc hs1 _) p1)
                  go_wp2
                  go_roundw
                  case rel => exact ⟨j + 1, by omega, by go_num, GK2, by (repeat' (first | (with_reducible exact Below.refl _ _) | (with_reducible assumption) | (with_reducible refine below_drewN ?_ _) | (with_reducible refine Below.drew ?_) | (with_reducible refine Below.alloc ?_ ?_ _) | (with_reducible refine Below.setCell ?_ ?_ _) | (with_reducible refine below_gw ?_ ?_ _) | (with_reducible refine below_via ?_ ‹Below _ _ _› ?_) | (with_reducible exact Nat.le_refl _) | (with_reducible refine le_gw ?_ _) | (with_reducible refine le_alloc ?_ _) | (with_reducible refine le_setCell ?_ _ _) | (with_reducible refine le_drew ?_) | (with_reducible refine le_drewN ?_ _) | go_size))⟩
                  case measure => simp [intOf]; omega
          · obtain rfl : j = L.length := by omega
            have IC2 : Hid (Tm.isCirc k L o = Tm.linesOk (3 + k + (L.length : Int)) o) := Lib.hid (by rw [IC.out, Tm.gatesOk_of GK.out]; rfl)
            have AB := Lib.hid (fun (w : World) h => iAreBefore (3 + k + (L.length : Int)) b o.length d o w h)
            have LC := Lib.hid (fun (w : World) => iLineCount k a L.length c b o.length d w (by omega) (by omega) (by omega))
            rw [← IC2.out] at AB
            have HO := Lib.hid (H.out.2.below hb0)
            have HS : Hid (∀ W, Below wr.heap.size wr W → W.cell? ⟨w.heap.size, 0, none⟩ = some (.int .i64 k) ∧ W.cell? ⟨w.heap.size, 1, none⟩ = some (.slice a L.length c) ∧ W.cell? ⟨w.heap.size, 2, none⟩ = some (.slice b o.length d)) := Lib.hid fun W hW => by
              refine ⟨?_, ?_, ?_⟩
              · rw [hW.cell (p := ⟨w.heap.size, 0, none⟩) (by simp; omega)]; exact bx0
              · rw [hW.cell (p := ⟨w.heap.size, 1, none⟩) (by simp; omega)]; exact bx1
              · rw [hW.cell (p := ⟨w.heap.size, 2, none⟩) (by simp; omega)]; exact bx2
            clear GK IC
            go_wp2_with fail
            go_region_held3 (fun W => W.cell? ⟨w.heap.size, 0, none⟩ = some (.int .i64 k) ∧ W.cell? ⟨w.heap.size, 1, none⟩ = some (.slice a L.length c) ∧ W.cell? ⟨w.heap.size, 2, none⟩ = some (.slice b o.length d)) (exact HS.out _ (by (repeat' (first | (with_reducible exact Below.refl _ _) | (with_reducible assumption) | (with_reducible refine below_drewN ?_ _) | (with_reducible refine Below.drew ?_) | (with_reducible refine Below.alloc ?_ ?_ _) | (with_reducible refine Below.setCell ?_ ?_ _) | (with_reducible refine below_gw ?_ ?_ _) | (with_reducible refine below_via ?_ ‹Below _ _ _› ?_) | (with_reducible exact Nat.le_refl _) | (with_reducible refine le_gw ?_ _) | (with_reducible refine le_alloc ?_ _) | (with_reducible refine le_setCell ?_ _ _) | (with_reducible refine le_drew ?_) | (with_reducible refine le_drewN ?_ _) | go_size)))) ((first | (go_at_call 53; refine (LC.out _).mono ?_; rintro e w1 ⟨rfl, hb1⟩; obtain ⟨p1, rfl⟩ := gw_of_below hb1; clear hb1) | (go_at_call 73; refine (AB.out _ (HO.out.below (by (repeat' (first | (with_reducible exact Below.refl _ _) | (with_reducible assumption) | (with_reducible refine below_drewN ?_ _) | (with_reducible refine Below.drew ?_) | (with_reducible refine Below.alloc ?_ ?_ _) | (with_reducible refine Below.setCell ?_ ?_ _) | (with_reducible refine below_gw ?_ ?_ _) | (with_reducible refine below_via ?_ ‹Below _ _ _› ?_) | (with_reducible exact Nat.le_refl _) | (with_reducible refine le_gw ?_ _) | (with_reducible refine le_alloc ?_ _) | (with_reducible refine le_setCell ?_ _ _) | (with_reducible refine le_drew ?_) | (with_reducible refine le_drewN ?_ _) | go_size))))).mono ?_; rintro e w1 ⟨rfl, rfl⟩)))
            all_goals
              go_wp2
              go_ret
              exact ⟨rfl, by (repeat' (first | (with_reducible exact Below.refl _ _) | (with_reducible assumption) | (with_reducible refine below_drewN ?_ _) | (with_reducible refine Below.drew ?_) | (with_reducible refine Below.alloc ?_ ?_ _) | (with_reducible refine Below.setCell ?_ ?_ _) | (with_reducible refine below_gw ?_ ?_ _) | (with_reducible refine below_via ?_ ‹Below _ _ _› ?_) | (with_reducible exact Nat.le_refl _) | (with_reducible refine le_gw ?_ _) | (with_reducible refine le_alloc ?_ _) | (with_reducible refine le_setCell ?_ _ _) | (with_reducible refine le_drew ?_) | (with_reducible refine le_drewN ?_ _) | go_size))⟩
      · have NO : Hid (false = Tm.isCirc k L o) := Lib.hid (by rw [Tm.isCirc, decide_eq_false hm]; simp)
        clear hk
        go_enter Try.func48, Try.ntmps48
        go_wp2
        go_ret
        exact ⟨ret_bool NO.out, by (repeat' (first | (with_reducible exact Below.refl _ _) | (with_reducible assumption) | (with_reducible refine below_drewN ?_ _) | (with_reducible refine Below.drew ?_) | (with_reducible refine Below.alloc ?_ ?_ _) | (with_reducible refine Below.setCell ?_ ?_ _) | (with_reducible refine below_gw ?_ ?_ _) | (with_reducible refine below_via ?_ ‹Below _ _ _› ?_) | (with_reducible exact Nat.le_refl _) | (with_reducible refine le_gw ?_ _) | (with_reducible refine le_alloc ?_ _) | (with_reducible refine le_setCell ?_ _ _) | (with_reducible refine le_drew ?_) | (with_reducible refine le_drewN ?_ _) | go_size))⟩
    · have NO : Hid (false = Tm.isCirc k L o) := Lib.hid (by rw [Tm.isCirc, decide_eq_false hn]; simp)
      clear hk
      go_enter Try.func48, Try.ntmps48
      go_wp2
      go_ret
      exact ⟨ret_bool NO.out, by (repeat' (first | (with_reducible exact Below.refl _ _) | (with_reducible assumption) | (with_reducible refine below_drewN ?_ _) | (with_reducible refine Below.drew ?_) | (with_reducible refine Below.alloc ?_ ?_ _) | (with_reducible refine Below.setCell ?_ ?_ _) | (with_reducible refine below_gw ?_ ?_ _) | (with_reducible refine below_via ?_ ‹Below _ _ _› ?_) | (with_reducible exact Nat.le_refl _) | (with_reducible refine le_gw ?_ _) | (with_reducible refine le_alloc ?_ _) | (with_reducible refine le_setCell ?_ _ _) | (with_reducible refine le_drew ?_) | (with_reducible refine le_drewN ?_ _) | go_size))⟩
  · simp only [Bool.not_eq_true] at hk
    have NO : Hid (false = Tm.isCirc k L o) := Lib.hid (by rw [Tm.isCirc, hk]; simp)
    rcases (Tm.inB_no _ _ _).1 hk with c | c
    · clear hk
      go_enter Try.func48, Try.ntmps48
      go_wp2
      go_ret
      exact ⟨ret_bool NO.out, by (repeat' (first | (with_reducible exact Below.refl _ _) | (with_reducible assumption) | (with_reducible refine below_drewN ?_ _) | (with_reducible refine Below.drew ?_) | (with_reducible refine Below.alloc ?_ ?_ _) | (with_reducible refine Below.setCell ?_ ?_ _) | (with_reducible refine below_gw ?_ ?_ _) | (with_reducible refine below_via ?_ ‹Below _ _ _› ?_) | (with_reducible exact Nat.le_refl _) | (with_reducible refine le_gw ?_ _) | (with_reducible refine le_alloc ?_ _) | (with_reducible refine le_setCell ?_ _ _) | (with_reducible refine le_drew ?_) | (with_reducible refine le_drewN ?_ _) | go_size))⟩
    · clear hk
      have c' : 0 ≤ k := by omega
      go_enter Try.func48, Try.ntmps48
      go_wp2
      go_ret
      exact ⟨ret_bool NO.out, by (repeat' (first | (with_reducible exact Below.refl _ _) | (with_reducible assumption) | (with_reducible refine below_drewN ?_ _) | (with_reducible refine Below.drew ?_) | (with_reducible refine Below.alloc ?_ ?_ _) | (with_reducible refine Below.setCell ?_ ?_ _) | (with_reducible refine below_gw ?_ ?_ _) | (with_reducible refine below_via ?_ ‹Below _ _ _› ?_) | (with_reducible exact Nat.le_refl _) | (with_reducible refine le_gw ?_ _) | (with_reducible refine le_alloc ?_ _) | (with_reducible refine le_setCell ?_ _ _) | (with_reducible refine le_drew ?_) | (with_reducible refine le_drewN ?_ _) | go_size))⟩
end Go.Proofs.Ytjbmgppgkgacpaa

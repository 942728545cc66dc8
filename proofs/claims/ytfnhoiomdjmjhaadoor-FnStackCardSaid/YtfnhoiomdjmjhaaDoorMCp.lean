/- The program's machine: copies, StepMachine. Plain facts on runs of the machine: a step leaves a machine that is valid. The program's machine: RunMachine. What the machine does with a program that stores in a cell, loads from it and shifts: plain facts. -/
import Derived.Test.YtfnhoiomdjmjhaaDoorMBx
import Derived.Test.YtfnhoiomdjmjhaaDoorClone
namespace Go.Proofs.YtfnhoiomdjmjhaaDoor
set_option maxRecDepth 20000
open Go.RowKit
theorem iCloneE (a : Option Addr) (n cap : Nat) (xs : List Int) (w : World) (h : Ints w a n cap xs) (hn : n ≤ 1048576) : Calls Tryd.prog 43 #[.slice a n cap] w (RetI 3 w xs) := by
  rcases Nat.eq_zero_or_pos n with h0 | h0
  · subst h0
    obtain rfl : xs = [] := List.eq_nil_of_length_eq_zero h.1
    obtain ⟨i0, hi, hz0, hz1, hz2⟩ := info_parts infoInt
    cases a with
    | none =>
      have qn := fun w => Lib.run_eql_slice_nil (P := Tryd.prog) w 25 3 none 0 cap 0 0 Tryd.underlying25
      clear h
      go_enter Tryd.func43, Tryd.ntmps43
      go_wp2
      go_ret
      exact ret_nil (Below.refl _ _)
    | some ad =>
      have qn := fun w => Lib.run_eql_slice_nil (P := Tryd.prog) w 25 3 (some ad) 0 cap 0 0 Tryd.underlying25
      clear h
      go_enter Tryd.func43, Tryd.ntmps43
      go_wp2_with (at_builtin; refine wpList_append_opt _ rfl _ _ 25 rfl w.heap.size 3 i0 (.int .i64 0) 1 8 Tryd.underlying25 hi hz0 hz1 hz2 rfl (by decide) _ 0 [] rfl (own_empty _ _ _ (Nat.le_refl _)) (some ad) 0 cap [] rfl rfl (fun e => by cases e) (fun _ _ j u hj => by simp at hj) (fun u hu => by simp at hu) (by unfold maxLen; omega) (by omega) (by simp) ?_)
      intro v' w2 hv hg _
      have HV := Lib.hid hv
      have HB := Lib.hid (((Below.refl _ _).alloc (Nat.le_refl _) (.cells #[] 3)).grown hg (by simp) (fun j hj => by simp [Value.ownBlock] at hj; omega))
      clear hv hg
      go_wp2_with fail
      go_ret
      exact ret_own (xs := []) (n := 0) HV.out HB.out (by omega)
  · exact iClone a n cap xs w h h0 hn
set_option maxHeartbeats 1000000 in
theorem iCopyMachine (k : Int) (a : Option Addr) (n c : Nat) (s : List Int) (b : Option Addr) (m d : Nat) (o : List Int) (w : World) (h : Ms w a n c s b m d o) (hn : n ≤ 1048576) (hm : m ≤ 1048576) : Calls Tryd.prog 21 #[machV k a n c b m d] w (RetM w k s o) := by
  have H := Lib.hid h
  obtain rfl : n = s.length := h.1.1.symm
  obtain rfl : m = o.length := h.2.1.symm
  clear h
  obtain ⟨A, hA⟩ : ∃ A, A = (w.alloc (.cells #[.int .i64 k, .slice a s.length c, .slice b o.length d] 27)).alloc (.cells #[.int .i64 0, .slice none 0 0, .slice none 0 0] 27) := ⟨_, rfl⟩
  have sA : A.heap.size = w.heap.size + 2 := by rw [hA]; simp
  have BA := Lib.hid (show Below w.heap.size w A by rw [hA]; (repeat' (first | (with_reducible exact Below.refl _ _) | (with_reducible assumption) | (with_reducible refine below_drewN ?_ _) | (with_reducible refine Below.drew ?_) | (with_reducible refine Below.alloc ?_ ?_ _) | (with_reducible refine Below.setCell ?_ ?_ _) | (with_reducible refine below_gw ?_ ?_ _) | (with_reducible refine below_via ?_ ‹Below _ _ _› ?_) | (with_reducible exact Nat.le_refl _) | (with_reducible refine le_gw ?_ _) | (with_reducible refine le_alloc ?_ _) | (with_reducible refine le_setCell ?_ _ _) | (with_reducible refine le_drew ?_) | (with_reducible refine le_drewN ?_ _) | go_size)))
  have le1 : w.heap.size + 1 ≤ A.heap.size := by omega
  have HS : Hid (∀ W, Below (w.heap.size + 1) A W → W.cell? ⟨w.heap.size, 0, none⟩ = some (.int .i64 k) ∧ W.cell? ⟨w.heap.size, 1, none⟩ = some (.slice a s.length c) ∧ W.cell? ⟨w.heap.size, 2, none⟩ = some (.slice b o.length d)) := Lib.hid fun W hW => by
    refine ⟨?_, ?_, ?_⟩
    · rw [hW.cell (p := ⟨w.heap.size, 0, none⟩) (by simp), hA]; simp
    · rw [hW.cell (p := ⟨w.heap.size, 1, none⟩) (by simp), hA]; simp
    · rw [hW.cell (p := ⟨w.heap.size, 2, none⟩) (by simp), hA]; simp
  have RB : Hid (Blk3 A (w.heap.size + 1) (.int .i64 0) (.slice none 0 0) (.slice none 0 0) 27) := Lib.hid (by
    have h := blk3_new (w.alloc (.cells #[.int .i64 k, .slice a s.length c, .slice b o.length d] 27)) (.int .i64 0) (.slice none 0 0) (.slice none 0 0) 27
    rw [World.size_alloc] at h
    rw [hA]; exact h)
  have CS := Lib.hid (fun (W : World) (hW : Below A.heap.size A W) => iCloneE a s.length c s W ((H.out.1.below BA.out).below hW) hn)
  have CO := Lib.hid (fun (W : World) (hW : Below A.heap.size A W) => iCloneE b o.length d o W ((H.out.2.below BA.out).below hW) hm)
  have lA : w.heap.size + 1 < A.heap.size := by omega
  obtain ⟨r0, r1, r2⟩ := RB.out.cells
  have rz := RB.out.frozen
  go_enter Tryd.func21, Tryd.ntmps21
  go_wp2_with fail
  rw [← hA]
  clear hA
  go_region_held3 (fun W => W.cell? ⟨w.heap.size, 0, none⟩ = some (.int .i64 k) ∧ W.cell? ⟨w.heap.size, 1, none⟩ = some (.slice a s.length c) ∧ W.cell? ⟨w.heap.size, 2, none⟩ = some (.slice b o.length d)) (with_reducible exact HS.out _ (by (repeat' (first | (with_reducible exact Below.refl _ _) | (with_reducible assumption) | (with_reducible refine below_drewN ?_ _) | (with_reducible refine Below.drew ?_) | (with_reducible refine Below.alloc ?_ ?_ _) | (with_reducible refine Below.setCell ?_ ?_ _) | (with_reducible refine below_gw ?_ ?_ _) | (with_reducible refine below_via ?_ ‹Below _ _ _› ?_) | (with_reducible exact Nat.le_refl _) | (with_reducible refine le_gw ?_ _) | (with_reducible refine le_alloc ?_ _) | (with_reducible refine le_setCell ?_ _ _) | (with_reducible refine le_drew ?_) | (with_reducible refine le_drewN ?_ _) | go_size)))) ((first | (go_at_call 43; with_reducible refine (CS.out _ (by ((repeat' (first | (with_reducible exact Below.refl _ _) | (with_reducible assumption) | (with_reducible refine below_drewN ?_ _) | (with_reducible refine Below.drew ?_) | (with_reducible refine Below.alloc ?_ ?_ _) | (with_reducible refine Below.setCell ?_ ?_ _) | (with_reducible refine below_gw ?_ ?_ _) | (with_reducible refine below_via ?_ ‹Below _ _ _› ?_) | (with_reducible exact Nat.le_refl _) | (with_reducible refine le_gw ?_ _) | (with_reducible refine le_alloc ?_ _) | (with_reducible refine le_setCell ?_ _ _) | (with_reducible refine le_drew ?_) | (with_reducible refine le_drewN ?_ _) | go_size))); done)).mono ?_; intro r w1 hh; unfold RetI at hh; obtain ⟨a1, c1, he, o1, hb, -⟩ := hh; subst he; have O1 := Lib.hid o1; obtain ⟨q1, rfl⟩ := gw_of_below hb; clear hb o1) | (go_at_call 43; with_reducible refine (CO.out _ (by ((repeat' (first | (with_reducible exact Below.refl _ _) | (with_reducible assumption) | (with_reducible refine below_drewN ?_ _) | (with_reducible refine Below.drew ?_) | (with_reducible refine Below.alloc ?_ ?_ _) | (with_reducible refine Below.setCell ?_ ?_ _) | (with_reducible refine below_gw ?_ ?_ _) | (with_reducible refine below_via ?_ ‹Below _ _ _› ?_) | (with_reducible exact Nat.le_refl _) | (with_reducible refine le_gw ?_ _) | (with_reducible refine le_alloc ?_ _) | (with_reducible refine le_setCell ?_ _ _) | (with_reducible refine le_drew ?_) | (with_reducible refine le_drewN ?_ _) | go_size))); done)).mono ?_; intro r w1 hh; unfold RetI at hh; obtain ⟨a2, c2, he, o2, hb, -⟩ := hh; subst he; have O2 := Lib.hid o2; obtain ⟨q2, rfl⟩ := gw_of_below hb; clear hb o2)))
  all_goals
    go_wp2
    have BG := (((RB.out.set0 (.int .i64 k)).set1 (.slice a1 s.length c1)).set2 (.slice a2 o.length c2)).later (below_gw (Below.refl _ _) (Nat.le_refl _) (gcat q1 q2))
    obtain ⟨e0, e1, e2⟩ := BG.cells
    refine bodyPost_ret (v := machV k a1 s.length c1 a2 o.length c2) (by simp [results, Tryd.results21, go_sem, e0, e1, e2]) rfl ?_
    have o2 := O2.out
    rw [gw_gw] at o2
    exact ⟨a1, c1, a2, c2, rfl, ownM_two (W1 := A) (W2 := A) (by simp only [World.size_setCell]) (by simp only [World.size_setCell]) (by simp only [World.size_setCell]; omega) O1.out o2 rfl rfl, BA.out.trans (Below.mono (B := w.heap.size + 1) (by (repeat' (first | (with_reducible exact Below.refl _ _) | (with_reducible assumption) | (with_reducible refine below_drewN ?_ _) | (with_reducible refine Below.drew ?_) | (with_reducible refine Below.alloc ?_ ?_ _) | (with_reducible refine Below.setCell ?_ ?_ _) | (with_reducible refine below_gw ?_ ?_ _) | (with_reducible refine below_via ?_ ‹Below _ _ _› ?_) | (with_reducible exact Nat.le_refl _) | (with_reducible refine le_gw ?_ _) | (with_reducible refine le_alloc ?_ _) | (with_reducible refine le_setCell ?_ _ _) | (with_reducible refine le_drew ?_) | (with_reducible refine le_drewN ?_ _) | go_size))) (by omega)), hn, hm⟩
namespace Tm
def stK (L : List (Nat → Int)) (k : Int) (s o : List Int) : Int := if machOk L k s o then nxP L k s else 0
def stS (L : List (Nat → Int)) (k : Int) (s o : List Int) : List Int := if machOk L k s o then nxS L k s o else []
def stO (L : List (Nat → Int)) (k : Int) (s o : List Int) : List Int := if machOk L k s o then nxO L k s o else []
def stE (L : List (Nat → Int)) (k : Int) (s o : List Int) : Int := if machOk L k s o then why L k s else 0
theorem opS_len (x : Nat → Int) (s o : List Int) : (opS x s o).length ≤ s.length + 2 := by
  unfold opS
  by_cases h1 : x 0 = 1
  · rw [if_pos h1]; (simp only [List.length_append, List.length_cons, List.length_nil]; omega)
  rw [if_neg h1]
  by_cases h2 : x 0 = 2
  · rw [if_pos h2]; (simp only [List.length_append, List.length_take, List.length_cons, List.length_nil]; omega)
  rw [if_neg h2]
  by_cases h3 : x 0 = 3
  · rw [if_pos h3]; (simp only [List.length_append, List.length_take, List.length_cons, List.length_nil]; omega)
  rw [if_neg h3]
  by_cases h4 : x 0 = 4
  · rw [if_pos h4]; (simp only [List.length_append, List.length_take, List.length_cons, List.length_nil]; omega)
  rw [if_neg h4]
  by_cases h5 : x 0 = 5
  · rw [if_pos h5]; (simp only [List.length_append, List.length_take, List.length_cons, List.length_nil]; omega)
  rw [if_neg h5]
  by_cases h6 : x 0 = 6
  · rw [if_pos h6]; (simp only [List.length_append, List.length_take, List.length_cons, List.length_nil]; omega)
  rw [if_neg h6]
  by_cases h7 : x 0 = 7
  · rw [if_pos h7]; (simp only [List.length_append, List.length_take, List.length_cons, List.length_nil]; omega)
  rw [if_neg h7]
  by_cases h8 : x 0 = 8
  · rw [if_pos h8]; (simp only [List.length_append, List.length_take, List.length_cons, List.length_nil]; omega)
  rw [if_neg h8]
  by_cases h9 : x 0 = 9
  · rw [if_pos h9]; (rw [List.length_take]; omega)
  rw [if_neg h9]
  by_cases h10 : x 0 = 10
  · rw [if_pos h10]; (simp only [List.length_append, List.length_take, List.length_cons, List.length_nil]; omega)
  rw [if_neg h10]
  by_cases h11 : x 0 = 11
  · rw [if_pos h11]; (simp only [List.length_append, List.length_take, List.length_cons, List.length_nil]; omega)
  rw [if_neg h11]
  by_cases h12 : x 0 = 12
  · rw [if_pos h12]; (rw [List.length_take]; omega)
  rw [if_neg h12]
  by_cases h14 : x 0 = 14
  · rw [if_pos h14]; (rw [List.length_take]; omega)
  rw [if_neg h14]
  omega
theorem nxS_len (L : List (Nat → Int)) (k : Int) (s o : List Int) : (nxS L k s o).length ≤ s.length + 2 := by
  unfold nxS; split
  · exact opS_len _ _ _
  · omega
theorem nxO_len (L : List (Nat → Int)) (k : Int) (s o : List Int) : (nxO L k s o).length = o.length := by
  unfold nxO opO; split
  · split
    · rw [List.length_set]
    · rfl
  · rfl
end Tm
/-- A machine that lies in memory is handed back. -/
theorem MSt.own {w W : World} {B p R : Nat} {k : Int} {v u : Value} {s o : List Int} (h : MSt w B p k v s u o) (hW : ∀ q, q ≠ R → W.heap[q]? = w.heap[q]?) (hR : R < B) {B0 : Nat} (h0 : B0 ≤ B) {a b : Option Addr} {c d : Nat} (hv : v = .slice a s.length c) (hu : u = .slice b o.length d) : OwnM W B0 W.heap.size a s.length c s b o.length d o := by
  subst hv
  subst hu
  have g1 := own_stable h.sv (w' := W) fun q hq => hW q (by have := (h.sv.lt q hq).1; omega)
  have g2 := own_stable h.ou (w' := W) fun q hq => hW q (by have := (h.ou.lt q hq).1; omega)
  exact ⟨⟨own_weak2 g1 h0, fun q hq => (g1.lt q hq).2⟩, ⟨own_weak2 g2 h0, fun q hq => (g2.lt q hq).2⟩, h.ap, rfl, rfl⟩
set_option maxHeartbeats 2000000 in
theorem iStepMachine (aL : Option Addr) (nL cL : Nat) (L : List (Nat → Int)) (k : Int) (a : Option Addr) (n c : Nat) (s : List Int) (b : Option Addr) (m d : Nat) (o : List Int) (w : World) (hL : OpR w aL nL cL L) (h : Ms w a n c s b m d o) (hT : OpsTab w) :
    Calls Tryd.prog 8 #[.slice aL nL cL, machV k a n c b m d] w (RetMI w (Tm.stK L k s o) (Tm.stS L k s o) (Tm.stO L k s o) (Tm.stE L k s o)) := by
  have H := Lib.hid h
  have HL := Lib.hid hL
  have HT := Lib.hid hT
  obtain rfl : L.length = nL := hL.1
  obtain rfl : n = s.length := h.1.1.symm
  obtain rfl : m = o.length := h.2.1.symm
  clear h hL hT
  obtain ⟨A, hA⟩ : ∃ A, A = (w.alloc (.cells #[.int .i64 k, .slice a s.length c, .slice b o.length d] 27)).alloc (.cells #[.int .i64 0, .slice none 0 0, .slice none 0 0] 27) := ⟨_, rfl⟩
  have sA : A.heap.size = w.heap.size + 2 := by rw [hA]; simp
  have BA := Lib.hid (show Below w.heap.size w A by rw [hA]; (repeat' (first | (with_reducible exact Below.refl _ _) | (with_reducible assumption) | (with_reducible refine below_drewN ?_ _) | (with_reducible refine Below.drew ?_) | (with_reducible refine Below.alloc ?_ ?_ _) | (with_reducible refine Below.setCell ?_ ?_ _) | (with_reducible refine below_gw ?_ ?_ _) | (with_reducible refine below_via ?_ ‹Below _ _ _› ?_) | (with_reducible exact Nat.le_refl _) | (with_reducible refine le_gw ?_ _) | (with_reducible refine le_alloc ?_ _) | (with_reducible refine le_setCell ?_ _ _) | (with_reducible refine le_drew ?_) | (with_reducible refine le_drewN ?_ _) | go_size)))
  have RB : Hid (Blk3 A (w.heap.size + 1) (.int .i64 0) (.slice none 0 0) (.slice none 0 0) 27) := Lib.hid (by
    have h := blk3_new (w.alloc (.cells #[.int .i64 k, .slice a s.length c, .slice b o.length d] 27)) (.int .i64 0) (.slice none 0 0) (.slice none 0 0) 27
    rw [World.size_alloc] at h
    rw [hA]; exact h)
  have PB : Hid (Blk3 A w.heap.size (.int .i64 k) (.slice a s.length c) (.slice b o.length d) 27) := Lib.hid (by
    have h := (blk3_new w (.int .i64 k) (.slice a s.length c) (.slice b o.length d) 27).later (w' := A) (by rw [hA]; exact (Below.refl _ _).alloc (Nat.le_refl _) _)
    exact h)
  obtain ⟨p0, p1, p2⟩ := PB.out.cells
  have lA : w.heap.size < A.heap.size := by omega
  have IM := Lib.hid (fun (W : World) (hW : Below w.heap.size w W) => iIsMachine aL L.length cL L k a s.length c s b o.length d o W (HL.out.below hW) (H.out.below hW) (HT.out.below hW))
  cases hM : Tm.machOk L k s o with
  | false =>
    rw [hM] at IM
    rw [show Tm.stK L k s o = 0 by unfold Tm.stK; rw [hM]; rfl, show Tm.stS L k s o = [] by unfold Tm.stS; rw [hM]; rfl, show Tm.stO L k s o = [] by unfold Tm.stO; rw [hM]; rfl, show Tm.stE L k s o = 0 by unfold Tm.stE; rw [hM]; rfl]
    clear hM
    go_enter Tryd.func8, Tryd.ntmps8
    go_wp2_with fail
    rw [← hA]
    clear hA
    refine (IM.out _ BA.out).mono ?_
    rintro e w1 ⟨rfl, hb1⟩
    have R1 := Lib.hid (RB.out.later hb1)
    have B1 := Lib.hid (BA.out.trans (hb1.mono (by omega)))
    have s1 := hb1.size
    obtain ⟨r0, r1, r2⟩ := R1.out.cells
    have rz := R1.out.frozen
    clear hb1 p0 p1 p2
    go_wp2
    have BG := ((R1.out.set0 (.int .i64 0)).set1 (.slice none 0 0)).set2 (.slice none 0 0)
    obtain ⟨e0, e1, e2⟩ := BG.cells
    refine bodyPost_ret (v := .tuple #[machV 0 none 0 0 none 0 0, .int .i64 0]) (by simp [results, Tryd.results8, go_sem, e0, e1, e2]) rfl ?_
    exact ⟨none, 0, none, 0, rfl, ownM_nil _ _ _, by have b1 := B1.out; (repeat' (first | (with_reducible exact Below.refl _ _) | (with_reducible assumption) | (with_reducible refine below_drewN ?_ _) | (with_reducible refine Below.drew ?_) | (with_reducible refine Below.alloc ?_ ?_ _) | (with_reducible refine Below.setCell ?_ ?_ _) | (with_reducible refine below_gw ?_ ?_ _) | (with_reducible refine below_via ?_ ‹Below _ _ _› ?_) | (with_reducible exact Nat.le_refl _) | (with_reducible refine le_gw ?_ _) | (with_reducible refine le_alloc ?_ _) | (with_reducible refine le_setCell ?_ _ _) | (with_reducible refine le_drew ?_) | (with_reducible refine le_drewN ?_ _) | go_size)), by simp, by simp⟩
  | true =>
    rw [hM] at IM
    rw [show Tm.stK L k s o = Tm.nxP L k s by unfold Tm.stK; rw [hM]; rfl, show Tm.stS L k s o = Tm.nxS L k s o by unfold Tm.stS; rw [hM]; rfl, show Tm.stO L k s o = Tm.nxO L k s o by unfold Tm.stO; rw [hM]; rfl, show Tm.stE L k s o = Tm.why L k s by unfold Tm.stE; rw [hM]; rfl]
    have MO := (Tm.machOk_iff L k s o).1 hM
    have s20 := MO.2.2.1
    have o27 : o.length ≤ 27 := by have := MO.2.2.2.1; omega
    have LS := Tm.nxS_len L k s o
    have LO := Lib.hid (Tm.nxO_len L k s o)
    have CM := Lib.hid (fun (W : World) (hW : Below w.heap.size w W) => iCopyMachine k a s.length c s b o.length d o W (H.out.below hW) (by omega) (by omega))
    have ST := Lib.hid (fun p B v u (W : World) (hW : Below w.heap.size w W) (hm : MSt W B p k v s u o) => iStep aL L.length cL L p B k v u s o W hm (HL.out.below hW) (HT.out.below hW) hM)
    clear hM MO
    go_enter Tryd.func8, Tryd.ntmps8
    go_wp2_with fail
    rw [← hA]
    clear hA
    refine (IM.out _ BA.out).mono ?_
    rintro e w1 ⟨rfl, hb1⟩
    have R1 := Lib.hid (RB.out.later hb1)
    have P1 := Lib.hid (PB.out.later hb1)
    have B1 := Lib.hid (BA.out.trans (hb1.mono (by omega)))
    have s1 := hb1.size
    obtain ⟨p0, p1, p2⟩ := P1.out.cells
    clear hb1
    go_wp2_with fail
    refine (CM.out _ B1.out).mono ?_
    intro r w2 hh
    unfold RetM at hh
    obtain ⟨a1, c1, b1, d1, rfl, om, hb2, -, -⟩ := hh
    have R2 := Lib.hid (R1.out.later hb2)
    have s2 := hb2.size
    have B2 := Lib.hid (B1.out.trans (hb2.mono (by omega)))
    have OM := Lib.hid om
    clear hb2 om p0 p1 p2
    go_wp2_with fail
    have MS : Hid (MSt (w2.alloc (.cells #[.int .i64 k, .slice a1 s.length c1, .slice b1 o.length d1] 27)) w1.heap.size w2.heap.size k (.slice a1 s.length c1) s (.slice b1 o.length d1) o) := Lib.hid
      ⟨blk3_new _ _ _ _ _, s2, own_below OM.out.g.1 ((Below.refl _ _).alloc (Nat.le_refl _) _), own_below OM.out.i.1 ((Below.refl _ _).alloc (Nat.le_refl _) _), OM.out.ap, fun e => by have := (OM.out.g.lt _ e).2; omega, fun e => by have := (OM.out.i.lt _ e).2; omega⟩
    refine (ST.out _ _ _ _ _ (B2.out.alloc (by omega) _) MS.out).mono ?_
    rintro e w3 ⟨rfl, v', u', m3, b3⟩
    have R3 : Hid (Blk3 w3 (w.heap.size + 1) (.int .i64 0) (.slice none 0 0) (.slice none 0 0) 27) := Lib.hid ((R2.out.later ((Below.refl _ _).alloc (Nat.le_refl _) (.cells #[.int .i64 k, .slice a1 s.length c1, .slice b1 o.length d1] 27))).keep (b3.block _ (by omega)))
    have B3 : Hid (Below w.heap.size w w3) := Lib.hid ((B2.out.alloc (by omega) _).trans (b3.mono (by omega)))
    have M3 := Lib.hid m3
    obtain ⟨va, vc, hv⟩ := own_form m3.sv
    obtain ⟨ua, uc, hu⟩ := own_form m3.ou
    obtain ⟨m0, m1, m2⟩ := m3.blk.cells
    rw [hv] at m1
    rw [hu] at m2
    have lm := m3.blk.lt
    obtain ⟨r0, r1, r2⟩ := R3.out.cells
    have rz := R3.out.frozen
    have lr := R3.out.lt
    have hpr : w2.heap.size ≠ w.heap.size + 1 := by omega
    clear m3 b3
    go_wp2
    have BG := ((R3.out.set0 (.int .i64 (Tm.nxP L k s))).set1 (.slice va (Tm.nxS L k s o).length vc)).set2 (.slice ua (Tm.nxO L k s o).length uc)
    obtain ⟨e0, e1, e2⟩ := BG.cells
    refine bodyPost_ret (v := .tuple #[machV (Tm.nxP L k s) va (Tm.nxS L k s o).length vc ua (Tm.nxO L k s o).length uc, .int .i64 (Tm.why L k s)]) (by simp [results, Tryd.results8, go_sem, e0, e1, e2]) rfl ?_
    exact ⟨va, vc, ua, uc, rfl, M3.out.own (R := w.heap.size + 1) (fun q hq => by rw [heap_setCell_other _ ⟨w.heap.size + 1, 2, none⟩ q _ hq, heap_setCell_other _ ⟨w.heap.size + 1, 1, none⟩ q _ hq, heap_setCell_other _ ⟨w.heap.size + 1, 0, none⟩ q _ hq]) (by omega) (by omega) hv hu, by have b3 := B3.out; (repeat' (first | (with_reducible exact Below.refl _ _) | (with_reducible assumption) | (with_reducible refine below_drewN ?_ _) | (with_reducible refine Below.drew ?_) | (with_reducible refine Below.alloc ?_ ?_ _) | (with_reducible refine Below.setCell ?_ ?_ _) | (with_reducible refine below_gw ?_ ?_ _) | (with_reducible refine below_via ?_ ‹Below _ _ _› ?_) | (with_reducible exact Nat.le_refl _) | (with_reducible refine le_gw ?_ _) | (with_reducible refine le_alloc ?_ _) | (with_reducible refine le_setCell ?_ _ _) | (with_reducible refine le_drew ?_) | (with_reducible refine le_drewN ?_ _) | go_size)), by omega, by have := LO.out; omega⟩
namespace Tm
theorem opS_room (x : Nat → Int) (s o : List Int) (hp : popsN (x 0) ≤ (s.length : Int)) : ((opS x s o).length : Int) = (s.length : Int) - popsN (x 0) + pushN (x 0) ∨ x 0 < 1 ∨ 15 < x 0 ∨ x 0 = 15 := by
  by_cases hr : 1 ≤ x 0 ∧ x 0 ≤ 14
  · refine .inl ?_
    have cc : x 0 = 1 ∨ x 0 = 2 ∨ x 0 = 3 ∨ x 0 = 4 ∨ x 0 = 5 ∨ x 0 = 6 ∨ x 0 = 7 ∨ x 0 = 8 ∨ x 0 = 9 ∨ x 0 = 10 ∨ x 0 = 11 ∨ x 0 = 12 ∨ x 0 = 13 ∨ x 0 = 14 := by omega
    unfold opS
    rcases cc with h | h | h | h | h | h | h | h | h | h | h | h | h | h
    all_goals
      rw [h] at hp ⊢
      simp [popsN, pushN] at hp ⊢
      try omega
  · omega
theorem shC_bd (x k : Int) : -9841 ≤ shC x k ∧ shC x k ≤ 9841 := by
  have b := val_bd ((shf (wordL x 9) k).take 9) (fun z hz => (isT_iff z).1 (shf_trits z (List.mem_of_mem_take hz)))
  have l : ((shf (wordL x 9) k).take 9).length ≤ 9 := by rw [List.length_take]; omega
  have m : limN ((shf (wordL x 9) k).take 9).length ≤ 9841 := by
    have : ∀ n, n ≤ 9 → limN n ≤ 9841 := by
      intro n hn
      have : n = 0 ∨ n = 1 ∨ n = 2 ∨ n = 3 ∨ n = 4 ∨ n = 5 ∨ n = 6 ∨ n = 7 ∨ n = 8 ∨ n = 9 := by omega
      rcases this with rfl | rfl | rfl | rfl | rfl | rfl | rfl | rfl | rfl | rfl <;> decide
    exact this _ l
  unfold shC
  omega
theorem sgn_cell (x : Int) : -9841 ≤ sgn x ∧ sgn x ≤ 9841 := by unfold sgn; split; omega; split <;> omega
theorem opS_cells (x : Nat → Int) (n : Int) (s o : List Int) (hok : opOk n x = true) (hs : cellsOk s = true) (ho : cellsOk o = true) (hp : popsN (x 0) ≤ (s.length : Int)) (ho27 : o.length = 27) (hc : x 0 = 11 → -13 ≤ top s ∧ top s ≤ 13) : cellsOk (opS x s o) = true := by
  have hk := (opOk_iff n x).1 hok
  have cm := cells_mem hs
  have co := cells_mem ho
  have tk : ∀ m, ∀ z ∈ s.take m, -9841 ≤ z ∧ z ≤ 9841 := fun m z hz => cm z (List.mem_of_mem_take hz)
  have ap : ∀ m (ys : List Int), (∀ y ∈ ys, -9841 ≤ y ∧ y ≤ 9841) → cellsOk (s.take m ++ ys) = true := fun m ys h => cells_of fun z hz => by
    rcases List.mem_append.1 hz with h1 | h1
    · exact tk m z h1
    · exact h z h1
  have one : ∀ y : Int, (-9841 ≤ y ∧ y ≤ 9841) → ∀ z ∈ [y], -9841 ≤ z ∧ z ≤ 9841 := fun y h z hz => by rw [List.mem_singleton] at hz; rw [hz]; exact h
  have two : ∀ y y' : Int, (-9841 ≤ y ∧ y ≤ 9841) → (-9841 ≤ y' ∧ y' ≤ 9841) → ∀ z ∈ [y, y'], -9841 ≤ z ∧ z ≤ 9841 := fun y y' h h' z hz => by
    simp only [List.mem_cons, List.not_mem_nil, or_false] at hz
    rcases hz with rfl | rfl
    · exact h
    · exact h'
  have bt : 1 ≤ s.length → -9841 ≤ top s ∧ top s ≤ 9841 := fun h => cm _ (top_mem h)
  have bn : 2 ≤ s.length → -9841 ≤ nxt s ∧ nxt s ≤ 9841 := fun h => cm _ (nxt_mem h)
  have cc : x 0 = 1 ∨ x 0 = 2 ∨ x 0 = 3 ∨ x 0 = 4 ∨ x 0 = 5 ∨ x 0 = 6 ∨ x 0 = 7 ∨ x 0 = 8 ∨ x 0 = 9 ∨ x 0 = 10 ∨ x 0 = 11 ∨ x 0 = 12 ∨ x 0 = 13 ∨ x 0 = 14 ∨ x 0 = 15 := by omega
  unfold opS
  rcases cc with h | h | h | h | h | h | h | h | h | h | h | h | h | h | h
  all_goals
    rw [h] at hp hk ⊢
    simp [popsN] at hp
    simp only [Int.reduceEq, ↓reduceIte]
  · exact cells_of fun z hz => by
      rcases List.mem_append.1 hz with h1 | h1
      · exact cm z h1
      · rw [List.mem_singleton] at h1; rw [h1]; omega
  · exact ap _ _ (one _ (wrapC_bd _))
  · exact ap _ _ (one _ (wrapC_bd _))
  · exact ap _ _ (one _ (wrapC_bd _))
  · exact ap _ _ (one _ (by have := bt (by omega); omega))
  · exact ap _ _ (one _ (sgn_cell _))
  · exact ap _ _ (two _ _ (bt (by omega)) (bt (by omega)))
  · exact ap _ _ (two _ _ (bt (by omega)) (bn (by omega)))
  · exact cells_of (tk _)
  · exact ap _ _ (one _ (shC_bd _ _))
  · exact ap _ _ (one _ (co _ (getD_mem (by have := hc h; omega))))
  · exact cells_of (tk _)
  · exact hs
  · exact cells_of (tk _)
  · exact hs
theorem opO_cells (x : Nat → Int) (s o : List Int) (hs : cellsOk s = true) (ho : cellsOk o = true) (hp : popsN (x 0) ≤ (s.length : Int)) : cellsOk (opO x s o) = true := by
  unfold opO
  split
  · rename_i h
    rw [h] at hp
    simp [popsN] at hp
    exact cells_of fun z hz => by
      rcases List.mem_or_eq_of_mem_set hz with h1 | h1
      · exact cells_mem ho z h1
      · rw [h1]; exact cells_mem hs _ (nxt_mem (by omega))
  · exact ho
/-- A step leaves a machine that is valid. -/
theorem step_ok {L : List (Nat → Int)} {k : Int} {s o : List Int} (hM : machOk L k s o = true) : machOk L (nxP L k s) (nxS L k s o) (nxO L k s o) = true := by
  by_cases hw : why L k s = 0
  · obtain ⟨hC, ⟨k0, k1⟩, hs20, ho27, hcs, hco⟩ := (machOk_iff L k s o).1 hM
    obtain ⟨⟨l1, l2⟩, hop⟩ := (codeOk_iff L).1 hC
    unfold nxP nxS nxO
    rw [if_pos hw, if_pos hw, if_pos hw]
    unfold why at hw
    by_cases c0 : k = (L.length : Int)
    · rw [if_pos c0] at hw; omega
    · rw [if_neg c0] at hw
      have hx := hop k.toNat (by omega)
      obtain ⟨x, hxe⟩ : ∃ x, x = L.getD k.toNat g0 := ⟨_, rfl⟩
      rw [← hxe] at hw hx ⊢
      by_cases c1 : x 0 = 15
      · rw [if_pos c1] at hw; omega
      · rw [if_neg c1] at hw
        by_cases c2 : popsN (x 0) ≤ (s.length : Int) ∧ (s.length : Int) - popsN (x 0) + pushN (x 0) ≤ 20
        · rw [if_neg (fun h => h c2)] at hw
          have c3 : ¬ ((x 0 = 11 ∨ x 0 = 12) ∧ ¬ (-13 ≤ top s ∧ top s ≤ 13)) := fun h => by rw [if_pos h] at hw; omega
          have hk := (opOk_iff _ _).1 hx
          have hr := opS_room x s o c2.1
          refine (machOk_iff _ _ _ _).2 ⟨hC, ?_, by omega, by unfold opO; split <;> simp [ho27], opS_cells x _ s o hx hcs hco c2.1 ho27 (fun h => Classical.not_not.1 fun hn => c3 ⟨.inl h, hn⟩), opO_cells x s o hcs hco c2.1⟩
          unfold opP
          split
          · omega
          · split
            · split
              · omega
              · split <;> omega
            · omega
        · rw [if_pos c2] at hw; omega
  · unfold nxP nxS nxO
    rw [if_neg hw, if_neg hw, if_neg hw]
    exact hM
/-- A run of so many steps: place, stack, cells, end. -/
def runP (L : List (Nat → Int)) : Nat → Int → List Int → List Int → Int
  | 0, k, _, _ => k
  | f + 1, k, s, o => if why L k s = 0 then runP L f (nxP L k s) (nxS L k s o) (nxO L k s o) else k
def runS (L : List (Nat → Int)) : Nat → Int → List Int → List Int → List Int
  | 0, _, s, _ => s
  | f + 1, k, s, o => if why L k s = 0 then runS L f (nxP L k s) (nxS L k s o) (nxO L k s o) else s
def runO (L : List (Nat → Int)) : Nat → Int → List Int → List Int → List Int
  | 0, _, _, o => o
  | f + 1, k, s, o => if why L k s = 0 then runO L f (nxP L k s) (nxS L k s o) (nxO L k s o) else o
def runE (L : List (Nat → Int)) : Nat → Int → List Int → List Int → Int
  | 0, _, _, _ => 5
  | f + 1, k, s, o => if why L k s = 0 then runE L f (nxP L k s) (nxS L k s o) (nxO L k s o) else why L k s
end Tm
namespace Tm
def rnOk (L : List (Nat → Int)) (k : Int) (s o : List Int) (f : Int) : Bool := machOk L k s o && inB f 0 2000
def rnK (L : List (Nat → Int)) (k : Int) (s o : List Int) (f : Int) : Int := if rnOk L k s o f then runP L f.toNat k s o else 0
def rnS (L : List (Nat → Int)) (k : Int) (s o : List Int) (f : Int) : List Int := if rnOk L k s o f then runS L f.toNat k s o else []
def rnO (L : List (Nat → Int)) (k : Int) (s o : List Int) (f : Int) : List Int := if rnOk L k s o f then runO L f.toNat k s o else []
def rnE (L : List (Nat → Int)) (k : Int) (s o : List Int) (f : Int) : Int := if rnOk L k s o f then runE L f.toNat k s o else 0
/-- What is left of a run. -/
def SameRun (L : List (Nat → Int)) (f : Nat) (k : Int) (s o : List Int) (f' : Nat) (k' : Int) (s' o' : List Int) : Prop := runP L f k s o = runP L f' k' s' o' ∧ runS L f k s o = runS L f' k' s' o' ∧ runO L f k s o = runO L f' k' s' o' ∧ runE L f k s o = runE L f' k' s' o'
theorem SameRun.step {L : List (Nat → Int)} {F f : Nat} {k k' : Int} {s o s' o' : List Int} (h : SameRun L F k s o (f + 1) k' s' o') (hw : why L k' s' = 0) : SameRun L F k s o f (nxP L k' s') (nxS L k' s' o') (nxO L k' s' o') := by
  obtain ⟨h1, h2, h3, h4⟩ := h
  rw [runP, if_pos hw] at h1
  rw [runS, if_pos hw] at h2
  rw [runO, if_pos hw] at h3
  rw [runE, if_pos hw] at h4
  exact ⟨h1, h2, h3, h4⟩
theorem SameRun.stop {L : List (Nat → Int)} {F f : Nat} {k k' : Int} {s o s' o' : List Int} (h : SameRun L F k s o (f + 1) k' s' o') (hw : why L k' s' ≠ 0) : runP L F k s o = nxP L k' s' ∧ runS L F k s o = nxS L k' s' o' ∧ runO L F k s o = nxO L k' s' o' ∧ runE L F k s o = why L k' s' := by
  obtain ⟨h1, h2, h3, h4⟩ := h
  rw [runP, if_neg hw] at h1
  rw [runS, if_neg hw] at h2
  rw [runO, if_neg hw] at h3
  rw [runE, if_neg hw] at h4
  unfold nxP nxS nxO
  rw [if_neg hw, if_neg hw, if_neg hw]
  exact ⟨h1, h2, h3, h4⟩
end Tm
namespace Tm
def opF (c v : Int) : Nat → Int := fun j => if j = 0 then c else if j = 1 then v else 0
def cProg (x a b : Int) : List (Nat → Int) := [opF 1 x, opF 1 a, opF 12 0, opF 1 a, opF 11 0, opF 7 0, opF 10 b]
def zs27 : List Int := List.replicate 27 0
theorem run_one {L : List (Nat → Int)} {f : Nat} {k : Int} {s o : List Int} (hw : why L k s = 0) : SameRun L (f + 1) k s o f (nxP L k s) (nxS L k s o) (nxO L k s o) := by
  refine ⟨?_, ?_, ?_, ?_⟩
  · rw [runP, if_pos hw]
  · rw [runS, if_pos hw]
  · rw [runO, if_pos hw]
  · rw [runE, if_pos hw]
theorem SameRun.trans {L : List (Nat → Int)} {f g h : Nat} {k k' k2 : Int} {s o s' o' s2 o2 : List Int} (a : SameRun L f k s o g k' s' o') (b : SameRun L g k' s' o' h k2 s2 o2) : SameRun L f k s o h k2 s2 o2 :=
  ⟨a.1.trans b.1, a.2.1.trans b.2.1, a.2.2.1.trans b.2.2.1, a.2.2.2.trans b.2.2.2⟩
theorem run_to {L : List (Nat → Int)} {f : Nat} {k k' : Int} {s o s' o' : List Int} (hw : why L k s = 0) (h1 : opP (L.getD k.toNat g0) (k + 1) s = k') (h2 : opS (L.getD k.toNat g0) s o = s') (h3 : opO (L.getD k.toNat g0) s o = o') : SameRun L (f + 1) k s o f k' s' o' := by
  have h := run_one (L := L) (f := f) (k := k) (s := s) (o := o) hw
  unfold nxP nxS nxO at h
  rw [if_pos hw, if_pos hw, if_pos hw, h1, h2, h3] at h
  exact h
theorem why_zero {L : List (Nat → Int)} {k : Int} {s : List Int} (c : Int) (hc : (L.getD k.toNat g0) 0 = c) (h0 : k ≠ (L.length : Int)) (h1 : c ≠ 15) (h2 : popsN c ≤ (s.length : Int) ∧ (s.length : Int) - popsN c + pushN c ≤ 20) (h3 : c = 11 ∨ c = 12 → -13 ≤ top s ∧ top s ≤ 13) : why L k s = 0 := by
  unfold why
  rw [if_neg h0, hc, if_neg h1, if_neg (fun h => h h2), if_neg (fun h => h.2 (h3 h.1))]
theorem cProg_ok {x a b : Int} (hx : -9841 ≤ x ∧ x ≤ 9841) (ha : -13 ≤ a ∧ a ≤ 13) (hb : -9 ≤ b ∧ b ≤ 9) : codeOk (cProg x a b) = true := by
  refine codeOk_of ⟨by simp [cProg], by simp [cProg]⟩ fun i hi => ?_
  have h7 : i < 7 := hi
  match i, h7 with
  | 0, _ => exact (opOk_iff _ _).2 (by simp [cProg, opF]; omega)
  | 1, _ => exact (opOk_iff _ _).2 (by simp [cProg, opF]; omega)
  | 2, _ => exact (opOk_iff _ _).2 (by simp [cProg, opF])
  | 3, _ => exact (opOk_iff _ _).2 (by simp [cProg, opF]; omega)
  | 4, _ => exact (opOk_iff _ _).2 (by simp [cProg, opF])
  | 5, _ => exact (opOk_iff _ _).2 (by simp [cProg, opF])
  | 6, _ => exact (opOk_iff _ _).2 (by simp [cProg, opF]; omega)
theorem zs27_ok : cellsOk zs27 = true := by decide
theorem cProg_mach {x a b : Int} (hx : -9841 ≤ x ∧ x ≤ 9841) (ha : -13 ≤ a ∧ a ≤ 13) (hb : -9 ≤ b ∧ b ≤ 9) : machOk (cProg x a b) 0 [] zs27 = true :=
  (machOk_iff _ _ _ _).2 ⟨cProg_ok hx ha hb, ⟨by omega, by simp [cProg]⟩, by simp, by simp [zs27], rfl, zs27_ok⟩
/-- The run. -/
theorem cProg_run {x a b : Int} (ha : -13 ≤ a ∧ a ≤ 13) : SameRun (cProg x a b) 50 0 [] zs27 43 7 [x, shC x b] (zs27.set (a + 13).toNat x) := by
  have hi : (a + 13).toNat < 27 := by omega
  have ld : (zs27.set (a + 13).toNat x).getD (a + 13).toNat 0 = x := by
    rw [List.getD_eq_getElem?_getD, List.getElem?_set_self (by simp [zs27]; omega)]; rfl
  have t0 : SameRun (cProg x a b) 50 0 [] zs27 49 1 [x] zs27 := run_to (why_zero 1 rfl (by simp [cProg]) (by decide) (by simp [popsN, pushN]) (by omega)) rfl rfl rfl
  have t1 : SameRun (cProg x a b) 49 1 [x] zs27 48 2 [x, a] zs27 := run_to (why_zero 1 rfl (by simp [cProg]) (by decide) (by simp [popsN, pushN]) (by omega)) rfl rfl rfl
  have t2 : SameRun (cProg x a b) 48 2 [x, a] zs27 47 3 [] (zs27.set (a + 13).toNat x) := run_to (why_zero 12 rfl (by simp [cProg]) (by decide) (by simp [popsN, pushN]) (fun _ => ha)) rfl rfl rfl
  have t3 : SameRun (cProg x a b) 47 3 [] (zs27.set (a + 13).toNat x) 46 4 [a] (zs27.set (a + 13).toNat x) := run_to (why_zero 1 rfl (by simp [cProg]) (by decide) (by simp [popsN, pushN]) (by omega)) rfl rfl rfl
  have t4 : SameRun (cProg x a b) 46 4 [a] (zs27.set (a + 13).toNat x) 45 5 [x] (zs27.set (a + 13).toNat x) := run_to (why_zero 11 rfl (by simp [cProg]) (by decide) (by simp [popsN, pushN]) (fun _ => ha)) rfl (by
    show [] ++ [(zs27.set (a + 13).toNat x).getD (a + 13).toNat 0] = [x]
    rw [ld]; rfl) rfl
  have t5 : SameRun (cProg x a b) 45 5 [x] (zs27.set (a + 13).toNat x) 44 6 [x, x] (zs27.set (a + 13).toNat x) := run_to (why_zero 7 rfl (by simp [cProg]) (by decide) (by simp [popsN, pushN]) (by omega)) rfl rfl rfl
  have t6 : SameRun (cProg x a b) 44 6 [x, x] (zs27.set (a + 13).toNat x) 43 7 [x, shC x b] (zs27.set (a + 13).toNat x) := run_to (why_zero 10 rfl (by simp [cProg]) (by decide) (by simp [popsN, pushN]) (by omega)) rfl rfl rfl
  exact t0.trans (t1.trans (t2.trans (t3.trans (t4.trans (t5.trans t6)))))
theorem cProg_end (x a b : Int) (s o : List Int) : runP (cProg x a b) 43 7 s o = 7 ∧ runS (cProg x a b) 43 7 s o = s ∧ runO (cProg x a b) 43 7 s o = o ∧ runE (cProg x a b) 43 7 s o = 2 := by
  have hw : why (cProg x a b) 7 s = 2 := by unfold why; rw [if_pos (by simp [cProg])]
  have hn : ¬ why (cProg x a b) 7 s = 0 := by rw [hw]; decide
  refine ⟨?_, ?_, ?_, ?_⟩
  · rw [runP, if_neg hn]
  · rw [runS, if_neg hn]
  · rw [runO, if_neg hn]
  · rw [runE, if_neg hn, hw]
theorem cProg_rn {x a b : Int} (hx : -9841 ≤ x ∧ x ≤ 9841) (ha : -13 ≤ a ∧ a ≤ 13) (hb : -9 ≤ b ∧ b ≤ 9) : rnK (cProg x a b) 0 [] zs27 50 = 7 ∧ rnS (cProg x a b) 0 [] zs27 50 = [x, shC x b] ∧ rnO (cProg x a b) 0 [] zs27 50 = zs27.set (a + 13).toNat x ∧ rnE (cProg x a b) 0 [] zs27 50 = 2 := by
  have ok : rnOk (cProg x a b) 0 [] zs27 50 = true := by unfold rnOk; rw [cProg_mach hx ha hb]; rfl
  obtain ⟨r1, r2, r3, r4⟩ := cProg_run (x := x) (b := b) ha
  obtain ⟨e1, e2, e3, e4⟩ := cProg_end x a b [x, shC x b] (zs27.set (a + 13).toNat x)
  have n50 : (50 : Int).toNat = 50 := rfl
  unfold rnK rnS rnO rnE
  rw [ok, n50]
  simp only [↓reduceIte]
  rw [r1, r2, r3, r4]
  exact ⟨e1, e2, e3, e4⟩
theorem cProg_left {x a b : Int} (hx : -9841 ≤ x ∧ x ≤ 9841) (ha : -13 ≤ a ∧ a ≤ 13) (hb : -9 ≤ b ∧ b ≤ 9) : machOk (cProg x a b) 7 [x, shC x b] (zs27.set (a + 13).toNat x) = true := by
  refine (machOk_iff _ _ _ _).2 ⟨cProg_ok hx ha hb, ⟨by omega, by simp [cProg]⟩, by simp, by simp [zs27], cells_of fun z hz => ?_, cells_of fun z hz => ?_⟩
  · simp only [List.mem_cons, List.not_mem_nil, or_false] at hz
    rcases hz with rfl | rfl
    · exact hx
    · exact shC_bd _ _
  · rcases List.mem_or_eq_of_mem_set hz with h1 | h1
    · rw [zs27, List.mem_replicate] at h1; omega
    · rw [h1]; exact hx
theorem zs27_get (x : Int) (i j : Nat) (hj : j < 27) : (zs27.set i x).getD j 0 = if j = i then x else 0 := by
  have hl : zs27.length = 27 := by simp [zs27]
  rw [List.getD_eq_getElem?_getD]
  by_cases h : j = i
  · subst h; rw [if_pos rfl, List.getElem?_set_self (by omega)]; rfl
  · rw [if_neg h, List.getElem?_set_ne (fun e => h e.symm), zs27, List.getElem?_replicate]; simp [hj]
end Tm
end Go.Proofs.YtfnhoiomdjmjhaaDoor

/- What the laws draw: words. -/
import Derived.Test.YtfmpnkckaceigaaCur
import Derived.Test.YtfmpnkckaceigaaWMath
import Derived.Test.YtfmpnkckaceigaaFill
namespace Go.Proofs.Ytfmpnkckaceigaa
set_option maxRecDepth 20000
open Go.RowKit
theorem grown_trans {p : Nat} {a b c : World} (h : a.grownBy b (some p)) (k : b.grownBy c (some p)) : a.grownBy c (some p) :=
  ⟨k.os.trans h.os, k.tape.trans h.tape, k.output.trans h.output, Nat.le_trans h.size k.size, fun j hj hne => (k.block j (Nat.lt_of_lt_of_le hj h.size) hne).trans (h.block j hj hne)⟩
theorem grown_below {p B : Nat} {a b : World} (h : a.grownBy b (some p)) (hB : B ≤ p) (hs : B ≤ a.heap.size) : Below B a b :=
  ⟨h.os, h.tape, h.output, h.size, fun k hk => h.block k (by omega) (by simp; omega)⟩
theorem below_grown {p B : Nat} {a b : World} (h : Below B a b) (hB : a.heap.size ≤ B) : a.grownBy b (some p) :=
  ⟨h.os, h.tape, h.output, h.size, fun k hk _ => h.block k (by omega)⟩
theorem own_turn {w w' : World} {p B e : Nat} {v : Value} {n : Nat} {xs : List Value} (h : w.ownsRow B e 1 v n xs) (ht : w.grownBy w' (some p)) (hp : p < B) : w'.ownsRow B e 1 v n xs :=
  h.kept ht (by
    cases hv : v.ownBlock with
    | none => exact .inl rfl
    | some k => have := (h.lt k hv).1; exact .inr (by simp; omega))
/-- Behind an append to a row of the call's own. -/
theorem grown_app {w w1 w2 : World} {p B e : Nat} {v : Value} {n : Nat} {xs : List Value} (hg : w.grownBy w1 (some p)) (h : w1.ownsRow B e 1 v n xs) (hB : w.heap.size ≤ B) (o : Obj) (hw : (w1.alloc o).grownBy w2 v.ownBlock) : w.grownBy w2 (some p) := by
  refine ⟨hw.os.trans hg.os, hw.tape.trans hg.tape, hw.output.trans hg.output, ?_, fun k hk hne => ?_⟩
  · have := hw.size; have := hg.size; simp at *; omega
  · have hs := hg.size
    have hb := hw.block k (by simp; omega) (fun e => by have := (h.lt k e.symm).1; omega)
    rw [hb, Below.heap_alloc w1 o k (by omega)]
    exact hg.block k hk hne
theorem own_weak {w : World} {B C e : Nat} {v : Value} {n : Nat} {xs : List Value} (h : w.ownsRow B e 1 v n xs) (hC : C ≤ B) : w.ownsRow C e 1 v n xs := by
  obtain ⟨h1, h2⟩ := h
  refine ⟨h1, ?_⟩
  rcases h2 with h2 | ⟨g, cap, cur, e1, hb, h3⟩
  · exact .inl h2
  · exact .inr ⟨g, cap, cur, e1, by omega, h3⟩
theorem map_set_int (xs : List Int) (j : Nat) (c : Int) : (xs.map (Value.int .i64)).set j (.int .i64 c) = (xs.set j c).map (Value.int .i64) := by rw [List.map_set]
theorem trits_set {xs : List Int} (h : ∀ x ∈ xs, -1 ≤ x ∧ x ≤ 1) (j : Nat) {c : Int} (hc : -1 ≤ c ∧ c ≤ 1) : ∀ x ∈ xs.set j c, -1 ≤ x ∧ x ≤ 1 := by
  intro x hx
  rcases List.mem_or_eq_of_mem_set hx with h1 | h1
  · exact h x h1
  · rw [h1]; exact hc
/-- A place of a row of the call's own is written, the cursor stays. -/
theorem drawn_put {q p : Nat} {a : Option Addr} {n cap : Nat} {w wr : World} {g k c' : Nat} {xs : List Int} (hpl : p < w.heap.size) (hown : wr.ownsRow w.heap.size 3 1 (.slice (some ⟨g, 0, none⟩) k c') k (xs.map (Value.int .i64))) (hc : Cur wr q p a n cap) (hg : w.grownBy wr (some p)) (j : Nat) (c : Int) :
    (wr.setCell ⟨g, j, none⟩ (.int .i64 c)).ownsRow w.heap.size 3 1 (.slice (some ⟨g, 0, none⟩) k c') k ((xs.set j c).map (Value.int .i64)) ∧ Cur (wr.setCell ⟨g, j, none⟩ (.int .i64 c)) q p a n cap ∧ w.grownBy (wr.setCell ⟨g, j, none⟩ (.int .i64 c)) (some p) := by
  have hb := own_base hown
  have hst := hown.stored j (.int .i64 c)
  rw [map_set_int] at hst
  obtain ⟨s1, s2⟩ := hst
  have hqp : q ≤ p := by obtain ⟨_, _, _, _, _, h4, _⟩ := hc; exact h4
  have hs := hg.size
  refine ⟨s1, hc.of_blocks (s2.block p (by omega) (by simp; omega)) (fun b hb' => s2.block b (by omega) (by simp; omega)), ⟨s2.os.trans hg.os, s2.tape.trans hg.tape, s2.output.trans hg.output, by have := s2.size; omega, fun k hk hne => ?_⟩⟩
  rw [s2.block k (by omega) (by simp; omega)]
  exact hg.block k hk hne
theorem isW_of {xs : List Int} (h : ∀ x ∈ xs, -1 ≤ x ∧ x ≤ 1) (h1 : 1 ≤ xs.length) (h2 : xs.length ≤ 30) : Tm.isW xs = true := (Tm.isW_iff xs).2 ⟨h, h1, h2⟩
/-- A word of 'most' trits at most is drawn. -/
def DrawnW (q p : Nat) (a : Option Addr) (n cap : Nat) (most : Int) (w : World) (e : Ending) (w' : World) : Prop :=
  ∃ (xs : List Int) (b : Option Addr) (c : Nat), e = .returned (.slice b xs.length c) ∧ Tm.isW xs = true ∧ (xs.length : Int) ≤ most ∧ w'.ownsRow w.heap.size 3 1 (.slice b xs.length c) xs.length (xs.map (Value.int .i64)) ∧ Cur w' q p a n cap ∧ w.grownBy w' (some p)
set_option maxHeartbeats 2000000 in
theorem sDraw2 (q p : Nat) (a : Option Addr) (n cap : Nat) (most : Int) (w : World) (hc : Cur w q p a n cap) (h1 : 1 ≤ most) (h30 : most ≤ 30) : Calls Try.prog 68 #[.pointer (some ⟨p, 0, none⟩), .int .i64 most] w (DrawnW q p a n cap most w) := by
  obtain ⟨i0, hi, hz0, hz1, hz2⟩ := info_parts infoInt
  have hpl := hc.lt
  have HC := Lib.hid (hc.below ((Below.refl _ _).alloc (Nat.le_refl _) (.cells #[] 3)))
  clear hc
  go_enter Try.func68, Try.ntmps68
  go_wp2_with (go_at_call 76; refine (sBelow q p a n cap most _ HC.out h1 (by omega)).mono ?_; rintro e w1 ⟨x, rfl, x0, x1, hc1, ht1⟩)
  obtain ⟨m, rfl⟩ := Int.eq_ofNat_of_zero_le x0
  have hown0 : w1.ownsRow w.heap.size 3 1 (.slice (some ⟨w.heap.size, 0, none⟩) 0 0) 0 (([] : List Int).map (Value.int .i64)) := own_turn (own_empty w _ _ (Nat.le_refl _)) ht1.grown hpl
  have hg0 : w.grownBy w1 (some p) := grown_trans (below_grown ((Below.refl _ _).alloc (Nat.le_refl _) _) (Nat.le_refl _)) ht1.grown
  go_loopw [5, 6] (fun v k wr => ∃ (j : Nat) (xs : List Int), j ≤ m + 1 ∧ k = .int .i64 ((m : Int) + 1 - j) ∧ xs.length = j ∧ (∀ x ∈ xs, -1 ≤ x ∧ x ≤ 1) ∧ wr.ownsRow w.heap.size 3 1 v j (xs.map (Value.int .i64)) ∧ Cur wr q p a n cap ∧ w.grownBy wr (some p)) (fun _ k _ => (intOf k).toNat)
  case atStart => exact ⟨0, [], by omega, val_int (by omega), rfl, by simp, hown0, hc1, hg0⟩
  case round =>
    obtain ⟨j, xs, hj, rfl, hxl, hxt, hown, hcr, hg⟩ := hrel
    clear hown0 hc1 hg0 ht1
    have HXT := Lib.hid hxt
    have CR := Lib.hid hcr
    have HO := Lib.hid hown
    have HG := Lib.hid hg
    have hsz := hg.size
    have HXL := Lib.hid hxl
    clear hxt hcr hown hg hxl
    by_cases hlt : j < m + 1
    · go_wp2_with fail
      refine (sBelow q p a n cap 3 _ CR.out (by omega) (by omega)).mono ?_
      rintro e w2 ⟨y, rfl, y0, y1, hc2, ht2⟩
      have HO2 := Lib.hid (own_turn HO.out ht2.grown hpl)
      have HG2 := Lib.hid (grown_trans HG.out ht2.grown)
      have hs2 := HG2.out.size
      have C2 := Lib.hid hc2
      clear hc2 ht2
      go_wp2_with (at_builtin; refine wpList_append_own _ rfl _ _ 22 rfl (w.heap.size) 3 i0 (.int .i64 0) 1 8 Try.underlying22 hi hz0 hz1 hz2 rfl (by decide) _ _ _ rfl (World.ownsRow.alloc HO2.out _) ⟨w2.heap.size, 0, none⟩ 1 1 [.int .i64 (y - 1)] rfl rfl (app_c1 (w2) (y - 1) _) (app_c2 _) (by unfold maxLen; omega) (by omega) (by simp; omega) ?_)
      intro v' w3 hown' hgrow _
      have hg3 := grown_app HG2.out HO2.out (Nat.le_refl _) _ hgrow
      have hc3 : Cur w3 q p a n cap := by
        refine C2.out.of_blocks ?_ (fun b hb => ?_)
        · rw [hgrow.block p (by simp; omega) (fun e => by have := (HO2.out.lt p e.symm).1; omega), Below.heap_alloc _ _ _ (by omega)]
        · have hqp : q ≤ p := by obtain ⟨_, _, _, _, _, h4, _⟩ := C2.out; exact h4
          rw [hgrow.block b (by simp; omega) (fun e => by have := (HO2.out.lt b e.symm).1; omega), Below.heap_alloc _ _ _ (by omega)]
      rw [show [Value.int IntKind.i64 (y - 1)] = [y - 1].map (Value.int .i64) from rfl, ← List.map_append] at hown'
      clear hgrow
      go_wp2
      refine ⟨⟨j + 1, xs ++ [y - 1], by omega, by go_num, by simp [HXL.out], ?_, hown', hc3, hg3⟩, by simp [intOf]; omega⟩
      intro x hx
      rcases List.mem_append.1 hx with hx | hx
      · exact HXT.out x hx
      · simp at hx; omega
    · obtain rfl : j = m + 1 := by omega
      rcases HO.out.2 with ⟨-, e0⟩ | ⟨g, c', cur, rfl, hB, -, -, -, -, -⟩
      · omega
      go_wp2_with fail
      refine (sBelow q p a n cap 12 _ CR.out (by omega) (by omega)).mono ?_
      rintro e w2 ⟨y, rfl, y0, y1, hc2, ht2⟩
      have HO2 := Lib.hid (own_turn HO.out ht2.grown hpl)
      have HG2 := Lib.hid (grown_trans HG.out ht2.grown)
      have hs2 := HG2.out.size
      have C2 := Lib.hid hc2
      clear hc2 ht2
      by_cases h0 : y = 0
      · subst h0
        skip
        · go_wp2_with fail
          go_loopw [31] (fun i wr => ∃ (j : Nat) (ys : List Int), j ≤ m + 1 ∧ i = .int .i64 j ∧ Hid (ys.length = m + 1 ∧ ∀ x ∈ ys, -1 ≤ x ∧ x ≤ 1) ∧ Hid (wr.ownsRow w.heap.size 3 1 (.slice (some ⟨g, 0, none⟩) (m + 1) c') (m + 1) (ys.map (Value.int .i64))) ∧ Hid (Cur wr q p a n cap) ∧ Hid (w.grownBy wr (some p))) (fun i _ => m + 1 - (intOf i).toNat)
          case atStart => exact ⟨0, xs, by omega, rfl, Lib.hid ⟨HXL.out, HXT.out⟩, HO2, C2, HG2⟩
          case round =>
            obtain ⟨j, ys, hj, rfl, Y, HO3, C3, HG3⟩ := hrel
            by_cases hlt : j < m + 1
            · have fz := HO3.out.frozenAt j
              have ck := HO3.out.cellAt j (by omega)
              rw [List.getElem?_eq_getElem (by rw [List.length_map, Y.out.1]; exact hlt)] at ck
              obtain ⟨s1, s2, s3⟩ := drawn_put hpl HO3.out C3.out HG3.out j 1
              go_wp2
              exact ⟨⟨j + 1, ys.set j 1, by omega, by go_num, Lib.hid ⟨by rw [List.length_set]; exact Y.out.1, trits_set Y.out.2 j (by decide)⟩, Lib.hid s1, Lib.hid s2, Lib.hid s3⟩, by simp [intOf]; omega⟩
            · obtain rfl : j = m + 1 := by omega
              go_wp2
              go_ret
              obtain ⟨y1, y2⟩ := Y.out
              have ho := HO3.out
              rw [← y1] at ho
              exact ⟨ys, some ⟨g, 0, none⟩, c', by rw [y1]; rfl, isW_of y2 (by omega) (by omega), by omega, ho, C3.out, HG3.out⟩
      · by_cases h1 : y = 1
        · subst h1
          skip
          · go_wp2_with fail
            go_loopw [42] (fun i wr => ∃ (j : Nat) (ys : List Int), j ≤ m + 1 ∧ i = .int .i64 j ∧ Hid (ys.length = m + 1 ∧ ∀ x ∈ ys, -1 ≤ x ∧ x ≤ 1) ∧ Hid (wr.ownsRow w.heap.size 3 1 (.slice (some ⟨g, 0, none⟩) (m + 1) c') (m + 1) (ys.map (Value.int .i64))) ∧ Hid (Cur wr q p a n cap) ∧ Hid (w.grownBy wr (some p))) (fun i _ => m + 1 - (intOf i).toNat)
            case atStart => exact ⟨0, xs, by omega, rfl, Lib.hid ⟨HXL.out, HXT.out⟩, HO2, C2, HG2⟩
            case round =>
              obtain ⟨j, ys, hj, rfl, Y, HO3, C3, HG3⟩ := hrel
              by_cases hlt : j < m + 1
              · have fz := HO3.out.frozenAt j
                have ck := HO3.out.cellAt j (by omega)
                rw [List.getElem?_eq_getElem (by rw [List.length_map, Y.out.1]; exact hlt)] at ck
                obtain ⟨s1, s2, s3⟩ := drawn_put hpl HO3.out C3.out HG3.out j (-1)
                go_wp2
                exact ⟨⟨j + 1, ys.set j (-1), by omega, by go_num, Lib.hid ⟨by rw [List.length_set]; exact Y.out.1, trits_set Y.out.2 j (by decide)⟩, Lib.hid s1, Lib.hid s2, Lib.hid s3⟩, by simp [intOf]; omega⟩
              · obtain rfl : j = m + 1 := by omega
                go_wp2
                go_ret
                obtain ⟨y1, y2⟩ := Y.out
                have ho := HO3.out
                rw [← y1] at ho
                exact ⟨ys, some ⟨g, 0, none⟩, c', by rw [y1]; rfl, isW_of y2 (by omega) (by omega), by omega, ho, C3.out, HG3.out⟩
        · by_cases h2 : y = 2
          · subst h2
            skip
            · go_wp2_with fail
              go_loopw [53] (fun i wr => ∃ (j : Nat) (ys : List Int), j ≤ m + 1 ∧ i = .int .i64 j ∧ Hid (ys.length = m + 1 ∧ ∀ x ∈ ys, -1 ≤ x ∧ x ≤ 1) ∧ Hid (wr.ownsRow w.heap.size 3 1 (.slice (some ⟨g, 0, none⟩) (m + 1) c') (m + 1) (ys.map (Value.int .i64))) ∧ Hid (Cur wr q p a n cap) ∧ Hid (w.grownBy wr (some p))) (fun i _ => m + 1 - (intOf i).toNat)
              case atStart => exact ⟨0, xs, by omega, rfl, Lib.hid ⟨HXL.out, HXT.out⟩, HO2, C2, HG2⟩
              case round =>
                obtain ⟨j, ys, hj, rfl, Y, HO3, C3, HG3⟩ := hrel
                by_cases hlt : j < m + 1
                · have fz := HO3.out.frozenAt j
                  have ck := HO3.out.cellAt j (by omega)
                  rw [List.getElem?_eq_getElem (by rw [List.length_map, Y.out.1]; exact hlt)] at ck
                  obtain ⟨s1, s2, s3⟩ := drawn_put hpl HO3.out C3.out HG3.out j 0
                  go_wp2
                  exact ⟨⟨j + 1, ys.set j 0, by omega, by go_num, Lib.hid ⟨by rw [List.length_set]; exact Y.out.1, trits_set Y.out.2 j (by decide)⟩, Lib.hid s1, Lib.hid s2, Lib.hid s3⟩, by simp [intOf]; omega⟩
                · obtain rfl : j = m + 1 := by omega
                  go_wp2
                  go_ret
                  obtain ⟨y1, y2⟩ := Y.out
                  have ho := HO3.out
                  rw [← y1] at ho
                  exact ⟨ys, some ⟨g, 0, none⟩, c', by rw [y1]; rfl, isW_of y2 (by omega) (by omega), by omega, ho, C3.out, HG3.out⟩
          · have e0 : (y == 0) = false := by simpa using h0
            have e1 : (y == 1) = false := by simpa using h1
            have e2 : (y == 2) = false := by simpa using h2
            go_wp2_with fail
            go_ret
            have ho := HO2.out
            have hl := HXL.out
            rw [← hl] at ho
            exact ⟨xs, some ⟨g, 0, none⟩, c', by rw [hl]; rfl, isW_of HXT.out (by omega) (by omega), by omega, ho, C2.out, HG2.out⟩
end Go.Proofs.Ytfmpnkckaceigaa

/- The program writes a program. -/
import Derived.Test.YtfnhoiomdjmjhaaDoorFcI
import Derived.Test.YtfnhoiomdjmjhaaDoorShelf
import Derived.Laws.OwnMore
namespace Go.Proofs.YtfnhoiomdjmjhaaDoor
set_option maxRecDepth 20000
open Go.RowKit
theorem infoStr : (Tryd.prog.info? 9).map (fun i => (i.zero, i.size, i.bytes)) = some (some (.string ⟨#[]⟩), 1, 16) := by kernel_rfl
/-- The texts so far, the rest empty. -/
def rowS (L : List (Nat → Int)) (k : Nat) : List Value := (L.take k).map (fun x => Value.string ⟨(Tm.opT x).toArray⟩) ++ List.replicate (L.length - k) (Value.string ⟨#[]⟩)
theorem rowS_zero (L : List (Nat → Int)) : rowS L 0 = List.replicate L.length (Value.string ⟨#[]⟩) := by simp [rowS]
theorem rowS_all (L : List (Nat → Int)) : rowS L L.length = L.map (fun x => Value.string ⟨(Tm.opT x).toArray⟩) := by simp [rowS]
theorem rowS_at (L : List (Nat → Int)) {k : Nat} (hk : k < L.length) : (rowS L k)[k]? = some (.string ⟨#[]⟩) := by
  unfold rowS
  rw [List.getElem?_append_right (by rw [List.length_map, List.length_take]; omega), List.length_map, List.length_take, List.getElem?_replicate, if_pos (by omega)]
theorem rowS_succ (L : List (Nat → Int)) {k : Nat} (hk : k < L.length) : (rowS L k).set k (.string ⟨(Tm.opT (L.getD k Tm.g0)).toArray⟩) = rowS L (k + 1) := by
  unfold rowS
  have l : ((L.take k).map (fun x => Value.string ⟨(Tm.opT x).toArray⟩)).length = k := by rw [List.length_map, List.length_take]; omega
  rw [List.set_append_right _ _ (by omega), l, Nat.sub_self, show L.length - k = (L.length - (k + 1)) + 1 by omega, List.replicate_succ, List.set_cons_zero, List.take_add_one, List.getElem?_eq_getElem hk, Option.toList_some, List.map_append, List.map_cons, List.map_nil, List.append_assoc, List.getD_eq_getElem?_getD, List.getElem?_eq_getElem hk]
  rfl
set_option maxHeartbeats 2000000 in
theorem iFormatCode (a : Option Addr) (n cL : Nat) (L : List (Nat → Int)) (w : World) (h : OpR w a n cL L) (hT : OpsTab w) (htab : Lib.TabIs Tryd.prog w "internal/strconv.uint64pow10" .u64 Lib.pow10Tab) : Calls Tryd.prog 14 #[.slice a n cL] w fun e w' => e = .returned (.string ⟨(Tm.fmtC L).toArray⟩) ∧ Below w.heap.size w w' := by
  obtain ⟨i0, hi, hz0, hz1, hz2⟩ := info_parts infoStr
  have H := Lib.hid h
  obtain rfl : L.length = n := h.1
  have IC := Lib.hid (iIsCode a L.length cL L w h hT)
  clear h
  unfold Tm.fmtC
  cases hC : Tm.codeOk L with
  | false =>
    rw [hC] at IC
    clear hC
    go_enter Tryd.func14, Tryd.ntmps14
    go_wp2_with fail
    refine IC.out.mono ?_
    rintro e w1 ⟨rfl, hb⟩
    go_wp2
    go_ret
    exact ⟨rfl, hb⟩
  | true =>
    have HO := (Tm.codeOk_iff L).1 hC
    have n80 := HO.1.2
    have OK := Lib.hid HO.2
    have jl := Tm.joinK_len hC L.length (Nat.le_refl _)
    have FO := Lib.hid (fun k (hk : k < L.length) (W : World) (hW : Below w.heap.size w W) => iFormatOp (L.getD k Tm.g0) L.length W (by omega) (OK.out k hk) (hT.below hW) (tab_belowN htab hW))
    rw [hC] at IC
    rw [if_pos rfl, ← Tm.joinK_all]
    have SJ : Hid (∀ (bk : Nat) (W : World), (∀ j, j < L.length → W.cell? ⟨bk, j, none⟩ = (L.map (fun x => Value.string ⟨(Tm.opT x).toArray⟩))[j]?) → bk < W.heap.size → Calls Tryd.prog 33 #[.slice (some ⟨bk, 0, none⟩) L.length L.length, .string ⟨#[59]⟩] W fun e w' => e = .returned (.string ⟨(Tm.joinK L L.length).toArray⟩) ∧ Below W.heap.size W w') := Lib.hid fun bk W hc hb => by
      have E : Lib.join ((L.map (fun x => (⟨(Tm.opT x).toArray⟩ : ByteArray))).map (·.data.toList)) (⟨#[59]⟩ : ByteArray).data.toList = Tm.joinK L L.length := by
        rw [Tm.joinK_all, List.map_map]
        (try congr 1)
        first
          | done
          | (apply List.map_congr_left
             intro x _
             simp)
      have J := Tryd.strings_Join bk 0 L.length (L.map (fun x => (⟨(Tm.opT x).toArray⟩ : ByteArray))) ⟨#[59]⟩ W (fun j x hj => by
        have hl : j < L.length := by have := (List.getElem?_eq_some_iff.1 hj).1; rwa [List.length_map] at this
        rw [Nat.zero_add, hc j hl, List.getElem?_map]
        rw [List.getElem?_map] at hj
        cases hx : L[j]? with
        | none => rw [hx] at hj; cases hj
        | some g => rw [hx] at hj; simp at hj; subst hj; rfl) hb (by rw [List.length_map]; omega) (by rw [List.length_map]; exact Nat.le_refl _) (by rw [E]; omega)
      rw [List.length_map, E] at J
      exact J
    clear hC HO hT htab jl
    go_enter Tryd.func14, Tryd.ntmps14
    go_wp2_with fail
    refine IC.out.mono ?_
    rintro e w1 ⟨rfl, hb1⟩
    have s1 := hb1.size
    go_wp2_with (at_make; refine wpList_make_full _ rfl _ _ 58 rfl w.heap.size 9 i0 (.string ⟨#[]⟩) 1 Tryd.underlying58 hi hz0 hz1 _ _ _ _ L.length rfl rfl rfl rfl ?b1 ?b2 ?b3 ?_)
    case b1 => rw [hz2]; omega
    case b2 => unfold maxLen; omega
    case b3 => exact s1
    intro w2 hown hgrow
    have hb2 : Below w1.heap.size w1 w2 := (Below.refl _ _).grown hgrow (Nat.le_refl _) (fun k hk => by cases hk)
    have s2 := hb2.size
    have OW : Hid (w2.ownsRow w.heap.size 9 1 (.slice (some ⟨w1.heap.size, 0, none⟩) L.length L.length) L.length (rowS L 0)) := Lib.hid (by
      rw [rowS_zero]; rw [toList_madeCells_one] at hown; exact hown)
    have B2 := Lib.hid (hb1.trans (hb2.mono s1))
    clear hown hgrow hb1 hb2
    go_wp2_with fail
    go_loopw [14] (fun i wr => ∃ k : Nat, k ≤ L.length ∧ i = .int .i64 k ∧ Hid (wr.ownsRow w.heap.size 9 1 (.slice (some ⟨w1.heap.size, 0, none⟩) L.length L.length) L.length (rowS L k)) ∧ Hid (Below w.heap.size w wr)) (fun i _ => L.length - (intOf i).toNat)
    case atStart => exact ⟨0, by omega, rfl, OW, B2⟩
    case round =>
      clear OW B2
      obtain ⟨k, hk, rfl, OW, HB⟩ := hrel
      by_cases hlt : k < L.length
      · obtain ⟨-, -, -, y⟩ := H.out.below HB.out
        rcases y with h0 | ⟨b, oo, rfl, hbl, hc⟩
        · omega
        obtain ⟨x, hx, g1⟩ := OpR.op hc hlt
        obtain ⟨p0, p1, p2, p3⟩ := g1
        have hs := HB.out.size
        obtain ⟨bt, hbt⟩ : ∃ b : ByteArray, b = ⟨(Tm.opT x).toArray⟩ := ⟨_, rfl⟩
        have FK := Lib.hid (FO.out k hlt (wr.alloc (.cells #[.int .i64 (x 0), .int .i64 (x 1), .int .i64 (x 2), .int .i64 (x 3)] 35)) (HB.out.alloc hs _))
        have RS := Lib.hid (rowS_succ L hlt)
        rw [← hx] at FK RS
        rw [← hbt] at FK RS
        have k0 : (0 : Int) ≤ (k : Int) := by omega
        have k1 : (k : Int) < (L.length : Int) := by omega
        clear hc hx hbt
        go_wp2_with fail
        refine FK.out.mono ?_
        rintro e w5 ⟨rfl, hb5⟩
        have s5 := hb5.size
        simp only [World.size_alloc] at s5
        have b5 : Below wr.heap.size wr w5 := ((Below.refl _ _).alloc (Nat.le_refl _) _).trans (hb5.mono (by simp))
        have O5 := own_below OW.out b5
        have fz := O5.frozenAt
        have lz := (O5.lt w1.heap.size rfl).2
        have ce := O5.cellAt k (by omega)
        rw [rowS_at L hlt] at ce
        have st := O5.stored k (.string bt)
        rw [RS.out] at st
        have O6 := Lib.hid st.1
        have B5 : Hid (Below w.heap.size w (w5.setCell ⟨w1.heap.size, k, none⟩ (.string bt))) := Lib.hid ((HB.out.trans (b5.mono hs)).setCell s1 _)
        clear st hb5 b5 O5 p0 p1 p2 p3
        go_wp2
        exact ⟨⟨k + 1, by omega, by go_num, O6, B5⟩, by simp [intOf]; omega⟩
      · obtain rfl : k = L.length := by omega
        have J := Lib.hid (SJ.out w1.heap.size wr (fun j hj => by rw [OW.out.cellAt j (by omega), rowS_all]) (OW.out.lt w1.heap.size rfl).2)
        go_wp2_with fail
        refine J.out.mono ?_
        rintro e w6 ⟨rfl, hb6⟩
        have B6 := Lib.hid (HB.out.trans (hb6.mono HB.out.size))
        clear hb6
        go_wp2
        go_ret
        exact ⟨rfl, B6.out⟩
end Go.Proofs.YtfnhoiomdjmjhaaDoor

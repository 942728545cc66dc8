/- Plain facts: texts of floats, read back. -/
import Derived.Test.YtpmdkifnejkofaaDoorDT
import Derived.Test.YtpmdkifnejkofaaDoorLValues
namespace Go.Proofs.YtpmdkifnejkofaaDoor
set_option maxRecDepth 20000
open Go.RowKit
namespace Tm
def dg (b : UInt8) : Nat := b.toNat - 48
def isDg (b : UInt8) : Bool := decide (48 ≤ b.toNat ∧ b.toNat ≤ 57)
def dv (l : List UInt8) : Nat := l.foldl (fun a b => 10 * a + dg b) 0
def rdU (l : List UInt8) : Bool := decide (1 ≤ l.length ∧ l.length ≤ 15 ∧ ¬ (l.head? = some 48 ∧ 1 < l.length)) && l.all isDg
def ngT (l : List UInt8) : Bool := decide (1 < l.length ∧ l[0]? = some 45 ∧ l[1]? ≠ some 45)
def rdUV (l : List UInt8) : Nat := if rdU l then dv l else 0
def rdOk5 (l : List UInt8) : Bool := if ngT l then rdU l.tail && decide (rdUV l.tail ≠ 0) else rdU l
def rdV5 (l : List UInt8) : Int := if ngT l then -(rdUV l.tail : Int) else rdUV l
theorem dv_app (l : List UInt8) (b : UInt8) : dv (l ++ [b]) = 10 * dv l + dg b := by rw [dv, List.foldl_append]; rfl
theorem fold_ge (l : List UInt8) (a : Nat) : a ≤ l.foldl (fun a b => 10 * a + dg b) a := by
  induction l generalizing a with
  | nil => exact Nat.le_refl _
  | cons b l ih => exact Nat.le_trans (show a ≤ 10 * a + dg b by omega) (ih _)
theorem dv_bd (l : List UInt8) (h : l.all isDg = true) : dv l < 10 ^ l.length := by
  have key : ∀ (l : List UInt8) (a k : Nat), l.all isDg = true → a < 10 ^ k → l.foldl (fun a b => 10 * a + dg b) a < 10 ^ (k + l.length) := by
    intro l
    induction l with
    | nil => intro a k _ h; exact h
    | cons b l ih =>
      intro a k hl h
      rw [List.all_cons, Bool.and_eq_true] at hl
      have hb := of_decide_eq_true hl.1
      have := ih (10 * a + dg b) (k + 1) hl.2 (by unfold dg; rw [Nat.pow_succ]; omega)
      rw [List.length_cons, show k + (l.length + 1) = k + 1 + l.length by omega]
      exact this
  have := key l 0 0 h (by simp)
  rwa [Nat.zero_add] at this
theorem of_dg {b : UInt8} (h : isDg b = true) : UInt8.ofNat (48 + dg b) = b := by
  have hb := of_decide_eq_true h
  rw [dg, show 48 + (b.toNat - 48) = b.toNat by omega]
  simp
theorem rdU_dec {l : List UInt8} (h : rdU l = true) (h2 : dv l ≤ 20) : l = decN 20 (dv l) := by
  rw [rdU, Bool.and_eq_true, decide_eq_true_eq] at h
  obtain ⟨⟨h1, -, h3⟩, h4⟩ := h
  match l, h1, h3, h4, h2 with
  | [b], _, _, h4, h2 =>
    simp only [List.all_cons, List.all_nil, Bool.and_true] at h4
    have hb := of_decide_eq_true h4
    have e : dv [b] = dg b := by simp [dv]
    rw [e, decN_one (by unfold dg; omega), of_dg h4]
  | [b, c], _, h3, h4, h2 =>
    simp only [List.all_cons, List.all_nil, Bool.and_true, Bool.and_eq_true] at h4
    have hb := of_decide_eq_true h4.1
    have hc := of_decide_eq_true h4.2
    have e : dv [b, c] = 10 * dg b + dg c := by simp [dv]
    have b0 : b.toNat ≠ 48 := fun hh => h3 ⟨by rw [List.head?_cons, ← UInt8.toNat_inj.1 (show b.toNat = (48 : UInt8).toNat from hh)], by simp⟩
    have d1 : 1 ≤ dg b ∧ dg b ≤ 9 := by unfold dg; omega
    have d2 : dg c ≤ 9 := by unfold dg; omega
    rw [e, decN_two (by omega) (by omega), show (10 * dg b + dg c) / 10 = dg b by omega, show (10 * dg b + dg c) % 10 = dg c by omega, of_dg h4.1, of_dg h4.2]
  | b :: c :: d :: r, _, h3, h4, h2 =>
    exfalso
    have hb := of_decide_eq_true (List.all_eq_true.1 h4 b (by simp))
    have b0 : b.toNat ≠ 48 := fun hh => h3 ⟨by rw [List.head?_cons, ← UInt8.toNat_inj.1 (show b.toNat = (48 : UInt8).toNat from hh)], by simp⟩
    have d1 : 1 ≤ dg b := by unfold dg; omega
    have g := fold_ge r (10 * (10 * (10 * 0 + dg b) + dg c) + dg d)
    have e : dv (b :: c :: d :: r) = r.foldl (fun a b => 10 * a + dg b) (10 * (10 * (10 * 0 + dg b) + dg c) + dg d) := rfl
    omega
theorem rd_dec {l : List UInt8} (h : rdOk5 l = true) (h2 : -20 ≤ rdV5 l ∧ rdV5 l ≤ 20) : l = decZ (rdV5 l) := by
  rw [rdOk5] at h
  rw [rdV5] at h2 ⊢
  by_cases g : ngT l = true
  · rw [if_pos g] at h h2 ⊢
    rw [Bool.and_eq_true, decide_eq_true_eq] at h
    have u : rdUV l.tail = dv l.tail := by rw [rdUV, if_pos h.1]
    rw [u] at h h2 ⊢
    have d := rdU_dec h.1 (by omega)
    have hg := of_decide_eq_true g
    rw [decZ, if_pos (by omega), show (-(-(dv l.tail : Int))).toNat = dv l.tail by omega, ← d]
    obtain ⟨g1, g2, -⟩ := hg
    match l, g1, g2 with
    | b :: r, _, g2 =>
      rw [List.getElem?_cons_zero] at g2
      rw [Option.some.inj g2]; rfl
  · rw [if_neg g] at h h2 ⊢
    have u : rdUV l = dv l := by rw [rdUV, if_pos h]
    rw [u] at h2 ⊢
    rw [decZ, if_neg (by omega), show (dv l : Int).toNat = dv l by omega]
    exact rdU_dec h (by omega)
theorem dec_all : ∀ k : Fin 41, rdOk5 (decZ ((k.val : Int) - 20)) = true ∧ rdV5 (decZ ((k.val : Int) - 20)) = (k.val : Int) - 20 ∧ (decZ ((k.val : Int) - 20)).length ≤ 3 ∧ 1 ≤ (decZ ((k.val : Int) - 20)).length := by decide +kernel
theorem dec_rd {e : Int} (h : -20 ≤ e ∧ e ≤ 20) : rdOk5 (decZ e) = true ∧ rdV5 (decZ e) = e ∧ (decZ e).length ≤ 3 ∧ 1 ≤ (decZ e).length := by
  have := dec_all ⟨(e + 20).toNat, by omega⟩
  simp only [show (((e + 20).toNat : Int) - 20) = e by omega] at this
  exact this
/-- s is the text of the valid float ds, e. -/
def isP (s : ByteArray) (ds : List Int) (e : Int) : Prop := isF ds e = true ∧ s.data.toList = fmtW ds ++ (120 :: decZ e)
theorem isP_fmt {s : ByteArray} {ds : List Int} {e : Int} (h : isF ds e = true) : s = ⟨(fmtF ds e).toArray⟩ ↔ s.data.toList = fmtW ds ++ (120 :: decZ e) := by
  rw [fmtF, if_pos h]
  constructor
  · rintro rfl; simp
  · intro g
    apply ByteArray.ext
    apply Array.toList_inj.1
    simp [g]
theorem fmt6 {ds : List Int} {e : Int} (h : isF ds e = true) : (fmtW ds).length = 6 := by
  obtain ⟨h1, h2, -⟩ := (isF_iff _ _).1 h
  rw [fmtW, if_pos h1, txt_len, h2]
theorem isP_parts {s : ByteArray} {ds : List Int} {e : Int} (h : isP s ds e) : s.size = 7 + (decZ e).length ∧ s.data.toList[6]? = some 120 ∧ s.extract 0 6 = ⟨(fmtW ds).toArray⟩ ∧ s.extract 7 s.size = ⟨(decZ e).toArray⟩ := by
  obtain ⟨h1, h2⟩ := h
  have l6 := fmt6 h1
  have sz : s.size = 7 + (decZ e).length := by
    have : s.size = s.data.toList.length := by rw [Array.length_toList]; rfl
    rw [this, h2, List.length_append, List.length_cons, l6]; omega
  refine ⟨sz, by rw [h2, List.getElem?_append_right (by omega), l6]; rfl, ?_, ?_⟩
  · apply ByteArray.ext
    apply Array.toList_inj.1
    rw [ByteArray.data_extract, Array.toList_extract, h2]
    simp [l6]
  · apply ByteArray.ext
    apply Array.toList_inj.1
    rw [ByteArray.data_extract, Array.toList_extract, h2, List.extract_eq_take_drop, show (7 : Nat) = (fmtW ds).length + 1 by omega, List.drop_append]
    simp only [sz, List.drop_of_length_le (show (fmtW ds).length ≤ (fmtW ds).length + 1 by omega), List.nil_append]
    simp [l6]
theorem isP_uniq {s : ByteArray} {ds ds' : List Int} {e e' : Int} (h : isP s ds e) (h' : isP s ds' e') : ds = ds' ∧ e = e' := by
  have p := isP_parts h
  have p' := isP_parts h'
  obtain ⟨w1, -, b1, -⟩ := (isF_iff _ _).1 h.1
  obtain ⟨w2, -, b2, -⟩ := (isF_iff _ _).1 h'.1
  have q1 := (prs_fmt w1).2
  have q2 := (prs_fmt w2).2
  rw [← p.2.2.1] at q1
  rw [← p'.2.2.1] at q2
  refine ⟨q1.symm.trans q2, ?_⟩
  have z := p.2.2.2.symm.trans p'.2.2.2
  have z2 : decZ e = decZ e' := by simpa using z
  rw [← (dec_rd b1).2.1, ← (dec_rd b2).2.1, z2]
noncomputable def prOk (s : ByteArray) : Bool := @decide (∃ ds e, isP s ds e) (Classical.propDecidable _)
noncomputable def prD (s : ByteArray) : List Int := @dite _ (∃ ds e, isP s ds e) (Classical.propDecidable _) (fun h => Classical.choose h) (fun _ => [])
noncomputable def prE (s : ByteArray) : Int := @dite _ (∃ ds e, isP s ds e) (Classical.propDecidable _) (fun h => Classical.choose (Classical.choose_spec h)) (fun _ => 0)
theorem pr_yes {s : ByteArray} {ds : List Int} {e : Int} (h : isP s ds e) : prOk s = true ∧ prD s = ds ∧ prE s = e := by
  have H : ∃ ds e, isP s ds e := ⟨ds, e, h⟩
  have c := Classical.choose_spec (Classical.choose_spec H)
  have u := isP_uniq c h
  refine ⟨@decide_eq_true _ (Classical.propDecidable _) H, ?_, ?_⟩
  · rw [prD, dif_pos H]; exact u.1
  · rw [prE, dif_pos H]; exact u.2
theorem pr_no {s : ByteArray} (h : ¬ ∃ ds e, isP s ds e) : prOk s = false ∧ prD s = [] ∧ prE s = 0 :=
  ⟨@decide_eq_false _ (Classical.propDecidable _) h, by rw [prD, dif_neg h], by rw [prE, dif_neg h]⟩
theorem sg_rd {b : UInt8} (h : isT (rd (b.toNat : Int)) = true) : sg (rd (b.toNat : Int)) = b := by
  have c : b.toNat = 45 ∨ b.toNat = 48 ∨ b.toNat = 43 := by
    rw [isT_iff] at h
    unfold rd at h
    split at h
    · omega
    · split at h
      · omega
      · split at h
        · omega
        · omega
  rcases c with c | c | c
  · rw [UInt8.toNat_inj.1 (show b.toNat = (45 : UInt8).toNat from c)]; decide
  · rw [UInt8.toNat_inj.1 (show b.toNat = (48 : UInt8).toNat from c)]; decide
  · rw [UInt8.toNat_inj.1 (show b.toNat = (43 : UInt8).toNat from c)]; decide
theorem fmt_prs {t : ByteArray} (h : prsOk t = true) : fmtW (prs t) = t.data.toList := by
  have hw : isW (prsL t) = true := by rw [prsOk, Bool.and_eq_true] at h; exact h.2
  rw [prs, if_pos h, fmtW, if_pos hw, txt]
  apply List.ext_getElem (by rw [List.length_reverse, List.length_map, prsL_length, Array.length_toList]; rfl)
  intro i h1 h2
  have hs : i < t.size := by rw [Array.length_toList] at h2; exact h2
  rw [List.getElem_reverse, List.getElem_map]
  have e : (prsL t)[(prsL t).length - 1 - i]'(by rw [prsL_length]; omega) = rd (t[i].toNat : Int) := by
    rw [getD_at _ _ (by rw [prsL_length]; omega), prsL_get _ _ (by rw [prsL_length]; omega), prsL_length, show t.size - 1 - (t.size - 1 - i) = i by omega, bt_at t i hs]
  have tt := isT_at hw ((prsL t).length - 1 - i) (by rw [prsL_length]; omega)
  rw [e] at tt
  have e2 : (List.map sg (prsL t)).length - 1 - i = (prsL t).length - 1 - i := by rw [List.length_map]
  simp only [e2]
  rw [e, sg_rd tt]; rfl
/-- What the model tests. -/
theorem model_ok {s : ByteArray} (h8 : 8 ≤ s.size) (h6 : s.data.toList[6]? = some 120) (hp : prsOk (s.extract 0 6) = true) (hr : rdOk5 (s.extract 7 s.size).data.toList = true) (hf : isF (prs (s.extract 0 6)) (rdV5 (s.extract 7 s.size).data.toList) = true) :
    isP s (prs (s.extract 0 6)) (rdV5 (s.extract 7 s.size).data.toList) := by
  have b := ((isF_iff _ _).1 hf).2.2.1
  refine ⟨hf, ?_⟩
  rw [fmt_prs hp, ← rd_dec hr b]
  have hl : s.size = s.data.toList.length := by rw [Array.length_toList]; rfl
  rw [ByteArray.data_extract, ByteArray.data_extract, Array.toList_extract, Array.toList_extract, List.extract_eq_take_drop, List.extract_eq_take_drop]
  generalize s.data.toList = l at *
  rw [hl, List.drop_zero, List.take_of_length_le (l := l.drop 7) (by simp)]
  have g6 : l[6]? = some (l[6]'(by omega)) := List.getElem?_eq_getElem (by omega)
  rw [g6] at h6
  have e := List.drop_eq_getElem_cons (show 6 < l.length by omega)
  rw [Option.some.inj h6] at e
  rw [← e]
  exact (List.take_append_drop 6 l).symm
theorem model_has {s : ByteArray} {ds : List Int} {e : Int} (h : isP s ds e) : 8 ≤ s.size ∧ s.data.toList[6]? = some 120 ∧ prsOk (s.extract 0 6) = true ∧ prs (s.extract 0 6) = ds ∧ rdOk5 (s.extract 7 s.size).data.toList = true ∧ rdV5 (s.extract 7 s.size).data.toList = e := by
  obtain ⟨p1, p2, p3, p4⟩ := isP_parts h
  obtain ⟨w1, -, b1, -⟩ := (isF_iff _ _).1 h.1
  have q := prs_fmt w1
  have d := dec_rd b1
  rw [p3, p4]
  exact ⟨by omega, p2, q.1, q.2, by simpa using d.1, by simpa using d.2.1⟩
theorem idx_at (l1 l2 : List UInt8) (c : UInt8) (h : ∀ x ∈ l1, x ≠ c) : Lib.indexByte (l1 ++ c :: l2) c = (l1.length : Int) := by
  induction l1 with
  | nil => simp [Lib.indexByte]
  | cons x l1 ih =>
    have hx : (x == c) = false := by simpa using h x (by simp)
    have := ih fun y hy => h y (by simp [hy])
    rw [List.cons_append, Lib.indexByte, hx, this]
    have e : ((l1.length : Int) == -1) = false := by first | (simp; done) | (simp; omega)
    simp [e]
theorem idx_fmt {s : ByteArray} {ds : List Int} {e : Int} (h : isP s ds e) : Lib.indexByte s.data.toList 120 = 6 := by
  rw [h.2, idx_at _ _ _ (fun x hx => ?_), fmt6 h.1]
  · rfl
  · rw [fmtW] at hx
    split at hx
    · rw [txt, List.mem_reverse, List.mem_map] at hx
      obtain ⟨t, -, rfl⟩ := hx
      unfold sg; split <;> (try split) <;> decide
    · simp at hx
theorem atoi_all : ∀ k : Fin 41, (match Lib.atoiAll (decZ ((k.val : Int) - 20)) with | .ok v => decide (v = (k.val : Int) - 20) | _ => false) = true := by decide +kernel
theorem atoi_dec {e : Int} (h : -20 ≤ e ∧ e ≤ 20) : Lib.atoiAll (decZ e) = .ok e := by
  have := atoi_all ⟨(e + 20).toNat, by omega⟩
  simp only [show (((e + 20).toNat : Int) - 20) = e by omega] at this
  cases g : Lib.atoiAll (decZ e) with
  | ok v => rw [g] at this; rw [of_decide_eq_true this]
  | _ => rw [g] at this; cases this
end Tm
end Go.Proofs.YtpmdkifnejkofaaDoor

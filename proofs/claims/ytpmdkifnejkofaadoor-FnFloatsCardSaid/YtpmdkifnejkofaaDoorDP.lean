/- Texts of floats are read: the model and the program. -/
import Derived.Test.YtpmdkifnejkofaaDoorPF
import Derived.Test.YtpmdkifnejkofaaDoorBox
namespace Go.Proofs.YtpmdkifnejkofaaDoor
set_option maxRecDepth 20000
open Go.RowKit
theorem bt_list (s : ByteArray) (i : Nat) (h : i < s.size) : s.data.toList[i]? = some s[i] := by
  rw [List.getElem?_eq_getElem (by rw [Array.length_toList]; exact h)]; rfl
theorem ix_run (s : ByteArray) (i : Nat) (h : i < s.size) (w : World) : (Instr.index 9 (.string s) (.int .i64 (i : Int))).run Tryd.prog w = .ok (.int .u8 (s[i].toNat : Int)) w := by
  simp [run_index_string (P := Tryd.prog), Tryd.underlying9, h]
/-- What a text is cut into at the first byte 120. -/
def cutU (s : ByteArray) : ByteArray := if 0 ≤ Lib.indexByte s.data.toList 120 then s.extract 0 (Lib.indexByte s.data.toList 120).toNat else s
def cutV (s : ByteArray) : ByteArray := if 0 ≤ Lib.indexByte s.data.toList 120 then s.extract ((Lib.indexByte s.data.toList 120) + 1).toNat s.size else ⟨#[]⟩
def cutB (s : ByteArray) : Bool := decide (0 ≤ Lib.indexByte s.data.toList 120)
theorem idx_lt (l : List UInt8) (c : UInt8) : -1 ≤ Lib.indexByte l c ∧ Lib.indexByte l c < (l.length : Int) := by
  induction l with
  | nil => simp [Lib.indexByte]
  | cons x l ih =>
    rw [Lib.indexByte, List.length_cons]
    split
    · omega
    · split <;> omega
theorem iCutLite (s : ByteArray) (w : World) (hs : s.size ≤ 1048576) : Calls Tryd.prog 39 #[.string s, .string ⟨#[120]⟩] w fun e w' => e = .returned (.tuple #[.string (cutU s), .string (cutV s), .bool (cutB s)]) ∧ ∃ n, w' = w.drewN n := by
  have IB := Lib.hid (fun w => Tryd.stringslite_Index_one s 120 w)
  have b := idx_lt s.data.toList 120
  rw [Array.length_toList, show s.data.size = s.size from rfl] at b
  unfold cutU cutV cutB
  obtain ⟨i, hi⟩ : ∃ i, i = Lib.indexByte s.data.toList 120 := ⟨_, rfl⟩
  rw [← hi] at IB b ⊢
  obtain ⟨b1, b2⟩ := b
  clear hi
  by_cases c : 0 ≤ i
  · rw [if_pos c, if_pos c, decide_eq_true c]
    obtain ⟨k, rfl⟩ := Int.eq_ofNat_of_zero_le c
    have s1 : IntKind.i64.wrap ((k : Int) + 1) = (k : Int) + 1 := IntWalk.i64_in _ (by omega)
    go_enter Tryd.func39, Tryd.ntmps39
    go_wp2_with fail
    refine (IB.out _).mono ?_
    rintro r w' ⟨rfl, rfl⟩
    go_wp2
    go_quiet (fail)
    go_wp2
    go_ret3
    exact ⟨rfl, _, rfl⟩
  · rw [if_neg c, if_neg c, decide_eq_false c]
    go_enter Tryd.func39, Tryd.ntmps39
    go_wp2_with fail
    refine (IB.out _).mono ?_
    rintro r w' ⟨rfl, rfl⟩
    go_wp2
    go_ret3
    exact ⟨rfl, 0, rfl⟩
theorem iCut (s : ByteArray) (w : World) (hs : s.size ≤ 1048576) : Calls Tryd.prog 25 #[.string s, .string ⟨#[120]⟩] w fun e w' => e = .returned (.tuple #[.string (cutU s), .string (cutV s), .bool (cutB s)]) ∧ Below w.heap.size w w' := by
  have C := Lib.hid (fun w => iCutLite s w hs)
  obtain ⟨u, hu⟩ : ∃ u, u = cutU s := ⟨_, rfl⟩
  obtain ⟨v, hv⟩ : ∃ v, v = cutV s := ⟨_, rfl⟩
  obtain ⟨b, hb⟩ : ∃ b, b = cutB s := ⟨_, rfl⟩
  rw [← hu, ← hv, ← hb] at C ⊢
  clear hu hv hb
  go_enter Tryd.func25, Tryd.ntmps25
  go_wp2_with fail
  refine (C.out _).mono ?_
  rintro r w' ⟨rfl, n, rfl⟩
  go_wp2
  go_ret3
  exact ⟨rfl, by (repeat' (first | (with_reducible exact Below.refl _ _) | (with_reducible assumption) | (with_reducible refine below_drewN ?_ _) | (with_reducible refine Below.drew ?_) | (with_reducible refine Below.alloc ?_ ?_ _) | (with_reducible refine Below.setCell ?_ ?_ _) | (with_reducible refine below_gw ?_ ?_ _) | (with_reducible refine below_via ?_ ‹Below _ _ _› ?_) | (with_reducible exact Nat.le_refl _) | (with_reducible refine le_gw ?_ _) | (with_reducible refine le_alloc ?_ _) | (with_reducible refine le_setCell ?_ _ _) | (with_reducible refine le_drew ?_) | (with_reducible refine le_drewN ?_ _) | go_size))⟩
theorem cut_isP {s : ByteArray} {ds : List Int} {e : Int} (h : Tm.isP s ds e) : cutU s = ⟨(Tm.fmtW ds).toArray⟩ ∧ cutV s = ⟨(Tm.decZ e).toArray⟩ := by
  have p := Tm.isP_parts h
  have i := Tm.idx_fmt h
  unfold cutU cutV
  rw [i]
  exact ⟨p.2.2.1, p.2.2.2⟩
/-- What the program's text is read in: the listed tables and sentinels. -/
def Door (w : World) : Prop := Lib.TabIs Tryd.prog w "internal/strconv.uint64pow10" .u64 Lib.pow10Tab ∧ (∃ tp p, w.var? Tryd.prog "strconv.ErrSyntax" = some #[.iface tp p]) ∧ ∃ tp p, w.var? Tryd.prog "strconv.ErrRange" = some #[.iface tp p]
theorem var_below1 {w w' : World} {nm : String} {cs : Array Value} (h : w.var? Tryd.prog nm = some cs) (hb : Below w.heap.size w w') : w'.var? Tryd.prog nm = some cs := by
  have h0 := h
  unfold World.var? at h
  cases hg : Tryd.prog.globalNamed nm with
  | none => rw [hg] at h; simp at h
  | some g => exact Joins.var_stays hg h0 hb (Nat.le_refl _)
theorem Door.below {w w' : World} (h : Door w) (hb : Below w.heap.size w w') : Door w' := by
  obtain ⟨h1, ⟨t2, p2, h2⟩, t3, p3, h3⟩ := h
  exact ⟨tab_below h1 hb, ⟨t2, p2, var_below1 h2 hb⟩, t3, p3, var_below1 h3 hb⟩
/-- Whatever the text: a number, and something beside it. -/
theorem iAtoi (s : ByteArray) (w : World) (hs : s.size ≤ 1048576) (D : Door w) : Calls Tryd.prog 27 #[.string s] w fun e w' => ∃ (n : Int) (v : Value), e = .returned (.tuple #[.int .i64 n, v]) ∧ (∀ k, Lib.atoiAll s.data.toList = .ok k → n = k) ∧ Below w.heap.size w w' := by
  obtain ⟨-, ⟨t2, p2, h2⟩, t3, p3, h3⟩ := D
  cases g : Lib.atoiAll s.data.toList with
  | ok k =>
    refine (Tryd.strconv_Atoi_ok s (by omega) k g w).mono ?_
    rintro e w' ⟨rfl, hw⟩
    refine ⟨k, _, rfl, fun j hj => by cases hj; rfl, ?_⟩
    rcases hw with rfl | ⟨t, rfl⟩
    · exact Below.refl _ _
    · exact Lib.bytesWorld_below _ _ _
  | range =>
    refine (Tryd.strconv_Atoi_range_var s (by omega) g t3 p3 w h3).mono ?_
    rintro e w' ⟨N, rfl, -, -, hb⟩
    exact ⟨_, _, rfl, (fun j hj => by cases hj), hb⟩
  | _ =>
    refine (Any.strconv_Atoi_syntax_var Tryd.laysC172 s (by omega) g t2 p2 w h2).mono ?_
    rintro e w' ⟨N, rfl, -, -, hb⟩
    exact ⟨_, _, rfl, (fun j hj => by cases hj), hb⟩
theorem cut_size (s : ByteArray) : (cutU s).size ≤ s.size ∧ (cutV s).size ≤ s.size := by
  unfold cutU cutV
  constructor
  · split
    · rw [ByteArray.size_extract]; omega
    · exact Nat.le_refl _
  · split
    · rw [ByteArray.size_extract]; omega
    · exact Nat.zero_le _
set_option maxRecDepth 20000 in
set_option maxHeartbeats 1000000 in
theorem iParseFloat (s : ByteArray) (w : World) (hs : s.size ≤ 1048576) (D : Door w) : Calls Tryd.prog 8 #[.string s] w (RetFB 3 w (Tm.prD s) (Tm.prE s) (Tm.prOk s)) := by
  have HD := Lib.hid D
  clear D
  have CU := Lib.hid (fun w => iCut s w hs)
  have cs := cut_size s
  obtain ⟨u, hu⟩ : ∃ u, u = cutU s := ⟨_, rfl⟩
  obtain ⟨v, hv⟩ : ∃ v, v = cutV s := ⟨_, rfl⟩
  obtain ⟨b, hb⟩ : ∃ b, b = cutB s := ⟨_, rfl⟩
  rw [← hu, ← hv, ← hb] at CU
  rw [← hu, ← hv] at cs
  have PW := Lib.hid (fun w => iParseWord u w)
  have AT := Lib.hid (fun w D => iAtoi v w (by omega) D)
  have U := Lib.hid hu
  have V := Lib.hid hv
  obtain ⟨xs, hxs⟩ : ∃ xs, xs = Tm.prs u := ⟨_, rfl⟩
  obtain ⟨o, ho⟩ : ∃ o, o = Tm.prsOk u := ⟨_, rfl⟩
  rw [← hxs, ← ho] at PW
  have XS := Lib.hid hxs
  clear hu hv hb hxs ho cs
  by_cases P : ∃ ds e, Tm.isP s ds e
  · obtain ⟨ds, e, P⟩ := P
    obtain ⟨r1, r2, r3⟩ := Tm.pr_yes P
    rw [r1, r2, r3]
    go_enter Tryd.func8, Tryd.ntmps8
    go_wp2_with fail
    refine (CU.out _).mono ?_
    rintro r w1 ⟨rfl, hb⟩
    obtain ⟨p, rfl⟩ := gw_of_below hb
    clear hb
    go_wp2_with fail
    refine (PW.out _).mono ?_
    rintro r w1 ⟨a1, c1, rfl, hown, hb, ln⟩
    have I1 := Lib.hid (Ints.of_own hown)
    have O1 := Lib.hid hown
    obtain ⟨q, hq⟩ := gw_of_below hb
    rw [gw_gw] at hq
    subst hq
    clear hown hb
    go_wp2_with fail
    refine (AT.out _ (HD.out.below (by (repeat' (first | (with_reducible exact Below.refl _ _) | (with_reducible assumption) | (with_reducible refine below_drewN ?_ _) | (with_reducible refine Below.drew ?_) | (with_reducible refine Below.alloc ?_ ?_ _) | (with_reducible refine Below.setCell ?_ ?_ _) | (with_reducible refine below_gw ?_ ?_ _) | (with_reducible refine below_via ?_ ‹Below _ _ _› ?_) | (with_reducible exact Nat.le_refl _) | (with_reducible refine le_gw ?_ _) | (with_reducible refine le_alloc ?_ _) | (with_reducible refine le_setCell ?_ _ _) | (with_reducible refine le_drew ?_) | (with_reducible refine le_drewN ?_ _) | go_size))))).mono ?_
    rintro r w1 ⟨n, v1, rfl, hn, hb⟩
    have HN := Lib.hid hn
    have I2 := Lib.hid (I1.out.below hb)
    have O2 := Lib.hid (own_below O1.out hb)
    obtain ⟨q2, hq2⟩ := gw_of_below hb
    rw [gw_gw] at hq2
    subst hq2
    clear hn hb I1 O1
    obtain ⟨k1, k2⟩ := cut_isP P
    have w1 := ((Tm.isF_iff _ _).1 P.1)
    have E1 : xs = ds := by rw [XS.out, U.out, k1]; exact (prs_fmt w1.1).2
    have E2 : n = e := HN.out e (by rw [V.out, k2]; simpa using Tm.atoi_dec w1.2.2.1)
    subst E1 E2
    have IF := Lib.hid (fun (a : Option Addr) (c : Nat) (w : World) (h : Ints w a xs.length c xs) => iIsFloat a _ c xs n w h)
    rw [P.1] at IF
    have FF := Lib.hid (fun (a : Option Addr) (c : Nat) (w : World) (h : Ints w a xs.length c xs) D => iFormatFloat a _ c xs n w h D)
    rw [← (Tm.isP_fmt P.1).2 P.2] at FF
    clear r1 r2 r3 k1 k2 w1 P U V XS HN
    go_wp2_with fail
    refine (IF.out a1 c1 _ (I2.out.alloc _)).mono ?_
    rintro r w4 ⟨rfl, hb⟩
    have I3 := Lib.hid ((I2.out.alloc _).below hb)
    obtain ⟨q4, rfl⟩ := gw_of_below hb
    clear hb
    go_wp2_with fail
    refine (FF.out a1 c1 _ I3.out (HD.out.below (by (repeat' (first | (with_reducible exact Below.refl _ _) | (with_reducible assumption) | (with_reducible refine below_drewN ?_ _) | (with_reducible refine Below.drew ?_) | (with_reducible refine Below.alloc ?_ ?_ _) | (with_reducible refine Below.setCell ?_ ?_ _) | (with_reducible refine below_gw ?_ ?_ _) | (with_reducible refine below_via ?_ ‹Below _ _ _› ?_) | (with_reducible exact Nat.le_refl _) | (with_reducible refine le_gw ?_ _) | (with_reducible refine le_alloc ?_ _) | (with_reducible refine le_setCell ?_ _ _) | (with_reducible refine le_drew ?_) | (with_reducible refine le_drewN ?_ _) | go_size)))).1).mono ?_
    rintro r w4 ⟨rfl, hb⟩
    obtain ⟨q5, rfl⟩ := gw_of_below hb
    clear hb
    go_wp2
    go_returns
    refine ret_own_fb (own_below (own_weak (own_gw O2.out (by rw [gw_size, World.size_alloc]; omega)) (by rw [gw_size, World.size_alloc]; omega)) (by (repeat' (first | (with_reducible exact Below.refl _ _) | (with_reducible assumption) | (with_reducible refine below_drewN ?_ _) | (with_reducible refine Below.drew ?_) | (with_reducible refine Below.alloc ?_ ?_ _) | (with_reducible refine Below.setCell ?_ ?_ _) | (with_reducible refine below_gw ?_ ?_ _) | (with_reducible refine below_via ?_ ‹Below _ _ _› ?_) | (with_reducible exact Nat.le_refl _) | (with_reducible refine le_gw ?_ _) | (with_reducible refine le_alloc ?_ _) | (with_reducible refine le_setCell ?_ _ _) | (with_reducible refine le_drew ?_) | (with_reducible refine le_drewN ?_ _) | go_size)))) (by (repeat' (first | (with_reducible exact Below.refl _ _) | (with_reducible assumption) | (with_reducible refine below_drewN ?_ _) | (with_reducible refine Below.drew ?_) | (with_reducible refine Below.alloc ?_ ?_ _) | (with_reducible refine Below.setCell ?_ ?_ _) | (with_reducible refine below_gw ?_ ?_ _) | (with_reducible refine below_via ?_ ‹Below _ _ _› ?_) | (with_reducible exact Nat.le_refl _) | (with_reducible refine le_gw ?_ _) | (with_reducible refine le_alloc ?_ _) | (with_reducible refine le_setCell ?_ _ _) | (with_reducible refine le_drew ?_) | (with_reducible refine le_drewN ?_ _) | go_size))) ln
  · obtain ⟨r1, r2, r3⟩ := Tm.pr_no P
    rw [r1, r2, r3]
    go_enter Tryd.func8, Tryd.ntmps8
    go_wp2_with fail
    refine (CU.out _).mono ?_
    rintro r w1 ⟨rfl, hb⟩
    obtain ⟨p, rfl⟩ := gw_of_below hb
    clear hb
    go_wp2_with fail
    refine (PW.out _).mono ?_
    rintro r w1 ⟨a1, c1, rfl, hown, hb, ln⟩
    have I1 := Lib.hid (Ints.of_own hown)
    have O1 := Lib.hid hown
    obtain ⟨q, hq⟩ := gw_of_below hb
    rw [gw_gw] at hq
    subst hq
    clear hown hb
    go_wp2_with fail
    refine (AT.out _ (HD.out.below (by (repeat' (first | (with_reducible exact Below.refl _ _) | (with_reducible assumption) | (with_reducible refine below_drewN ?_ _) | (with_reducible refine Below.drew ?_) | (with_reducible refine Below.alloc ?_ ?_ _) | (with_reducible refine Below.setCell ?_ ?_ _) | (with_reducible refine below_gw ?_ ?_ _) | (with_reducible refine below_via ?_ ‹Below _ _ _› ?_) | (with_reducible exact Nat.le_refl _) | (with_reducible refine le_gw ?_ _) | (with_reducible refine le_alloc ?_ _) | (with_reducible refine le_setCell ?_ _ _) | (with_reducible refine le_drew ?_) | (with_reducible refine le_drewN ?_ _) | go_size))))).mono ?_
    rintro r w1 ⟨n, v1, rfl, hn, hb⟩
    have HN := Lib.hid hn
    have I2 := Lib.hid (I1.out.below hb)
    have O2 := Lib.hid (own_below O1.out hb)
    obtain ⟨q2, hq2⟩ := gw_of_below hb
    rw [gw_gw] at hq2
    subst hq2
    clear hn hb I1 O1
    have IF := Lib.hid (fun (a : Option Addr) (c : Nat) (w : World) (h : Ints w a xs.length c xs) => iIsFloat a _ c xs n w h)
    cases g : Tm.isF xs n with
    | false =>
      rw [g] at IF
      clear r1 r2 r3 P g
      go_wp2_with fail
      refine (IF.out a1 c1 _ (I2.out.alloc _)).mono ?_
      rintro r w4 ⟨rfl, hb⟩
      have I3 := Lib.hid ((I2.out.alloc _).below hb)
      obtain ⟨q4, rfl⟩ := gw_of_below hb
      clear hb
      go_wp2
      go_returns
      exact ret_nil_fb (by (repeat' (first | (with_reducible exact Below.refl _ _) | (with_reducible assumption) | (with_reducible refine below_drewN ?_ _) | (with_reducible refine Below.drew ?_) | (with_reducible refine Below.alloc ?_ ?_ _) | (with_reducible refine Below.setCell ?_ ?_ _) | (with_reducible refine below_gw ?_ ?_ _) | (with_reducible refine below_via ?_ ‹Below _ _ _› ?_) | (with_reducible exact Nat.le_refl _) | (with_reducible refine le_gw ?_ _) | (with_reducible refine le_alloc ?_ _) | (with_reducible refine le_setCell ?_ _ _) | (with_reducible refine le_drew ?_) | (with_reducible refine le_drewN ?_ _) | go_size)))
    | true =>
      rw [g] at IF
      have FF := Lib.hid (fun (a : Option Addr) (c : Nat) (w : World) (h : Ints w a xs.length c xs) D => iFormatFloat a _ c xs n w h D)
      obtain ⟨t, ht⟩ : ∃ t, t = (⟨(Tm.fmtF xs n).toArray⟩ : ByteArray) := ⟨_, rfl⟩
      rw [← ht] at FF
      have e0 : t ≠ s := fun h => P ⟨xs, n, g, (Tm.isP_fmt g).1 (by rw [← ht, h])⟩
      have e1 : (t.toList == s.toList) = false := by
        rw [ByteArray.toList_eq, ByteArray.toList_eq]
        exact beq_eq_false_iff_ne.2 fun h => e0 (by apply ByteArray.ext; exact Array.toList_inj.1 h)
      clear r1 r2 r3 P g ht
      go_wp2_with fail
      refine (IF.out a1 c1 _ (I2.out.alloc _)).mono ?_
      rintro r w4 ⟨rfl, hb⟩
      have I3 := Lib.hid ((I2.out.alloc _).below hb)
      obtain ⟨q4, rfl⟩ := gw_of_below hb
      clear hb
      go_wp2_with fail
      refine (FF.out a1 c1 _ I3.out (HD.out.below (by (repeat' (first | (with_reducible exact Below.refl _ _) | (with_reducible assumption) | (with_reducible refine below_drewN ?_ _) | (with_reducible refine Below.drew ?_) | (with_reducible refine Below.alloc ?_ ?_ _) | (with_reducible refine Below.setCell ?_ ?_ _) | (with_reducible refine below_gw ?_ ?_ _) | (with_reducible refine below_via ?_ ‹Below _ _ _› ?_) | (with_reducible exact Nat.le_refl _) | (with_reducible refine le_gw ?_ _) | (with_reducible refine le_alloc ?_ _) | (with_reducible refine le_setCell ?_ _ _) | (with_reducible refine le_drew ?_) | (with_reducible refine le_drewN ?_ _) | go_size)))).1).mono ?_
      rintro r w4 ⟨rfl, hb⟩
      obtain ⟨q5, rfl⟩ := gw_of_below hb
      clear hb
      go_wp2
      go_returns
      exact ret_nil_fb (by (repeat' (first | (with_reducible exact Below.refl _ _) | (with_reducible assumption) | (with_reducible refine below_drewN ?_ _) | (with_reducible refine Below.drew ?_) | (with_reducible refine Below.alloc ?_ ?_ _) | (with_reducible refine Below.setCell ?_ ?_ _) | (with_reducible refine below_gw ?_ ?_ _) | (with_reducible refine below_via ?_ ‹Below _ _ _› ?_) | (with_reducible exact Nat.le_refl _) | (with_reducible refine le_gw ?_ _) | (with_reducible refine le_alloc ?_ _) | (with_reducible refine le_setCell ?_ _ _) | (with_reducible refine le_drew ?_) | (with_reducible refine le_drewN ?_ _) | go_size)))
end Go.Proofs.YtpmdkifnejkofaaDoor

/- Walks of laws: FnThue. -/
import Derived.Test.YtfmpnkckaceigaaQT
import Derived.Test.YtfmpnkckaceigaaQH
import Derived.Test.YtfmpnkckaceigaaLaw3
import Derived.Test.YtfmpnkckaceigaaRowL
import Derived.Test.YtfmpnkckaceigaaBOwn
namespace Go.Proofs.Ytfmpnkckaceigaa
set_option maxRecDepth 20000
open Go.RowKit
/-- The same append, of an operation with a guard that lets it run. -/
theorem wpList_append_gd {P : Program} (w : World) {ops : Array Oper} {rest : List Oper} {o : Oper} {a : Act} {Q : Exit → Act → World → Prop} (hw : Region.wanted o (yielded ops a.tmps) = true) (s x : Operand) (t : TypeId)
    (ho : o.op = .call { callee := .builtin .append, args := #[s, x], argTypes := #[t, t] })
    (base : Nat) (e : TypeId) (i : TypeInfo) (z : Value) (size bytes : Nat) (ht : P.underlying t = some (.slice e)) (hi : P.info? e = some i) (hz : i.zero = some z)
    (hsize : i.size = size) (hby : i.bytes = bytes) (hzs : z.cells.size = size) (hsz : 0 < size)
    (v : Value) (n : Nat) (xs : List Value) (hs : a.eval s = v) (hown : w.ownsRow base e size v n xs)
    (ad : Addr) (m c : Nat) (news : List Value) (hx : a.eval x = .slice (some ad) m c) (hl : news.length = m * size) (hnews : ∀ j u, news[j]? = some u → w.cell? (ad.add j) = some u) (h1 : ∀ u ∈ news, u.oneCell' = true)
    (h63 : n + m ≤ maxLen) (hbytes : (n + m) * bytes ≤ 140737488355328) (hbase : base ≤ w.heap.size)
    (h : ∀ v' w', w'.ownsRow base e size v' (n + m) (xs ++ news) → w.grownBy w' v.ownBlock → (v' = .slice none 0 0 ↔ v = .slice none 0 0 ∧ m = 0) → wpList P ops Q rest (a.put o.dst v') w') : wpList P ops Q (o :: rest) a w :=
  wpList_step fun K hK => by
    rw [if_pos hw]
    exact wp_append_own w s x t ho base e i z size bytes ht hi hz hsize hby hzs hsz v n xs hs hown ad m c news hx hl hnews h1 h63 hbytes hbase fun v' w' h2 h3 h4 => hK _ _ (h v' w' h2 h3 h4)
theorem Ints.headA {w : World} {a : Option Addr} {n cap : Nat} {xs : List Int} (h : Ints w a n cap xs) (m : Nat) (h1 : m ≤ n) : Ints w a m cap (xs.take m) := by
  obtain ⟨x1, x2, x3, x4⟩ := h
  refine ⟨by rw [List.length_take, x1]; omega, by omega, x3, ?_⟩
  rcases x4 with h0 | ⟨b', o', e, hb, hc⟩
  · exact .inl (by omega)
  · refine .inr ⟨b', o', e, hb, fun i hi => ?_⟩
    rw [hc i (by omega)]
    simp [List.getD_eq_getElem?_getD, hi]
namespace Tm
def lit120 : List Int := [1, 0, -1, 1, -1, 0, 1, 0, -1, 0, 1, -1, 1, 0, -1, 1, -1, 0, 1, -1, 1, 0, -1, 0, 1, 0, -1, 1, -1, 0, 1, 0, -1, 0, 1, -1, 1, 0, -1, 0, 1, 0, -1, 1, -1, 0, 1, -1, 1, 0, -1, 1, -1, 0, 1, 0, -1, 0, 1, -1, 1, 0, -1, 1, -1, 0, 1, -1, 1, 0, -1, 0, 1, 0, -1, 1, -1, 0, 1, -1, 1, 0, -1, 1, -1, 0, 1, 0, -1, 0, 1, -1, 1, 0, -1, 0, 1, 0, -1, 1, -1, 0, 1, 0, -1, 0, 1, -1, 1, 0, -1, 1, -1, 0, 1, -1, 1, 0, -1, 0]
theorem thT_120 : thT.take 120 = lit120 := by decide +kernel
/-- The first s elements agree. -/
def eqTo : Nat → List Int → List Int → Bool
  | 0, _, _ => true
  | s + 1, a :: l, b :: m => a == b && eqTo s l m
  | _ + 1, _, _ => false
def sqs : Nat → List Int → Bool
  | 0, _ => false
  | s + 1, xs => eqTo (s + 1) xs (xs.drop (s + 1)) || sqs s xs
def anySq : List Int → Bool
  | [] => false
  | a :: l => sqs 60 (a :: l) || anySq l
theorem anySq_lit : anySq lit120 = false := by decide +kernel
theorem eqTo_of {s : Nat} {xs ys : List Int} (h1 : s ≤ xs.length) (h2 : s ≤ ys.length) (h : ∀ j, j < s → xs.getD j 0 = ys.getD j 0) : eqTo s xs ys = true := by
  induction s generalizing xs ys with
  | zero => rfl
  | succ s ih =>
    match xs, ys, h1, h2 with
    | a :: l, b :: m, h1, h2 =>
      have e : a = b := h 0 (by omega)
      rw [eqTo, ih (by simpa using h1) (by simpa using h2) (fun j hj => h (j + 1) (by omega)), Bool.and_true, beq_iff_eq]
      exact e
theorem sqs_of {s t : Nat} {xs : List Int} (h1 : 1 ≤ s) (h2 : s ≤ t) (h : eqTo s xs (xs.drop s) = true) : sqs t xs = true := by
  induction t with
  | zero => omega
  | succ t ih =>
    rw [sqs]
    by_cases e : s = t + 1
    · subst e; rw [h]; rfl
    · rw [ih (by omega), Bool.or_true]
theorem anySq_of {f : Nat} {xs : List Int} (hf : f < xs.length) (h : sqs 60 (xs.drop f) = true) : anySq xs = true := by
  induction xs generalizing f with
  | nil => simp at hf
  | cons a l ih =>
    rw [anySq]
    cases f with
    | zero => rw [List.drop_zero] at h; rw [h]; rfl
    | succ f => rw [ih (f := f) (by simpa using hf) (by simpa using h), Bool.or_true]
theorem lit_noSq {f s : Nat} (h1 : 1 ≤ s) (h : SqAt lit120 f s) : False := by
  obtain ⟨h2, h3⟩ := h
  have l : lit120.length = 120 := rfl
  rw [l] at h2
  have e := eqTo_of (s := s) (xs := lit120.drop f) (ys := (lit120.drop f).drop s) (by rw [List.length_drop, l]; omega) (by rw [List.length_drop, List.length_drop, l]; omega) (fun j hj => by
    have := h3 j hj
    simpa [List.getD_eq_getElem?_getD, List.getElem?_drop, Nat.add_assoc] using this)
  have := anySq_of (f := f) (by rw [l]; omega) (sqs_of h1 (show s ≤ 60 by omega) e)
  rw [anySq_lit] at this
  cases this
theorem thT_noSq {n : Nat} (h : n ≤ 120) : hsq (thT.take n) = false := by
  refine hsq_none (fun f s h1 h2 hq => lit_noSq (f := f) (s := s) h1 ?_)
  rw [List.length_take, thT_len] at h2
  refine ⟨by have : lit120.length = 120 := rfl
             omega, fun j hj => ?_⟩
  have e := hq.2 j hj
  have t : ∀ i, i < n → (thT.take n).getD i 0 = lit120.getD i 0 := fun i hi => by
    rw [← thT_120]
    simp [List.getD_eq_getElem?_getD, hi, show i < 120 by omega]
  rw [t _ (by omega), t _ (by omega)] at e
  exact e
theorem hsq_double {xs : List Int} (h : 1 ≤ xs.length) : hsq (xs ++ xs) = true := by
  refine hsq_at (f := 0) (s := xs.length) h ⟨by rw [List.length_append]; omega, fun j hj => ?_⟩
  rw [List.getD_eq_getElem?_getD, List.getD_eq_getElem?_getD, List.getElem?_append_left (by omega), List.getElem?_append_right (by omega)]
  congr 2; omega
end Tm
set_option maxHeartbeats 4000000 in
theorem wFnThue (a0 : Option Addr) (len0 cap0 : Nat) (z0 : List Int) (w : World) (w0 : IsRow .u8 w a0 len0 cap0 z0) : Calls Try.prog 15 #[.slice a0 len0 cap0] w fun e w' => e = .returned (.bool true) ∧ Below w.heap.size w w' := by
  have BY := Lib.hid (Byts.of_row w0)
  have m0 : len0 ≤ 9223372036854775807 := by obtain ⟨h1, h2, _⟩ := BY.out; unfold maxLen at h2; omega
  clear w0
  have B := Lib.hid (Below.refl w.heap.size w)
  by_cases g0 : len0 ≤ 1048576
  · skip
    go_enter Try.func15, Try.ntmps15
    go_wp2_with fail
    refine (at_any a0 len0 cap0 1 _ BY.out (by omega) (by omega) (by omega)).mono ?_
    rintro e w' ⟨x, rfl, x_0, x_1, rfl⟩
    obtain ⟨n, hn⟩ : ∃ j : Nat, x.tmod 120 = (j : Int) := ⟨_, (Int.toNat_of_nonneg (Int.tmod_nonneg _ x_0)).symm⟩
    have n_lt : n < 120 := by have := Int.tmod_lt_of_pos x (show (0 : Int) < 120 by omega); omega
    have n40 : IntKind.i64.wrap ((n : Int) + 40) = ((n + 40 : Nat) : Int) := by rw [IntWalk.i64_in _ (by omega)]; omega
    go_wp2_with fail
    have hok := show Tm.thOk (n : Int) = true from (Tm.inB_iff _ _ _).2 (by omega)
    refine (retIB_ex (iThueTrits (n : Int) _) hok).mono ?_
    clear hok
    rintro e w0 ⟨us, b0, c0, hv, rfl, ho, hb, ln0⟩
    have H_us : Hid (us = Tm.thue (n : Int)) := Lib.hid hv
    have hsz := hb.size
    replace BY := Lib.hid (BY.out.below hb)
    replace B := Lib.hid (B.out.trans (hb.mono B.out.size))
    clear hb hsz
    have I_us := Lib.hid (Ints.of_own ho)
    clear ho hv
    have EU : Hid (us = Tm.thT.take n) := Lib.hid (by rw [H_us.out, Tm.thue, if_pos (show Tm.thOk (n : Int) = true from (Tm.inB_iff _ _ _).2 (by omega)), Int.toNat_natCast])
    have LU : Hid (us.length = n) := Lib.hid (by rw [EU.out, List.length_take, Tm.thT_len]; omega)
    go_wp2_with fail
    have hok := show Tm.thOk ((n : Int) + 40) = true from (Tm.inB_iff _ _ _).2 (by omega)
    refine (retIB_ex (iThueTrits ((n : Int) + 40) _) hok).mono ?_
    clear hok
    rintro e w1 ⟨bs, b1, c1, hv, rfl, ho, hb, ln1⟩
    have H_bs : Hid (bs = Tm.thue ((n : Int) + 40)) := Lib.hid hv
    have hsz := hb.size
    replace I_us := Lib.hid (I_us.out.below hb)
    replace BY := Lib.hid (BY.out.below hb)
    replace B := Lib.hid (B.out.trans (hb.mono B.out.size))
    clear hb hsz
    have I_bs := Lib.hid (Ints.of_own ho)
    clear ho hv
    have EB : Hid (bs = Tm.thT.take (n + 40)) := Lib.hid (by rw [H_bs.out, show (n : Int) + 40 = ((n + 40 : Nat) : Int) from by omega, Tm.thue, if_pos (show Tm.thOk ((n + 40 : Nat) : Int) = true from (Tm.inB_iff _ _ _).2 (by omega)), Int.toNat_natCast])
    have LBH : Hid (bs.length = n + 40) := Lib.hid (by rw [EB.out, List.length_take, Tm.thT_len]; omega)
    have q1 : ((us.length : Int) != (n : Int)) = false := by rw [LU.out]; simp
    have q2 : ((bs.length : Int) != (n : Int) + 40) = false := by rw [LBH.out]; simp
    have lb1 : n ≤ bs.length := by rw [LBH.out]; omega
    have cb := I_bs.out.2.1
    have cmb := I_bs.out.2.2.1
    unfold maxLen at cmb
    have HT : Hid (bs.take n = us) := Lib.hid (by rw [EB.out, EU.out, List.take_take, Nat.min_eq_left (by omega)])
    have IH := Lib.hid (I_bs.out.headA n lb1)
    rw [HT.out] at IH
    have iw : IntKind.i64.wrap ((n : Int) + 40) = (n : Int) + 40 := IntWalk.i64_in _ (by omega)
    clear n40
    go_wp2_with fail
    refine (ints_any b1 b0 n us.length c1 c0 us us _ IH.out I_us.out).mono ?_
    rintro e w2 ⟨h0, hb⟩
    rw [decide_eq_true (show us = us from rfl)] at h0
    subst h0
    clear IH
    have hsz := hb.size
    replace I_us := Lib.hid (I_us.out.below hb)
    replace I_bs := Lib.hid (I_bs.out.below hb)
    replace BY := Lib.hid (BY.out.below hb)
    replace B := Lib.hid (B.out.trans (hb.mono B.out.size))
    clear hb hsz
    have NS : Hid (Tm.hsq us = false) := Lib.hid (by rw [EU.out]; exact Tm.thT_noSq (by omega))
    have lu1 : us.length ≤ 1048576 := by rw [LU.out]; omega
    have lu5 : us.length ≤ 120 := by rw [LU.out]; omega
    have HS := Lib.hid (fun w h => iHasSquare b0 us.length c0 us w h lu1)
    rw [NS.out] at HS
    go_wp2_with fail
    refine (HS.out _ I_us.out).mono ?_
    rintro e w3 ⟨rfl, hb⟩
    clear HS
    have hsz := hb.size
    replace I_us := Lib.hid (I_us.out.below hb)
    replace I_bs := Lib.hid (I_bs.out.below hb)
    replace BY := Lib.hid (BY.out.below hb)
    replace B := Lib.hid (B.out.trans (hb.mono B.out.size))
    clear hb hsz
    obtain ⟨i0, hi, hz0, hz1, hz2⟩ := info_parts infoInt
    have TB : Hid (∀ q, q < bs.length → Tm.isT (bs.getD q 0) = true) := Lib.hid (fun q hq => by
      rw [← getD_at bs q hq]
      have : bs[q] ∈ Tm.thT := by
        have h1 : bs[q] ∈ bs := List.getElem_mem hq
        have h2 : bs[q] ∈ Tm.thT.take (n + 40) := by rw [← EB.out]; exact h1
        exact List.mem_of_mem_take h2
      exact List.all_eq_true.1 Tm.thT_isT _ this)
    have lb2 : bs.length ≤ 160 := by rw [LBH.out]; omega
    go_wp2_with fail
    go_loopw [8, 62] (fun v i wr => ∃ (k : Nat) (a2 : Option Addr) (c2 : Nat), k ≤ bs.length ∧ i = .int .i64 k ∧ v = .slice a2 (Tm.pre bs k).length c2 ∧ Hid (wr.ownsRow w3.heap.size 3 1 (.slice a2 (Tm.pre bs k).length c2) (Tm.pre bs k).length ((Tm.pre bs k).map (Value.int .i64))) ∧ Hid (Below w3.heap.size w3 wr)) (fun _ i _ => bs.length - (intOf i).toNat)
    case atStart => exact ⟨0, _, 0, by omega, rfl, by simp [Tm.pre_zero], Lib.hid (own_empty w3 _ _ (Nat.le_refl _)), Lib.hid (by (repeat' (first | (with_reducible exact Below.refl _ _) | (with_reducible assumption) | (with_reducible refine below_drewN ?_ _) | (with_reducible refine Below.drew ?_) | (with_reducible refine Below.alloc ?_ ?_ _) | (with_reducible refine Below.setCell ?_ ?_ _) | (with_reducible refine below_gw ?_ ?_ _) | (with_reducible refine below_via ?_ ‹Below _ _ _› ?_) | (with_reducible exact Nat.le_refl _) | (with_reducible refine le_gw ?_ _) | (with_reducible refine le_alloc ?_ _) | (with_reducible refine le_setCell ?_ _ _) | (with_reducible refine le_drew ?_) | (with_reducible refine le_drewN ?_ _) | go_size)))⟩
    case round =>
      obtain ⟨k, a2, c2, hk, rfl, rfl, O2, B2⟩ := hrel
      have hs2 := B2.out.size
      have PL := Tm.pre_len bs k
      by_cases hk2 : k < bs.length
      · rcases (I_bs.out.below B2.out).2.2.2 with h0 | ⟨b, o, rfl, hbl, hc⟩
        · omega
        have c1 := hc k hk2
        have PS := Lib.hid (Tm.pre_succ hk2)
        have tt := TB.out k hk2
        obtain ⟨t, ht⟩ : ∃ t, t = bs.getD k 0 := ⟨_, rfl⟩
        rw [← ht] at c1 PS tt
        obtain ⟨P, hP⟩ : ∃ P, P = Tm.pre bs k := ⟨_, rfl⟩
        rw [← hP] at O2 PS PL ⊢
        clear hc ht hP
        have tc : t = -1 ∨ t = 0 ∨ t = 1 := by have := (Tm.isT_iff t).1 tt; omega
        clear tt
        rcases tc with rfl | rfl | rfl
        · have FL : (Tm.pre bs (k + 1)).length = P.length + 1 := by rw [PS.out, List.length_append]; rfl
          have A0 := Lib.hid (lit_ints wr [0] (by decide))
          go_wp2_with (at_builtin; refine wpList_append_own _ rfl _ _ 22 rfl w3.heap.size 3 i0 (.int .i64 0) 1 8 Try.underlying22 hi hz0 hz1 hz2 rfl (by decide) _ _ _ rfl (World.ownsRow.alloc O2.out _) ⟨wr.heap.size, 0, none⟩ 1 1 ([0].map (Value.int .i64)) rfl rfl A0.out.newsAt (news_one _) (by unfold maxLen; omega) (by omega) (by simp; omega) ?_)
          intro v' w9 hown' hgrow _
          have B4 : Hid (Below w3.heap.size w3 w9) := Lib.hid ((B2.out.alloc hs2 _).grown hgrow (by simp; omega) (fun k hk => (O2.out.lt k hk).1))
          have h5 : w9.ownsRow w3.heap.size 3 1 v' (Tm.pre bs (k + 1)).length ((Tm.pre bs (k + 1)).map (Value.int .i64)) := by rw [FL, PS.out, Tm.part3_z, List.map_append]; exact hown'
          obtain ⟨a4, c4, rfl⟩ := own_form h5
          have O4 := Lib.hid h5
          clear hown' h5 hgrow O2 B2 A0
          go_wp2
          exact ⟨⟨k + 1, a4, c4, by omega, by go_num, rfl, O4, B4⟩, by simp [intOf]; omega⟩
        · have FL : (Tm.pre bs (k + 1)).length = P.length + 2 := by rw [PS.out, List.length_append]; rfl
          have A0 := Lib.hid (lit_ints wr [1, -1] (by decide))
          go_wp2_with (at_builtin; refine wpList_append_own _ rfl _ _ 22 rfl w3.heap.size 3 i0 (.int .i64 0) 1 8 Try.underlying22 hi hz0 hz1 hz2 rfl (by decide) _ _ _ rfl (World.ownsRow.alloc O2.out _) ⟨wr.heap.size, 0, none⟩ 2 2 ([1, -1].map (Value.int .i64)) rfl rfl A0.out.newsAt (news_one _) (by unfold maxLen; omega) (by omega) (by simp; omega) ?_)
          intro v' w9 hown' hgrow _
          have B4 : Hid (Below w3.heap.size w3 w9) := Lib.hid ((B2.out.alloc hs2 _).grown hgrow (by simp; omega) (fun k hk => (O2.out.lt k hk).1))
          have h5 : w9.ownsRow w3.heap.size 3 1 v' (Tm.pre bs (k + 1)).length ((Tm.pre bs (k + 1)).map (Value.int .i64)) := by rw [FL, PS.out, Tm.part3_o, List.map_append]; exact hown'
          obtain ⟨a4, c4, rfl⟩ := own_form h5
          have O4 := Lib.hid h5
          clear hown' h5 hgrow O2 B2 A0
          go_wp2
          exact ⟨⟨k + 1, a4, c4, by omega, by go_num, rfl, O4, B4⟩, by simp [intOf]; omega⟩
        · have FL : (Tm.pre bs (k + 1)).length = P.length + 3 := by rw [PS.out, List.length_append]; rfl
          have A0 := Lib.hid (lit_ints wr [1, 0, -1] (by decide))
          go_wp2_with (at_builtin; refine wpList_append_own _ rfl _ _ 22 rfl w3.heap.size 3 i0 (.int .i64 0) 1 8 Try.underlying22 hi hz0 hz1 hz2 rfl (by decide) _ _ _ rfl (World.ownsRow.alloc O2.out _) ⟨wr.heap.size, 0, none⟩ 3 3 ([1, 0, -1].map (Value.int .i64)) rfl rfl A0.out.newsAt (news_one _) (by unfold maxLen; omega) (by omega) (by simp; omega) ?_)
          intro v' w9 hown' hgrow _
          have B4 : Hid (Below w3.heap.size w3 w9) := Lib.hid ((B2.out.alloc hs2 _).grown hgrow (by simp; omega) (fun k hk => (O2.out.lt k hk).1))
          have h5 : w9.ownsRow w3.heap.size 3 1 v' (Tm.pre bs (k + 1)).length ((Tm.pre bs (k + 1)).map (Value.int .i64)) := by rw [FL, PS.out, Tm.part3_i, List.map_append]; exact hown'
          obtain ⟨a4, c4, rfl⟩ := own_form h5
          have O4 := Lib.hid h5
          clear hown' h5 hgrow O2 B2 A0
          go_wp2
          exact ⟨⟨k + 1, a4, c4, by omega, by go_num, rfl, O4, B4⟩, by simp [intOf]; omega⟩
      · obtain rfl : k = bs.length := by omega
        have FE : Hid (Tm.pre bs bs.length = Tm.thF (n + 40)) := Lib.hid (by rw [Tm.pre_all, EB.out]; rfl)
        have FL2 := Tm.thF_len (i := n + 40) (by omega)
        rw [← FE.out] at FL2
        have FT : Hid ((Tm.pre bs bs.length).take n = us) := Lib.hid (by
          rw [FE.out, EU.out]
          refine Tm.take_of_prefix (Tm.thF_prefix ?_) ?_
          · rw [← FE.out]; omega
          · rw [← FE.out]; omega)
        obtain ⟨F, hF⟩ : ∃ F, F = Tm.pre bs bs.length := ⟨_, rfl⟩
        rw [← hF] at FT FL2 O2 PL ⊢
        clear hF FE
        have IF := Lib.hid ((Ints.of_own O2.out).headA n (by omega))
        rw [FT.out] at IF
        have cF := (Ints.of_own O2.out).2.1
        have cmF := (Ints.of_own O2.out).2.2.1
        unfold maxLen at cmF
        have IU := Lib.hid (I_us.out.below B2.out)
        have BX := Lib.hid (B.out.trans (B2.out.mono B.out.size))
        have lt' : ¬ ((F.length : Int) < (n : Int)) := by omega
        clear O2 B2
        go_wp2_with fail
        refine (ints_any _ _ n us.length _ _ us us _ IF.out IU.out).mono ?_
        rintro e w10 ⟨h0, hb⟩
        rw [decide_eq_true (show us = us from rfl)] at h0
        subst h0
        have IU2 := Lib.hid (IU.out.below hb)
        have BX2 := Lib.hid (BX.out.trans (hb.mono BX.out.size))
        clear hb IU BX IF
        rcases Nat.eq_zero_or_pos n with hn | hn
        · subst hn
          go_wp2
          go_ret
          exact ⟨rfl, BX2.out⟩
        · have hn' : ((n : Int) == 0) = false := by rw [beq_eq_false_iff_ne]; omega
          have hn2 : ¬ ((n : Int) = 0) := by omega
          have ul : 1 ≤ us.length := by rw [LU.out]; omega
          rcases IU2.out.2.2.2 with h0 | ⟨b5, o5, rfl, hbl5, -⟩
          · omega
          have cu := IU2.out.2.1
          go_wp2_with (refine wpList_append_gd _ rfl _ _ 22 rfl w10.heap.size 3 i0 (.int .i64 0) 1 8 Try.underlying22 hi hz0 hz1 hz2 rfl (by decide) _ _ _ rfl (own_empty w10 _ _ (Nat.le_refl _)) ⟨b5, o5, none⟩ us.length c0 (us.map (Value.int .i64)) rfl (by simp) (IU2.out.alloc _).newsAt (news_one _) (by unfold maxLen; omega) (by omega) (by simp) ?_)
          intro v' w11 hown' hgrow _
          have B11 : Hid (Below w10.heap.size w10 w11) := Lib.hid (((Below.refl w10.heap.size w10).alloc (Nat.le_refl _) _).grown hgrow (by simp) (fun k hk => by simp [Value.ownBlock] at hk; omega))
          try rw [Nat.zero_add] at hown'
          try rw [List.nil_append] at hown'
          obtain ⟨a6, c6, rfl⟩ := own_form hown'
          have O11 := Lib.hid hown'
          have IU3 := Lib.hid (IU2.out.below B11.out)
          have hs11 := B11.out.size
          clear hown' hgrow
          go_wp2_with (refine wpList_append_gd _ rfl _ _ 22 rfl w10.heap.size 3 i0 (.int .i64 0) 1 8 Try.underlying22 hi hz0 hz1 hz2 rfl (by decide) _ _ _ rfl O11.out ⟨b5, o5, none⟩ us.length c0 (us.map (Value.int .i64)) rfl (by simp) IU3.out.newsAt (news_one _) (by unfold maxLen; omega) (by omega) hs11 ?_)
          intro v' w12 hown' hgrow _
          have B12 : Hid (Below w10.heap.size w10 w12) := Lib.hid (B11.out.grown hgrow hs11 (fun k hk => (O11.out.lt k hk).1))
          rw [← List.map_append] at hown'
          have h7 : w12.ownsRow w10.heap.size 3 1 v' (us ++ us).length ((us ++ us).map (Value.int .i64)) := by rw [List.length_append]; exact hown'
          obtain ⟨a7, c7, rfl⟩ := own_form h7
          have I7 := Lib.hid (Ints.of_own h7)
          have YS : Hid (Tm.hsq (us ++ us) = true) := Lib.hid (Tm.hsq_double ul)
          have HS := Lib.hid (iHasSquare a7 (us ++ us).length c7 (us ++ us) w12 I7.out (by rw [List.length_append]; omega))
          rw [YS.out] at HS
          have BX3 := Lib.hid (BX2.out.trans (B12.out.mono BX2.out.size))
          clear hown' hgrow h7
          rw [List.length_append] at HS
          go_wp2_with fail
          refine HS.out.mono ?_
          rintro e w13 ⟨rfl, hb⟩
          have B13 := Lib.hid (BX3.out.trans (hb.mono BX3.out.size))
          clear hb
          go_wp2
          go_ret
          exact ⟨by simp, B13.out⟩
  · go_enter Try.func15, Try.ntmps15
    go_wp2
    go_ret
    exact ⟨rfl, B.out⟩
end Go.Proofs.Ytfmpnkckaceigaa

/- Lists of operations: what is told of one that is read, of one that is a callee's own; the contracts of the laws' own functions on operations. -/
import Derived.Test.YtfnhoiomdjmjhaaDoorGen
import Derived.Test.YtfnhoiomdjmjhaaDoorGMath
import Derived.Test.YtfnhoiomdjmjhaaDoorTab2
namespace Go.Proofs.YtfnhoiomdjmjhaaDoor
set_option maxRecDepth 20000
open Go.RowKit
abbrev opV (g : Nat → Int) : Value := .agg #[.int .i64 (g 0), .int .i64 (g 1), .int .i64 (g 2), .int .i64 (g 3)]
def ocells (g : Nat → Int) : List Value := [.int .i64 (g 0), .int .i64 (g 1), .int .i64 (g 2), .int .i64 (g 3)]
namespace Tm
/-- The numbers of operations, one after the other. -/
def flatO : List (Nat → Int) → List Int
  | [] => []
  | g :: L => g 0 :: g 1 :: g 2 :: g 3 :: flatO L
theorem flatO_length (L : List (Nat → Int)) : (flatO L).length = L.length * 4 := by
  induction L with
  | nil => rfl
  | cons g L ih => simp only [flatO, List.length_cons, ih]; omega
theorem flatO_append (L M : List (Nat → Int)) : flatO (L ++ M) = flatO L ++ flatO M := by
  induction L with
  | nil => rfl
  | cons g L ih => simp [flatO, ih]
theorem flatO_at (L : List (Nat → Int)) : ∀ (i j : Nat), i < L.length → j < 4 → (flatO L).getD (i * 4 + j) 0 = (L.getD i g0) j := by
  induction L with
  | nil => intro i j hi; simp at hi
  | cons g L ih =>
    intro i j hi hj
    match i with
    | 0 =>
      match j, hj with
      | 0, _ | 1, _ | 2, _ | 3, _ => simp [flatO]
    | i + 1 =>
      have := ih i j (by simpa using hi) hj
      rw [show (i + 1) * 4 + j = i * 4 + j + 4 by omega]
      simpa [flatO] using this
end Tm
/-- The slice value '.slice a n cap' reads as the operations L. -/
def OpR (w : World) (a : Option Addr) (n cap : Nat) (L : List (Nat → Int)) : Prop :=
  L.length = n ∧ n ≤ cap ∧ cap ≤ maxLen ∧ (n = 0 ∨ ∃ b o, a = some ⟨b, o, none⟩ ∧ b < w.heap.size ∧ ∀ i, i < n → ∀ j, j < 4 → w.cell? ⟨b, o + i * 4 + j, none⟩ = some (.int .i64 (L.getD i Tm.g0 j)))
theorem OpR.of_blocks {w w' : World} {a : Option Addr} {n cap : Nat} {L : List (Nat → Int)} (h : OpR w a n cap L) (hs : w.heap.size ≤ w'.heap.size) (hb : ∀ b o, a = some ⟨b, o, none⟩ → b < w.heap.size → w'.heap[b]? = w.heap[b]?) : OpR w' a n cap L := by
  obtain ⟨h1, h2, h3, h4⟩ := h
  refine ⟨h1, h2, h3, ?_⟩
  rcases h4 with h4 | ⟨b, o, ha, hlt, hc⟩
  · exact .inl h4
  · exact .inr ⟨b, o, ha, by omega, fun i hi j hj => by rw [← hc i hi j hj]; exact World.cell?_of_block (a := ⟨b, o + i * 4 + j, none⟩) (hb b o ha hlt)⟩
theorem OpR.below {w w' : World} {a : Option Addr} {n cap : Nat} {L : List (Nat → Int)} (h : OpR w a n cap L) (hb : Below w.heap.size w w') : OpR w' a n cap L :=
  h.of_blocks hb.size (fun b _ _ hlt => hb.block b hlt)
theorem OpR.alloc {w : World} {a : Option Addr} {n cap : Nat} {L : List (Nat → Int)} (h : OpR w a n cap L) (o : Obj) : OpR (w.alloc o) a n cap L := h.below ((Below.refl _ _).alloc (Nat.le_refl _) o)
/-- An operation's cells. -/
def OpAt (w : World) (b X : Nat) (g : Nat → Int) : Prop := w.cell? ⟨b, X, none⟩ = some (.int .i64 (g 0)) ∧ w.cell? ⟨b, X + 1, none⟩ = some (.int .i64 (g 1)) ∧ w.cell? ⟨b, X + 2, none⟩ = some (.int .i64 (g 2)) ∧ w.cell? ⟨b, X + 3, none⟩ = some (.int .i64 (g 3))
theorem opAt_of {w : World} {b X : Nat} {g : Nat → Int} (h : ∀ j, j < 4 → w.cell? ⟨b, X + j, none⟩ = some (.int .i64 (g j))) : OpAt w b X g :=
  ⟨h 0 (by omega), h 1 (by omega), h 2 (by omega), h 3 (by omega)⟩
theorem OpR.op {w : World} {b o n : Nat} {L : List (Nat → Int)} (hc : ∀ i, i < n → ∀ j, j < 4 → w.cell? ⟨b, o + i * 4 + j, none⟩ = some (.int .i64 (L.getD i Tm.g0 j))) {k : Nat} (hk : k < n) : ∃ g, g = L.getD k Tm.g0 ∧ OpAt w b (o + k * 4) g :=
  ⟨_, rfl, opAt_of (hc k hk)⟩
theorem toOp_any (g : Nat → Int) (w : World) : Calls Tryd.prog 30 #[opV g] w fun e w' => e = .returned (opV g) ∧ Below w.heap.size w w' := by
  go_enter Tryd.func30, Tryd.ntmps30
  go_wp2
  go_returns
  exact ⟨rfl, by (repeat' (first | (with_reducible exact Below.refl _ _) | (with_reducible assumption) | (with_reducible refine below_drewN ?_ _) | (with_reducible refine Below.drew ?_) | (with_reducible refine Below.alloc ?_ ?_ _) | (with_reducible refine Below.setCell ?_ ?_ _) | (with_reducible refine below_gw ?_ ?_ _) | (with_reducible refine below_via ?_ ‹Below _ _ _› ?_) | (with_reducible exact Nat.le_refl _) | (with_reducible refine le_gw ?_ _) | (with_reducible refine le_alloc ?_ _) | (with_reducible refine le_setCell ?_ _ _) | (with_reducible refine le_drew ?_) | (with_reducible refine le_drewN ?_ _) | go_size))⟩
theorem eqOp_same (g : Nat → Int) (w : World) : Calls Tryd.prog 34 #[opV g, opV g] w fun e w' => e = .returned (.bool true) ∧ Below w.heap.size w w' := by
  go_enter Tryd.func34, Tryd.ntmps34
  go_wp2
  go_ret
  exact ⟨rfl, by (repeat' (first | (with_reducible exact Below.refl _ _) | (with_reducible assumption) | (with_reducible refine below_drewN ?_ _) | (with_reducible refine Below.drew ?_) | (with_reducible refine Below.alloc ?_ ?_ _) | (with_reducible refine Below.setCell ?_ ?_ _) | (with_reducible refine below_gw ?_ ?_ _) | (with_reducible refine below_via ?_ ‹Below _ _ _› ?_) | (with_reducible exact Nat.le_refl _) | (with_reducible refine le_gw ?_ _) | (with_reducible refine le_alloc ?_ _) | (with_reducible refine le_setCell ?_ _ _) | (with_reducible refine le_drew ?_) | (with_reducible refine le_drewN ?_ _) | go_size))⟩
theorem eqOps_same (a a' : Option Addr) (n cap cap' : Nat) (L : List (Nat → Int)) (w : World) (h : OpR w a n cap L) (h' : OpR w a' n cap' L) : Calls Tryd.prog 15 #[.slice a n cap, .slice a' n cap'] w fun e w' => e = .returned (.bool true) ∧ Below w.heap.size w w' := by
  have H := Lib.hid h
  have H2 := Lib.hid h'
  obtain ⟨x1, x2, x3, x4⟩ := h
  clear h' x4 x1
  unfold maxLen at x3
  go_enter Tryd.func15, Tryd.ntmps15
  go_wp2
  go_loopw [5] (fun i wr => ∃ k : Nat, k ≤ n ∧ i = .int .i64 k ∧ Below w.heap.size w wr) (fun i _ => n - (intOf i).toNat)
  case atStart => exact ⟨0, by omega, rfl, Below.refl _ _⟩
  case round =>
    obtain ⟨k, hk, rfl, hb⟩ := hrel
    by_cases hlt : k < n
    · obtain ⟨-, -, -, y⟩ := H.out.below hb
      obtain ⟨-, -, -, y2⟩ := H2.out.below hb
      rcases y with h0 | ⟨b, o, rfl, hbl, hc⟩
      · omega
      rcases y2 with h0 | ⟨b', o', rfl, hbl', hc'⟩
      · omega
      obtain ⟨g, hg, g1⟩ := OpR.op hc hlt
      obtain ⟨g', hg', g2⟩ := OpR.op hc' hlt
      obtain rfl : g = g' := by rw [hg, hg']
      clear hg hg' hc hc'
      obtain ⟨p0, p1, p2, p3⟩ := g1
      obtain ⟨q0, q1, q2, q3⟩ := g2
      go_wp2
      (refine wp_region_quiet_below (by kernel_rfl) (by kernel_rfl) ?_; (repeat (go_big_quiet_step ((go_at_call 34; exact met_below (fun _ => eqOp_same g _))))); refine wpQuiet_nil ?_; intro wq hwq; obtain ⟨pq, hpq⟩ := hwq; have hpq' : wq = gw _ pq := hpq; clear hpq; subst hpq')
      clear p0 p1 p2 p3 q0 q1 q2 q3
      go_wp2
      exact ⟨⟨k + 1, by omega, by go_num, below_via hb (below_gw (Below.refl _ _) (Nat.le_refl _) _) hb.size⟩, by simp [intOf]; omega⟩
    · obtain rfl : k = n := by omega
      go_wp2
      go_ret
      exact ⟨rfl, hb⟩
/-! ### Of a callee's own: a row of operations, as numbers. -/
theorem fillTo_op (L : List (Nat → Int)) {k : Nat} (h : k < L.length) : setAll (fillTo (Tm.flatO L) (L.length * 4) (k * 4)) (k * 4) (ocells (L.getD k Tm.g0)) = fillTo (Tm.flatO L) (L.length * 4) ((k + 1) * 4) := by
  have := fillTo_setAll (Tm.flatO L) (L.length * 4) (ocells (L.getD k Tm.g0)) (k * 4) (by simp only [ocells, List.length_cons, List.length_nil]; omega) (fun j v hj => by
    have e : ∀ q, q < 4 → (Tm.flatO L).getD (k * 4 + q) 0 = (L.getD k Tm.g0) q := fun q hq => Tm.flatO_at L k q h hq
    match j, hj with
    | 0, hj | 1, hj | 2, hj | 3, hj => rw [e _ (by omega)]; simp [ocells] at hj; exact hj.symm
    | j + 4, hj => simp [ocells] at hj)
  rw [this, show k * 4 + (ocells (L.getD k Tm.g0)).length = (k + 1) * 4 by simp only [ocells, List.length_cons, List.length_nil]; omega]
theorem fillTo_offO (L : List (Nat → Int)) {k j : Nat} (hk : k < L.length) (hj : j < 4) : (fillTo (Tm.flatO L) (L.length * 4) (k * 4))[k * 4 + j]? = some (.int .i64 0) := by
  rw [fillTo_get _ _ _ _ (by omega), if_neg (by omega)]
theorem own_zeroO {w : World} {base e size g n cap k : Nat} {xs : List Value} (h : w.ownsRow base e size (.slice (some ⟨g, 0, none⟩) n cap) n xs) (hx : ∀ j, j < 4 → xs[k * 4 + j]? = some (.int .i64 0)) : OpAt w g (k * 4) Tm.g0 :=
  opAt_of fun j hj => by rw [h.cellAt (k * 4 + j) (by have := (List.getElem?_eq_some_iff.1 (hx j hj)).1; have := h.1; omega), hx j hj]; rfl
/-- A row of n operations, by its numbers xs. -/
def OwnO (w : World) (B E e : Nat) (v : Value) (n : Nat) (xs : List Int) : Prop := w.ownsRow B e 4 v n (xs.map (Value.int .i64)) ∧ ∀ k, v.ownBlock = some k → k < E
theorem OwnO.lt {w : World} {B E e n : Nat} {v : Value} {xs : List Int} (h : OwnO w B E e v n xs) : ∀ k, v.ownBlock = some k → B ≤ k ∧ k < E := fun k hk => ⟨(h.1.lt k hk).1, h.2 k hk⟩
theorem OwnO.stay {w w' : World} {B E e n : Nat} {v : Value} {xs : List Int} (h : OwnO w B E e v n xs) (hs : SameIn B E w w') : OwnO w' B E e v n xs :=
  ⟨own_stable h.1 fun k hk => hs.2 k (h.lt k hk).1 (h.lt k hk).2, h.2⟩
theorem OwnO.later {w w' : World} {B E e n : Nat} {v : Value} {xs : List Int} (h : OwnO w B E e v n xs) (hb : Below w.heap.size w w') (hE : E ≤ w.heap.size) : OwnO w' B E e v n xs := h.stay (SameIn.of_below hb hE)
theorem OwnO.wide {w : World} {B E B' E' e n : Nat} {v : Value} {xs : List Int} (h : OwnO w B E e v n xs) (h1 : B' ≤ B) (h2 : E ≤ E') : OwnO w B' E' e v n xs :=
  ⟨own_weak2 h.1 h1, fun k hk => Nat.lt_of_lt_of_le (h.2 k hk) h2⟩
theorem OpR.of_own {w : World} {B e : Nat} {a : Option Addr} {n cap : Nat} {L : List (Nat → Int)} (h : w.ownsRow B e 4 (.slice a n cap) n ((Tm.flatO L).map (Value.int .i64))) (hn : L.length = n) : OpR w a n cap L := by
  rcases h.2 with ⟨h2, h0⟩ | ⟨g, cap', cur, h2, hB, hg, hc, hcap, hsz, ht⟩
  · simp only [Value.slice.injEq] at h2
    obtain ⟨rfl, rfl, rfl⟩ := h2
    exact ⟨hn, by omega, by unfold maxLen; omega, .inl rfl⟩
  · simp only [Value.slice.injEq] at h2
    obtain ⟨rfl, _, rfl⟩ := h2
    refine ⟨hn, hc, hcap, .inr ⟨g, 0, rfl, (Array.getElem?_eq_some_iff.1 hg).1, fun i hi j hj => ?_⟩⟩
    have := h.cellAt (i * 4 + j) (by omega)
    rw [Nat.zero_add, this, List.getElem?_map, List.getElem?_eq_getElem (by rw [Tm.flatO_length]; omega)]
    have e := Tm.flatO_at L i j (by omega) hj
    rw [List.getD_eq_getElem?_getD, List.getElem?_eq_getElem (by rw [Tm.flatO_length]; omega)] at e
    simp only [Option.getD_some] at e
    simp only [Option.map_some, e]
theorem OwnO.of {w : World} {B e n : Nat} {v : Value} {xs : List Int} (h : w.ownsRow B e 4 v n (xs.map (Value.int .i64))) : OwnO w B w.heap.size e v n xs := ⟨h, fun k hk => (h.lt k hk).2⟩
theorem OwnO.os {w : World} {B E e n c : Nat} {a : Option Addr} {L : List (Nat → Int)} (h : OwnO w B E e (.slice a n c) n (Tm.flatO L)) (hn : L.length = n) : OpR w a n c L := OpR.of_own h.1 hn
theorem made_ops (m : Nat) : (madeCells (Value.cells (.agg #[.int .i64 0, .int .i64 0, .int .i64 0, .int .i64 0])) m).toList = List.replicate m (.int .i64 0) := by
  apply List.ext_getElem?
  intro j
  by_cases hj : j < m
  · have h4 : j % 4 < 4 := Nat.mod_lt _ (by omega)
    have key : ∀ q, q < 4 → (Value.cells (.agg #[.int .i64 0, .int .i64 0, .int .i64 0, .int .i64 0]))[q]! = Value.int .i64 0 := by
      intro q hq
      match q, hq with
      | 0, _ | 1, _ | 2, _ | 3, _ => rfl
    have e : (Value.cells (.agg #[.int .i64 0, .int .i64 0, .int .i64 0, .int .i64 0])).size = 4 := rfl
    simp only [madeCells, Array.toList_map, Array.toList_range, List.getElem?_map, List.getElem?_range hj, Option.map_some, e, key _ h4]
    simp [hj]
  · rw [List.getElem?_eq_none (by simp [madeCells]; omega), List.getElem?_eq_none (by simp; omega)]
theorem infoOp : (Tryd.prog.info? 35).map (fun i => (i.zero, i.size, i.bytes)) = some (some (.agg #[.int .i64 0, .int .i64 0, .int .i64 0, .int .i64 0]), 4, 32) := by kernel_rfl
set_option maxHeartbeats 1000000 in
theorem toOps_any (a : Option Addr) (n cap : Nat) (L : List (Nat → Int)) (w : World) (h : OpR w a n cap L) (hn : n ≤ 1048576) : Calls Tryd.prog 13 #[.slice a n cap] w fun r w' => ∃ a1 c1, r = .returned (.slice a1 n c1) ∧ w'.ownsRow w.heap.size 35 4 (.slice a1 n c1) n ((Tm.flatO L).map (Value.int .i64)) ∧ Below w.heap.size w w' := by
  obtain ⟨i0, hi, hz0, hz1, hz2⟩ := info_parts infoOp
  have H := Lib.hid h
  obtain rfl : L.length = n := h.1
  have FA : Hid (fillTo (Tm.flatO L) (L.length * 4) (L.length * 4) = (Tm.flatO L).map (Value.int .i64)) := Lib.hid (fillTo_all _ _ (Tm.flatO_length L))
  clear h
  go_enter Tryd.func13, Tryd.ntmps13
  go_wp2_with (at_make; refine wpList_make_full _ rfl _ _ 23 rfl w.heap.size 35 i0 (.agg #[.int .i64 0, .int .i64 0, .int .i64 0, .int .i64 0]) 4 Tryd.underlying23 hi hz0 hz1 _ _ _ _ L.length rfl rfl rfl rfl ?b1 ?b2 ?b3 ?_)
  case b1 => rw [hz2]; omega
  case b2 => unfold maxLen; omega
  case b3 => exact Nat.le_refl _
  intro w1 hown hgrow
  have hb1 : Below w.heap.size w w1 := (Below.refl _ _).grown hgrow (Nat.le_refl _) (fun k hk => by cases hk)
  have hown0 : Hid (w1.ownsRow w.heap.size 35 4 (.slice (some ⟨w.heap.size, 0, none⟩) L.length L.length) L.length (fillTo (Tm.flatO L) (L.length * 4) (0 * 4))) := Lib.hid (by
    rw [Nat.zero_mul, fillTo_zero, ← made_ops]; exact hown)
  clear hown hgrow hi hz0 hz1 hz2
  go_wp2
  go_loopw [4] (fun i wr => ∃ k : Nat, k ≤ L.length ∧ i = .int .i64 k ∧ Hid (wr.ownsRow w.heap.size 35 4 (.slice (some ⟨w.heap.size, 0, none⟩) L.length L.length) L.length (fillTo (Tm.flatO L) (L.length * 4) (k * 4))) ∧ Below w.heap.size w wr)
    (fun i _ => L.length - (intOf i).toNat)
  case atStart => exact ⟨0, by omega, rfl, hown0, hb1⟩
  case round =>
    obtain ⟨k, hk, rfl, HO, hb⟩ := hrel
    clear hown0 hb1
    by_cases hlt : k < L.length
    · obtain ⟨-, -, -, y⟩ := H.out.below hb
      rcases y with h0 | ⟨b, o, rfl, hbl, hc⟩
      · omega
      obtain ⟨g, hg, g1⟩ := OpR.op hc hlt
      have GG := Lib.hid hg
      obtain ⟨p0, p1, p2, p3⟩ := g1
      clear hg hc
      have hs := hb.size
      go_wp2_with fail
      refine (toOp_any g _).mono ?_
      rintro e w2 ⟨rfl, hb2⟩
      obtain ⟨p, rfl⟩ := gw_of_below hb2
      clear hb2 p0 p1 p2 p3
      have zt := own_zeroO HO.out (fun j hj => fillTo_offO L hlt hj)
      obtain ⟨z0, z1, z2, z3⟩ := zt
      have fz := HO.out.frozenAt
      have lz := (HO.out.lt w.heap.size rfl).2
      have st := own_setCells (ocells g) _ _ (k * 4) HO.out
      have FG := fillTo_op L hlt
      rw [← GG.out] at FG
      rw [FG] at st
      have ST := Lib.hid st
      clear st FG
      go_wp2
      exact ⟨⟨k + 1, by omega, by go_num, Lib.hid (own_below ST.out.1 (below_gw (Below.refl _ _) (Nat.le_refl _) p)), below_gw (hb.grown ST.out.2 hs (fun q hq => by cases hq; exact Nat.le_refl _)) (by rw [setCells_size]; exact hs) p⟩, by simp [intOf]; omega⟩
    · obtain rfl : k = L.length := by omega
      go_wp2
      go_ret
      rw [FA.out] at HO
      exact ⟨_, _, rfl, HO.out, hb⟩
theorem szOps (a : Option Addr) (n cap : Nat) (left : Int) (w : World) (hn : n ≤ 9223372036854775807) (h0 : 0 ≤ left) (h1 : left ≤ 1048576) : Calls Tryd.prog 11 #[.slice a n cap, .int .i64 left] w fun r w' => r = .returned (.int .i64 (if left - (n : Int) < 0 then -1 else left - (n : Int))) ∧ w = w' := by
  by_cases c : left - (n : Int) < 0
  · rw [if_pos c]
    go_enter Tryd.func11, Tryd.ntmps11
    go_wp2
    go_ret
    exact ⟨rfl, rfl⟩
  · rw [if_neg c]
    go_enter Tryd.func11, Tryd.ntmps11
    go_wp2
    go_ret
    exact ⟨rfl, rfl⟩
end Go.Proofs.YtfnhoiomdjmjhaaDoor

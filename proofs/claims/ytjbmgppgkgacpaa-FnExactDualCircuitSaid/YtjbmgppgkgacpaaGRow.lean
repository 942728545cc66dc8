/- Lists of gates: what is told of one that is read, of one that is a callee's own; the contracts of the laws' own functions on gates and circuits. -/
import Derived.Test.YtjbmgppgkgacpaaGMath
import Derived.Test.YtjbmgppgkgacpaaTab2
import Derived.Test.YtjbmgppgkgacpaaTurn
import Derived.Test.YtjbmgppgkgacpaaGen
import Derived.Deep.MidRow
namespace Go.Proofs.Ytjbmgppgkgacpaa
set_option maxRecDepth 20000
open Go.RowKit
abbrev gateV (g : Nat → Int) : Value := .agg #[.int .i64 (g 0), .int .i64 (g 1), .int .i64 (g 2), .int .i64 (g 3), .int .i64 (g 4), .int .i64 (g 5), .int .i64 (g 6), .int .i64 (g 7), .int .i64 (g 8), .int .i64 (g 9), .int .i64 (g 10)]
def gcells (g : Nat → Int) : List Value := [.int .i64 (g 0), .int .i64 (g 1), .int .i64 (g 2), .int .i64 (g 3), .int .i64 (g 4), .int .i64 (g 5), .int .i64 (g 6), .int .i64 (g 7), .int .i64 (g 8), .int .i64 (g 9), .int .i64 (g 10)]
namespace Tm
/-- The numbers of gates, one after the other. -/
def flat : List (Nat → Int) → List Int
  | [] => []
  | g :: L => g 0 :: g 1 :: g 2 :: g 3 :: g 4 :: g 5 :: g 6 :: g 7 :: g 8 :: g 9 :: g 10 :: flat L
theorem flat_length (L : List (Nat → Int)) : (flat L).length = L.length * 11 := by
  induction L with
  | nil => rfl
  | cons g L ih => simp only [flat, List.length_cons, ih]; omega
theorem flat_append (L M : List (Nat → Int)) : flat (L ++ M) = flat L ++ flat M := by
  induction L with
  | nil => rfl
  | cons g L ih => simp [flat, ih]
theorem flat_at (L : List (Nat → Int)) : ∀ (i j : Nat), i < L.length → j < 11 → (flat L).getD (i * 11 + j) 0 = (L.getD i g0) j := by
  induction L with
  | nil => intro i j hi; simp at hi
  | cons g L ih =>
    intro i j hi hj
    match i with
    | 0 =>
      match j, hj with
      | 0, _ | 1, _ | 2, _ | 3, _ | 4, _ | 5, _ | 6, _ | 7, _ | 8, _ | 9, _ | 10, _ => simp [flat]
    | i + 1 =>
      have := ih i j (by simpa using hi) hj
      rw [show (i + 1) * 11 + j = i * 11 + j + 11 by omega]
      simpa [flat] using this
end Tm
/-- The slice value '.slice a n cap' reads as the gates L. -/
def Gs (w : World) (a : Option Addr) (n cap : Nat) (L : List (Nat → Int)) : Prop :=
  L.length = n ∧ n ≤ cap ∧ cap ≤ maxLen ∧ (n = 0 ∨ ∃ b o, a = some ⟨b, o, none⟩ ∧ b < w.heap.size ∧ ∀ i, i < n → ∀ j, j < 11 → w.cell? ⟨b, o + i * 11 + j, none⟩ = some (.int .i64 (L.getD i Tm.g0 j)))
theorem Gs.of_blocks {w w' : World} {a : Option Addr} {n cap : Nat} {L : List (Nat → Int)} (h : Gs w a n cap L) (hs : w.heap.size ≤ w'.heap.size) (hb : ∀ b o, a = some ⟨b, o, none⟩ → b < w.heap.size → w'.heap[b]? = w.heap[b]?) : Gs w' a n cap L := by
  obtain ⟨h1, h2, h3, h4⟩ := h
  refine ⟨h1, h2, h3, ?_⟩
  rcases h4 with h4 | ⟨b, o, ha, hlt, hc⟩
  · exact .inl h4
  · exact .inr ⟨b, o, ha, by omega, fun i hi j hj => by rw [← hc i hi j hj]; exact World.cell?_of_block (a := ⟨b, o + i * 11 + j, none⟩) (hb b o ha hlt)⟩
theorem Gs.below {w w' : World} {a : Option Addr} {n cap : Nat} {L : List (Nat → Int)} (h : Gs w a n cap L) (hb : Below w.heap.size w w') : Gs w' a n cap L :=
  h.of_blocks hb.size (fun b _ _ hlt => hb.block b hlt)
theorem Gs.alloc {w : World} {a : Option Addr} {n cap : Nat} {L : List (Nat → Int)} (h : Gs w a n cap L) (o : Obj) : Gs (w.alloc o) a n cap L := h.below ((Below.refl _ _).alloc (Nat.le_refl _) o)
/-- A gate's cells. -/
def GateAt (w : World) (b X : Nat) (g : Nat → Int) : Prop := w.cell? ⟨b, X, none⟩ = some (.int .i64 (g 0)) ∧ w.cell? ⟨b, X + 1, none⟩ = some (.int .i64 (g 1)) ∧ w.cell? ⟨b, X + 2, none⟩ = some (.int .i64 (g 2)) ∧ w.cell? ⟨b, X + 3, none⟩ = some (.int .i64 (g 3)) ∧ w.cell? ⟨b, X + 4, none⟩ = some (.int .i64 (g 4)) ∧ w.cell? ⟨b, X + 5, none⟩ = some (.int .i64 (g 5)) ∧ w.cell? ⟨b, X + 6, none⟩ = some (.int .i64 (g 6)) ∧ w.cell? ⟨b, X + 7, none⟩ = some (.int .i64 (g 7)) ∧ w.cell? ⟨b, X + 8, none⟩ = some (.int .i64 (g 8)) ∧ w.cell? ⟨b, X + 9, none⟩ = some (.int .i64 (g 9)) ∧ w.cell? ⟨b, X + 10, none⟩ = some (.int .i64 (g 10))
theorem gateAt_of {w : World} {b X : Nat} {g : Nat → Int} (h : ∀ j, j < 11 → w.cell? ⟨b, X + j, none⟩ = some (.int .i64 (g j))) : GateAt w b X g :=
  ⟨h 0 (by omega), h 1 (by omega), h 2 (by omega), h 3 (by omega), h 4 (by omega), h 5 (by omega), h 6 (by omega), h 7 (by omega), h 8 (by omega), h 9 (by omega), h 10 (by omega)⟩
theorem Gs.gate {w : World} {b o n : Nat} {L : List (Nat → Int)} (hc : ∀ i, i < n → ∀ j, j < 11 → w.cell? ⟨b, o + i * 11 + j, none⟩ = some (.int .i64 (L.getD i Tm.g0 j))) {k : Nat} (hk : k < n) : ∃ g, g = L.getD k Tm.g0 ∧ GateAt w b (o + k * 11) g :=
  ⟨_, rfl, gateAt_of (hc k hk)⟩
theorem toGate_any (g : Nat → Int) (w : World) : Calls Try.prog 72 #[gateV g] w fun e w' => e = .returned (gateV g) ∧ Below w.heap.size w w' := by
  go_enter Try.func72, Try.ntmps72
  go_wp2_with ((go_at_call 13; refine (toTable_any g _).mono ?_; rintro e w1 ⟨rfl, hb⟩; obtain ⟨p, rfl⟩ := gw_of_below hb; clear hb))
  go_returns
  exact ⟨rfl, by (repeat' (first | (with_reducible exact Below.refl _ _) | (with_reducible assumption) | (with_reducible refine below_drewN ?_ _) | (with_reducible refine Below.drew ?_) | (with_reducible refine Below.alloc ?_ ?_ _) | (with_reducible refine Below.setCell ?_ ?_ _) | (with_reducible refine below_gw ?_ ?_ _) | (with_reducible refine below_via ?_ ‹Below _ _ _› ?_) | (with_reducible exact Nat.le_refl _) | (with_reducible refine le_gw ?_ _) | (with_reducible refine le_alloc ?_ _) | (with_reducible refine le_setCell ?_ _ _) | (with_reducible refine le_drew ?_) | (with_reducible refine le_drewN ?_ _) | go_size))⟩
theorem eqGate_same (g : Nat → Int) (w : World) : Calls Try.prog 56 #[gateV g, gateV g] w fun e w' => e = .returned (.bool true) ∧ Below w.heap.size w w' := by
  go_enter Try.func56, Try.ntmps56
  go_wp2_with ((go_at_call 78; refine (eqTable_same g _).mono ?_; rintro e w1 ⟨rfl, hb⟩; obtain ⟨p, rfl⟩ := gw_of_below hb; clear hb))
  go_ret
  exact ⟨rfl, by (repeat' (first | (with_reducible exact Below.refl _ _) | (with_reducible assumption) | (with_reducible refine below_drewN ?_ _) | (with_reducible refine Below.drew ?_) | (with_reducible refine Below.alloc ?_ ?_ _) | (with_reducible refine Below.setCell ?_ ?_ _) | (with_reducible refine below_gw ?_ ?_ _) | (with_reducible refine below_via ?_ ‹Below _ _ _› ?_) | (with_reducible exact Nat.le_refl _) | (with_reducible refine le_gw ?_ _) | (with_reducible refine le_alloc ?_ _) | (with_reducible refine le_setCell ?_ _ _) | (with_reducible refine le_drew ?_) | (with_reducible refine le_drewN ?_ _) | go_size))⟩
theorem eqGates_same (a a' : Option Addr) (n cap cap' : Nat) (L : List (Nat → Int)) (w : World) (h : Gs w a n cap L) (h' : Gs w a' n cap' L) : Calls Try.prog 25 #[.slice a n cap, .slice a' n cap'] w fun e w' => e = .returned (.bool true) ∧ Below w.heap.size w w' := by
  have H := Lib.hid h
  have H2 := Lib.hid h'
  obtain ⟨x1, x2, x3, x4⟩ := h
  clear h' x4 x1
  unfold maxLen at x3
  go_enter Try.func25, Try.ntmps25
  go_wp2
  go_loopw [5] (fun i wr => ∃ k : Nat, k ≤ n ∧ i = .int .i64 k ∧ Below w.heap.size w wr) (fun i _ => n - (intOf i).toNat)
  case atStart => exact ⟨0, by omega, rfl, Below.refl _ _⟩
  case round =>
    obtain ⟨k, hk, rfl, hb⟩ := hrel
    by_cases hlt : k < n
    · obtain ⟨-, -, -, y⟩ := H.out.below hb
      obtain ⟨-, -, -, y2⟩ := H2.out.below hb
      rcases y with h0 | ⟨b, o, rfl, hbl, hc⟩
      · omega
      rcases y2 with h0 | ⟨b', o', rfl, hbl', hc'⟩
      · omega
      obtain ⟨g, hg, g1⟩ := Gs.gate hc hlt
      obtain ⟨g', hg', g2⟩ := Gs.gate hc' hlt
      obtain rfl : g = g' := by rw [hg, hg']
      clear hg hg' hc hc'
      obtain ⟨p0, p1, p2, p3, p4, p5, p6, p7, p8, p9, p10⟩ := g1
      obtain ⟨q0, q1, q2, q3, q4, q5, q6, q7, q8, q9, q10⟩ := g2
      go_wp2
      (refine wp_region_quiet_below (by kernel_rfl) (by kernel_rfl) ?_; (repeat (go_big_quiet_step ((go_at_call 56; exact met_below (fun _ => eqGate_same g _))))); refine wpQuiet_nil ?_; intro wq hwq; obtain ⟨pq, hpq⟩ := hwq; have hpq' : wq = gw _ pq := hpq; clear hpq; subst hpq')
      clear p0 p1 p2 p3 p4 p5 p6 p7 p8 p9 p10 q0 q1 q2 q3 q4 q5 q6 q7 q8 q9 q10
      go_wp2
      exact ⟨⟨k + 1, by omega, by go_num, below_via hb (below_gw (Below.refl _ _) (Nat.le_refl _) _) hb.size⟩, by simp [intOf]; omega⟩
    · obtain rfl : k = n := by omega
      go_wp2
      go_ret
      exact ⟨rfl, hb⟩
/-! ### Of a callee's own: a row of gates, as numbers. -/
theorem fillTo_gate (L : List (Nat → Int)) {k : Nat} (h : k < L.length) : setAll (fillTo (Tm.flat L) (L.length * 11) (k * 11)) (k * 11) (gcells (L.getD k Tm.g0)) = fillTo (Tm.flat L) (L.length * 11) ((k + 1) * 11) := by
  have := fillTo_setAll (Tm.flat L) (L.length * 11) (gcells (L.getD k Tm.g0)) (k * 11) (by simp only [gcells, List.length_cons, List.length_nil]; omega) (fun j v hj => by
    have e : ∀ q, q < 11 → (Tm.flat L).getD (k * 11 + q) 0 = (L.getD k Tm.g0) q := fun q hq => Tm.flat_at L k q h hq
    match j, hj with
    | 0, hj | 1, hj | 2, hj | 3, hj | 4, hj | 5, hj | 6, hj | 7, hj | 8, hj | 9, hj | 10, hj => rw [e _ (by omega)]; simp [gcells] at hj; exact hj.symm
    | j + 11, hj => simp [gcells] at hj)
  rw [this, show k * 11 + (gcells (L.getD k Tm.g0)).length = (k + 1) * 11 by simp only [gcells, List.length_cons, List.length_nil]; omega]
theorem fillTo_off (L : List (Nat → Int)) {k j : Nat} (hk : k < L.length) (hj : j < 11) : (fillTo (Tm.flat L) (L.length * 11) (k * 11))[k * 11 + j]? = some (.int .i64 0) := by
  rw [fillTo_get _ _ _ _ (by omega), if_neg (by omega)]
theorem own_zero {w : World} {base e size g n cap k : Nat} {xs : List Value} (h : w.ownsRow base e size (.slice (some ⟨g, 0, none⟩) n cap) n xs) (hx : ∀ j, j < 11 → xs[k * 11 + j]? = some (.int .i64 0)) : GateAt w g (k * 11) Tm.g0 :=
  gateAt_of fun j hj => by rw [h.cellAt (k * 11 + j) (by have := (List.getElem?_eq_some_iff.1 (hx j hj)).1; have := h.1; omega), hx j hj]; rfl
/-- A row of n gates, by its numbers xs. -/
def OwnG (w : World) (B E e : Nat) (v : Value) (n : Nat) (xs : List Int) : Prop := w.ownsRow B e 11 v n (xs.map (Value.int .i64)) ∧ ∀ k, v.ownBlock = some k → k < E
theorem OwnG.lt {w : World} {B E e n : Nat} {v : Value} {xs : List Int} (h : OwnG w B E e v n xs) : ∀ k, v.ownBlock = some k → B ≤ k ∧ k < E := fun k hk => ⟨(h.1.lt k hk).1, h.2 k hk⟩
theorem OwnG.stay {w w' : World} {B E e n : Nat} {v : Value} {xs : List Int} (h : OwnG w B E e v n xs) (hs : SameIn B E w w') : OwnG w' B E e v n xs :=
  ⟨own_stable h.1 fun k hk => hs.2 k (h.lt k hk).1 (h.lt k hk).2, h.2⟩
theorem OwnG.wide {w : World} {B E B' E' e n : Nat} {v : Value} {xs : List Int} (h : OwnG w B E e v n xs) (h1 : B' ≤ B) (h2 : E ≤ E') : OwnG w B' E' e v n xs :=
  ⟨own_weak2 h.1 h1, fun k hk => Nat.lt_of_lt_of_le (h.2 k hk) h2⟩
theorem Gs.of_own {w : World} {B e : Nat} {a : Option Addr} {n cap : Nat} {L : List (Nat → Int)} (h : w.ownsRow B e 11 (.slice a n cap) n ((Tm.flat L).map (Value.int .i64))) (hn : L.length = n) : Gs w a n cap L := by
  rcases h.2 with ⟨h2, h0⟩ | ⟨g, cap', cur, h2, hB, hg, hc, hcap, hsz, ht⟩
  · simp only [Value.slice.injEq] at h2
    obtain ⟨rfl, rfl, rfl⟩ := h2
    exact ⟨hn, by omega, by unfold maxLen; omega, .inl rfl⟩
  · simp only [Value.slice.injEq] at h2
    obtain ⟨rfl, _, rfl⟩ := h2
    refine ⟨hn, hc, hcap, .inr ⟨g, 0, rfl, (Array.getElem?_eq_some_iff.1 hg).1, fun i hi j hj => ?_⟩⟩
    have := h.cellAt (i * 11 + j) (by omega)
    rw [Nat.zero_add, this, List.getElem?_map, List.getElem?_eq_getElem (by rw [Tm.flat_length]; omega)]
    have e := Tm.flat_at L i j (by omega) hj
    rw [List.getD_eq_getElem?_getD, List.getElem?_eq_getElem (by rw [Tm.flat_length]; omega)] at e
    simp only [Option.getD_some] at e
    simp only [Option.map_some, e]
theorem infoGate : (Try.prog.info? 59).map (fun i => (i.zero, i.size, i.bytes)) = some (some (.agg #[.int .i64 0, .int .i64 0, .int .i64 0, .int .i64 0, .int .i64 0, .int .i64 0, .int .i64 0, .int .i64 0, .int .i64 0, .int .i64 0, .int .i64 0]), 11, 88) := by kernel_rfl
theorem made_gates (m : Nat) : (madeCells (Value.cells (.agg #[.int .i64 0, .int .i64 0, .int .i64 0, .int .i64 0, .int .i64 0, .int .i64 0, .int .i64 0, .int .i64 0, .int .i64 0, .int .i64 0, .int .i64 0])) m).toList = List.replicate m (.int .i64 0) := by
  apply List.ext_getElem?
  intro j
  by_cases hj : j < m
  · have h11 : j % 11 < 11 := Nat.mod_lt _ (by omega)
    have key : ∀ q, q < 11 → (Value.cells (.agg #[.int .i64 0, .int .i64 0, .int .i64 0, .int .i64 0, .int .i64 0, .int .i64 0, .int .i64 0, .int .i64 0, .int .i64 0, .int .i64 0, .int .i64 0]))[q]! = Value.int .i64 0 := by
      intro q hq
      match q, hq with
      | 0, _ | 1, _ | 2, _ | 3, _ | 4, _ | 5, _ | 6, _ | 7, _ | 8, _ | 9, _ | 10, _ => rfl
    have e : (Value.cells (.agg #[.int .i64 0, .int .i64 0, .int .i64 0, .int .i64 0, .int .i64 0, .int .i64 0, .int .i64 0, .int .i64 0, .int .i64 0, .int .i64 0, .int .i64 0])).size = 11 := rfl
    simp only [madeCells, Array.toList_map, Array.toList_range, List.getElem?_map, List.getElem?_range hj, Option.map_some, e, key _ h11]
    simp [hj]
  · rw [List.getElem?_eq_none (by simp [madeCells]; omega), List.getElem?_eq_none (by simp; omega)]
set_option maxHeartbeats 1000000 in
theorem toGates_any (a : Option Addr) (n cap : Nat) (L : List (Nat → Int)) (w : World) (h : Gs w a n cap L) (hn : n ≤ 1048576) : Calls Try.prog 46 #[.slice a n cap] w fun r w' => ∃ a1 c1, r = .returned (.slice a1 n c1) ∧ w'.ownsRow w.heap.size 59 11 (.slice a1 n c1) n ((Tm.flat L).map (Value.int .i64)) ∧ Below w.heap.size w w' := by
  obtain ⟨i0, hi, hz0, hz1, hz2⟩ := info_parts infoGate
  have H := Lib.hid h
  obtain rfl : L.length = n := h.1
  have FA : Hid (fillTo (Tm.flat L) (L.length * 11) (L.length * 11) = (Tm.flat L).map (Value.int .i64)) := Lib.hid (fillTo_all _ _ (Tm.flat_length L))
  clear h
  go_enter Try.func46, Try.ntmps46
  go_wp2_with (at_make; refine wpList_make_full _ rfl _ _ 22 rfl w.heap.size 59 i0 (.agg #[.int .i64 0, .int .i64 0, .int .i64 0, .int .i64 0, .int .i64 0, .int .i64 0, .int .i64 0, .int .i64 0, .int .i64 0, .int .i64 0, .int .i64 0]) 11 Try.underlying22 hi hz0 hz1 _ _ _ _ L.length rfl rfl rfl rfl ?b1 ?b2 ?b3 ?_)
  case b1 => rw [hz2]; omega
  case b2 => unfold maxLen; omega
  case b3 => exact Nat.le_refl _
  intro w1 hown hgrow
  have hb1 : Below w.heap.size w w1 := (Below.refl _ _).grown hgrow (Nat.le_refl _) (fun k hk => by cases hk)
  have hown0 : Hid (w1.ownsRow w.heap.size 59 11 (.slice (some ⟨w.heap.size, 0, none⟩) L.length L.length) L.length (fillTo (Tm.flat L) (L.length * 11) (0 * 11))) := Lib.hid (by
    rw [Nat.zero_mul, fillTo_zero, ← made_gates]; exact hown)
  clear hown hgrow hi hz0 hz1 hz2
  go_wp2
  go_loopw [4] (fun i wr => ∃ k : Nat, k ≤ L.length ∧ i = .int .i64 k ∧ Hid (wr.ownsRow w.heap.size 59 11 (.slice (some ⟨w.heap.size, 0, none⟩) L.length L.length) L.length (fillTo (Tm.flat L) (L.length * 11) (k * 11))) ∧ Below w.heap.size w wr)
    (fun i _ => L.length - (intOf i).toNat)
  case atStart => exact ⟨0, by omega, rfl, hown0, hb1⟩
  case round =>
    obtain ⟨k, hk, rfl, HO, hb⟩ := hrel
    clear hown0 hb1
    by_cases hlt : k < L.length
    · obtain ⟨-, -, -, y⟩ := H.out.below hb
      rcases y with h0 | ⟨b, o, rfl, hbl, hc⟩
      · omega
      obtain ⟨g, hg, g1⟩ := Gs.gate hc hlt
      have GG := Lib.hid hg
      obtain ⟨p0, p1, p2, p3, p4, p5, p6, p7, p8, p9, p10⟩ := g1
      clear hg hc
      have hs := hb.size
      go_wp2_with fail
      refine (toGate_any g _).mono ?_
      rintro e w2 ⟨rfl, hb2⟩
      obtain ⟨p, rfl⟩ := gw_of_below hb2
      clear hb2 p0 p1 p2 p3 p4 p5 p6 p7 p8 p9 p10
      have zt := own_zero HO.out (fun j hj => fillTo_off L hlt hj)
      obtain ⟨z0, z1, z2, z3, z4, z5, z6, z7, z8, z9, z10⟩ := zt
      have fz := HO.out.frozenAt
      have lz := (HO.out.lt w.heap.size rfl).2
      have st := own_setCells (gcells g) _ _ (k * 11) HO.out
      have FG := fillTo_gate L hlt
      rw [← GG.out] at FG
      rw [FG] at st
      have ST := Lib.hid st
      clear st FG
      go_wp2
      exact ⟨⟨k + 1, by omega, by go_num, Lib.hid (own_below ST.out.1 (below_gw (Below.refl _ _) (Nat.le_refl _) p)), below_gw (hb.grown ST.out.2 hs (fun q hq => by cases hq; exact Nat.le_refl _)) (by rw [setCells_size]; exact hs) p⟩, by simp [intOf]; omega⟩
    · obtain rfl : k = L.length := by omega
      go_wp2
      go_ret
      rw [FA.out] at HO
      exact ⟨_, _, rfl, HO.out, hb⟩
theorem szGates (a : Option Addr) (n cap : Nat) (left : Int) (w : World) (hn : n ≤ 9223372036854775807) (h0 : 0 ≤ left) (h1 : left ≤ 1048576) : Calls Try.prog 40 #[.slice a n cap, .int .i64 left] w fun r w' => r = .returned (.int .i64 (if left - (n : Int) < 0 then -1 else left - (n : Int))) ∧ w = w' := by
  by_cases c : left - (n : Int) < 0
  · rw [if_pos c]
    go_enter Try.func40, Try.ntmps40
    go_wp2
    go_ret
    exact ⟨rfl, rfl⟩
  · rw [if_neg c]
    go_enter Try.func40, Try.ntmps40
    go_wp2
    go_ret
    exact ⟨rfl, rfl⟩
set_option maxHeartbeats 2000000 in
theorem markGates_any (B : Nat) (a : Option Addr) (n cap : Nat) (xs : List Int) (c : Int) (w : World) (hx : xs.length = n * 11) (h : w.ownsRow B 59 11 (.slice a n cap) n (xs.map (Value.int .i64))) (hn : n ≤ 1048576) (hc0 : 0 ≤ c) (hc1 : c ≤ 1000000000) :
    Calls Try.prog 27 #[.slice a n cap, .int .i64 c] w fun r w' => r = .returned (.int .i64 (c + (n : Int) * 11)) ∧ w'.ownsRow B 59 11 (.slice a n cap) n ((marks c (n * 11)).map (Value.int .i64)) ∧ w.grownBy w' (Value.slice a n cap).ownBlock ∧ w'.heap.size = w.heap.size := by
  have h0 := h
  rw [← markTo_zero xs c (n * 11) hx] at h0
  have H0 : Hid (w.ownsRow B 59 11 (.slice a n cap) n (markTo xs c (n * 11) (0 * 11))) := Lib.hid (by rw [Nat.zero_mul]; exact h0)
  clear h h0
  have HX := Lib.hid hx
  clear hx
  go_enter Try.func27, Try.ntmps27
  go_wp2
  go_loopw [1, 5] (fun c' i wr => ∃ k : Nat, k ≤ n ∧ i = .int .i64 k ∧ c' = .int .i64 (c + (k : Int) * 11) ∧ Hid (wr.ownsRow B 59 11 (.slice a n cap) n (markTo xs c (n * 11) (k * 11))) ∧ w.grownBy wr (Value.slice a n cap).ownBlock ∧ wr.heap.size = w.heap.size)
    (fun _ i _ => n - (intOf i).toNat)
  case atStart => exact ⟨0, by omega, rfl, by simp, H0, ⟨rfl, rfl, rfl, Nat.le_refl _, fun _ _ _ => rfl⟩, rfl⟩
  case round =>
    obtain ⟨k, hk, rfl, rfl, HO, hg, hsz⟩ := hrel
    clear H0
    by_cases hlt : k < n
    · rcases HO.out.2 with ⟨-, e0⟩ | ⟨g, cap', cur, e1, hB, -, -, -, -, -⟩
      · omega
      simp only [Value.slice.injEq] at e1
      obtain ⟨rfl, _, _⟩ := e1
      go_wp2
      go_loopw [1, 6] (fun c' i wr => ∃ j : Nat, j ≤ 9 ∧ i = .int .i64 j ∧ c' = .int .i64 (c + (k : Int) * 11 + (j : Int)) ∧ Hid (wr.ownsRow B 59 11 (.slice (some ⟨g, 0, none⟩) n cap) n (markTo xs c (n * 11) (k * 11 + j))) ∧ w.grownBy wr (some g) ∧ wr.heap.size = w.heap.size)
        (fun _ i _ => 9 - (intOf i).toNat)
      case atStart => exact ⟨0, by omega, rfl, by simp, HO, hg, hsz⟩
      case round =>
        clear HO hg hsz
        obtain ⟨j, hj, rfl, rfl, HO, hg, hsz⟩ := hrel
        by_cases hl2 : j < 9
        · have hown := HO.out
          have fz := hown.frozenAt (k * 11 + j)
          have hst := hown.stored (k * 11 + j) (.int .i64 (c + (k : Int) * 11 + (j : Int)))
          have ck := hown.cellAt (k * 11 + j) (by omega)
          rw [markTo_get _ _ _ _ _ (by omega)] at ck
          have e2 : c + (k : Int) * 11 + (j : Int) = c + ((k * 11 + j : Nat) : Int) := by omega
          rw [e2, markTo_set xs c (n * 11) (k * 11 + j), ← e2] at hst
          clear e2
          obtain ⟨s1, s2⟩ := hst
          have S1 := Lib.hid s1
          have hg2 : w.grownBy (wr.setCell ⟨g, k * 11 + j, none⟩ (.int .i64 (c + (k : Int) * 11 + (j : Int)))) (some g) :=
            ⟨s2.os.trans hg.os, s2.tape.trans hg.tape, s2.output.trans hg.output, Nat.le_trans hg.size s2.size, fun q hq hne => (s2.block q (by omega) hne).trans (hg.block q hq hne)⟩
          clear hown hg s1 s2 HO
          go_wp2
          exact ⟨⟨j + 1, by omega, by go_num, by first | rfl | (congr 1; omega), S1, hg2, by simpa using hsz⟩, by simp [intOf]; omega⟩
        · obtain rfl : j = 9 := by omega
          have hown := HO.out
          have fz := hown.frozenAt
          have c9 := hown.cellAt (k * 11 + 9) (by omega)
          have c10 := hown.cellAt (k * 11 + 10) (by omega)
          rw [markTo_get _ _ _ _ _ (by omega)] at c9 c10
          obtain ⟨s1, s2⟩ := hown.stored (k * 11 + 9) (.int .i64 (c + (k : Int) * 11 + 9))
          obtain ⟨r1, r2⟩ := s1.stored (k * 11 + 10) (.int .i64 (c + (k : Int) * 11 + 9 + 1))
          have e9 : c + (k : Int) * 11 + 9 = c + ((k * 11 + 9 : Nat) : Int) := by omega
          have e10 : c + (k : Int) * 11 + 9 + 1 = c + ((k * 11 + 9 + 1 : Nat) : Int) := by omega
          have mt := markTo_set xs c (n * 11) (k * 11 + 9)
          have mt2 := markTo_set xs c (n * 11) (k * 11 + 9 + 1)
          rw [← e9] at mt
          rw [← e10] at mt2
          rw [mt, show k * 11 + 10 = k * 11 + 9 + 1 from rfl, mt2] at r1
          have R1 := Lib.hid r1
          have hg2 : Hid (w.grownBy ((wr.setCell ⟨g, k * 11 + 9, none⟩ (.int .i64 (c + (k : Int) * 11 + 9))).setCell ⟨g, k * 11 + 10, none⟩ (.int .i64 (c + (k : Int) * 11 + 9 + 1))) (some g)) :=
            Lib.hid ⟨r2.os.trans (s2.os.trans hg.os), r2.tape.trans (s2.tape.trans hg.tape), r2.output.trans (s2.output.trans hg.output), Nat.le_trans hg.size (Nat.le_trans s2.size r2.size), fun q hq hne => (r2.block q (by have := s2.size; omega) hne).trans ((s2.block q (by omega) hne).trans (hg.block q hq hne))⟩
          clear hown hg s1 s2 HO r1 r2 mt mt2 e9 e10
          go_wp2
          exact ⟨⟨k + 1, by omega, by go_num, by first | rfl | (congr 1; omega), Lib.hid (by rw [show (k + 1) * 11 = k * 11 + 9 + 1 + 1 by omega]; exact R1.out), hg2.out, by simpa using hsz⟩, by simp [intOf]; omega⟩
    · obtain rfl : k = n := by omega
      go_wp2
      go_ret
      have ho := HO.out
      rw [markTo_all] at ho
      exact ⟨rfl, ho, hg, hsz⟩
set_option maxHeartbeats 2000000 in
theorem heldGates_marks (B : Nat) (a : Option Addr) (n cap : Nat) (c : Int) (w : World) (h : w.ownsRow B 59 11 (.slice a n cap) n ((marks c (n * 11)).map (Value.int .i64))) (hn : n ≤ 1048576) (hc0 : 0 ≤ c) (hc1 : c ≤ 1000000000) :
    Calls Try.prog 29 #[.slice a n cap, .int .i64 c] w fun e w' => e = .returned (.int .i64 (c + (n : Int) * 11)) ∧ w = w' := by
  have HO := Lib.hid h
  have CK : ∀ g : Nat, a = some ⟨g, 0, none⟩ → ∀ q, q < n * 11 → w.cell? ⟨g, q, none⟩ = some (.int .i64 (c + (q : Int))) := by
    intro g hg q hq
    subst hg
    rw [HO.out.cellAt q hq, List.getElem?_map, List.getElem?_eq_getElem (by rw [marks_length]; exact hq)]
    have := marks_get c (n * 11) q hq
    rw [List.getD_eq_getElem?_getD, List.getElem?_eq_getElem (by rw [marks_length]; exact hq)] at this
    simp only [Option.getD_some] at this
    rw [Option.map_some, this]
  have CK := Lib.hid CK
  clear h
  go_enter Try.func29, Try.ntmps29
  go_wp2
  go_loop [1, 5] (fun c' i => ∃ k : Nat, k ≤ n ∧ i = .int .i64 k ∧ c' = .int .i64 (c + (k : Int) * 11)) (fun _ i => n - (intOf i).toNat)
  case atStart => exact ⟨0, by omega, rfl, by simp⟩
  case round =>
    obtain ⟨k, hk, rfl, rfl⟩ := hrel
    by_cases hlt : k < n
    · rcases HO.out.2 with ⟨-, e0⟩ | ⟨g, cap', cur, e1, hB, -, -, -, -, -⟩
      · omega
      simp only [Value.slice.injEq] at e1
      obtain ⟨rfl, _, _⟩ := e1
      go_wp2
      go_loop [1, 6] (fun c' i => ∃ j : Nat, j ≤ 9 ∧ i = .int .i64 j ∧ c' = .int .i64 (c + (k : Int) * 11 + (j : Int))) (fun _ i => 9 - (intOf i).toNat)
      case atStart => exact ⟨0, by omega, rfl, by simp⟩
      case round =>
        obtain ⟨j, hj, rfl, rfl⟩ := hrel
        by_cases hl2 : j < 9
        · have c1 := CK.out g rfl (k * 11 + j) (by omega)
          rw [show c + ((k * 11 + j : Nat) : Int) = c + (k : Int) * 11 + (j : Int) by omega] at c1
          go_wp2
          exact ⟨⟨j + 1, by omega, by go_num, by first | rfl | (congr 1; omega)⟩, by simp [intOf]; omega⟩
        · obtain rfl : j = 9 := by omega
          have c1 := CK.out g rfl (k * 11 + 9) (by omega)
          rw [show c + ((k * 11 + 9 : Nat) : Int) = c + (k : Int) * 11 + 9 by omega] at c1
          have c2 := CK.out g rfl (k * 11 + 10) (by omega)
          rw [show c + ((k * 11 + 10 : Nat) : Int) = c + (k : Int) * 11 + 9 + 1 by omega] at c2
          go_wp2
          exact ⟨⟨_, _, _, ⟨k + 1, by omega, rfl, rfl⟩, by congr 1; omega, rfl, by go_num⟩, by simp [intOf]; omega⟩
    · obtain rfl : k = n := by omega
      go_wp2
      go_ret
      exact ⟨rfl, rfl⟩
abbrev circV (k : Int) (a : Option Addr) (n c : Nat) (b : Option Addr) (m c2 : Nat) : Value := .agg #[.int .i64 k, .slice a n c, .slice b m c2]
theorem szCirc (k : Int) (a : Option Addr) (n c : Nat) (b : Option Addr) (m c2 : Nat) (o : List Int) (left : Int) (w : World) (hn : n ≤ 9223372036854775807) (h : Ints w b m c2 o) (h0 : 0 ≤ left) (h1 : left ≤ 1048576) : Calls Try.prog 15 #[circV k a n c b m c2, .int .i64 left] w fun r w' => r = .returned (.int .i64 (if left - (n : Int) - (m : Int) < 0 then -1 else left - (n : Int) - (m : Int))) ∧ Below w.heap.size w w' := by
  have H := Lib.hid h
  have SG := Lib.hid (fun (w : World) => szGates a n c left w hn h0 h1)
  clear h
  by_cases c1 : left - (n : Int) < 0
  · rw [if_pos c1] at SG
    rw [if_pos (by omega)]
    go_enter Try.func15, Try.ntmps15
    go_wp2_with fail
    refine (SG.out _).mono ?_
    rintro r w' ⟨rfl, rfl⟩
    go_wp2
    go_ret
    exact ⟨rfl, by (repeat' (first | (with_reducible exact Below.refl _ _) | (with_reducible assumption) | (with_reducible refine below_drewN ?_ _) | (with_reducible refine Below.drew ?_) | (with_reducible refine Below.alloc ?_ ?_ _) | (with_reducible refine Below.setCell ?_ ?_ _) | (with_reducible refine below_gw ?_ ?_ _) | (with_reducible refine below_via ?_ ‹Below _ _ _› ?_) | (with_reducible exact Nat.le_refl _) | (with_reducible refine le_gw ?_ _) | (with_reducible refine le_alloc ?_ _) | (with_reducible refine le_setCell ?_ _ _) | (with_reducible refine le_drew ?_) | (with_reducible refine le_drewN ?_ _) | go_size))⟩
  · rw [if_neg c1] at SG
    have c1' : 0 ≤ left - (n : Int) := by omega
    have SI := Lib.hid (fun (w : World) (h : Ints w b m c2 o) => szInts b m c2 o (left - (n : Int)) w h (by omega) (by omega))
    by_cases c2 : left - (n : Int) - (m : Int) < 0
    · rw [if_pos c2] at SI
      rw [if_pos c2]
      go_enter Try.func15, Try.ntmps15
      go_wp2_with fail
      refine (SG.out _).mono ?_
      rintro r w' ⟨rfl, rfl⟩
      go_wp2_with fail
      refine (SI.out _ (H.out.below (by (repeat' (first | (with_reducible exact Below.refl _ _) | (with_reducible assumption) | (with_reducible refine below_drewN ?_ _) | (with_reducible refine Below.drew ?_) | (with_reducible refine Below.alloc ?_ ?_ _) | (with_reducible refine Below.setCell ?_ ?_ _) | (with_reducible refine below_gw ?_ ?_ _) | (with_reducible refine below_via ?_ ‹Below _ _ _› ?_) | (with_reducible exact Nat.le_refl _) | (with_reducible refine le_gw ?_ _) | (with_reducible refine le_alloc ?_ _) | (with_reducible refine le_setCell ?_ _ _) | (with_reducible refine le_drew ?_) | (with_reducible refine le_drewN ?_ _) | go_size))))).mono ?_
      rintro r w' ⟨rfl, rfl⟩
      go_wp2
      go_ret
      exact ⟨rfl, by (repeat' (first | (with_reducible exact Below.refl _ _) | (with_reducible assumption) | (with_reducible refine below_drewN ?_ _) | (with_reducible refine Below.drew ?_) | (with_reducible refine Below.alloc ?_ ?_ _) | (with_reducible refine Below.setCell ?_ ?_ _) | (with_reducible refine below_gw ?_ ?_ _) | (with_reducible refine below_via ?_ ‹Below _ _ _› ?_) | (with_reducible exact Nat.le_refl _) | (with_reducible refine le_gw ?_ _) | (with_reducible refine le_alloc ?_ _) | (with_reducible refine le_setCell ?_ _ _) | (with_reducible refine le_drew ?_) | (with_reducible refine le_drewN ?_ _) | go_size))⟩
    · rw [if_neg c2] at SI
      rw [if_neg c2]
      have c2' : 0 ≤ left - (n : Int) - (m : Int) := by omega
      go_enter Try.func15, Try.ntmps15
      go_wp2_with fail
      refine (SG.out _).mono ?_
      rintro r w' ⟨rfl, rfl⟩
      go_wp2_with fail
      refine (SI.out _ (H.out.below (by (repeat' (first | (with_reducible exact Below.refl _ _) | (with_reducible assumption) | (with_reducible refine below_drewN ?_ _) | (with_reducible refine Below.drew ?_) | (with_reducible refine Below.alloc ?_ ?_ _) | (with_reducible refine Below.setCell ?_ ?_ _) | (with_reducible refine below_gw ?_ ?_ _) | (with_reducible refine below_via ?_ ‹Below _ _ _› ?_) | (with_reducible exact Nat.le_refl _) | (with_reducible refine le_gw ?_ _) | (with_reducible refine le_alloc ?_ _) | (with_reducible refine le_setCell ?_ _ _) | (with_reducible refine le_drew ?_) | (with_reducible refine le_drewN ?_ _) | go_size))))).mono ?_
      rintro r w' ⟨rfl, rfl⟩
      go_wp2
      go_ret
      exact ⟨rfl, by (repeat' (first | (with_reducible exact Below.refl _ _) | (with_reducible assumption) | (with_reducible refine below_drewN ?_ _) | (with_reducible refine Below.drew ?_) | (with_reducible refine Below.alloc ?_ ?_ _) | (with_reducible refine Below.setCell ?_ ?_ _) | (with_reducible refine below_gw ?_ ?_ _) | (with_reducible refine below_via ?_ ‹Below _ _ _› ?_) | (with_reducible exact Nat.le_refl _) | (with_reducible refine le_gw ?_ _) | (with_reducible refine le_alloc ?_ _) | (with_reducible refine le_setCell ?_ _ _) | (with_reducible refine le_drew ?_) | (with_reducible refine le_drewN ?_ _) | go_size))⟩
/-- What reads as a circuit. -/
def Cs (w : World) (a : Option Addr) (n c : Nat) (L : List (Nat → Int)) (b : Option Addr) (m c2 : Nat) (o : List Int) : Prop := Gs w a n c L ∧ Ints w b m c2 o
theorem Cs.below {w w' : World} {a b : Option Addr} {n c m c2 : Nat} {L : List (Nat → Int)} {o : List Int} (h : Cs w a n c L b m c2 o) (hb : Below w.heap.size w w') : Cs w' a n c L b m c2 o := ⟨h.1.below hb, h.2.below hb⟩
theorem Cs.alloc {w : World} {a b : Option Addr} {n c m c2 : Nat} {L : List (Nat → Int)} {o : List Int} (h : Cs w a n c L b m c2 o) (ob : Obj) : Cs (w.alloc ob) a n c L b m c2 o := ⟨h.1.alloc ob, h.2.alloc ob⟩
/-- A circuit of the call's own, by its numbers. -/
structure OwnC (w : World) (B E : Nat) (a : Option Addr) (n c : Nat) (xs : List Int) (b : Option Addr) (m c2 : Nat) (o : List Int) : Prop where
  g : OwnG w B E 59 (.slice a n c) n xs
  i : OwnI w B E 3 (.slice b m c2) o
  ap : Apart (.slice a n c) (.slice b m c2)
  lo : o.length = m
theorem OwnC.stay {w w' : World} {B E : Nat} {a b : Option Addr} {n c m c2 : Nat} {xs o : List Int} (h : OwnC w B E a n c xs b m c2 o) (hs : SameIn B E w w') : OwnC w' B E a n c xs b m c2 o := ⟨h.g.stay hs, h.i.stay hs, h.ap, h.lo⟩
theorem OwnC.later {w w' : World} {B E : Nat} {a b : Option Addr} {n c m c2 : Nat} {xs o : List Int} (h : OwnC w B E a n c xs b m c2 o) (hb : Below w.heap.size w w') (hE : E ≤ w.heap.size) : OwnC w' B E a n c xs b m c2 o := h.stay (SameIn.of_below hb hE)
theorem OwnC.wide {w : World} {B E B' E' : Nat} {a b : Option Addr} {n c m c2 : Nat} {xs o : List Int} (h : OwnC w B E a n c xs b m c2 o) (h1 : B' ≤ B) (h2 : E ≤ E') : OwnC w B' E' a n c xs b m c2 o := ⟨h.g.wide h1 h2, h.i.wide h1 h2, h.ap, h.lo⟩
theorem OwnC.cs {w : World} {B E : Nat} {a b : Option Addr} {n c m c2 : Nat} {L : List (Nat → Int)} {o : List Int} (h : OwnC w B E a n c (Tm.flat L) b m c2 o) (hl : L.length = n) : Cs w a n c L b m c2 o := ⟨Gs.of_own h.g.1 hl, h.i.intsAt h.lo⟩
/-- A circuit is handed back, all of it new. -/
def RetC (w : World) (k : Int) (L : List (Nat → Int)) (o : List Int) (r : Ending) (w' : World) : Prop :=
  ∃ a c b c2, r = .returned (circV k a L.length c b o.length c2) ∧ OwnC w' w.heap.size w'.heap.size a L.length c (Tm.flat L) b o.length c2 o ∧ Below w.heap.size w w' ∧ L.length ≤ 1048576 ∧ o.length ≤ 1048576
def RetCB (w : World) (k : Int) (L : List (Nat → Int)) (o : List Int) (ok : Bool) (r : Ending) (w' : World) : Prop :=
  ∃ a c b c2, r = .returned (.tuple #[circV k a L.length c b o.length c2, .bool ok]) ∧ OwnC w' w.heap.size w'.heap.size a L.length c (Tm.flat L) b o.length c2 o ∧ Below w.heap.size w w' ∧ L.length ≤ 1048576 ∧ o.length ≤ 1048576
/-- Two rows made one after the other, and cells of the call's own that have turned meanwhile. -/
theorem ownC_two {X W1 W2 : World} {p q : Regrown} {B0 n c m c2 : Nat} {a b : Option Addr} {xs ys : List Int} (e1 : W1.heap.size = X.heap.size) (e2 : W2.heap.size = X.heap.size) (h0 : B0 ≤ X.heap.size)
    (o1 : (gw W1 p).ownsRow W1.heap.size 59 11 (.slice a n c) n (xs.map (Value.int .i64))) (o2 : (gw W2 (gcat p q)).ownsRow (gw W2 p).heap.size 3 1 (.slice b m c2) m (ys.map (Value.int .i64))) (hl : ys.length = m) :
    OwnC (gw X (gcat p q)) B0 (gw X (gcat p q)).heap.size a n c xs b m c2 ys := by
  subst hl
  have g1 := own_gc (own_gwG (W2 := X) e1 o1 (Nat.le_refl _)) q
  have g2 := own_gwG (W2 := X) e2 o2 (by rw [gw_size]; omega)
  refine ⟨⟨own_weak2 g1 (by omega), fun k hk => (g1.lt k hk).2⟩, ⟨own_weak2 g2 (by rw [gw_size]; omega), fun k hk => (g2.lt k hk).2⟩, fun k h1 h2 => ?_, rfl⟩
  have x1 := (o1.lt k h1).2
  have x2 := (o2.lt k h2).1
  rw [gw_size] at x1 x2
  omega
theorem eqCirc_same (k : Int) (a a' : Option Addr) (n c c' : Nat) (L : List (Nat → Int)) (b b' : Option Addr) (m d d' : Nat) (o : List Int) (w : World) (h : Cs w a n c L b m d o) (h' : Cs w a' n c' L b' m d' o) : Calls Try.prog 9 #[circV k a n c b m d, circV k a' n c' b' m d'] w fun r w' => r = .returned (.bool true) ∧ Below w.heap.size w w' := by
  have H := Lib.hid h
  have H2 := Lib.hid h'
  clear h h'
  go_enter Try.func9, Try.ntmps9
  go_wp2_with fail
  refine (eqGates_same a a' n c c' L _ (H.out.1.below (by (repeat' (first | (with_reducible exact Below.refl _ _) | (with_reducible assumption) | (with_reducible refine below_drewN ?_ _) | (with_reducible refine Below.drew ?_) | (with_reducible refine Below.alloc ?_ ?_ _) | (with_reducible refine Below.setCell ?_ ?_ _) | (with_reducible refine below_gw ?_ ?_ _) | (with_reducible refine below_via ?_ ‹Below _ _ _› ?_) | (with_reducible exact Nat.le_refl _) | (with_reducible refine le_gw ?_ _) | (with_reducible refine le_alloc ?_ _) | (with_reducible refine le_setCell ?_ _ _) | (with_reducible refine le_drew ?_) | (with_reducible refine le_drewN ?_ _) | go_size)))) (H2.out.1.below (by (repeat' (first | (with_reducible exact Below.refl _ _) | (with_reducible assumption) | (with_reducible refine below_drewN ?_ _) | (with_reducible refine Below.drew ?_) | (with_reducible refine Below.alloc ?_ ?_ _) | (with_reducible refine Below.setCell ?_ ?_ _) | (with_reducible refine below_gw ?_ ?_ _) | (with_reducible refine below_via ?_ ‹Below _ _ _› ?_) | (with_reducible exact Nat.le_refl _) | (with_reducible refine le_gw ?_ _) | (with_reducible refine le_alloc ?_ _) | (with_reducible refine le_setCell ?_ _ _) | (with_reducible refine le_drew ?_) | (with_reducible refine le_drewN ?_ _) | go_size))))).mono ?_
  rintro r w1 ⟨rfl, hb⟩
  obtain ⟨p, rfl⟩ := gw_of_below hb
  clear hb
  go_wp2_with fail
  refine (eqIntS_same b b' m d d' o _ (H.out.2.below (by (repeat' (first | (with_reducible exact Below.refl _ _) | (with_reducible assumption) | (with_reducible refine below_drewN ?_ _) | (with_reducible refine Below.drew ?_) | (with_reducible refine Below.alloc ?_ ?_ _) | (with_reducible refine Below.setCell ?_ ?_ _) | (with_reducible refine below_gw ?_ ?_ _) | (with_reducible refine below_via ?_ ‹Below _ _ _› ?_) | (with_reducible exact Nat.le_refl _) | (with_reducible refine le_gw ?_ _) | (with_reducible refine le_alloc ?_ _) | (with_reducible refine le_setCell ?_ _ _) | (with_reducible refine le_drew ?_) | (with_reducible refine le_drewN ?_ _) | go_size)))) (H2.out.2.below (by (repeat' (first | (with_reducible exact Below.refl _ _) | (with_reducible assumption) | (with_reducible refine below_drewN ?_ _) | (with_reducible refine Below.drew ?_) | (with_reducible refine Below.alloc ?_ ?_ _) | (with_reducible refine Below.setCell ?_ ?_ _) | (with_reducible refine below_gw ?_ ?_ _) | (with_reducible refine below_via ?_ ‹Below _ _ _› ?_) | (with_reducible exact Nat.le_refl _) | (with_reducible refine le_gw ?_ _) | (with_reducible refine le_alloc ?_ _) | (with_reducible refine le_setCell ?_ _ _) | (with_reducible refine le_drew ?_) | (with_reducible refine le_drewN ?_ _) | go_size))))).mono ?_
  rintro r w1 ⟨rfl, hb⟩
  obtain ⟨p, rfl⟩ := gw_of_below hb
  clear hb
  go_wp2
  go_ret
  exact ⟨rfl, by (repeat' (first | (with_reducible exact Below.refl _ _) | (with_reducible assumption) | (with_reducible refine below_drewN ?_ _) | (with_reducible refine Below.drew ?_) | (with_reducible refine Below.alloc ?_ ?_ _) | (with_reducible refine Below.setCell ?_ ?_ _) | (with_reducible refine below_gw ?_ ?_ _) | (with_reducible refine below_via ?_ ‹Below _ _ _› ?_) | (with_reducible exact Nat.le_refl _) | (with_reducible refine le_gw ?_ _) | (with_reducible refine le_alloc ?_ _) | (with_reducible refine le_setCell ?_ _ _) | (with_reducible refine le_drew ?_) | (with_reducible refine le_drewN ?_ _) | go_size))⟩
set_option maxHeartbeats 1000000 in
theorem toCirc_any (k : Int) (a : Option Addr) (n c : Nat) (L : List (Nat → Int)) (b : Option Addr) (m d : Nat) (o : List Int) (w : World) (h : Cs w a n c L b m d o) (hn : n ≤ 1048576) (hm : m ≤ 1048576) : Calls Try.prog 17 #[circV k a n c b m d] w (RetC w k L o) := by
  have H := Lib.hid h
  obtain rfl : n = L.length := h.1.1.symm
  obtain rfl : m = o.length := h.2.1.symm
  clear h
  go_enter Try.func17, Try.ntmps17
  go_wp2_with fail
  refine (toGates_any a L.length c L _ (H.out.1.below (by (repeat' (first | (with_reducible exact Below.refl _ _) | (with_reducible assumption) | (with_reducible refine below_drewN ?_ _) | (with_reducible refine Below.drew ?_) | (with_reducible refine Below.alloc ?_ ?_ _) | (with_reducible refine Below.setCell ?_ ?_ _) | (with_reducible refine below_gw ?_ ?_ _) | (with_reducible refine below_via ?_ ‹Below _ _ _› ?_) | (with_reducible exact Nat.le_refl _) | (with_reducible refine le_gw ?_ _) | (with_reducible refine le_alloc ?_ _) | (with_reducible refine le_setCell ?_ _ _) | (with_reducible refine le_drew ?_) | (with_reducible refine le_drewN ?_ _) | go_size)))) hn).mono ?_
  rintro r w1 ⟨a1, c1, rfl, hown, hb⟩
  have O1 := Lib.hid (show OwnG w1 _ w1.heap.size _ _ _ _ from ⟨hown, fun q hq => (hown.lt q hq).2⟩)
  have HB1 := Lib.hid hb
  obtain ⟨p, rfl⟩ := gw_of_below hb
  clear hb hown
  go_wp2_with fail
  refine (toIntS_any b o.length d o _ (H.out.2.below (by (repeat' (first | (with_reducible exact Below.refl _ _) | (with_reducible assumption) | (with_reducible refine below_drewN ?_ _) | (with_reducible refine Below.drew ?_) | (with_reducible refine Below.alloc ?_ ?_ _) | (with_reducible refine Below.setCell ?_ ?_ _) | (with_reducible refine below_gw ?_ ?_ _) | (with_reducible refine below_via ?_ ‹Below _ _ _› ?_) | (with_reducible exact Nat.le_refl _) | (with_reducible refine le_gw ?_ _) | (with_reducible refine le_alloc ?_ _) | (with_reducible refine le_setCell ?_ _ _) | (with_reducible refine le_drew ?_) | (with_reducible refine le_drewN ?_ _) | go_size)))) hm).mono ?_
  rintro r w2 ⟨a2, c2, rfl, hown, hb, -⟩
  have O2 := Lib.hid (OwnI.of hown)
  have HB2 := Lib.hid hb
  obtain ⟨q, rfl⟩ := gw_of_below hb
  clear hb hown
  go_wp2
  go_returns
  have o2 := O2.out.1
  rw [gw_gw] at o2
  exact ⟨a1, c1, a2, c2, rfl, ownC_two (by simp only [World.size_alloc]) (by simp only [World.size_alloc]) (by simp only [World.size_alloc]; omega) O1.out.1 o2 rfl, by (repeat' (first | (with_reducible exact Below.refl _ _) | (with_reducible assumption) | (with_reducible refine below_drewN ?_ _) | (with_reducible refine Below.drew ?_) | (with_reducible refine Below.alloc ?_ ?_ _) | (with_reducible refine Below.setCell ?_ ?_ _) | (with_reducible refine below_gw ?_ ?_ _) | (with_reducible refine below_via ?_ ‹Below _ _ _› ?_) | (with_reducible exact Nat.le_refl _) | (with_reducible refine le_gw ?_ _) | (with_reducible refine le_alloc ?_ _) | (with_reducible refine le_setCell ?_ _ _) | (with_reducible refine le_drew ?_) | (with_reducible refine le_drewN ?_ _) | go_size)), hn, hm⟩
set_option maxHeartbeats 1000000 in
theorem markCirc_any (B E : Nat) (k : Int) (a : Option Addr) (n c : Nat) (xs : List Int) (b : Option Addr) (m d : Nat) (o : List Int) (x : Int) (w : World) (h : OwnC w B E a n c xs b m d o) (hx : xs.length = n * 11) (hE : E ≤ w.heap.size) (hn : n ≤ 1048576) (hm : m ≤ 1048576) (hc0 : 0 ≤ x) (hc1 : x ≤ 100000000) :
    Calls Try.prog 10 #[circV k a n c b m d, .int .i64 x] w fun r w' => r = .returned (.int .i64 (x + (n : Int) * 11 + (m : Int))) ∧ OwnC w' B E a n c (marks x (n * 11)) b m d (marks (x + (n : Int) * 11) m) ∧ TurnF B E w w' := by
  have H := Lib.hid h
  have HX := Lib.hid hx
  have ml : o.length = m := h.lo
  have ML := Lib.hid ml
  clear h hx ml
  go_enter Try.func10, Try.ntmps10
  go_wp2_with fail
  refine (markGates_any B a n c xs x _ HX.out ((own_below H.out.g.1 ((Below.refl _ _).alloc (Nat.le_refl _) _))) hn hc0 (by omega)).mono ?_
  rintro r w1 ⟨rfl, ho, hg, hz⟩
  have O1 := Lib.hid ho
  have T1 : Hid (TurnF B E w w1) := Lib.hid (TurnF.of_grown ((Below.refl _ _).alloc (Nat.le_refl _) _) hg fun q hq => H.out.g.lt q hq)
  have NG : Hid (w.heap.size < w1.heap.size ∧ w1.cell? ⟨w.heap.size, 2, none⟩ = some (.slice b m d)) := Lib.hid (by
    refine ⟨by rw [hz]; simp, ?_⟩
    have hne : some w.heap.size ≠ (Value.slice a n c).ownBlock := fun e => by have := (H.out.g.lt _ e.symm).2; omega
    rw [World.cell?_of_block (a := ⟨w.heap.size, 2, none⟩) (hg.block w.heap.size (by simp) hne)]
    simp)
  obtain ⟨lt1, cb⟩ := NG.out
  have I1 : Hid (w1.ownsRow B 3 1 (.slice b m d) m (o.map (Value.int .i64))) := Lib.hid (by
    have := H.out.i.1
    rw [ML.out] at this
    exact own_stable this fun q hq => by
      have lq := H.out.i.lt q hq
      rw [hg.block q (by simp; omega) (fun e => H.out.ap q e.symm hq)]
      exact ((Below.refl w.heap.size w).alloc (Nat.le_refl _) _).block q (by omega))
  clear ho hg hz NG
  go_wp2_with fail
  refine (markIntS_any B b m d o (x + (n : Int) * 11) _ ML.out I1.out hm (by omega) (by omega)).mono ?_
  rintro r w2 ⟨rfl, ho, hg, hz⟩
  have T2 : Hid (TurnF B E w w2) := Lib.hid (T1.out.grown hg fun q hq => H.out.i.lt q hq)
  have O2 : Hid (w2.ownsRow B 59 11 (.slice a n c) n ((marks x (n * 11)).map (Value.int .i64))) := Lib.hid (own_stable O1.out fun q hq => hg.block q (O1.out.lt q hq).2 (fun e => H.out.ap q hq e.symm))
  have I2 := Lib.hid ho
  clear ho hg hz
  go_wp2
  go_ret
  exact ⟨rfl, ⟨⟨O2.out, H.out.g.2⟩, ⟨by rw [marks_length]; exact I2.out, H.out.i.2⟩, H.out.ap, marks_length _ _⟩, T2.out⟩
theorem heldCirc_marks (B E : Nat) (k : Int) (a : Option Addr) (n c : Nat) (b : Option Addr) (m d : Nat) (x : Int) (w : World) (h : OwnC w B E a n c (marks x (n * 11)) b m d (marks (x + (n : Int) * 11) m)) (hn : n ≤ 1048576) (hm : m ≤ 1048576) (hc0 : 0 ≤ x) (hc1 : x ≤ 100000000) :
    Calls Try.prog 11 #[circV k a n c b m d, .int .i64 x] w fun r w' => r = .returned (.int .i64 (x + (n : Int) * 11 + (m : Int))) ∧ Below w.heap.size w w' := by
  have H := Lib.hid h
  clear h
  have c0 : 0 ≤ x + (n : Int) * 11 := by omega
  have c1 : 0 ≤ x + (n : Int) * 11 + (m : Int) := by omega
  go_enter Try.func11, Try.ntmps11
  go_wp2_with fail
  refine (heldGates_marks B a n c x _ (own_below H.out.g.1 (by (repeat' (first | (with_reducible exact Below.refl _ _) | (with_reducible assumption) | (with_reducible refine below_drewN ?_ _) | (with_reducible refine Below.drew ?_) | (with_reducible refine Below.alloc ?_ ?_ _) | (with_reducible refine Below.setCell ?_ ?_ _) | (with_reducible refine below_gw ?_ ?_ _) | (with_reducible refine below_via ?_ ‹Below _ _ _› ?_) | (with_reducible exact Nat.le_refl _) | (with_reducible refine le_gw ?_ _) | (with_reducible refine le_alloc ?_ _) | (with_reducible refine le_setCell ?_ _ _) | (with_reducible refine le_drew ?_) | (with_reducible refine le_drewN ?_ _) | go_size)))) hn hc0 (by omega)).mono ?_
  rintro r w' ⟨rfl, rfl⟩
  go_wp2_with fail
  refine (heldIntS_marks b m d (x + (n : Int) * 11) _ ((H.out.i.intsAt (marks_length _ _)).below (by (repeat' (first | (with_reducible exact Below.refl _ _) | (with_reducible assumption) | (with_reducible refine below_drewN ?_ _) | (with_reducible refine Below.drew ?_) | (with_reducible refine Below.alloc ?_ ?_ _) | (with_reducible refine Below.setCell ?_ ?_ _) | (with_reducible refine below_gw ?_ ?_ _) | (with_reducible refine below_via ?_ ‹Below _ _ _› ?_) | (with_reducible exact Nat.le_refl _) | (with_reducible refine le_gw ?_ _) | (with_reducible refine le_alloc ?_ _) | (with_reducible refine le_setCell ?_ _ _) | (with_reducible refine le_drew ?_) | (with_reducible refine le_drewN ?_ _) | go_size)))) hm (by omega) (by omega)).mono ?_
  rintro r w' ⟨rfl, rfl⟩
  go_wp2
  go_ret
  exact ⟨rfl, by (repeat' (first | (with_reducible exact Below.refl _ _) | (with_reducible assumption) | (with_reducible refine below_drewN ?_ _) | (with_reducible refine Below.drew ?_) | (with_reducible refine Below.alloc ?_ ?_ _) | (with_reducible refine Below.setCell ?_ ?_ _) | (with_reducible refine below_gw ?_ ?_ _) | (with_reducible refine below_via ?_ ‹Below _ _ _› ?_) | (with_reducible exact Nat.le_refl _) | (with_reducible refine le_gw ?_ _) | (with_reducible refine le_alloc ?_ _) | (with_reducible refine le_setCell ?_ _ _) | (with_reducible refine le_drew ?_) | (with_reducible refine le_drewN ?_ _) | go_size))⟩
/-! ### Ranges of cells. -/
end Go.Proofs.Ytjbmgppgkgacpaa

/- Lists of weighings: what is told of one that is read, of one that is a callee's own; the contracts of the laws' own functions on them. A list of n weighings is a flat list of 2 n rows. The program's weighings of coin words. The model's weighings of coin words. -/
import Derived.Test.YteklgngooflhlaaMs
import Derived.Test.YteklgngooflhlaaRowL
import Derived.Test.YteklgngooflhlaaOwn2
import Derived.Test.YteklgngooflhlaaBOwn
import Derived.Test.YteklgngooflhlaaVI1
import Derived.Test.YteklgngooflhlaaBI1
import Derived.Test.YteklgngooflhlaaVS1
import Derived.Test.YteklgngooflhlaaBS1
import Derived.Test.YteklgngooflhlaaOS
namespace Go.Proofs.Yteklgngooflhlaa
set_option maxRecDepth 20000
open Go.RowKit
theorem info_weig : (Try.prog.info? 27).map (fun i => (i.zero, i.size, i.bytes)) = some (some (.agg #[.slice none 0 0, .slice none 0 0]), 2, 48) := by kernel_rfl
def RowsW (w : World) (a : Option Addr) (n cap : Nat) (L : List (List Int)) : Prop :=
  L.length = 2 * n ∧ n ≤ cap ∧ cap ≤ maxLen ∧ (n = 0 ∨ ∃ b o, a = some ⟨b, o, none⟩ ∧ b < w.heap.size ∧ ∀ i, i < 2 * n → ∃ a' m c, w.cell? ⟨b, o + i, none⟩ = some (.slice a' m c) ∧ Ints w a' m c (L.getD i []))
theorem RowsW.below {w w' : World} {a : Option Addr} {n cap : Nat} {L : List (List Int)} (h : RowsW w a n cap L) (hb : Below w.heap.size w w') : RowsW w' a n cap L := by
  obtain ⟨h1, h2, h3, h4⟩ := h
  refine ⟨h1, h2, h3, ?_⟩
  rcases h4 with h4 | ⟨b, o, ha, hlt, hc⟩
  · exact .inl h4
  · refine .inr ⟨b, o, ha, by have := hb.size; omega, fun i hi => ?_⟩
    obtain ⟨a', m, c, hcell, hi'⟩ := hc i hi
    exact ⟨a', m, c, by rw [← hcell]; exact World.cell?_of_block (a := ⟨b, o + i, none⟩) (hb.block b hlt), hi'.below hb⟩
theorem RowsIn.wide {w : World} {B E E' e1 : Nat} {v : Value} {L : List (List Int)} {us : List Value} (h : RowsIn w B E e1 v L us) (hE : E ≤ E') : RowsIn w B E' e1 v L us :=
  ⟨fun j hj => by obtain ⟨u, e, ho, ap⟩ := h.1 j hj; exact ⟨u, e, ho.wide (Nat.le_refl _) hE, ap⟩, h.2⟩
/-- A list of weighings, all of it the call's own. -/
def OwnWs (w : World) (B E : Nat) (v : Value) (n : Nat) (L : List (List Int)) : Prop :=
  ∃ us, w.ownsRow B 27 2 v n us ∧ (∀ q, v.ownBlock = some q → q < E) ∧ L.length = 2 * n ∧ RowsIn w B E 3 v L us
theorem own_stable2 {w w' : World} {B e s n : Nat} {v : Value} {xs : List Value} (h : w.ownsRow B e s v n xs) (hs : ∀ k, v.ownBlock = some k → w'.heap[k]? = w.heap[k]?) : w'.ownsRow B e s v n xs := own_stable h hs
theorem OwnWs.stay {w w' : World} {B E n : Nat} {v : Value} {L : List (List Int)} (h : OwnWs w B E v n L) (hs : SameIn B E w w') : OwnWs w' B E v n L := by
  obtain ⟨us, h1, h2, h3, h4⟩ := h
  exact ⟨us, own_stable h1 fun q hq => hs.2 q (h1.lt q hq).1 (h2 q hq), h2, h3, h4.stay hs⟩
theorem OwnWs.wide {w : World} {B E E' n : Nat} {v : Value} {L : List (List Int)} (h : OwnWs w B E v n L) (hE : E ≤ E') : OwnWs w B E' v n L := by
  obtain ⟨us, h1, h2, h3, h4⟩ := h
  exact ⟨us, h1, fun q hq => Nat.lt_of_lt_of_le (h2 q hq) hE, h3, h4.wide hE⟩
theorem OwnWs.rows {w : World} {B E n : Nat} {v : Value} {L : List (List Int)} (h : OwnWs w B E v n L) : ∃ a c, v = .slice a n c ∧ RowsW w a n c L := by
  obtain ⟨us, h1, h2, hl, h3, h4⟩ := h
  rcases h1.2 with ⟨e1, e2⟩ | ⟨g, cap, cur, rfl, hB, hg, hn, hcap, hsz, ht⟩
  · subst e1
    subst e2
    exact ⟨none, 0, rfl, hl, Nat.le_refl _, by unfold maxLen; omega, .inl rfl⟩
  · refine ⟨_, cap, rfl, hl, hn, hcap, .inr ⟨g, 0, rfl, (Array.getElem?_eq_some_iff.1 hg).1, fun i hi => ?_⟩⟩
    obtain ⟨u, e, ho, _⟩ := h3 i (by omega)
    obtain ⟨a, c, rfl, hi2⟩ := ho.form
    have := h1.cellAt i (by have := h1.1; omega)
    rw [Nat.zero_add, this]
    exact ⟨a, _, c, e, hi2⟩
theorem OwnWs.rowsAt {w : World} {B E n c : Nat} {a : Option Addr} {L : List (List Int)} (h : OwnWs w B E (.slice a n c) n L) : RowsW w a n c L := by
  obtain ⟨a', c', e, hr⟩ := h.rows
  cases e
  exact hr
theorem ownWs_nil (w : World) (B E : Nat) : OwnWs w B E (.slice none 0 0) 0 [] := ⟨[], World.ownsRow_nil _ _ _ _, fun q e => (by cases e), rfl, fun j hj => by simp at hj, fun i j _ hj => by simp at hj⟩
/-- A list of weighings, all of it new, and a flag. -/
def RetWs (w : World) (n : Nat) (L : List (List Int)) (ok : Bool) (r : Ending) (w' : World) : Prop :=
  ∃ v, r = .returned (.tuple #[v, .bool ok]) ∧ OwnWs w' w.heap.size w'.heap.size v n L ∧ Below w.heap.size w w'
/-- Row k has turned. -/
theorem RowsIn.put {w w' : World} {B E e1 e2 sz n k : Nat} {v u : Value} {L M : List (List Int)} {us : List Value} (h1 : w.ownsRow B e2 sz v n us) (h : RowsIn w B E e1 v L us)
    (hk : k < L.length) (hu : us[k]? = some u) (hl : M.length = L.length) (hM : ∀ j, j ≠ k → M.getD j [] = L.getD j []) (ho : OwnI w' B E e1 u (M.getD k [])) (hg : w.grownBy w' u.ownBlock) : w'.ownsRow B e2 sz v n us ∧ RowsIn w' B E e1 v M us := by
  have apart : ∀ {x : Value}, Apart u x → ∀ q, x.ownBlock = some q → q < w.heap.size → w'.heap[q]? = w.heap[q]? := fun ha q hq hlt => hg.block q hlt (fun e => ha q e.symm hq)
  obtain ⟨h3, h4⟩ := h
  obtain ⟨u0, e0, _, av⟩ := h3 k hk
  rw [hu] at e0
  cases e0
  refine ⟨own_stable h1 fun q hq => apart av q hq (h1.lt q hq).2, fun j hj => ?_, ?_⟩
  · rw [hl] at hj
    by_cases e : j = k
    · subst e; exact ⟨u, hu, ho, av⟩
    · obtain ⟨u', e', ho', av'⟩ := h3 j hj
      refine ⟨u', e', ?_, av'⟩
      rw [hM j e]
      have ap : Apart u u' := by
        rcases Nat.lt_or_ge j k with h | h
        · exact (h4 j k h hk _ _ e' hu).symm
        · exact h4 k j (by omega) hj _ _ hu e'
      exact ⟨own_stable ho'.1 fun q hq => apart ap q hq (ho'.1.lt q hq).2, ho'.2⟩
  · rw [hl]; exact h4
theorem mkL_next {L : List (List Int)} {c : Int} {k : Nat} : ∀ j, j ≠ k → (mkL L c (k + 1)).getD j [] = (mkL L c k).getD j [] := fun j hj => by
  by_cases hjn : j < L.length
  · rw [mkL_at L c _ hjn, mkL_at L c _ hjn]
    by_cases h5 : j < k
    · rw [if_pos (by omega), if_pos h5]
    · rw [if_neg (by omega), if_neg h5]
  · rw [List.getD_eq_getElem?_getD, List.getD_eq_getElem?_getD, List.getElem?_eq_none (by rw [mkL_length]; omega), List.getElem?_eq_none (by rw [mkL_length]; omega)]
theorem met_belowW {P : Program} {f : FuncId} {args : Array Value} {w : World} {p : Regrown} {v : Value}
    (h : ∀ W, Below w.heap.size w W → Calls P f args W fun e w' => e = .returned v ∧ Below W.heap.size W w') : Calls P f args (Sort.grow (redrawn w p.d) p.os) fun e w'' => e = .returned v ∧ ∃ q : Regrown, w'' = Sort.grow (redrawn w q.d) q.os :=
  Calls.regrown_of (h _ (below_regrown w p.d p.os))
theorem RowsIn.regrow {w w' : World} {B E e1 : Nat} {v v' : Value} {M : List (List Int)} {ns : List Value} (h : RowsIn w B E e1 v M ns)
    (hg : w.grownBy w' v.ownBlock) (hat : v'.ownBlock = v.ownBlock ∨ v'.ownBlock = some w.heap.size) : RowsIn w' B w'.heap.size e1 v' M ns := by
  refine ⟨fun j hj => ?_, h.2⟩
  obtain ⟨y, ex, hx, ap⟩ := h.1 j hj
  exact ⟨y, ex, ⟨own_stable hx.1 fun q hq => hg.block q (hx.1.lt q hq).2 (fun e => ap q hq e.symm), fun q hq => Nat.lt_of_lt_of_le (hx.1.lt q hq).2 hg.size⟩, (ap.symm.grow hat (fun q hq => (hx.1.lt q hq).2)).symm⟩
/-- Two new rows that are apart. -/
theorem RowsIn.two {w : World} {B E E' e1 : Nat} {v u1 u2 : Value} {L : List (List Int)} {x1 x2 : List Int} {us : List Value} (h : RowsIn w B E e1 v L us) (hus : us.length = L.length)
    (o1 : w.ownsRow B e1 1 u1 x1.length (x1.map (Value.int .i64))) (o2 : w.ownsRow B e1 1 u2 x2.length (x2.map (Value.int .i64))) (h1 : ∀ q, u1.ownBlock = some q → E ≤ q ∧ q < E') (h2 : ∀ q, u2.ownBlock = some q → E ≤ q ∧ q < E') (ap : Apart u1 u2) (hv : ∀ q, v.ownBlock = some q → q < E) (hE : E ≤ E') : RowsIn w B E' e1 v (L ++ [x1, x2]) (us ++ [u1, u2]) := by
  have g1 : ∀ j, j < L.length → (L ++ [x1, x2]).getD j [] = L.getD j [] := fun j hj => by rw [List.getD_eq_getElem?_getD, List.getElem?_append_left hj, ← List.getD_eq_getElem?_getD]
  have g2 : (L ++ [x1, x2]).getD L.length [] = x1 := by rw [List.getD_eq_getElem?_getD, List.getElem?_append_right (Nat.le_refl _)]; simp
  have g3 : (L ++ [x1, x2]).getD (L.length + 1) [] = x2 := by rw [List.getD_eq_getElem?_getD, List.getElem?_append_right (by omega), Nat.add_sub_cancel_left]; rfl
  have k1 : ∀ j, j < L.length → (us ++ [u1, u2])[j]? = us[j]? := fun j hj => List.getElem?_append_left (by omega)
  have k2 : (us ++ [u1, u2])[L.length]? = some u1 := by rw [List.getElem?_append_right (by omega), hus]; simp
  have k3 : (us ++ [u1, u2])[L.length + 1]? = some u2 := by rw [List.getElem?_append_right (by omega), hus, Nat.add_sub_cancel_left]; rfl
  have ll : (L ++ [x1, x2]).length = L.length + 2 := by simp
  refine ⟨fun j hj => ?_, fun i j hij hj y z q1 q2 => ?_⟩
  · rw [ll] at hj
    by_cases c1 : j < L.length
    · obtain ⟨y, ex, hx, a⟩ := h.1 j c1
      exact ⟨y, by rw [k1 j c1]; exact ex, by rw [g1 j c1]; exact hx.wide (Nat.le_refl _) hE, a⟩
    · by_cases c2 : j = L.length
      · subst c2
        exact ⟨u1, k2, by rw [g2]; exact ⟨o1, fun q hq => (h1 q hq).2⟩, Apart.of_lt (fun q hq => (h1 q hq).1) hv⟩
      · obtain rfl : j = L.length + 1 := by omega
        exact ⟨u2, k3, by rw [g3]; exact ⟨o2, fun q hq => (h2 q hq).2⟩, Apart.of_lt (fun q hq => (h2 q hq).1) hv⟩
  · rw [ll] at hj
    by_cases c1 : j < L.length
    · rw [k1 i (by omega)] at q1
      rw [k1 j c1] at q2
      exact h.2 i j hij c1 y z q1 q2
    · have old : i < L.length → ∀ u, (∀ q, u.ownBlock = some q → E ≤ q) → Apart y u := fun hi u hu => by
        rw [k1 i hi] at q1
        obtain ⟨x', ex, hx, _⟩ := h.1 i hi
        rw [q1] at ex
        cases ex
        exact (Apart.of_lt hu hx.2).symm
      by_cases c2 : j = L.length
      · subst c2
        rw [k2] at q2
        cases q2
        exact old (by omega) _ (fun q hq => (h1 q hq).1)
      · obtain rfl : j = L.length + 1 := by omega
        rw [k3] at q2
        cases q2
        by_cases c3 : i < L.length
        · exact old c3 _ (fun q hq => (h2 q hq).1)
        · obtain rfl : i = L.length := by omega
          rw [k2] at q1
          cases q1
          exact ap
theorem eqWeigS_same (a a' : Option Addr) (n cap cap' : Nat) (L : List (List Int)) (w : World) (h : RowsW w a n cap L) (h' : RowsW w a' n cap' L) : Calls Try.prog 54 #[.slice a n cap, .slice a' n cap'] w fun e w' => e = .returned (.bool true) ∧ Below w.heap.size w w' := by
  have H := Lib.hid h
  have H2 := Lib.hid h'
  have x3 := h.2.2.1
  have x2 := h.2.1
  unfold maxLen at x3
  clear h h'
  go_enter Try.func54, Try.ntmps54
  go_wp2
  go_loopw [5] (fun i wr => ∃ k : Nat, k ≤ n ∧ i = .int .i64 k ∧ Hid (Below w.heap.size w wr)) (fun i _ => n - (intOf i).toNat)
  case atStart => exact ⟨0, by omega, rfl, Lib.hid (Below.refl _ _)⟩
  case round =>
    obtain ⟨k, hk, rfl, hb⟩ := hrel
    by_cases hlt : k < n
    · obtain ⟨-, -, -, y⟩ := H.out.below hb.out
      obtain ⟨-, -, -, y2⟩ := H2.out.below hb.out
      rcases y with h0 | ⟨b, o, rfl, hbl, hc⟩
      · omega
      rcases y2 with h0 | ⟨b', o', rfl, hbl', hc'⟩
      · omega
      obtain ⟨a1, m1, c1, z1, i1⟩ := hc (k * 2) (by omega)
      obtain ⟨a2, m2, c2, z2, i2⟩ := hc (k * 2 + 1) (by omega)
      obtain ⟨a3, m3, c3, z3, i3⟩ := hc' (k * 2) (by omega)
      obtain ⟨a4, m4, c4, z4, i4⟩ := hc' (k * 2 + 1) (by omega)
      obtain rfl : m1 = m3 := by rw [← i1.1, ← i3.1]
      obtain rfl : m2 = m4 := by rw [← i2.1, ← i4.1]
      rw [← Nat.add_assoc] at z2 z4
      have EQ := Lib.hid (fun (W : World) (hW : Below wr.heap.size wr W) => eqWeig_same a1 a3 m1 c1 c3 _ a2 a4 m2 c2 c4 _ W ⟨i1.below hW, i2.below hW⟩ ⟨i3.below hW, i4.below hW⟩)
      have hs := hb.out.size
      clear hc hc' i1 i2 i3 i4
      go_wp2
      (refine wp_region_quiet_below (by kernel_rfl) (by kernel_rfl) ?_; (repeat (go_big_quiet_step ((go_at_call 38; with_reducible exact met_belowW EQ.out)))); refine wpQuiet_nil ?_; intro wq hwq; obtain ⟨pq, hpq⟩ := hwq; have hpq' : wq = gw _ pq := hpq; clear hpq; subst hpq')
      clear z1 z2 z3 z4 EQ
      go_wp2
      exact ⟨⟨k + 1, by omega, by go_num, Lib.hid (hb.out.trans ((below_gw (Below.refl _ _) (Nat.le_refl _) _).mono hs))⟩, by simp [intOf]; omega⟩
    · obtain rfl : k = n := by omega
      go_wp2
      go_ret
      exact ⟨rfl, hb.out⟩
set_option maxHeartbeats 2000000 in
theorem markWeigS_any (B E : Nat) (a : Option Addr) (n cap : Nat) (L : List (List Int)) (c : Int) (w : World) (h : OwnWs w B E (.slice a n cap) n L) (hs : 2 * n + cnt L (2 * n) ≤ 1048576) (hc0 : 0 ≤ c) (hc1 : c ≤ 1000000000) :
    Calls Try.prog 55 #[.slice a n cap, .int .i64 c] w fun e w' => e = .returned (.int .i64 (c + (cnt L (2 * n) : Int))) ∧ OwnWs w' B E (.slice a n cap) n (mkL L c (2 * n)) ∧ Only B E w w' := by
  have O0 : Hid (OwnWs w B E (.slice a n cap) n (mkL L c (2 * 0))) := Lib.hid (by rw [Nat.mul_zero, mkL_zero]; exact h)
  have HN := Lib.hid (show L.length = 2 * n from h.choose_spec.2.2.1)
  have CN := Lib.hid (fun j (hj : j < 2 * n) => (by have := cnt_le L (show j + 1 ≤ 2 * n by omega); have e : cnt L (j + 1) = cnt L j + (L.getD j []).length := rfl; omega : cnt L (j + 1) ≤ cnt L (2 * n) ∧ cnt L j ≤ 1048576 ∧ (L.getD j []).length ≤ 1048576))
  have n1 : n ≤ 1048576 := by omega
  clear h hs
  go_enter Try.func55, Try.ntmps55
  go_wp2_with fail
  go_loopw [1, 5] (fun q i wr => ∃ k : Nat, k ≤ n ∧ i = .int .i64 k ∧ q = .int .i64 (c + (cnt L (2 * k) : Int)) ∧ Hid (OwnWs wr B E (.slice a n cap) n (mkL L c (2 * k))) ∧ Hid (Only B E w wr)) (fun _ i _ => n - (intOf i).toNat)
  case atStart => exact ⟨0, by omega, rfl, by simp [cnt], O0, Lib.hid (Only.refl _ _ _)⟩
  case round =>
    clear O0
    obtain ⟨k, hk, rfl, rfl, OO, BB⟩ := hrel
    by_cases hlt : k < n
    · have hl : ∀ j, (mkL L c j).length = 2 * n := fun j => by rw [mkL_length]; exact HN.out
      obtain ⟨us, h1, h2, -, h3⟩ := OO.out
      obtain ⟨u1, e1, ho1, ap1⟩ := h3.1 (2 * k) (by rw [hl]; omega)
      obtain ⟨u2, e2, ho2, ap2⟩ := h3.1 (2 * k + 1) (by rw [hl]; omega)
      have ml1 := mkL_at L c (2 * k) (j := 2 * k) (by rw [HN.out]; omega)
      have ml2 := mkL_at L c (2 * k) (j := 2 * k + 1) (by rw [HN.out]; omega)
      rw [if_neg (by omega)] at ml1 ml2
      rw [ml1] at ho1
      rw [ml2] at ho2
      obtain ⟨a1, c1, rfl, hi1⟩ := ho1.form
      obtain ⟨a2, c2, rfl, hi2⟩ := ho2.form
      have ap12 := h3.2 (2 * k) (2 * k + 1) (by omega) (by rw [hl]; omega) _ _ e1 e2
      rcases h1.2 with ⟨-, e0⟩ | ⟨g, cap', cur, eg, hB, -, -, -, -, -⟩
      · omega
      simp only [Value.slice.injEq] at eg
      obtain ⟨rfl, -, ecc⟩ := eg
      subst ecc
      have ul := h1.1
      have ck1 := h1.cellAt (2 * k) (by omega)
      have ck2 := h1.cellAt (2 * k + 1) (by omega)
      rw [e1] at ck1
      rw [e2] at ck2
      obtain ⟨cb1, cb2, cb3⟩ := CN.out (2 * k) (by omega)
      obtain ⟨cb4, cb5, cb6⟩ := CN.out (2 * k + 1) (by omega)
      have lt1 := h1.lt g rfl
      -- the left row
      have PT1 : Hid (∀ w', OwnI w' B E 3 (.slice a1 (L.getD (2 * k) []).length c1) (marks (c + (cnt L (2 * k) : Int)) (L.getD (2 * k) []).length) → wr.grownBy w' (Value.slice a1 (L.getD (2 * k) []).length c1).ownBlock →
          w'.ownsRow B 27 2 (.slice (some ⟨g, 0, none⟩) n cap) n us ∧ RowsIn w' B E 3 (.slice (some ⟨g, 0, none⟩) n cap) (mkL L c (2 * k + 1)) us) := Lib.hid fun w' ho' hg =>
        RowsIn.put (k := 2 * k) h1 h3 (by rw [hl]; omega) e1 (by rw [hl, hl]) mkL_next (by rw [mkL_at L c _ (by rw [HN.out]; omega), if_pos (by omega)]; exact ho') hg
      have PT2 : Hid (∀ w' w'', w'.ownsRow B 27 2 (.slice (some ⟨g, 0, none⟩) n cap) n us → RowsIn w' B E 3 (.slice (some ⟨g, 0, none⟩) n cap) (mkL L c (2 * k + 1)) us → OwnI w'' B E 3 (.slice a2 (L.getD (2 * k + 1) []).length c2) (marks (c + (cnt L (2 * k + 1) : Int)) (L.getD (2 * k + 1) []).length) → w'.grownBy w'' (Value.slice a2 (L.getD (2 * k + 1) []).length c2).ownBlock → OwnWs w'' B E (.slice (some ⟨g, 0, none⟩) n cap) n (mkL L c (2 * (k + 1)))) := Lib.hid fun w' w'' g1 g2 ho' hg => by
        have := RowsIn.put (M := mkL L c (2 * k + 1 + 1)) (k := 2 * k + 1) g1 g2 (by rw [hl]; omega) e2 (by rw [hl, hl]) mkL_next (by rw [mkL_at L c _ (by rw [HN.out]; omega), if_pos (by omega)]; exact ho') hg
        exact ⟨us, this.1, h2, hl _, this.2⟩
      have CC1 : Hid (cnt L (2 * k + 1) = cnt L (2 * k) + (L.getD (2 * k) []).length) := Lib.hid rfl
      have CC2 : Hid (cnt L (2 * (k + 1)) = cnt L (2 * k + 1) + (L.getD (2 * k + 1) []).length) := Lib.hid rfl
      have HO1 := Lib.hid ho1
      have HO2 := Lib.hid ho2
      have AP := Lib.hid ap12
      have AV := Lib.hid ap1
      clear h1 h3 e1 e2 ho1 ho2 ap1 ap2 ml1 ml2 hi1 hi2 hl OO ap12
      obtain ⟨xk, hxk⟩ : ∃ xk, xk = L.getD (2 * k) [] := ⟨_, rfl⟩
      obtain ⟨yk, hyk⟩ : ∃ yk, yk = L.getD (2 * k + 1) [] := ⟨_, rfl⟩
      rw [← hxk] at HO1 PT1 CC1 cb3 ck1 AP AV
      rw [← hyk] at HO2 PT2 CC2 cb6 ck2 AP
      rw [show 2 * k = k * 2 from Nat.mul_comm _ _] at ck1
      rw [show 2 * k + 1 = k * 2 + 1 from by omega] at ck2
      obtain ⟨C0, hC0⟩ : ∃ C0 : Nat, C0 = cnt L (2 * k) := ⟨_, rfl⟩
      obtain ⟨C1, hC1⟩ : ∃ C1 : Nat, C1 = cnt L (2 * k + 1) := ⟨_, rfl⟩
      rw [← hC0] at cb2 PT1 CC1 ⊢
      rw [← hC1] at cb5 PT2 CC1 CC2
      clear hxk hyk hC0 hC1 cb1 cb4
      go_wp2_with fail
      refine (markIntS_any B a1 _ c1 _ (c + (C0 : Int)) _ rfl HO1.out.1 cb3 (by omega) (by omega)).mono ?_
      rintro e w1 ⟨rfl, hown, hg, hz⟩
      have O2 := Lib.hid (PT1.out w1 ⟨by rw [marks_length]; exact hown, HO1.out.2⟩ hg)
      have B2 := Lib.hid (BB.out.trans (Only.of_row hg hz HO1.out.lt))
      have ck3 : w1.cell? ⟨g, k * 2 + 1, none⟩ = some (.slice a2 yk.length c2) := (World.cell?_of_block (a := ⟨g, k * 2 + 1, none⟩) (hg.block g lt1.2 (fun e => AV.out g e.symm rfl))).trans ck2
      have HO3 : Hid (OwnI w1 B E 3 (.slice a2 yk.length c2) yk) := Lib.hid ⟨own_stable HO2.out.1 fun q hq => hg.block q (HO2.out.1.lt q hq).2 (fun e => AP.out q e.symm hq), HO2.out.2⟩
      have lt2 : g < w1.heap.size := by rw [hz]; exact lt1.2
      have EC : Hid (c + (C0 : Int) + (xk.length : Int) = c + (C1 : Int)) := Lib.hid (by rw [CC1.out]; omega)
      rw [EC.out]
      clear hown hg hz PT1 HO1 HO2 BB ck1 ck2 EC
      go_wp2_with fail
      refine (markIntS_any B a2 _ c2 _ (c + (C1 : Int)) _ rfl HO3.out.1 cb6 (by omega) (by omega)).mono ?_
      rintro e w2 ⟨rfl, hown, hg, hz⟩
      have O3 := Lib.hid (PT2.out w1 w2 O2.out.1 O2.out.2 ⟨by rw [marks_length]; exact hown, HO3.out.2⟩ hg)
      have B3 := Lib.hid (B2.out.trans (Only.of_row hg hz HO3.out.lt))
      clear hown hg hz PT2 HO3 O2 B2 ck3
      go_wp2_with fail
      refine ⟨⟨k + 1, by omega, by go_num, val_int (by rw [CC2.out]; omega), O3, B3⟩, by simp [intOf]; omega⟩
    · obtain rfl : k = n := by omega
      go_wp2_with fail
      go_ret
      exact ⟨rfl, OO.out, BB.out⟩
set_option maxHeartbeats 1000000 in
theorem heldWeigS_marks (a : Option Addr) (n cap : Nat) (L : List (List Int)) (c : Int) (w : World) (h : RowsW w a n cap (mkL L c (2 * n))) (hs : 2 * n + cnt L (2 * n) ≤ 1048576) (hc0 : 0 ≤ c) (hc1 : c ≤ 1000000000) :
    Calls Try.prog 56 #[.slice a n cap, .int .i64 c] w fun e w' => e = .returned (.int .i64 (c + (cnt L (2 * n) : Int))) ∧ w = w' := by
  have H := Lib.hid h
  have hn : L.length = 2 * n := by have := h.1; rwa [mkL_length] at this
  have HN := Lib.hid hn
  have CN := Lib.hid (fun j (hj : j < 2 * n) => (by have := cnt_le L (show j + 1 ≤ 2 * n by omega); have e : cnt L (j + 1) = cnt L j + (L.getD j []).length := rfl; omega : cnt L (j + 1) ≤ cnt L (2 * n) ∧ cnt L j ≤ 1048576 ∧ (L.getD j []).length ≤ 1048576))
  have n1 : n ≤ 1048576 := by omega
  clear h hn hs
  go_enter Try.func56, Try.ntmps56
  go_wp2_with fail
  go_loop [1, 5] (fun q i => ∃ k : Nat, k ≤ n ∧ i = .int .i64 k ∧ q = .int .i64 (c + (cnt L (2 * k) : Int))) (fun _ i => n - (intOf i).toNat)
  case atStart => exact ⟨0, by omega, rfl, by simp [cnt]⟩
  case round =>
    obtain ⟨k, hk, rfl, rfl⟩ := hrel
    by_cases hlt : k < n
    · rcases H.out.2.2.2 with h0 | ⟨b, o, e, hbl, hc⟩
      · omega
      subst e
      obtain ⟨a1, m1, c1, z1, i1⟩ := hc (2 * k) (by omega)
      obtain ⟨a2, m2, c2, z2, i2⟩ := hc (2 * k + 1) (by omega)
      rw [mkL_at L c _ (by rw [HN.out]; omega), if_pos (by omega)] at i1 i2
      have hm1 : (L.getD (2 * k) []).length = m1 := by have := i1.1; rwa [marks_length] at this
      have hm2 : (L.getD (2 * k + 1) []).length = m2 := by have := i2.1; rwa [marks_length] at this
      obtain ⟨cb1, cb2, cb3⟩ := CN.out (2 * k) (by omega)
      obtain ⟨cb4, cb5, cb6⟩ := CN.out (2 * k + 1) (by omega)
      have CC1 : Hid (cnt L (2 * k + 1) = cnt L (2 * k) + m1) := Lib.hid (by rw [← hm1]; rfl)
      have CC2 : Hid (cnt L (2 * (k + 1)) = cnt L (2 * k + 1) + m2) := Lib.hid (by rw [← hm2]; rfl)
      rw [hm1] at i1 cb3
      rw [hm2] at i2 cb6
      obtain ⟨C0, hC0⟩ : ∃ C0 : Nat, C0 = cnt L (2 * k) := ⟨_, rfl⟩
      obtain ⟨C1, hC1⟩ : ∃ C1 : Nat, C1 = cnt L (2 * k + 1) := ⟨_, rfl⟩
      rw [← hC0] at cb2 i1 CC1 ⊢
      rw [← hC1] at cb5 i2 CC1 CC2
      rw [show 2 * k = k * 2 from Nat.mul_comm _ _] at z1
      rw [show o + (2 * k + 1) = o + k * 2 + 1 from by omega] at z2
      have I1 := Lib.hid i1
      have I2 := Lib.hid i2
      have EC : Hid (c + (C0 : Int) + (m1 : Int) = c + (C1 : Int)) := Lib.hid (by rw [CC1.out]; omega)
      have p0 : 0 ≤ c + (C1 : Int) := by omega
      have p1 : 0 ≤ c + (C1 : Int) + (m2 : Int) := by omega
      clear hc i1 i2 hm1 hm2 hC0 hC1 cb1 cb4
      go_wp2_with fail
      refine (heldIntS_marks a1 m1 c1 (c + (C0 : Int)) _ I1.out cb3 (by omega) (by omega)).mono ?_
      rw [EC.out]
      rintro e w' ⟨rfl, rfl⟩
      go_wp2_with fail
      refine (heldIntS_marks a2 m2 c2 (c + (C1 : Int)) _ I2.out cb6 (by omega) (by omega)).mono ?_
      rintro e w' ⟨rfl, rfl⟩
      go_wp2_with fail
      exact ⟨⟨k + 1, by omega, by go_num, val_int (by rw [CC2.out]; omega)⟩, by simp [intOf]; omega⟩
    · obtain rfl : k = n := by omega
      go_wp2_with fail
      go_ret
      exact ⟨rfl, rfl⟩
namespace Tm
/-- The trits of all words at a place. -/
def colL (L : List (List Int)) (p : Nat) : List Int := L.map fun x => x.getD p 0
theorem colL_length (L : List (List Int)) (p : Nat) : (colL L p).length = L.length := by simp [colL]
theorem colL_at (L : List (List Int)) (p q : Nat) (h : q < L.length) : (colL L p).getD q 0 = (L.getD q []).getD p 0 := by
  rw [colL, List.getD_eq_getElem?_getD, List.getElem?_map, List.getElem?_eq_getElem h, show L.getD q [] = L[q] from by rw [List.getD_eq_getElem?_getD, List.getElem?_eq_getElem h]; rfl]; rfl
/-- The rows of the first p weighings. -/
def weiF (L : List (List Int)) : Nat → List (List Int)
  | 0 => []
  | p + 1 => weiF L p ++ [places (colL L p) 1, places (colL L p) (-1)]
theorem weiF_length (L : List (List Int)) (p : Nat) : (weiF L p).length = 2 * p := by
  induction p with
  | zero => rfl
  | succ p ih => rw [weiF, List.length_append, ih]; simp only [List.length_cons, List.length_nil]; omega
def weiN (L : List (List Int)) : Nat := if coinsOk L then (L.getD 0 []).length else 0
def weiL (L : List (List Int)) : List (List Int) := weiF L (weiN L)
theorem placesF_two (xs : List Int) (k : Nat) : (placesF xs 1 k).length + (placesF xs (-1) k).length ≤ k := by
  induction k with
  | zero => exact Nat.le_refl _
  | succ k ih =>
    rw [placesF, placesF]
    by_cases c1 : xs.getD k 0 = 1
    · rw [if_pos c1, if_neg (by omega), List.length_append]
      simp only [List.length_cons, List.length_nil]; omega
    · rw [if_neg c1]
      split
      · rw [List.length_append]; simp only [List.length_cons, List.length_nil]; omega
      · omega
end Tm
theorem cnt_prefix {L M : List (List Int)} (k : Nat) (hk : k ≤ L.length) : cnt (L ++ M) k = cnt L k := by
  induction k with
  | zero => rfl
  | succ k ih => rw [cnt, cnt, ih (by omega), List.getD_eq_getElem?_getD, List.getElem?_append_left (by omega), ← List.getD_eq_getElem?_getD]
theorem cnt_weiF (L : List (List Int)) (p : Nat) : cnt (Tm.weiF L p) (2 * p) ≤ p * L.length := by
  induction p with
  | zero => exact Nat.zero_le _
  | succ p ih =>
    have l := Tm.weiF_length L p
    have t := Tm.placesF_two (Tm.colL L p) (Tm.colL L p).length
    rw [Tm.colL_length] at t
    have e1 : (Tm.weiF L (p + 1)).getD (2 * p) [] = Tm.places (Tm.colL L p) 1 := by
      rw [Tm.weiF, List.getD_eq_getElem?_getD, List.getElem?_append_right (by omega), l]; simp
    have e2 : (Tm.weiF L (p + 1)).getD (2 * p + 1) [] = Tm.places (Tm.colL L p) (-1) := by
      rw [Tm.weiF, List.getD_eq_getElem?_getD, List.getElem?_append_right (by omega), l, Nat.add_sub_cancel_left]; rfl
    have c : cnt (Tm.weiF L (p + 1)) (2 * p) = cnt (Tm.weiF L p) (2 * p) := by
      rw [Tm.weiF]; exact cnt_prefix _ (by omega)
    have e3 : (p + 1) * L.length = p * L.length + L.length := Nat.succ_mul _ _
    rw [show 2 * (p + 1) = 2 * p + 1 + 1 from by omega, cnt, cnt, c, e1, e2, Tm.places, Tm.places, Tm.colL_length]
    omega
theorem wei_small (L : List (List Int)) (h : L.length + cnt L L.length ≤ 1048576) : 2 * Tm.weiN L + cnt (Tm.weiL L) (2 * Tm.weiN L) ≤ 1048576 := by
  rw [Tm.weiL, Tm.weiN]
  cases hc : Tm.coinsOk L with
  | false =>
    show 2 * 0 + cnt (Tm.weiF L 0) (2 * 0) ≤ 1048576
    rw [show cnt (Tm.weiF L 0) (2 * 0) = 0 from rfl]; omega
  | true =>
    rw [if_pos rfl]
    obtain ⟨h0, ha⟩ := Tm.coinsOk_at hc
    have n30 := Tm.isW_len (ha 0 h0).1
    obtain ⟨n, hn⟩ : ∃ n, n = (L.getD 0 []).length := ⟨_, rfl⟩
    rw [← hn] at n30 ⊢
    have c : ∀ k, k ≤ L.length → cnt L k = k * n := by
      intro k
      induction k with
      | zero => intro _; rw [Nat.zero_mul]; rfl
      | succ k ih => intro hk; rw [cnt, ih (by omega), (ha k (by omega)).2, ← hn, Nat.succ_mul]
    rw [c _ (Nat.le_refl _)] at h
    have w := cnt_weiF L n
    rw [Nat.mul_comm] at h
    by_cases s : L.length < 60
    · have : n * L.length ≤ 30 * 60 := Nat.mul_le_mul n30 (by omega)
      omega
    · omega
theorem iTritsAt (a : Option Addr) (n cap : Nat) (L : List (List Int)) (p : Nat) (w : World) (h : Rows w a n cap L) (hp : ∀ q, q < L.length → p < (L.getD q []).length) (hn : n ≤ 1048576) : Calls Try.prog 78 #[.slice a n cap, .int .i64 p] w (RetI 3 w (Tm.colL L p)) := by
  obtain ⟨i0, hi, hz0, hz1, hz2⟩ := info_parts infoInt
  have H := Lib.hid h
  obtain rfl : n = L.length := h.1.symm
  have PP := Lib.hid hp
  clear h hp
  go_enter Try.func78, Try.ntmps78
  go_wp2_with (first | (at_make; refine wpList_make_full _ rfl _ _ 24 rfl (w.heap.size) 3 i0 (.int .i64 0) 1 Try.underlying24 hi hz0 hz1 _ _ _ _ (L.length) rfl rfl (by first | rfl | omega) (by first | rfl | omega) (by rw [hz2]; omega) (by unfold maxLen; omega) (by first | go_size | (simp only [gw_size, World.size_alloc]; omega) | exact Nat.le_refl _ | omega) ?_))
  intro w1 hown hgrow
  have hown0 := Lib.hid (rowV_own hown)
  have hb0 : Hid (Below w.heap.size w w1) := Lib.hid ((Below.refl _ _).grown hgrow (Nat.le_refl _) (fun k hk => by cases hk))
  clear hown hgrow
  go_wp2
  go_loopw [13] (fun i wr => ∃ (j : Nat) (g : Nat → Int), j ≤ L.length ∧ i = .int .i64 j ∧ Hid (wr.ownsRow w.heap.size 3 1 (.slice (some ⟨w.heap.size, 0, none⟩) L.length L.length) L.length (rowV L.length g)) ∧ Hid (∀ q, q < j → g q = (Tm.colL L p).getD q 0) ∧ Hid (Below w.heap.size w wr)) (fun i _ => L.length - (intOf i).toNat)
  case atStart => exact ⟨0, _, by omega, rfl, hown0, Lib.hid (fun q hq => by omega), hb0⟩
  case round =>
    clear hown0 hb0
    obtain ⟨j, g, hj, rfl, HO, G, HB⟩ := hrel
    by_cases hlt : j < L.length
    · rcases (H.out.below HB.out).2.2.2 with e | ⟨b, o, rfl, hbl, hc⟩
      · omega
      have hs := HB.out.size
      obtain ⟨a1, m1, c1, z1, i1⟩ := hc j hlt
      have pl := PP.out j hlt
      have CA := Lib.hid (Tm.colL_at L p j hlt)
      obtain ⟨xs, hxs⟩ : ∃ xs, xs = L.getD j [] := ⟨_, rfl⟩
      rw [← hxs] at i1 pl CA
      obtain ⟨d1, d2, d3, d4⟩ := i1
      unfold maxLen at d3
      rcases d4 with e | ⟨b1, o1, rfl, hbl1, hc1⟩
      · omega
      have cx := hc1 p (by omega)
      obtain ⟨x, hx⟩ : ∃ x, x = xs.getD p 0 := ⟨_, rfl⟩
      rw [← hx] at cx CA
      have p0 : (0 : Int) ≤ (p : Int) := by omega
      have p1 : (p : Int) < (m1 : Int) := by omega
      have hown := HO.out
      have fz := hown.frozenAt j
      have ck := own_cell hown j hlt
      obtain ⟨s1, s2⟩ := own_put hown j x
      have S1 := Lib.hid s1
      have hnx1 := Lib.hid (HB.out.grown s2 (by omega) (fun q hq => by cases hq; exact Nat.le_refl _))
      clear hown HB s1 s2 hc hc1 hxs hx d1 pl HO
      go_wp2_with fail
      refine ⟨⟨j + 1, _, by omega, by go_num, S1, Lib.hid (fun q hq => ?_), hnx1⟩, by simp [intOf]; omega⟩
      by_cases e : q = j
      · subst e; rw [upd_at, CA.out]
      · rw [upd_ne _ _ _ e]; exact G.out q (by omega)
    · obtain rfl : j = L.length := by omega
      go_wp2
      go_ret
      have hown := HO.out
      rw [rowV_list (xs := Tm.colL L p) (by rw [Tm.colL_length]) G.out] at hown
      exact ret_own hown HB.out (by omega)
theorem made_weig (m : Nat) : (madeCells (Value.cells (.agg #[.slice none 0 0, .slice none 0 0])) m).toList = List.replicate m (.slice none 0 0) := by
  apply List.ext_getElem?
  intro j
  by_cases hj : j < m
  · have h2 : j % 2 < 2 := Nat.mod_lt _ (by omega)
    have key : ∀ q, q < 2 → (Value.cells (.agg #[.slice none 0 0, .slice none 0 0]))[q]! = Value.slice none 0 0 := by
      intro q hq
      match q, hq with
      | 0, _ | 1, _ => rfl
    have e : (Value.cells (.agg #[.slice none 0 0, .slice none 0 0])).size = 2 := rfl
    simp only [madeCells, Array.toList_map, Array.toList_range, List.getElem?_map, List.getElem?_range hj, Option.map_some, e, key _ h2]
    simp [hj]
  · rw [List.getElem?_eq_none (by simp [madeCells]; omega), List.getElem?_eq_none (by simp; omega)]
theorem RowsIn.outer {w w' : World} {B E e1 : Nat} {v : Value} {L : List (List Int)} {us : List Value} (h : RowsIn w B E e1 v L us) (hs : ∀ q, q < w.heap.size → v.ownBlock ≠ some q → w'.heap[q]? = w.heap[q]?) : RowsIn w' B E e1 v L us :=
  ⟨fun j hj => by
    obtain ⟨u, e, ho, ap⟩ := h.1 j hj
    exact ⟨u, e, ⟨own_stable ho.1 fun q hq => hs q (ho.1.lt q hq).2 (fun e => ap q hq e), ho.2⟩, ap⟩, h.2⟩
set_option maxHeartbeats 2000000 in
theorem iWeighingsOf (a : Option Addr) (n cap : Nat) (L : List (List Int)) (w : World) (h : Rows w a n cap L) (hn : n ≤ 1048576) : Calls Try.prog 26 #[.slice a n cap] w (RetWs w (Tm.weiN L) (Tm.weiL L) (Tm.coinsOk L)) := by
  obtain ⟨i0, hi, hz0, hz1, hz2⟩ := info_parts info_weig
  have H := Lib.hid h
  obtain rfl : n = L.length := h.1.symm
  have SW := Lib.hid (iCoinWordsOk a _ cap L w H.out)
  have x4 := h.2.2.2
  clear h
  cases hc : Tm.coinsOk L with
  | false =>
    have E : Tm.weiN L = 0 := by rw [Tm.weiN, hc]; rfl
    rw [Tm.weiL, E]
    rw [hc] at SW
    clear E
    go_enter Try.func26, Try.ntmps26
    go_wp2_with fail
    refine SW.out.mono ?_
    rintro e w1 ⟨rfl, rfl⟩
    go_wp2
    go_ret2
    exact ⟨_, rfl, ownWs_nil _ _ _, by (repeat' (first | (with_reducible exact Below.refl _ _) | (with_reducible assumption) | (with_reducible refine below_drewN ?_ _) | (with_reducible refine Below.drew ?_) | (with_reducible refine Below.alloc ?_ ?_ _) | (with_reducible refine Below.setCell ?_ ?_ _) | (with_reducible refine below_gw ?_ ?_ _) | (with_reducible refine below_via ?_ ‹Below _ _ _› ?_) | (with_reducible exact Nat.le_refl _) | (with_reducible refine le_gw ?_ _) | (with_reducible refine le_alloc ?_ _) | (with_reducible refine le_setCell ?_ _ _) | (with_reducible refine le_drew ?_) | (with_reducible refine le_drewN ?_ _) | go_size))⟩
  | true =>
    obtain ⟨h0, ha⟩ := Tm.coinsOk_at hc
    rw [hc] at SW
    have E : Tm.weiN L = (L.getD 0 []).length := by rw [Tm.weiN, hc]; rfl
    rw [Tm.weiL, E]
    rcases x4 with e0 | ⟨b, o, rfl, hbl, hcl⟩
    · omega
    obtain ⟨a0, m0, c0, z0, j0⟩ := hcl 0 h0
    rw [Nat.add_zero] at z0
    have m30 : m0 ≤ 30 := by rw [← j0.1]; exact Tm.isW_len (ha 0 h0).1
    have AL : Hid (∀ q, q < L.length → (L.getD q []).length = m0) := Lib.hid fun q hq => by rw [(ha q hq).2]; exact j0.1
    rw [j0.1]
    have hl0 : (0 : Int) < (L.length : Int) := by omega
    have hn0 : L ≠ [] := by intro e; subst e; simp at h0
    clear ha hcl j0 E hc
    go_enter Try.func26, Try.ntmps26
    go_wp2_with fail
    refine SW.out.mono ?_
    rintro e w1 ⟨rfl, rfl⟩
    go_wp2_with (at_make; refine wpList_make_full _ rfl _ _ 40 rfl w.heap.size 27 i0 (.agg #[.slice none 0 0, .slice none 0 0]) 2 Try.underlying40 hi hz0 hz1 _ _ _ _ m0 rfl rfl (by first | rfl | omega) (by first | rfl | omega) (by rw [hz2]; omega) (by unfold maxLen; omega) (Nat.le_refl _) ?_)
    intro w1 hown hgrow
    have O1 : Hid (w1.ownsRow w.heap.size 27 2 (.slice (some ⟨w.heap.size, 0, none⟩) m0 m0) m0 (List.replicate (m0 * 2) (.slice none 0 0))) := Lib.hid (by rw [← made_weig]; exact hown)
    have B1 : Hid (Below w.heap.size w w1) := Lib.hid ((Below.refl w.heap.size w).grown hgrow (Nat.le_refl _) (fun k hk => by cases hk))
    have z1 : w.heap.size < w1.heap.size := (hown.lt _ rfl).2
    clear hown hgrow hi hz0 hz1 hz2
    go_wp2_with fail
    go_loopw [17] (fun i wr => ∃ (k : Nat) (us : List Value), k ≤ m0 ∧ i = .int .i64 k ∧ w.heap.size < wr.heap.size ∧ us.length = m0 * 2 ∧ Hid (wr.ownsRow w.heap.size 27 2 (.slice (some ⟨w.heap.size, 0, none⟩) m0 m0) m0 us) ∧ Hid (RowsIn wr w.heap.size wr.heap.size 3 (.slice (some ⟨w.heap.size, 0, none⟩) m0 m0) (Tm.weiF L k) (us.take (2 * k))) ∧ Hid (Below w.heap.size w wr)) (fun i _ => m0 - (intOf i).toNat)
    case atStart => exact ⟨0, _, by omega, rfl, z1, by simp, O1, Lib.hid ⟨fun j hj => by simp [Tm.weiF] at hj, fun i j _ hj => by simp [Tm.weiF] at hj⟩, B1⟩
    case round =>
      clear O1 B1 z1
      obtain ⟨k, us, hk, rfl, zl, ul, OW, RI, BB⟩ := hrel
      by_cases hlt : k < m0
      · have hs := BB.out.size
        have TA := Lib.hid (iTritsAt _ _ cap L k wr (H.out.below BB.out) (fun q hq => by rw [AL.out q hq]; exact hlt) hn)
        have WN : Hid (Tm.weiF L (k + 1) = Tm.weiF L k ++ [Tm.places (Tm.colL L k) 1, Tm.places (Tm.colL L k) (-1)]) := Lib.hid rfl
        have WF := Tm.weiF_length L k
        have CL := Tm.colL_length L k
        obtain ⟨cs, hcs⟩ : ∃ cs, cs = Tm.colL L k := ⟨_, rfl⟩
        rw [← hcs] at TA WN CL
        have P1 := Lib.hid (fun (a : Option Addr) (c : Nat) (w : World) (h : Ints w a cs.length c cs) => iPlacesWith a _ c cs 1 w h (by omega))
        have P2 := Lib.hid (fun (a : Option Addr) (c : Nat) (w : World) (h : Ints w a cs.length c cs) => iPlacesWith a _ c cs (-1) w h (by omega))
        obtain ⟨ys, hys⟩ : ∃ ys, ys = Tm.places cs 1 := ⟨_, rfl⟩
        obtain ⟨zs, hzs⟩ : ∃ zs, zs = Tm.places cs (-1) := ⟨_, rfl⟩
        rw [← hys] at P1 WN
        rw [← hzs] at P2 WN
        clear hcs hys hzs CL
        go_wp2_with fail
        refine TA.out.mono ?_
        rintro e w2 ⟨a2, c2, rfl, hown, hb, -⟩
        have I2 := Lib.hid (Ints.of_own hown)
        have B2 := Lib.hid hb
        have s2 := hb.size
        clear hown hb TA
        go_wp2_with fail
        refine (P1.out a2 c2 _ I2.out).mono ?_
        rintro e w3 ⟨a3, c3, rfl, hown, hb, -⟩
        have O3 := Lib.hid hown
        have B3 := Lib.hid hb
        have s3 := hb.size
        have I3 := Lib.hid (I2.out.below hb)
        clear hown hb I2
        go_wp2_with fail
        refine (P2.out a2 c2 _ I3.out).mono ?_
        rintro e w4 ⟨a4, c4, rfl, hown, hb, -⟩
        have s4 := hb.size
        have BW : Hid (Below wr.heap.size wr w4) := Lib.hid (B2.out.trans ((B3.out.trans (hb.mono s3)).mono s2))
        have Q3 := Lib.hid (own_below O3.out hb)
        have Q4 := Lib.hid hown
        have OW4 := own_below OW.out BW.out
        have R0 := RI.out.stay (SameIn.of_below BW.out (Nat.le_refl _))
        have tk : (us.take (2 * k)).length = (Tm.weiF L k).length := by rw [List.length_take, WF]; omega
        have R1 := R0.snoc tk (own_weak Q3.out (by omega)) (E' := w3.heap.size) (fun q hq => by have := O3.out.lt q hq; omega) (fun q hq => by cases hq; exact zl) (by omega)
        have R2 := R1.snoc (by rw [List.length_append, List.length_append, tk]; rfl) (own_weak Q4.out (by omega)) (E' := w4.heap.size) (fun q hq => hown.lt q hq) (fun q hq => by cases hq; show w.heap.size < w3.heap.size; omega) s4
        rw [List.append_assoc, List.append_assoc] at R2
        have RW := Lib.hid R2
        have st1 := OW4.stored (k * 2) (.slice a3 ys.length c3)
        have ST1 := Lib.hid st1
        have st2 := st1.1.stored (k * 2 + 1) (.slice a4 zs.length c4)
        have ST2 := Lib.hid st2
        have ck1 := OW4.cellAt (k * 2) (by omega)
        have ck2 := OW4.cellAt (k * 2 + 1) (by omega)
        rw [List.getElem?_eq_getElem (by omega)] at ck1 ck2
        have fz := OW4.frozenAt
        have lz : w.heap.size < w4.heap.size := by omega
        have BB4 := Lib.hid (BB.out.trans (BW.out.mono hs))
        have hs4 := BB4.out.size
        clear hown hb OW4 R0 R1 R2 st1 st2 B2 B3 O3 Q3 Q4 I3 OW RI BB BW tk
        obtain ⟨v1, hv1⟩ : ∃ v1, v1 = us[k * 2] := ⟨_, rfl⟩
        obtain ⟨v2, hv2⟩ : ∃ v2, v2 = us[k * 2 + 1] := ⟨_, rfl⟩
        rw [← hv1] at ck1
        rw [← hv2] at ck2
        clear hv1 hv2
        go_wp2_with fail
        have TK : (((us.set (k * 2) (.slice a3 ys.length c3)).set (k * 2 + 1) (.slice a4 zs.length c4)).take (2 * (k + 1))) = us.take (2 * k) ++ ([.slice a3 ys.length c3] ++ [.slice a4 zs.length c4]) := by
          rw [show 2 * (k + 1) = k * 2 + 1 + 1 from by omega, List.take_succ_eq_append_getElem (by simp; omega), List.take_set_of_le (by omega), List.take_succ_eq_append_getElem (by simp; omega), List.take_set_of_le (by omega), show 2 * k = k * 2 from by omega]
          simp
        refine ⟨⟨k + 1, _, by omega, by go_num, ?_, ?_, Lib.hid ST2.out.1, Lib.hid ?_, Lib.hid ((BB4.out.grown ST1.out.2 hs4 (fun q hq => by cases hq; exact Nat.le_refl _)).grown ST2.out.2 (by rw [World.size_setCell]; exact hs4) (fun q hq => by cases hq; exact Nat.le_refl _))⟩, by simp [intOf]; omega⟩
        · rw [World.size_setCell, World.size_setCell]; exact lz
        · simp; exact ul
        · rw [TK, WN.out, World.size_setCell, World.size_setCell]
          exact RW.out.outer fun q hq hne => by
            rw [ST2.out.2.block q (by rw [World.size_setCell]; exact hq) (fun e => hne (by rw [e]; rfl)), ST1.out.2.block q hq (fun e => hne (by rw [e]; rfl))]
      · obtain rfl : k = m0 := by omega
        have TK : us.take (2 * k) = us := List.take_of_length_le (by omega)
        rw [TK] at RI
        go_wp2_with fail
        go_ret2
        exact ⟨_, rfl, ⟨us, OW.out, fun q hq => by cases hq; exact zl, Tm.weiF_length L k, RI.out⟩, BB.out⟩
set_option maxHeartbeats 4000000 in
theorem sWeighingsOf (a : Option Addr) (n cap : Nat) (L : List (List Int)) (w : World) (h : Rows w a n cap L) (hn : n ≤ 1048576) : Calls Try.prog 52 #[.slice a n cap] w (RetWs w (Tm.weiN L) (Tm.weiL L) (Tm.coinsOk L)) := by
  obtain ⟨i0, hi, hz0, hz1, hz2⟩ := info_parts infoInt
  obtain ⟨j0, hj, hy0, hy1, hy2⟩ := info_parts info_weig
  have H := Lib.hid h
  obtain rfl : n = L.length := h.1.symm
  have SW := Lib.hid (sWords a _ cap L w H.out)
  have x4 := h.2.2.2
  clear h
  cases hc : Tm.coinsOk L with
  | false =>
    have E : Tm.weiN L = 0 := by rw [Tm.weiN, hc]; rfl
    rw [Tm.weiL, E]
    rw [hc] at SW
    clear E
    go_enter Try.func52, Try.ntmps52
    go_wp2_with fail
    refine SW.out.mono ?_
    rintro e w1 ⟨rfl, rfl⟩
    go_wp2
    go_ret2
    exact ⟨_, rfl, ownWs_nil _ _ _, by (repeat' (first | (with_reducible exact Below.refl _ _) | (with_reducible assumption) | (with_reducible refine below_drewN ?_ _) | (with_reducible refine Below.drew ?_) | (with_reducible refine Below.alloc ?_ ?_ _) | (with_reducible refine Below.setCell ?_ ?_ _) | (with_reducible refine below_gw ?_ ?_ _) | (with_reducible refine below_via ?_ ‹Below _ _ _› ?_) | (with_reducible exact Nat.le_refl _) | (with_reducible refine le_gw ?_ _) | (with_reducible refine le_alloc ?_ _) | (with_reducible refine le_setCell ?_ _ _) | (with_reducible refine le_drew ?_) | (with_reducible refine le_drewN ?_ _) | go_size))⟩
  | true =>
    obtain ⟨h0, ha⟩ := Tm.coinsOk_at hc
    rw [hc] at SW
    have E : Tm.weiN L = (L.getD 0 []).length := by rw [Tm.weiN, hc]; rfl
    rw [Tm.weiL, E]
    rcases x4 with e0 | ⟨b, o, rfl, hbl, hcl⟩
    · omega
    obtain ⟨a0, m0, c0, z0, j1⟩ := hcl 0 h0
    rw [Nat.add_zero] at z0
    have m30 : m0 ≤ 30 := by rw [← j1.1]; exact Tm.isW_len (ha 0 h0).1
    have AL : Hid (∀ q, q < L.length → (L.getD q []).length = m0) := Lib.hid fun q hq => by rw [(ha q hq).2]; exact j1.1
    rw [j1.1]
    have hl0 : (0 : Int) < (L.length : Int) := by omega
    have hn0 : L ≠ [] := by intro e; subst e; simp at h0
    have O0 : Hid (OwnWs (w.alloc (.cells #[] 27)) w.heap.size (w.alloc (.cells #[] 27)).heap.size (.slice (some ⟨w.heap.size, 0, none⟩) 0 0) 0 (Tm.weiF L 0)) :=
      Lib.hid ⟨[], World.ownsRow_made w #[] 0 (Nat.le_refl _) (by unfold maxLen; omega) (by simp), fun q e => (by cases e; simp), rfl, fun j hj => by simp [Tm.weiF] at hj, fun i j _ hj => by simp [Tm.weiF] at hj⟩
    clear ha hcl j1 E hc
    go_enter Try.func52, Try.ntmps52
    go_wp2_with fail
    refine SW.out.mono ?_
    rintro e w1 ⟨rfl, rfl⟩
    go_wp2_with fail
    go_loopw [4, 17] (fun v i wr => ∃ (k : Nat) (a' : Option Addr) (c' : Nat), k ≤ m0 ∧ i = .int .i64 k ∧ v = .slice a' k c' ∧ w.heap.size ≤ wr.heap.size ∧ Hid (OwnWs wr w.heap.size wr.heap.size v k (Tm.weiF L k)) ∧ Hid (Below w.heap.size w wr)) (fun _ i _ => m0 - (intOf i).toNat)
    case atStart => exact ⟨0, _, 0, by omega, rfl, rfl, by simp, O0, Lib.hid (by (repeat' (first | (with_reducible exact Below.refl _ _) | (with_reducible assumption) | (with_reducible refine below_drewN ?_ _) | (with_reducible refine Below.drew ?_) | (with_reducible refine Below.alloc ?_ ?_ _) | (with_reducible refine Below.setCell ?_ ?_ _) | (with_reducible refine below_gw ?_ ?_ _) | (with_reducible refine below_via ?_ ‹Below _ _ _› ?_) | (with_reducible exact Nat.le_refl _) | (with_reducible refine le_gw ?_ _) | (with_reducible refine le_alloc ?_ _) | (with_reducible refine le_setCell ?_ _ _) | (with_reducible refine le_drew ?_) | (with_reducible refine le_drewN ?_ _) | go_size)))⟩
    case round =>
      clear O0
      obtain ⟨k, a', c', hk, rfl, rfl, hs, OO, BB⟩ := hrel
      obtain ⟨wo, hwo⟩ : ∃ wo, wo = wr := ⟨_, rfl⟩
      subst hwo
      by_cases hlt : k < m0
      · have CL := Tm.colL_length L k
        have CA := Lib.hid (fun q h => Tm.colL_at L k q h)
        have WN : Hid (Tm.weiF L (k + 1) = Tm.weiF L k ++ [Tm.places (Tm.colL L k) 1, Tm.places (Tm.colL L k) (-1)]) := Lib.hid rfl
        obtain ⟨xs, hxs⟩ : ∃ xs, xs = Tm.colL L k := ⟨_, rfl⟩
        rw [← hxs] at CL CA WN
        have XL := Lib.hid CL
        obtain ⟨W0, hW⟩ : ∃ W0, W0 = wo.alloc (.cells #[.slice none 0 0, .slice none 0 0] 27) := ⟨_, rfl⟩
        have BK : Hid (Blk2 W0 wo.heap.size (.slice none 0 0) (.slice none 0 0) 27) := Lib.hid (by rw [hW]; exact blk2_new _ _ _ _)
        have WW : Hid (WSt W0 W0.heap.size wo.heap.size (.slice none 0 0) [] (.slice none 0 0) []) := Lib.hid ⟨BK.out, World.ownsRow_nil _ _ _ _, World.ownsRow_nil _ _ _ _, fun q h => (by cases h), fun h => (by cases h), fun h => (by cases h)⟩
        have B1 : Hid (Below wo.heap.size wo W0) := Lib.hid (by rw [hW]; exact (Below.refl _ _).alloc (Nat.le_refl _) _)
        have B2 := Lib.hid (BB.out.trans (B1.out.mono hs))
        have zW : wo.heap.size < W0.heap.size ∧ W0.heap.size ≤ wo.heap.size + 1 := by rw [hW]; simp
        obtain ⟨zW1, zW2⟩ := zW
        clear hxs CL BK
        go_wp2_with fail
        rw [← hW]
        clear hW
        go_loopw [23] (fun i wr => ∃ (q : Nat) (v u : Value), q ≤ L.length ∧ i = .int .i64 q ∧ W0.heap.size ≤ wr.heap.size ∧ Hid (WSt wr W0.heap.size wo.heap.size v (Tm.placesF xs 1 q) u (Tm.placesF xs (-1) q)) ∧ Hid (KeepB wo.heap.size W0.heap.size W0 wr)) (fun i _ => L.length - (intOf i).toNat)
        case atStart => exact ⟨0, _, _, by omega, rfl, Nat.le_refl _, WW, Lib.hid (KeepB.refl _ _ _)⟩
        case round =>
          clear WW
          obtain ⟨q, v, u, hq, rfl, hz, WW, KB⟩ := hrel
          obtain ⟨va, vc, rfl⟩ := own_form WW.out.sv
          obtain ⟨ua, uc, rfl⟩ := own_form WW.out.ou
          have B3 := Lib.hid (KeepB.below B2.out KB.out (by omega) hs)
          have PL := Tm.placesF_len xs (-1) q
          have PR := Tm.placesF_len xs 1 q
          obtain ⟨b0, b1⟩ := WW.out.blk.cells
          have lt := WW.out.blk.lt
          by_cases hlq : q < L.length
          · rcases H.out.2.2.2 with e0 | ⟨b', o', e1, -, hc⟩
            · omega
            cases e1
            obtain ⟨a1, m1, c1, z1, i1⟩ := hc q hlq
            have pl : k < (L.getD q []).length := by rw [AL.out q hlq]; exact hlt
            have CQ := CA.out q hlq
            have SL : Hid (∀ t, Tm.placesF xs t (q + 1) = if xs.getD q 0 = t then Tm.placesF xs t q ++ [(q : Int)] else Tm.placesF xs t q) := Lib.hid fun t => rfl
            rw [CQ] at SL
            obtain ⟨ys, hys⟩ : ∃ ys, ys = L.getD q [] := ⟨_, rfl⟩
            rw [← hys] at i1 pl SL
            obtain ⟨d1, d2, d3, d4⟩ := i1
            unfold maxLen at d3
            rcases d4 with e | ⟨b1', o1, rfl, hbl1, hc1⟩
            · omega
            have cx0 := hc1 k (by omega)
            obtain ⟨x, hx⟩ : ∃ x, x = ys.getD k 0 := ⟨_, rfl⟩
            rw [← hx] at cx0 SL
            have CX0 := Lib.hid cx0
            have cx := (World.cell?_of_block (a := ⟨b1', o1 + k, none⟩) (B3.out.block b1' hbl1)).trans cx0
            have zz := (World.cell?_of_block (a := ⟨b, o + q, none⟩) (B3.out.block b hbl)).trans z1
            have hsz := B3.out.size
            have bl2 : b < wr.heap.size := by omega
            have bl3 : b1' < wr.heap.size := by omega
            have p0 : (0 : Int) ≤ (k : Int) := by omega
            have p1 : (k : Int) < (m1 : Int) := by omega
            have hown := WW.out.sv
            have hown2 := WW.out.ou
            clear hc hc1 hys hx d1 pl CQ z1 cx0
            have cx0 := CX0.out
            by_cases xp : x = 1
            · have e1 : (x == 1) = true := by simpa using xp
              have e2 : (x == -1) = false := by simp; omega
              have S1 := Lib.hid (SL.out 1)
              have S2 := Lib.hid (SL.out (-1))
              rw [if_pos xp] at S1
              rw [if_neg (by omega)] at S2
              go_wp2_with (at_builtin; refine wpList_append_own_at _ rfl _ _ 24 rfl (W0.heap.size) 3 i0 (.int .i64 0) 1 8 Try.underlying24 hi hz0 hz1 hz2 rfl (by decide) _ _ _ rfl (World.ownsRow.alloc hown _) ⟨wr.heap.size, 0, none⟩ 1 1 [.int .i64 ((q : Int))] rfl rfl (app_c1 (wr) ((q : Int)) _) (app_c2 _) (by unfold maxLen; omega) (by omega) (by simp; omega) ?_)
              intro v' w2 hv hg _ hat
              have hv2 : w2.ownsRow W0.heap.size 3 1 v' (Tm.placesF xs 1 (q + 1)).length ((Tm.placesF xs 1 (q + 1)).map (Value.int .i64)) := by rw [S1.out]; simpa using hv
              obtain ⟨bk, ws, kb⟩ := WW.out.left hz ((Below.refl wr.heap.size wr).alloc (Nat.le_refl _) _) hv2 hg (by rw [World.size_alloc]; exact hat)
              obtain ⟨va', vc', rfl⟩ := own_form hv
              obtain ⟨d0, d1⟩ := bk.cells
              have lt2 := bk.lt
              have fz := bk.frozen 0
              have KB2 := Lib.hid (KB.out.trans kb)
              have sz2 := KB2.out.size
              have WS : Hid (WSt _ _ _ _ (Tm.placesF xs 1 (q + 1)) _ (Tm.placesF xs (-1) (q + 1))) := Lib.hid (by rw [S2.out]; exact ws)
              have BX := (KeepB.below B2.out KB2.out (by omega) hs).block b1' hbl1
              rw [heap_setCell_other _ _ _ _ (by show b1' ≠ wo.heap.size; omega)] at BX
              have bn : ¬ (b1' = wo.heap.size) := by omega
              have bn2 : ¬ (wo.heap.size = b1') := by omega
              have yl : b1' < w2.heap.size := by have := sz2; rw [World.size_setCell] at this; omega
              have y1 := (World.cell?_of_block (a := ⟨b1', o1 + k, none⟩) BX).trans cx0
              clear hv hv2 hg hat bk ws kb hown hown2 b0 b1 lt BX
              clear cx
              go_wp2_with fail
              exact ⟨⟨q + 1, _, _, by omega, by go_num, sz2, WS, KB2⟩, by simp [intOf]; omega⟩
            · by_cases xn : x = -1
              · have e1 : (x == 1) = false := by simpa using xp
                have e2 : (x == -1) = true := by simpa using xn
                have S1 := Lib.hid (SL.out 1)
                have S2 := Lib.hid (SL.out (-1))
                rw [if_neg xp] at S1
                rw [if_pos xn] at S2
                go_wp2_with (at_builtin; refine wpList_append_own_at _ rfl _ _ 24 rfl (W0.heap.size) 3 i0 (.int .i64 0) 1 8 Try.underlying24 hi hz0 hz1 hz2 rfl (by decide) _ _ _ rfl (World.ownsRow.alloc hown2 _) ⟨wr.heap.size, 0, none⟩ 1 1 [.int .i64 ((q : Int))] rfl rfl (app_c1 (wr) ((q : Int)) _) (app_c2 _) (by unfold maxLen; omega) (by omega) (by simp; omega) ?_)
                intro v' w2 hv hg _ hat
                have hv2 : w2.ownsRow W0.heap.size 3 1 v' (Tm.placesF xs (-1) (q + 1)).length ((Tm.placesF xs (-1) (q + 1)).map (Value.int .i64)) := by rw [S2.out]; simpa using hv
                obtain ⟨bk, ws, kb⟩ := WW.out.right hz ((Below.refl wr.heap.size wr).alloc (Nat.le_refl _) _) hv2 hg (by rw [World.size_alloc]; exact hat)
                obtain ⟨va', vc', rfl⟩ := own_form hv
                obtain ⟨d0, d1⟩ := bk.cells
                have lt2 := bk.lt
                have fz := bk.frozen 1
                have KB2 := Lib.hid (KB.out.trans kb)
                have sz2 := KB2.out.size
                have WS : Hid (WSt _ _ _ _ (Tm.placesF xs 1 (q + 1)) _ (Tm.placesF xs (-1) (q + 1))) := Lib.hid (by rw [S1.out]; exact ws)
                have BX := (KeepB.below B2.out KB2.out (by omega) hs).block b1' hbl1
                rw [heap_setCell_other _ _ _ _ (by show b1' ≠ wo.heap.size; omega)] at BX
                have bn : ¬ (b1' = wo.heap.size) := by omega
                have bn2 : ¬ (wo.heap.size = b1') := by omega
                have yl : b1' < w2.heap.size := by have := sz2; rw [World.size_setCell] at this; omega
                have y1 := (World.cell?_of_block (a := ⟨b1', o1 + k, none⟩) BX).trans cx0
                clear hv hv2 hg hat bk ws kb hown hown2 b0 b1 lt BX
                clear cx
                go_wp2_with fail
                exact ⟨⟨q + 1, _, _, by omega, by go_num, sz2, WS, KB2⟩, by simp [intOf]; omega⟩
              · have e1 : (x == 1) = false := by simpa using xp
                have e2 : (x == -1) = false := by simpa using xn
                have S1 := Lib.hid (SL.out 1)
                have S2 := Lib.hid (SL.out (-1))
                rw [if_neg xp] at S1
                rw [if_neg xn] at S2
                clear hown hown2 b0 b1 lt
                go_wp2_with fail
                exact ⟨⟨q + 1, _, _, by omega, by go_num, hz, Lib.hid (by rw [S1.out, S2.out]; exact WW.out), KB⟩, by simp [intOf]; omega⟩
          · obtain rfl : q = L.length := by omega
            have EL : Hid (Tm.placesF xs 1 L.length = Tm.places xs 1 ∧ Tm.placesF xs (-1) L.length = Tm.places xs (-1)) := Lib.hid (by rw [Tm.places, Tm.places, XL.out]; exact ⟨rfl, rfl⟩)
            have OT : Hid (OwnWs wr w.heap.size wo.heap.size (.slice a' k c') k (Tm.weiF L k)) := Lib.hid (OO.out.stay ⟨by have := KB.out.size; omega, fun r h1 h2 => by rw [KB.out.block r (by omega) (by omega), B1.out.block r h2]⟩)
            obtain ⟨us, ow, ol, oll, ri⟩ := OT.out
            have R1 := ri.two (by have := ow.1; omega) (own_weak WW.out.sv (by omega)) (own_weak WW.out.ou (by omega)) (E' := wr.heap.size) (fun r hr => by have := WW.out.sv.lt r hr; omega) (fun r hr => by have := WW.out.ou.lt r hr; omega) WW.out.ap ol (by omega)
            rw [show Tm.weiF L k ++ [Tm.placesF xs 1 L.length, Tm.placesF xs (-1) L.length] = Tm.weiF L (k + 1) from by rw [EL.out.1, EL.out.2]; exact WN.out.symm] at R1
            have RI := Lib.hid (R1.stay (SameIn.of_below ((Below.refl wr.heap.size wr).alloc (Nat.le_refl _) (.cells #[.slice va (Tm.placesF xs 1 L.length).length vc, .slice ua (Tm.placesF xs (-1) L.length).length uc] 27)) (Nat.le_refl _)))
            have OW0 := Lib.hid ow
            have hsz := B3.out.size
            clear ow ol oll ri R1 OT OO WW KB
            go_wp2_with (at_builtin; refine wpList_append_own_at _ rfl _ _ 40 rfl (w.heap.size) 27 j0 (.agg #[.slice none 0 0, .slice none 0 0]) 2 48 Try.underlying40 hj hy0 hy1 hy2 rfl (by decide) _ _ _ rfl (World.ownsRow.alloc OW0.out _) ⟨wr.heap.size, 0, none⟩ 1 1 [.slice va _ vc, .slice ua _ uc] rfl rfl (app_s2 _ _ _ _) (app_s4 _ _ _ _ _ _) (by unfold maxLen; omega) (by omega) (by simp; omega) ?_)
            intro v' w6 hv hg _ hat
            have R2 := RI.out.regrow hg (by rw [World.size_alloc]; exact hat)
            have O6 : OwnWs w6 w.heap.size w6.heap.size v' (k + 1) (Tm.weiF L (k + 1)) := ⟨_, hv, fun r hr => (hv.lt r hr).2, Tm.weiF_length L (k + 1), R2⟩
            obtain ⟨va6, vc6, ev, -⟩ := O6.rows
            subst ev
            have O7 := Lib.hid O6
            have B6 := Lib.hid ((B3.out.alloc hsz _).grown hg (by simp; omega) (fun j hj => (OW0.out.lt j hj).1))
            have s6 := B6.out.size
            clear hv hg hat R2 O6 OW0 RI b0 b1 lt
            go_wp2_with fail
            exact ⟨⟨k + 1, va6, vc6, by omega, by go_num, rfl, s6, O7, B6⟩, by simp [intOf]; omega⟩
      · obtain rfl : k = m0 := by omega
        go_wp2_with fail
        go_ret2
        exact ⟨_, rfl, OO.out, BB.out⟩
end Go.Proofs.Yteklgngooflhlaa

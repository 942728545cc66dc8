/- Lists of gates that grow: the model's l6Gate. -/
import Derived.Test.YtjbmgppgkgacpaaGRow
import Derived.Test.YtjbmgppgkgacpaaGBox
import Derived.Test.YtjbmgppgkgacpaaCopy
import Derived.Maps.AppendAt
namespace Go.Proofs.Ytjbmgppgkgacpaa
set_option maxRecDepth 20000
open Go.RowKit
namespace Tm
/-- A gate of a table and two lines. -/
def mkG (t : Nat → Int) (A B : Int) : Nat → Int := fun j => if j < 9 then t j else if j = 9 then A else B
end Tm
theorem gateV_mkG (t : Nat → Int) (A B : Int) : gateV (Tm.mkG t A B) = .agg #[.int .i64 (t 0), .int .i64 (t 1), .int .i64 (t 2), .int .i64 (t 3), .int .i64 (t 4), .int .i64 (t 5), .int .i64 (t 6), .int .i64 (t 7), .int .i64 (t 8), .int .i64 A, .int .i64 B] := rfl
theorem gcells_mkG (t : Nat → Int) (A B : Int) : gcells (Tm.mkG t A B) = [.int .i64 (t 0), .int .i64 (t 1), .int .i64 (t 2), .int .i64 (t 3), .int .i64 (t 4), .int .i64 (t 5), .int .i64 (t 6), .int .i64 (t 7), .int .i64 (t 8), .int .i64 A, .int .i64 B] := rfl
theorem gcells_one (g : Nat → Int) : ∀ u ∈ gcells g, u.oneCell' = true := by
  intro u hu
  simp only [gcells, List.mem_cons, List.not_mem_nil, or_false] at hu
  rcases hu with rfl | rfl | rfl | rfl | rfl | rfl | rfl | rfl | rfl | rfl | rfl <;> rfl
theorem gcells_flat (g : Nat → Int) : gcells g = (Tm.flat [g]).map (Value.int .i64) := rfl
theorem add_at0 (g j : Nat) : (⟨g, 0, none⟩ : Addr).add j = ⟨g, j, none⟩ := by unfold Addr.add; split <;> simp_all
theorem app_g (W : World) (b : Nat) (g : Nat → Int) (t : TypeId) (hb : b = W.heap.size) : ∀ j u, (gcells g)[j]? = some u → (W.alloc (.cells (gcells g).toArray t)).cell? ((⟨b, 0, none⟩ : Addr).add j) = some u := by
  subst hb
  intro j u hj
  have := range_new W (gcells g) t j u hj
  rw [add_at0]; rw [Nat.zero_add] at this; exact this
/-- Steps that write blocks beyond w alone, behind a growth. -/
theorem grown_set {w w1 : World} {row : Option Nat} (h : w.grownBy w1 row) (b o : Nat) (v : Value) (hb : w.heap.size ≤ b) : w.grownBy (w1.setCell ⟨b, o, none⟩ v) row :=
  ⟨h.os, h.tape, h.output, by rw [World.size_setCell]; exact h.size, fun k hk hne => (heap_setCell_other w1 ⟨b, o, none⟩ k v (by show k ≠ b; omega)).trans (h.block k hk hne)⟩
theorem grown_reads {W w1 : World} {row : Option Nat} (h : W.grownBy w1 row) (b : Nat) (hb : b < W.heap.size) (hne : some b ≠ row) : (∀ o, w1.cell? ⟨b, o, none⟩ = W.cell? ⟨b, o, none⟩) ∧ ∀ o, w1.frozen? ⟨b, o, none⟩ = W.frozen? ⟨b, o, none⟩ :=
  ⟨fun o => World.cell?_of_block (a := ⟨b, o, none⟩) (h.block b hb hne), fun o => World.frozen?_of_block (a := ⟨b, o, none⟩) (h.block b hb hne)⟩
theorem grown_of {w w1 w2 : World} {row : Option Nat} (hb : Below w.heap.size w w1) (h : w1.grownBy w2 row) : w.grownBy w2 row :=
  ⟨h.os.trans hb.os, h.tape.trans hb.tape, h.output.trans hb.output, Nat.le_trans hb.size h.size, fun k hk hne => (h.block k (Nat.lt_of_lt_of_le hk hb.size) hne).trans (hb.block k hk)⟩
theorem own_formS {w : World} {B e s : Nat} {v : Value} {n : Nat} {xs : List Value} (h : w.ownsRow B e s v n xs) : ∃ a cap, v = .slice a n cap := by
  rcases h.2 with ⟨e1, e2⟩ | ⟨g, cap, _, e1, _⟩
  · subst e2; exact ⟨_, _, e1⟩
  · exact ⟨_, _, e1⟩
set_option maxHeartbeats 4000000 in
theorem sGate6 (B : Nat) (k : Int) (a : Option Addr) (n c : Nat) (L : List (Nat → Int)) (b : Option Addr) (m d : Nat) (t : Nat → Int) (x y : Int) (w : World) (ho : w.ownsRow B 59 11 (.slice a n c) n ((Tm.flat L).map (Value.int .i64))) (hn : n ≤ 60) (h1 : -10 ≤ k) (h2 : k ≤ 10) (hB : B ≤ w.heap.size) :
    Calls Try.prog 22 #[circV k a n c b m d, tabV t, .int .i64 x, .int .i64 y] w fun r w' => ∃ a' c', r = .returned (.tuple #[circV k a' (n + 1) c' b m d, .int .i64 (3 + k + (n : Int))]) ∧ w'.ownsRow B 59 11 (.slice a' (n + 1) c') (n + 1) ((Tm.flat (L ++ [Tm.mkG t x y])).map (Value.int .i64)) ∧ w.grownBy w' (Value.slice a n c).ownBlock := by
  obtain ⟨i0, hi, hz0, hz1, hz2⟩ := info_parts infoGate
  have HO := Lib.hid ho
  have LT := Lib.hid (fun q hq => (ho.lt q hq).2)
  clear ho
  go_enter Try.func22, Try.ntmps22
  go_wp2_with (at_builtin; refine wpList_append_own_at _ rfl _ _ 22 rfl B 59 i0 (.agg #[.int .i64 0, .int .i64 0, .int .i64 0, .int .i64 0, .int .i64 0, .int .i64 0, .int .i64 0, .int .i64 0, .int .i64 0, .int .i64 0, .int .i64 0]) 11 88 Try.underlying22 hi hz0 hz1 hz2 rfl (by decide) _ n ((Tm.flat L).map (Value.int .i64)) rfl (own_below HO.out (by (repeat' (first | (with_reducible exact Below.refl _ _) | (with_reducible assumption) | (with_reducible refine below_drewN ?_ _) | (with_reducible refine Below.drew ?_) | (with_reducible refine Below.alloc ?_ ?_ _) | (with_reducible refine Below.setCell ?_ ?_ _) | (with_reducible refine below_gw ?_ ?_ _) | (with_reducible refine below_via ?_ ‹Below _ _ _› ?_) | (with_reducible exact Nat.le_refl _) | (with_reducible refine le_gw ?_ _) | (with_reducible refine le_alloc ?_ _) | (with_reducible refine le_setCell ?_ _ _) | (with_reducible refine le_drew ?_) | (with_reducible refine le_drewN ?_ _) | go_size)))) ⟨w.heap.size + 1 + 1 + 1, 0, none⟩ 1 1 (gcells (Tm.mkG t x y)) rfl rfl (app_g _ _ (Tm.mkG t x y) _ (by simp)) (gcells_one _) (by unfold maxLen; omega) (by omega) (by simp; omega) ?_)
  intro v1 w1 hown hgrow _ hat
  have n0 : ∀ q, w.heap.size ≤ q → some q ≠ (Value.slice a n c).ownBlock := fun q hq e => by have := LT.out q e.symm; omega
  obtain ⟨r0, f0⟩ := grown_reads hgrow w.heap.size (by first | (simp; done) | (simp; omega)) (n0 _ (by omega))
  obtain ⟨r2, f2⟩ := grown_reads hgrow (w.heap.size + 1 + 1) (by first | (simp; done) | (simp; omega)) (n0 _ (by omega))
  have x0 : w1.cell? ⟨w.heap.size, 0, none⟩ = some (.int .i64 k) := by rw [r0]; go_simp
  have x1 : w1.cell? ⟨w.heap.size, 1, none⟩ = some (.slice a n c) := by rw [r0]; go_simp
  have x2 : w1.cell? ⟨w.heap.size, 2, none⟩ = some (.slice b m d) := by rw [r0]; go_simp
  have y0 : w1.frozen? ⟨w.heap.size, 1, none⟩ = false := by rw [f0]; go_simp
  have z0 : w1.cell? ⟨w.heap.size + 1 + 1, 0, none⟩ = some (.int .i64 0) := by rw [r2]; go_simp
  have z1 : w1.cell? ⟨w.heap.size + 1 + 1, 1, none⟩ = some (.slice none 0 0) := by rw [r2]; go_simp
  have z2 : w1.cell? ⟨w.heap.size + 1 + 1, 2, none⟩ = some (.slice none 0 0) := by rw [r2]; go_simp
  have v0 : ∀ o, w1.frozen? ⟨w.heap.size + 1 + 1, o, none⟩ = false := fun o => by rw [f2]; go_simp
  have HG := Lib.hid (grown_of (((((Below.refl w.heap.size w).alloc (Nat.le_refl _) _).alloc (by simp) _).alloc (by simp; omega) _).alloc (by simp; omega) _) hgrow)
  have HN : Hid (∀ q, w.heap.size ≤ q → q < w.heap.size + 4 → v1.ownBlock ≠ some q) := Lib.hid fun q h1 h2 e => by
    rcases hat with h | h
    · rw [h] at e; have := LT.out q e; omega
    · rw [h] at e; simp at e; omega
  have HW := Lib.hid hown
  obtain ⟨a1, c1, rfl⟩ := own_formS hown
  clear r0 f0 r2 f2 hown hgrow hat n0
  have e1 : IntKind.i64.wrap (2 + k) = 2 + k := IntWalk.i64_in _ (by omega)
  have e2 : IntKind.i64.wrap (2 + k + ((n : Int) + 1)) = 3 + k + (n : Int) := by rw [IntWalk.i64_in _ (by omega)]; omega
  go_wp2_with fail
  go_region_held3 (fun W => W.cell? ⟨w.heap.size, 0, none⟩ = some (.int .i64 k) ∧ W.cell? ⟨w.heap.size, 1, none⟩ = some (.slice a1 (n + 1) c1) ∧ W.cell? ⟨w.heap.size, 2, none⟩ = some (.slice b m d)) (go_simp) (fail)
  go_wp2
  have q0 : (w1.setCell ⟨w.heap.size, 1, none⟩ (.slice a1 (n + 1) c1)).cell? ⟨w.heap.size + 1 + 1, 0, none⟩ = some (.int .i64 0) := by rw [World.cell?_setCell_other _ _ _ _ (by simp)]; exact z0
  have q1 : (w1.setCell ⟨w.heap.size, 1, none⟩ (.slice a1 (n + 1) c1)).cell? ⟨w.heap.size + 1 + 1, 1, none⟩ = some (.slice none 0 0) := by rw [World.cell?_setCell_other _ _ _ _ (by simp)]; exact z1
  have q2 : (w1.setCell ⟨w.heap.size, 1, none⟩ (.slice a1 (n + 1) c1)).cell? ⟨w.heap.size + 1 + 1, 2, none⟩ = some (.slice none 0 0) := by rw [World.cell?_setCell_other _ _ _ _ (by simp)]; exact z2
  obtain ⟨m0, m1, m2⟩ := three_cells q0 q1 q2 (.int .i64 k) (.slice a1 (n + 1) c1) (.slice b m d)
  obtain ⟨WF, hWF⟩ : ∃ WF, WF = (((w1.setCell ⟨w.heap.size, 1, none⟩ (.slice a1 (n + 1) c1)).setCell ⟨w.heap.size + 1 + 1, 0, none⟩ (.int .i64 k)).setCell ⟨w.heap.size + 1 + 1, 1, none⟩ (.slice a1 (n + 1) c1)).setCell ⟨w.heap.size + 1 + 1, 2, none⟩ (.slice b m d) := ⟨_, rfl⟩
  rw [← hWF] at m0 m1 m2 ⊢
  have HF := Lib.hid hWF
  clear hWF q0 q1 q2 x0 x1 x2 y0 z0 z1 z2 v0
  refine bodyPost_ret (v := .tuple #[circV k a1 (n + 1) c1 b m d, .int .i64 (3 + k + (n : Int))]) (by simp [results, Try.results22, go_sem, m0, m1, m2]) rfl ?_
  refine ⟨a1, c1, rfl, ?_, ?_⟩
  · have h := own_set (own_set (own_set (own_set HW.out w.heap.size 1 (.slice a1 (n + 1) c1) (HN.out _ (by omega) (by omega))) (w.heap.size + 1 + 1) 0 (.int .i64 k) (HN.out _ (by omega) (by omega))) (w.heap.size + 1 + 1) 1 (.slice a1 (n + 1) c1) (HN.out _ (by omega) (by omega))) (w.heap.size + 1 + 1) 2 (.slice b m d) (HN.out _ (by omega) (by omega))
    rw [Tm.flat_append, List.map_append, ← gcells_flat]
    rw [← HF.out] at h
    exact h
  · have h := grown_set (grown_set (grown_set (grown_set HG.out w.heap.size 1 (.slice a1 (n + 1) c1) (by omega)) (w.heap.size + 1 + 1) 0 (.int .i64 k) (by omega)) (w.heap.size + 1 + 1) 1 (.slice a1 (n + 1) c1) (by omega)) (w.heap.size + 1 + 1) 2 (.slice b m d) (by omega)
    rw [← HF.out] at h
    exact ⟨h.os, h.tape, h.output, h.size, h.block⟩
end Go.Proofs.Ytjbmgppgkgacpaa

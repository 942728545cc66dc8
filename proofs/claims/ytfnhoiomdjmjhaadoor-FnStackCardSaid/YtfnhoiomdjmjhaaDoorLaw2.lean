/- What the laws draw, on: words of a length, further bytes. -/
import Derived.Test.YtfnhoiomdjmjhaaDoorLaw
namespace Go.Proofs.YtfnhoiomdjmjhaaDoor
set_option maxRecDepth 20000
open Go.RowKit
theorem infoU8 : (Tryd.prog.info? 5).map (fun i => (i.zero, i.size, i.bytes)) = some (some (.int .u8 0), 1, 1) := by kernel_rfl
theorem app_u1 (w : World) (x : Int) (t : TypeId) : ∀ j u, [Value.int .u8 x][j]? = some u → (w.alloc (.cells #[.int .u8 x] t)).cell? ((⟨w.heap.size, 0, none⟩ : Addr).add j) = some u := by
  intro j u hj
  match j, hj with
  | 0, hj => simp at hj; subst hj; simp [Addr.add]
theorem app_u2 (x : Int) : ∀ u ∈ [Value.int .u8 x], u.oneCell' = true := by intro u hu; simp at hu; subst hu; rfl
theorem Byts.of_own {w : World} {B e : Nat} {a : Option Addr} {n cap : Nat} {xs : List Int} (h : w.ownsRow B e 1 (.slice a n cap) n (xs.map (Value.int .u8))) (hx : ∀ x ∈ xs, 0 ≤ x ∧ x ≤ 255) : Byts w a n cap := by
  obtain ⟨h1, h2⟩ := h
  simp at h1
  rcases h2 with ⟨h2, h0⟩ | ⟨g, cap', cur, h2, hB, hg, hn, hcap, hsz, ht⟩
  · simp only [Value.slice.injEq] at h2
    obtain ⟨rfl, rfl, rfl⟩ := h2
    exact ⟨by omega, by unfold maxLen; omega, .inl rfl⟩
  · simp only [Value.slice.injEq] at h2
    obtain ⟨rfl, _, rfl⟩ := h2
    refine ⟨hn, hcap, .inr ⟨g, 0, rfl, (Array.getElem?_eq_some_iff.1 hg).1, fun i hi => ?_⟩⟩
    have hown : w.ownsRow B e 1 (.slice (some ⟨g, 0, none⟩) n cap) n (xs.map (Value.int .u8)) := ⟨by simpa using h1, .inr ⟨g, cap, cur, rfl, hB, hg, hn, hcap, hsz, ht⟩⟩
    have := hown.cellAt i (by omega)
    have hm := hx xs[i] (List.getElem_mem _)
    exact ⟨xs[i], hm.1, hm.2, by rw [Nat.zero_add, this, List.getElem?_map, List.getElem?_eq_getElem (by omega)]; rfl⟩
/-- Other bytes. -/
def NewB (w : World) (e : Ending) (w' : World) : Prop := ∃ (b : Option Addr) (m c : Nat), e = .returned (.slice b m c) ∧ m ≤ 1000 ∧ Byts w' b m c ∧ Below w.heap.size w w'
set_option maxHeartbeats 1000000 in
theorem fresh_any (a : Option Addr) (n cap : Nat) (k : Int) (w : World) (hb : Byts w a n cap) (hn : n ≤ 1048576) (h0 : 0 ≤ k) (h1 : k ≤ 100) : Calls Tryd.prog 7 #[.slice a n cap, .int .i64 k] w (NewB w) := by
  obtain ⟨i0, hi, hz0, hz1, hz2⟩ := info_parts infoU8
  have HB := Lib.hid hb
  clear hb
  go_enter Tryd.func7, Tryd.ntmps7
  go_wp2
  go_loopw [5, 6] (fun v i wr => ∃ (j : Nat) (xs : List Int), j ≤ n ∧ j ≤ 600 ∧ i = .int .i64 j ∧ Hid (xs.length = j + 1 ∧ ∀ x ∈ xs, 0 ≤ x ∧ x ≤ 255) ∧ Hid (wr.ownsRow w.heap.size 5 1 v (j + 1) (xs.map (Value.int .u8))) ∧ Hid (Below w.heap.size w wr)) (fun _ i _ => n - (intOf i).toNat)
  case atStart => exact ⟨0, [k], by omega, by omega, rfl, Lib.hid ⟨rfl, by simp; omega⟩, Lib.hid (World.ownsRow_lit w #[.int .u8 k] 1 (Nat.le_refl _) (by unfold maxLen; omega) rfl), Lib.hid (by (repeat' (first | (with_reducible exact Below.refl _ _) | (with_reducible assumption) | (with_reducible refine below_drewN ?_ _) | (with_reducible refine Below.drew ?_) | (with_reducible refine Below.alloc ?_ ?_ _) | (with_reducible refine Below.setCell ?_ ?_ _) | (with_reducible refine below_gw ?_ ?_ _) | (with_reducible refine below_via ?_ ‹Below _ _ _› ?_) | (with_reducible exact Nat.le_refl _) | (with_reducible refine le_gw ?_ _) | (with_reducible refine le_alloc ?_ _) | (with_reducible refine le_setCell ?_ _ _) | (with_reducible refine le_drew ?_) | (with_reducible refine le_drewN ?_ _) | go_size)))⟩
  case round =>
    obtain ⟨j, xs, hj, hj2, rfl, X, HO, B1⟩ := hrel
    have hs := B1.out.size
    by_cases hlt : j < n
    · by_cases h6 : j < 600
      · have BR := HB.out.below B1.out
        rcases BR.2.2 with e | ⟨b, o, rfl, hbl, hc⟩
        · omega
        obtain ⟨x, x0, x1, hx⟩ := hc j hlt
        clear hc BR
        have hd : decide (j < n) = true := by simpa using hlt
        have hd2 : decide ((j : Int) < 600) = true := by simp; omega
        go_wp2_with (at_builtin; refine wpList_append_own _ rfl _ _ 22 rfl w.heap.size 5 i0 (.int .u8 0) 1 1 Tryd.underlying22 hi hz0 hz1 hz2 rfl (by decide) _ _ _ rfl (HO.out.alloc _) ⟨wr.heap.size, 0, none⟩ 1 1 [Value.int .u8 _] rfl rfl (app_u1 _ _ _) (app_u2 _) (by unfold maxLen; omega) (by omega) (by simp; omega) ?_)
        intro v' w1 hown' hgrow _
        have hb1 : Below w.heap.size w w1 := (B1.out.alloc hs _).grown hgrow (by simp; omega) (fun k hk => (HO.out.lt k hk).1)
        clear hgrow
        obtain ⟨z, hz⟩ : ∃ z : Int, z = wrap64 (x * 3 + wrap64 (k * ((j : Int) % 7 + 1))) % 256 := ⟨_, rfl⟩
        rw [← hz] at hown' ⊢
        have z0 := Int.emod_nonneg (wrap64 (x * 3 + wrap64 (k * ((j : Int) % 7 + 1)))) (show (256 : Int) ≠ 0 by omega)
        have z1 := Int.emod_lt_of_pos (wrap64 (x * 3 + wrap64 (k * ((j : Int) % 7 + 1)))) (show (0 : Int) < 256 by omega)
        rw [← hz] at z0 z1
        rw [show [Value.int IntKind.u8 z] = [z].map (Value.int .u8) from rfl, ← List.map_append] at hown'
        clear hz
        go_wp2
        refine ⟨⟨j + 1, xs ++ [z], by omega, by omega, by go_num, Lib.hid ⟨by simp [X.out.1], ?_⟩, Lib.hid hown', Lib.hid hb1⟩, by simp [intOf]; omega⟩
        intro y hy
        rcases List.mem_append.1 hy with hy | hy
        · exact X.out.2 y hy
        · simp at hy; omega
      · have hd : decide (j < n) = true := by simpa using hlt
        have hd2 : decide ((j : Int) < 600) = false := by simp; omega
        go_wp2
        go_ret
        obtain ⟨x1, x2⟩ := X.out
        obtain ⟨b, c, e⟩ := own_form HO.out
        subst e
        exact ⟨b, j + 1, c, rfl, by omega, Byts.of_own HO.out x2, B1.out⟩
    · have hd : decide (j < n) = false := by simpa using hlt
      go_wp2
      go_ret
      obtain ⟨x1, x2⟩ := X.out
      obtain ⟨b, c, e⟩ := own_form HO.out
      subst e
      exact ⟨b, j + 1, c, rfl, by omega, Byts.of_own HO.out x2, B1.out⟩
end Go.Proofs.YtfnhoiomdjmjhaaDoor

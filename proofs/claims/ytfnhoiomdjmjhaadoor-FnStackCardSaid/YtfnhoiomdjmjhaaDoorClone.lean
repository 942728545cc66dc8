/- A copy of a slice of integers, by the library. -/
import Derived.Test.YtfnhoiomdjmjhaaDoorRow
import Derived.Maps.AppendAt
namespace Go.Proofs.YtfnhoiomdjmjhaaDoor
set_option maxRecDepth 20000
open Go.RowKit
theorem iClone (a : Option Addr) (n cap : Nat) (xs : List Int) (w : World) (h : Ints w a n cap xs) (h0 : 0 < n) (hn : n ≤ 1048576) : Calls Tryd.prog 43 #[.slice a n cap] w (RetI 3 w xs) := by
  obtain ⟨i0, hi, hz0, hz1, hz2⟩ := info_parts infoInt
  have HN := Lib.hid h.1
  rcases h.2.2.2 with e | ⟨b, o, e, hbl, hc⟩
  · omega
  subst e
  have NC : Hid (∀ j u, (xs.map (Value.int .i64))[j]? = some u → (w.alloc (.cells #[] 3)).cell? ((⟨b, o, none⟩ : Addr).add j) = some u) := Lib.hid (by
    intro j u hu
    have hj : j < n := by
      rcases Nat.lt_or_ge j n with h | h
      · exact h
      · rw [List.getElem?_eq_none (by rw [List.length_map, HN.out]; exact h)] at hu; cases hu
    have hj2 : j < xs.length := by rw [HN.out]; exact hj
    rw [List.getElem?_map, List.getElem?_eq_getElem hj2] at hu
    have e : (⟨b, o, none⟩ : Addr).add j = ⟨b, o + j, none⟩ := by unfold Addr.add; split <;> simp_all
    rw [e, World.cell?_alloc_lt _ _ _ hbl, hc j hj, ← hu, ← getD_at xs j hj2]; rfl)
  have N1 : Hid (∀ u ∈ xs.map (Value.int .i64), u.oneCell' = true) := Lib.hid (by intro u hu; obtain ⟨x, _, rfl⟩ := List.mem_map.1 hu; rfl)
  clear h hc
  have qn := fun w => Lib.run_eql_slice_nil (P := Tryd.prog) w 25 3 (some ⟨b, o, none⟩) n cap 0 0 Tryd.underlying25
  go_enter Tryd.func43, Tryd.ntmps43
  go_wp2_with (at_builtin; refine wpList_append_own_at _ rfl _ _ 25 rfl w.heap.size 3 i0 (.int .i64 0) 1 8 Tryd.underlying25 hi hz0 hz1 hz2 rfl (by decide) _ 0 [] rfl (own_empty _ _ _ (Nat.le_refl _)) ⟨b, o, none⟩ n cap (xs.map (Value.int .i64)) rfl (by rw [List.length_map, HN.out]; omega) NC.out N1.out (by unfold maxLen; omega) (by omega) (by simp) ?_)
  intro v' w2 hv hg _ hat
  have HV := Lib.hid hv
  have HB := Lib.hid (((Below.refl _ _).alloc (Nat.le_refl _) (.cells #[] 3)).grown hg (by simp) (fun j hj => by simp [Value.ownBlock] at hj; omega))
  clear hv hg hat
  go_wp2_with fail
  go_ret
  exact ret_own HV.out HB.out (by omega)
end Go.Proofs.YtfnhoiomdjmjhaaDoor

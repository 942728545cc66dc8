/- Machines: what is told of one that is read, of one that is a callee's own; the contracts of the laws' own functions on machines. New machines, the model's and the program's. -/
import Derived.Test.YtfnhoiomdjmjhaaDoorMOps
import Derived.Test.YtfnhoiomdjmjhaaDoorGBox
namespace Go.Proofs.YtfnhoiomdjmjhaaDoor
set_option maxRecDepth 20000
open Go.RowKit
abbrev machV (k : Int) (a : Option Addr) (n c : Nat) (b : Option Addr) (m c2 : Nat) : Value := .agg #[.int .i64 k, .slice a n c, .slice b m c2]
/-- A machine is handed back, all of it new. -/
def RetM (w : World) (k : Int) (s o : List Int) (r : Ending) (w' : World) : Prop :=
  ∃ a c b c2, r = .returned (machV k a s.length c b o.length c2) ∧ OwnM w' w.heap.size w'.heap.size a s.length c s b o.length c2 o ∧ Below w.heap.size w w' ∧ s.length ≤ 1048576 ∧ o.length ≤ 1048576
def RetMI (w : World) (k : Int) (s o : List Int) (x : Int) (r : Ending) (w' : World) : Prop :=
  ∃ a c b c2, r = .returned (.tuple #[machV k a s.length c b o.length c2, .int .i64 x]) ∧ OwnM w' w.heap.size w'.heap.size a s.length c s b o.length c2 o ∧ Below w.heap.size w w' ∧ s.length ≤ 1048576 ∧ o.length ≤ 1048576
theorem own_up {w : World} {B B' e s n : Nat} {v : Value} {xs : List Value} (h : w.ownsRow B e s v n xs) (hv : ∀ k, v.ownBlock = some k → B' ≤ k) : w.ownsRow B' e s v n xs := by
  obtain ⟨h1, h2⟩ := h
  refine ⟨h1, ?_⟩
  rcases h2 with h2 | ⟨g, cap, cur, rfl, h4, h5⟩
  · exact .inl h2
  · exact .inr ⟨g, cap, cur, rfl, hv g rfl, h5⟩
theorem sNewMachine (w : World) : Calls Tryd.prog 19 #[] w (RetM w 0 [] (List.replicate 27 0)) := by
  obtain ⟨i0, hi, hz0, hz1, hz2⟩ := info_parts infoInt
  go_enter Tryd.func19, Tryd.ntmps19
  go_wp2_with (at_make; refine wpList_make_full _ rfl _ _ 25 rfl (w.heap.size) 3 i0 (.int .i64 0) 1 Tryd.underlying25 hi hz0 hz1 _ _ _ _ (27) rfl rfl (by first | rfl | omega) (by first | rfl | omega) (by rw [hz2]; omega) (by unfold maxLen; omega) (by first | go_size | (simp only [gw_size, World.size_alloc]; omega) | exact Nat.le_refl _ | omega) ?_)
  intro w1 hown hgrow
  have hb1 : Below w.heap.size w w1 := ((Below.refl _ _).alloc (Nat.le_refl _) _).grown hgrow (by simp) (fun k hk => by cases hk)
  have hb2 := (Below.refl (w.alloc (.cells #[.int .i64 0, .slice none 0 0, .slice none 0 0] 27)).heap.size _).grown hgrow (Nat.le_refl _) (fun k hk => by cases hk)
  have hs := hgrow.size
  rw [World.size_alloc] at hs
  have HO : Hid (w1.ownsRow (w.heap.size + 1) 3 1 (.slice (some ⟨w.heap.size + 1, 0, none⟩) 27 27) 27 ((List.replicate 27 (0 : Int)).map (Value.int .i64))) := Lib.hid (by
    have h : w1.ownsRow w.heap.size 3 1 (.slice (some ⟨w.heap.size + 1, 0, none⟩) 27 27) 27 ((List.replicate 27 (0 : Int)).map (Value.int .i64)) := by
      rw [List.map_replicate]; rw [toList_madeCells_one] at hown; exact hown
    exact own_up h fun k hk => by cases hk; exact Nat.le_refl _)
  obtain ⟨p, rfl⟩ := gw_of_below hb2
  clear hown hgrow hb2
  go_wp2
  go_returns
  have O := own_gw (o2 := .cells #[.int .i64 0, .slice none 0 0, .slice (some ⟨w.heap.size + 1, 0, none⟩) 27 27] 27) HO.out (Nat.le_refl _)
  exact ⟨none, 0, some ⟨w.heap.size + 1, 0, none⟩, 27, rfl, ⟨⟨World.ownsRow_nil _ _ _ _, fun k hk => (by cases hk)⟩, ⟨own_weak2 O (by omega), fun k hk => (O.lt k hk).2⟩, fun k hk _ => (by cases hk), rfl, rfl⟩, by (repeat' (first | (with_reducible exact Below.refl _ _) | (with_reducible assumption) | (with_reducible refine below_drewN ?_ _) | (with_reducible refine Below.drew ?_) | (with_reducible refine Below.alloc ?_ ?_ _) | (with_reducible refine Below.setCell ?_ ?_ _) | (with_reducible refine below_gw ?_ ?_ _) | (with_reducible refine below_via ?_ ‹Below _ _ _› ?_) | (with_reducible exact Nat.le_refl _) | (with_reducible refine le_gw ?_ _) | (with_reducible refine le_alloc ?_ _) | (with_reducible refine le_setCell ?_ _ _) | (with_reducible refine le_drew ?_) | (with_reducible refine le_drewN ?_ _) | go_size)), by simp, by simp⟩
end Go.Proofs.YtfnhoiomdjmjhaaDoor

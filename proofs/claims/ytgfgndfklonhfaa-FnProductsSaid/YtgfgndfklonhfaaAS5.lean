/- The model's sums of many words. -/
import Derived.Test.YtgfgndfklonhfaaOS
import Derived.Test.YtgfgndfklonhfaaAS
import Derived.Test.YtgfgndfklonhfaaWS3
import Derived.Test.YtgfgndfklonhfaaAMath
import Derived.Deep.RegionHeld3
namespace Go.Proofs.Ytgfgndfklonhfaa
set_option maxRecDepth 20000
open Go.RowKit
namespace Tm
theorem rnd1_step {L : List (List Int)} {k : Nat} (h : k + 2 < L.length) : rnd1 (L.drop k) = genL (L.getD k []).length (sav1 (L.getD k []) (L.getD (k + 1) []) (L.getD (k + 2) [])) :: genL (L.getD k []).length (sav2 (L.getD k []) (L.getD (k + 1) []) (L.getD (k + 2) [])) :: rnd1 (L.drop (k + 3)) := by
  have g : ∀ i, i < L.length → L.drop i = L.getD i [] :: L.drop (i + 1) := fun i hi => by
    rw [List.drop_eq_getElem_cons hi, List.getD_eq_getElem?_getD, List.getElem?_eq_getElem hi]; rfl
  rw [g k (by omega), g (k + 1) (by omega), g (k + 1 + 1) (by omega), rnd1]
theorem rnd1_short {L : List (List Int)} (h : L.length ≤ 2) : rnd1 L = L := by
  match L, h with
  | [], _ => rfl
  | [_], _ => rfl
  | [_, _], _ => rfl
theorem drop_cons {L : List (List Int)} {i : Nat} (hi : i < L.length) : L.drop i = L.getD i [] :: L.drop (i + 1) := by
  rw [List.drop_eq_getElem_cons hi, List.getD_eq_getElem?_getD, List.getElem?_eq_getElem hi]; rfl
theorem allW_at {k : Nat} {L : List (List Int)} (h : allW k L) {i : Nat} (hi : i < L.length) : isW (L.getD i []) = true ∧ (L.getD i []).length = k := by
  rw [List.getD_eq_getElem?_getD, List.getElem?_eq_getElem hi]
  exact h _ (List.getElem_mem hi)
theorem sav_of {k : Nat} {xs ys zs : List Int} (hx : isW xs = true ∧ xs.length = k) (hy : isW ys = true ∧ ys.length = k) (hz : isW zs = true ∧ zs.length = k) : savOk xs ys zs = true ∧ sv1 xs ys zs = genL xs.length (sav1 xs ys zs) ∧ sv2 xs ys zs = genL xs.length (sav2 xs ys zs) := by
  have o : savOk xs ys zs = true := by
    rw [savOk, Bool.and_eq_true, fit_iff, fit_iff]
    exact ⟨⟨hx.1, hy.1, by rw [hx.2, hy.2]⟩, hx.1, hz.1, by rw [hx.2, hz.2]⟩
  exact ⟨o, by rw [sv1, if_pos o], by rw [sv2, if_pos o]⟩
end Tm
theorem ss_two {w : World} {v : Value} {s : Nat} {a1 a2 : Option Addr} {n1 c1 n2 c2 : Nat} {xs ys : List Int} (h1 : Ints w a1 n1 c1 xs) (h2 : Ints w a2 n2 c2 ys) (hv : ∀ k, v.ownBlock = some k → k < s) (g1 : ∀ k, (Value.slice a1 n1 c1).ownBlock = some k → s ≤ k) (g2 : ∀ k, (Value.slice a2 n2 c2).ownBlock = some k → s ≤ k) : SSof w v.ownBlock [xs, ys] [.slice a1 n1 c1, .slice a2 n2 c2] := by
  have one : ∀ (a : Option Addr) (n c : Nat) (_ : ∀ k, (Value.slice a n c).ownBlock = some k → s ≤ k) b o, a = some ⟨b, o, none⟩ → some b ≠ v.ownBlock := fun a n c g b o e e2 => by
    have := g b (by rw [e]; rfl)
    have := hv b e2.symm
    omega
  exact SSof.append (SSof.cons_one h1 fun _ b o e => one a1 n1 c1 g1 b o e) (SSof.cons_one h2 fun _ b o e => one a2 n2 c2 g2 b o e)
/-- A list of slices is handed back. -/
def RetRows (w : World) (L : List (List Int)) (r : Ending) (w' : World) : Prop :=
  ∃ a cap, r = .returned (.slice a L.length cap) ∧ Rows w' a L.length cap L ∧ Below w.heap.size w w'
theorem infoSS : (Try.prog.info? 23).map (fun i => (i.zero, i.size, i.bytes)) = some (some (.slice none 0 0), 1, 24) := by kernel_rfl
end Go.Proofs.Ytgfgndfklonhfaa

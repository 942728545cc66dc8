/- Plain facts on the machine's steps: no program, no world. The program's machine: a step. -/
import Derived.Test.YtcphnfhpidhnmaaDoorMMath
import Derived.Test.YtcphnfhpidhnmaaDoorMI4
import Derived.Test.YtcphnfhpidhnmaaDoorMk9
import Derived.Test.YtcphnfhpidhnmaaDoorMBx
namespace Go.Proofs.YtcphnfhpidhnmaaDoor
set_option maxRecDepth 20000
open Go.RowKit
namespace Tm
def top (s : List Int) : Int := s.getD (s.length - 1) 0
def nxt (s : List Int) : Int := s.getD (s.length - 2) 0
theorem split_one {s : List Int} (h : 1 ≤ s.length) : s = s.take (s.length - 1) ++ [top s] := by
  apply List.ext_getElem?
  intro i
  have l : (s.take (s.length - 1)).length = s.length - 1 := by rw [List.length_take]; omega
  by_cases h1 : i < s.length - 1
  · rw [List.getElem?_append_left (by omega), List.getElem?_take, if_pos h1]
  · rw [List.getElem?_append_right (by omega), l]
    by_cases h2 : i = s.length - 1
    · subst h2; rw [Nat.sub_self, List.getElem?_eq_getElem (by omega)]; simp [top, List.getD_eq_getElem?_getD, List.getElem?_eq_getElem (show s.length - 1 < s.length by omega)]
    · rw [List.getElem?_eq_none (by omega), List.getElem?_eq_none (by simp; omega)]
theorem split_two {s : List Int} (h : 2 ≤ s.length) : s = s.take (s.length - 2) ++ [nxt s, top s] := by
  have h1 := split_one (s := s) (by omega)
  have l : (s.take (s.length - 1)).length = s.length - 1 := by rw [List.length_take]; omega
  have h2 := split_one (s := s.take (s.length - 1)) (by omega)
  rw [l, List.take_take, show min (s.length - 1 - 1) (s.length - 1) = s.length - 2 by omega] at h2
  have ht : top (s.take (s.length - 1)) = nxt s := by
    unfold top nxt
    rw [l, List.getD_eq_getElem?_getD, List.getD_eq_getElem?_getD, List.getElem?_take, if_pos (by omega), show s.length - 1 - 1 = s.length - 2 by omega]
  rw [ht] at h2
  conv => lhs; rw [h1, h2]
  rw [List.append_assoc]; rfl
/-- Why an operation is not executed; 0 if it is. -/
def why (L : List (Nat → Int)) (k : Int) (s : List Int) : Int :=
  if k = (L.length : Int) then 2
  else if (L.getD k.toNat g0) 0 = 15 then 1
  else if ¬ (popsN ((L.getD k.toNat g0) 0) ≤ (s.length : Int) ∧ (s.length : Int) - popsN ((L.getD k.toNat g0) 0) + pushN ((L.getD k.toNat g0) 0) ≤ 20) then 3
  else if ((L.getD k.toNat g0) 0 = 11 ∨ (L.getD k.toNat g0) 0 = 12) ∧ ¬ (-13 ≤ top s ∧ top s ≤ 13) then 4 else 0
/-- The place behind an operation (k is the next one), the stack, the cells. -/
def opP (x : Nat → Int) (k : Int) (s : List Int) : Int := if x 0 = 13 then x 1 else if x 0 = 14 then (if top s < 0 then x 1 else if top s = 0 then x 2 else x 3) else k
def opS (x : Nat → Int) (s o : List Int) : List Int :=
  if x 0 = 1 then s ++ [x 1]
  else if x 0 = 2 then s.take (s.length - 2) ++ [wrapC (nxt s + top s)]
  else if x 0 = 3 then s.take (s.length - 2) ++ [wrapC (nxt s - top s)]
  else if x 0 = 4 then s.take (s.length - 2) ++ [wrapC (nxt s * top s)]
  else if x 0 = 5 then s.take (s.length - 1) ++ [-top s]
  else if x 0 = 6 then s.take (s.length - 1) ++ [sgn (top s)]
  else if x 0 = 7 then s.take (s.length - 1) ++ [top s, top s]
  else if x 0 = 8 then s.take (s.length - 2) ++ [top s, nxt s]
  else if x 0 = 9 then s.take (s.length - 1)
  else if x 0 = 10 then s.take (s.length - 1) ++ [shC (top s) (x 1)]
  else if x 0 = 11 then s.take (s.length - 1) ++ [o.getD (top s + 13).toNat 0]
  else if x 0 = 12 then s.take (s.length - 2)
  else if x 0 = 14 then s.take (s.length - 1)
  else s
def opO (x : Nat → Int) (s o : List Int) : List Int := if x 0 = 12 then o.set (top s + 13).toNat (nxt s) else o
/-- A step: what it leaves. -/
def nxP (L : List (Nat → Int)) (k : Int) (s : List Int) : Int := if why L k s = 0 then opP (L.getD k.toNat g0) (k + 1) s else k
def nxS (L : List (Nat → Int)) (k : Int) (s o : List Int) : List Int := if why L k s = 0 then opS (L.getD k.toNat g0) s o else s
def nxO (L : List (Nat → Int)) (k : Int) (s o : List Int) : List Int := if why L k s = 0 then opO (L.getD k.toNat g0) s o else o
theorem cells_mem {s : List Int} (h : cellsOk s = true) : ∀ x ∈ s, -9841 ≤ x ∧ x ≤ 9841 := by
  rw [cellsOk, List.all_eq_true] at h
  exact fun x hx => (isCell_iff x).1 (h x hx)
theorem cells_of {s : List Int} (h : ∀ x ∈ s, -9841 ≤ x ∧ x ≤ 9841) : cellsOk s = true := by
  rw [cellsOk, List.all_eq_true]
  exact fun x hx => (isCell_iff x).2 (h x hx)
theorem top_mem {s : List Int} (h : 1 ≤ s.length) : top s ∈ s := getD_mem (by omega)
theorem nxt_mem {s : List Int} (h : 2 ≤ s.length) : nxt s ∈ s := getD_mem (by omega)
theorem popsN_le (c : Int) : 0 ≤ popsN c ∧ popsN c ≤ 2 := by unfold popsN; split <;> (try split) <;> omega
theorem pushN_le (c : Int) : 0 ≤ pushN c ∧ pushN c ≤ 2 := by unfold pushN; split <;> (try split) <;> omega
end Tm
theorem iExecute (x : Nat → Int) (n : Int) (p B : Nat) (k : Int) (v u : Value) (s o : List Int) (w : World) (h : MSt w B p k v s u o) (hok : Tm.opOk n x = true) (h15 : x 0 ≠ 15) (hp : Tm.popsN (x 0) ≤ (s.length : Int)) (hc : x 0 = 11 ∨ x 0 = 12 → -13 ≤ Tm.top s ∧ Tm.top s ≤ 13) (hs : Tm.cellsOk s = true) (ho : o.length = 27) (hn : s.length ≤ 20) :
    Calls Tryd.prog 37 #[.pointer (some ⟨p, 0, none⟩), opV x] w fun e w' => e = .returned (.tuple #[]) ∧ ∃ v' u', MSt w' B p (Tm.opP x k s) v' (Tm.opS x s o) u' (Tm.opO x s o) ∧ Below B w w' := by
  have hk := (Tm.opOk_iff n x).1 hok
  have cm := Tm.cells_mem hs
  obtain ⟨c, hc0⟩ : ∃ c, c = x 0 := ⟨_, rfl⟩
  unfold opV Tm.opP Tm.opS Tm.opO
  rw [← hc0] at hk h15 hp hc ⊢
  have one : 1 ≤ s.length → MSt w B p k v (s.take (s.length - 1) ++ [Tm.top s]) u o := fun hl => by rw [← Tm.split_one hl]; exact h
  have two : 2 ≤ s.length → MSt w B p k v (s.take (s.length - 2) ++ [Tm.nxt s, Tm.top s]) u o := fun hl => by rw [← Tm.split_two hl]; exact h
  have hn1 : 1 ≤ s.length → (s.take (s.length - 1) ++ [Tm.top s]).length ≤ 20 := fun hl => by rw [← Tm.split_one hl]; exact hn
  have hn2 : 2 ≤ s.length → (s.take (s.length - 2) ++ [Tm.nxt s, Tm.top s]).length ≤ 20 := fun hl => by rw [← Tm.split_two hl]; exact hn
  have bt : 1 ≤ s.length → -9841 ≤ Tm.top s ∧ Tm.top s ≤ 9841 := fun hl => cm _ (Tm.top_mem hl)
  have bn : 2 ≤ s.length → -9841 ≤ Tm.nxt s ∧ Tm.nxt s ≤ 9841 := fun hl => cm _ (Tm.nxt_mem hl)
  have cc : c = 1 ∨ c = 2 ∨ c = 3 ∨ c = 4 ∨ c = 5 ∨ c = 6 ∨ c = 7 ∨ c = 8 ∨ c = 9 ∨ c = 10 ∨ c = 11 ∨ c = 12 ∨ c = 13 ∨ c = 14 := by omega
  rcases cc with rfl | rfl | rfl | rfl | rfl | rfl | rfl | rfl | rfl | rfl | rfl | rfl | rfl | rfl
  all_goals simp [Tm.popsN] at hp
  all_goals simp only [Int.reduceEq, ↓reduceIte]
  · exact iExe1 _ _ _ p B k v u o s w h hn
  · exact iExe2 _ _ _ p B k v u o _ _ _ w (two (by omega)) (hn2 (by omega)) (bn (by omega)) (bt (by omega))
  · exact iExe3 _ _ _ p B k v u o _ _ _ w (two (by omega)) (hn2 (by omega)) (bn (by omega)) (bt (by omega))
  · exact iExe4 _ _ _ p B k v u o _ _ _ w (two (by omega)) (hn2 (by omega)) (bn (by omega)) (bt (by omega))
  · exact iExe5 _ _ _ p B k v u o _ _ w (one (by omega)) (hn1 (by omega)) (bt (by omega))
  · exact iExe6 _ _ _ p B k v u o _ _ w (one (by omega)) (hn1 (by omega))
  · exact iExe7 _ _ _ p B k v u o _ _ w (one (by omega)) (hn1 (by omega))
  · exact iExe8 _ _ _ p B k v u o _ _ _ w (two (by omega)) (hn2 (by omega))
  · exact iExe9 _ _ _ p B k v u o _ _ w (one (by omega)) (hn1 (by omega))
  · exact iExe10 _ _ _ p B k v u o _ _ w (one (by omega)) (hn1 (by omega)) (bt (by omega)) (by omega)
  · exact iExe11 _ _ _ p B k v u o _ _ w (one (by omega)) (hn1 (by omega)) ho (hc (.inl rfl))
  · exact iExe12 _ _ _ p B k v u o _ _ _ w (two (by omega)) (hn2 (by omega)) ho (hc (.inr rfl))
  · exact iExe13 _ _ _ p B k v u o s w h hn
  · rcases Int.lt_or_le (Tm.top s) 0 with c1 | c1
    · rw [if_pos c1]
      exact iExe14n _ _ _ p B k v u o _ _ w (one (by omega)) (hn1 (by omega)) c1
    · rw [if_neg (by omega)]
      by_cases c2 : Tm.top s = 0
      · rw [if_pos c2]
        exact iExe14z _ _ _ p B k v u o _ _ w (one (by omega)) (hn1 (by omega)) c2
      · rw [if_neg c2]
        exact iExe14p _ _ _ p B k v u o _ _ w (one (by omega)) (hn1 (by omega)) (by omega)
theorem iHasStack (nm : ByteArray) (a b c : Int) (p : Nat) (v0 v2 : Value) (sa : Option Addr) (n cap : Nat) (t : TypeId) (w : World) (hb : Blk3 w p v0 (.slice sa n cap) v2 t) (hn : n ≤ 1000) (ha : 0 ≤ a ∧ a ≤ 2) (hb2 : 0 ≤ b ∧ b ≤ 2) :
    Calls Tryd.prog 35 #[.pointer (some ⟨p, 0, none⟩), .agg #[.string nm, .int .i64 a, .int .i64 b, .int .i64 c]] w fun e w' => e = .returned (.bool (decide (a ≤ (n : Int) ∧ (n : Int) - a + b ≤ 20))) ∧ Below w.heap.size w w' := by
  obtain ⟨c0, c1, c2⟩ := hb.cells
  have lt := hb.lt
  obtain ⟨a1, a2⟩ := ha
  obtain ⟨b1, b2⟩ := hb2
  have e1 : IntKind.i64.wrap ((n : Int) - a) = (n : Int) - a := IntWalk.i64_in _ (by omega)
  have e2 : IntKind.i64.wrap ((n : Int) - a + b) = (n : Int) - a + b := IntWalk.i64_in _ (by omega)
  clear hb c0 c2
  by_cases h : a ≤ (n : Int)
  · have h0 : 0 ≤ (n : Int) - a := by omega
    by_cases h2 : (n : Int) - a + b ≤ 20
    · rw [decide_eq_true (And.intro h h2)]
      go_enter Tryd.func35, Tryd.ntmps35
      go_wp2_with fail
      (refine wp_region_quiet_below (by kernel_rfl) (by kernel_rfl) ?_; (repeat (go_big_quiet_step (fail))); refine wpQuiet_nil ?_; intro wq hwq; obtain ⟨pq, hpq⟩ := hwq; have hpq' : wq = gw _ pq := hpq; clear hpq; subst hpq')
      go_wp2
      go_ret
      exact ⟨by first | rfl | exact ret_bool (by simp; omega), by (repeat' (first | (with_reducible exact Below.refl _ _) | (with_reducible assumption) | (with_reducible refine below_drewN ?_ _) | (with_reducible refine Below.drew ?_) | (with_reducible refine Below.alloc ?_ ?_ _) | (with_reducible refine Below.setCell ?_ ?_ _) | (with_reducible refine below_gw ?_ ?_ _) | (with_reducible refine below_via ?_ ‹Below _ _ _› ?_) | (with_reducible exact Nat.le_refl _) | (with_reducible refine le_gw ?_ _) | (with_reducible refine le_alloc ?_ _) | (with_reducible refine le_setCell ?_ _ _) | (with_reducible refine le_drew ?_) | (with_reducible refine le_drewN ?_ _) | go_size))⟩
    · rw [decide_eq_false (fun hh => h2 hh.2)]
      go_enter Tryd.func35, Tryd.ntmps35
      go_wp2_with fail
      (refine wp_region_quiet_below (by kernel_rfl) (by kernel_rfl) ?_; (repeat (go_big_quiet_step (fail))); refine wpQuiet_nil ?_; intro wq hwq; obtain ⟨pq, hpq⟩ := hwq; have hpq' : wq = gw _ pq := hpq; clear hpq; subst hpq')
      go_wp2
      go_ret
      exact ⟨by first | rfl | exact ret_bool (by simp; omega), by (repeat' (first | (with_reducible exact Below.refl _ _) | (with_reducible assumption) | (with_reducible refine below_drewN ?_ _) | (with_reducible refine Below.drew ?_) | (with_reducible refine Below.alloc ?_ ?_ _) | (with_reducible refine Below.setCell ?_ ?_ _) | (with_reducible refine below_gw ?_ ?_ _) | (with_reducible refine below_via ?_ ‹Below _ _ _› ?_) | (with_reducible exact Nat.le_refl _) | (with_reducible refine le_gw ?_ _) | (with_reducible refine le_alloc ?_ _) | (with_reducible refine le_setCell ?_ _ _) | (with_reducible refine le_drew ?_) | (with_reducible refine le_drewN ?_ _) | go_size))⟩
  · have h0 : ¬ 0 ≤ (n : Int) - a := by omega
    rw [decide_eq_false (fun hh => h hh.1)]
    go_enter Tryd.func35, Tryd.ntmps35
    go_wp2_with fail
    (refine wp_region_quiet_below (by kernel_rfl) (by kernel_rfl) ?_; (repeat (go_big_quiet_step (fail))); refine wpQuiet_nil ?_; intro wq hwq; obtain ⟨pq, hpq⟩ := hwq; have hpq' : wq = gw _ pq := hpq; clear hpq; subst hpq')
    go_wp2
    go_ret
    exact ⟨rfl, by (repeat' (first | (with_reducible exact Below.refl _ _) | (with_reducible assumption) | (with_reducible refine below_drewN ?_ _) | (with_reducible refine Below.drew ?_) | (with_reducible refine Below.alloc ?_ ?_ _) | (with_reducible refine Below.setCell ?_ ?_ _) | (with_reducible refine below_gw ?_ ?_ _) | (with_reducible refine below_via ?_ ‹Below _ _ _› ?_) | (with_reducible exact Nat.le_refl _) | (with_reducible refine le_gw ?_ _) | (with_reducible refine le_alloc ?_ _) | (with_reducible refine le_setCell ?_ _ _) | (with_reducible refine le_drew ?_) | (with_reducible refine le_drewN ?_ _) | go_size))⟩
theorem iHasCell (c : Int) (p B : Nat) (k : Int) (v u : Value) (s o : List Int) (w : World) (h : MSt w B p k v s u o) (hl : c = 11 ∨ c = 12 → 1 ≤ s.length) (hn : s.length ≤ 1000) :
    Calls Tryd.prog 36 #[.pointer (some ⟨p, 0, none⟩), .int .i64 c] w fun e w' => e = .returned (.bool (!decide ((c = 11 ∨ c = 12) ∧ ¬ (-13 ≤ Tm.top s ∧ Tm.top s ≤ 13)))) ∧ Below w.heap.size w w' := by
  by_cases hc : c = 11 ∨ c = 12
  · obtain ⟨g, cap, e, -, -, ct⟩ := stack_one (t := s.take (s.length - 1)) (x := Tm.top s) (by rw [← Tm.split_one (hl hc)]; exact h)
    have hL : (s.take (s.length - 1)).length = s.length - 1 := by rw [List.length_take]; omega
    rw [hL] at e ct
    rw [show s.length - 1 + 1 = s.length by have := hl hc; omega] at e
    subst e
    obtain ⟨_, c1, _⟩ := h.blk.cells
    have lt := h.blk.lt
    have lg := (h.sv.lt g rfl).2
    obtain ⟨x, hx⟩ : ∃ x, x = Tm.top s := ⟨_, rfl⟩
    rw [← hx] at ct ⊢
    obtain ⟨m, hm⟩ : ∃ m, m = s.length - 1 := ⟨_, rfl⟩
    have e1 : IntKind.i64.wrap ((s.length : Int) - 1) = (m : Int) := by rw [IntWalk.i64_in _ (by omega)]; have := hl hc; omega
    have m0 : (0 : Int) ≤ (m : Int) := by omega
    have m1 : (m : Int) < (s.length : Int) := by have := hl hc; omega
    rw [← hm] at ct
    have AR := Lib.hid (fun w => iAround 13 w (by omega) (by omega))
    have LK := Lib.hid (fun w => iLacks (-13) 13 x w)
    have E : (!decide ((c = 11 ∨ c = 12) ∧ ¬ (-13 ≤ x ∧ x ≤ 13))) = !(!Tm.inB x (-13) 13) := by
      rw [Bool.not_eq_eq_eq_not, Bool.not_not, Bool.eq_iff_iff, decide_eq_true_eq]
      simp only [Bool.not_eq_eq_eq_not, Bool.not_true, Bool.eq_false_iff, ne_eq, Tm.inB_iff]
      exact ⟨fun hh => hh.2, fun hh => ⟨hc, hh⟩⟩
    rw [E]
    clear h hx hm hL hl E
    rcases hc with rfl | rfl
    all_goals
      go_enter Tryd.func36, Tryd.ntmps36
      go_wp2_with fail
      (refine wp_region_quiet_below (by kernel_rfl) (by kernel_rfl) ?_; (repeat (go_big_quiet_step (first | (go_at_call 41; exact met_below (fun _ => AR.out _)) | (go_at_call 31; exact met_below (fun _ => LK.out _))))); refine wpQuiet_nil ?_; intro wq hwq; obtain ⟨pq, hpq⟩ := hwq; have hpq' : wq = gw _ pq := hpq; clear hpq; subst hpq')
      go_wp2
      go_ret
      exact ⟨by first | rfl | exact ret_bool (by simp), by (repeat' (first | (with_reducible exact Below.refl _ _) | (with_reducible assumption) | (with_reducible refine below_drewN ?_ _) | (with_reducible refine Below.drew ?_) | (with_reducible refine Below.alloc ?_ ?_ _) | (with_reducible refine Below.setCell ?_ ?_ _) | (with_reducible refine below_gw ?_ ?_ _) | (with_reducible refine below_via ?_ ‹Below _ _ _› ?_) | (with_reducible exact Nat.le_refl _) | (with_reducible refine le_gw ?_ _) | (with_reducible refine le_alloc ?_ _) | (with_reducible refine le_setCell ?_ _ _) | (with_reducible refine le_drew ?_) | (with_reducible refine le_drewN ?_ _) | go_size))⟩
  · have c11 : c ≠ 11 := fun e => hc (.inl e)
    have c12 : c ≠ 12 := fun e => hc (.inr e)
    rw [decide_eq_false (fun hh => hc hh.1)]
    have d11 : (c == 11) = false := by simpa using c11
    have d12 : (c == 12) = false := by simpa using c12
    have f11 : (c != 11) = true := by simpa using c11
    have f12 : (c != 12) = true := by simpa using c12
    clear hc h hl
    go_enter Tryd.func36, Tryd.ntmps36
    go_wp2
    go_ret
    exact ⟨rfl, by (repeat' (first | (with_reducible exact Below.refl _ _) | (with_reducible assumption) | (with_reducible refine below_drewN ?_ _) | (with_reducible refine Below.drew ?_) | (with_reducible refine Below.alloc ?_ ?_ _) | (with_reducible refine Below.setCell ?_ ?_ _) | (with_reducible refine below_gw ?_ ?_ _) | (with_reducible refine below_via ?_ ‹Below _ _ _› ?_) | (with_reducible exact Nat.le_refl _) | (with_reducible refine le_gw ?_ _) | (with_reducible refine le_alloc ?_ _) | (with_reducible refine le_setCell ?_ _ _) | (with_reducible refine le_drew ?_) | (with_reducible refine le_drewN ?_ _) | go_size))⟩
set_option maxHeartbeats 2000000 in
theorem iStep (aL : Option Addr) (nL cL : Nat) (L : List (Nat → Int)) (p B : Nat) (k : Int) (v u : Value) (s o : List Int) (w : World) (h : MSt w B p k v s u o) (hL : OpR w aL nL cL L) (hT : OpsTab w) (hM : Tm.machOk L k s o = true) :
    Calls Tryd.prog 20 #[.pointer (some ⟨p, 0, none⟩), .slice aL nL cL] w fun e w' => e = .returned (.int .i64 (Tm.why L k s)) ∧ ∃ v' u', MSt w' B p (Tm.nxP L k s) v' (Tm.nxS L k s o) u' (Tm.nxO L k s o) ∧ Below B w w' := by
  obtain ⟨hC, ⟨k0, k1⟩, hs20, ho27, hcs, hco⟩ := (Tm.machOk_iff L k s o).1 hM
  obtain ⟨⟨l1, l2⟩, hop⟩ := (Tm.codeOk_iff L).1 hC
  obtain rfl : L.length = nL := hL.1
  have H := Lib.hid h
  have lB := h.low
  have lt := h.blk.lt
  obtain ⟨c0, c1, _⟩ := h.blk.cells
  by_cases hk : k = (L.length : Int)
  · have WY : Tm.why L k s = 2 := by unfold Tm.why; rw [if_pos hk]
    have P : Tm.nxP L k s = k ∧ Tm.nxS L k s o = s ∧ Tm.nxO L k s o = o := by
      unfold Tm.nxP Tm.nxS Tm.nxO; rw [WY]; exact ⟨rfl, rfl, rfl⟩
    rw [P.1, P.2.1, P.2.2, WY]
    have ke : (k == (L.length : Int)) = true := by simpa using hk
    clear hop h P WY hk
    go_enter Tryd.func20, Tryd.ntmps20
    go_wp2
    go_ret
    exact ⟨rfl, v, u, H.out, Below.refl _ _⟩
  · obtain ⟨j, rfl⟩ : ∃ j : Nat, k = (j : Int) := ⟨k.toNat, by omega⟩
    have jl : j < L.length := by omega
    have ke : ((j : Int) == (L.length : Int)) = false := by simpa using hk
    have hx := hop j jl
    obtain ⟨bb, oo, rfl, hbl, hc⟩ : ∃ b o, aL = some ⟨b, o, none⟩ ∧ b < w.heap.size ∧ ∀ i, i < L.length → ∀ j, j < 4 → w.cell? ⟨b, o + i * 4 + j, none⟩ = some (.int .i64 (L.getD i Tm.g0 j)) := by
      rcases hL.2.2.2 with h0 | h1
      · omega
      · exact h1
    obtain ⟨x, hg, g1⟩ := OpR.op hc jl
    rw [← hg] at hx
    obtain ⟨q0, q1, q2, q3⟩ := g1
    have XI := (Tm.opOk_iff _ _).1 hx
    have HX := Lib.hid hx
    have WY : Tm.why L (j : Int) s = (if x 0 = 15 then 1 else if ¬ (Tm.popsN (x 0) ≤ (s.length : Int) ∧ (s.length : Int) - Tm.popsN (x 0) + Tm.pushN (x 0) ≤ 20) then 3 else if (x 0 = 11 ∨ x 0 = 12) ∧ ¬ (-13 ≤ Tm.top s ∧ Tm.top s ≤ 13) then 4 else 0) := by
      unfold Tm.why; rw [if_neg hk, Int.toNat_natCast, ← hg]
    have P : Tm.nxP L (j : Int) s = (if Tm.why L (j : Int) s = 0 then Tm.opP x ((j : Int) + 1) s else (j : Int)) ∧ Tm.nxS L (j : Int) s o = (if Tm.why L (j : Int) s = 0 then Tm.opS x s o else s) ∧ Tm.nxO L (j : Int) s o = (if Tm.why L (j : Int) s = 0 then Tm.opO x s o else o) := by
      unfold Tm.nxP Tm.nxS Tm.nxO; rw [Int.toNat_natCast, ← hg]; exact ⟨rfl, rfl, rfl⟩
    rw [P.1, P.2.1, P.2.2]
    have HL2 := hL.2.1
    have HL3 := hL.2.2.1
    unfold maxLen at HL3
    obtain ⟨m, hm⟩ : ∃ m : Nat, x 0 = (m : Int) + 1 := ⟨(x 0 - 1).toNat, by omega⟩
    have m15 : m < 15 := by omega
    obtain ⟨t0, t1, t2, t3⟩ := hT.2 m m15
    have gl := hT.1
    have bA : Below w.heap.size w (w.alloc (.cells #[.int .i64 (x 0), .int .i64 (x 1), .int .i64 (x 2), .int .i64 (x 3)] 26)) := by (repeat' (first | (with_reducible exact Below.refl _ _) | (with_reducible assumption) | (with_reducible refine below_drewN ?_ _) | (with_reducible refine Below.drew ?_) | (with_reducible refine Below.alloc ?_ ?_ _) | (with_reducible refine Below.setCell ?_ ?_ _) | (with_reducible refine below_gw ?_ ?_ _) | (with_reducible refine below_via ?_ ‹Below _ _ _› ?_) | (with_reducible exact Nat.le_refl _) | (with_reducible refine le_gw ?_ _) | (with_reducible refine le_alloc ?_ _) | (with_reducible refine le_setCell ?_ _ _) | (with_reducible refine le_drew ?_) | (with_reducible refine le_drewN ?_ _) | go_size))
    have HA := Lib.hid (h.later bA)
    have BA := Lib.hid bA
    clear hop h hT hc P hk hg bA
    by_cases c15 : x 0 = 15
    · rw [if_pos c15] at WY
      rw [WY, if_neg (by decide), if_neg (by decide), if_neg (by decide)]
      have e15 : (x 0 == 15) = true := by simpa using c15
      clear t0 t1 t2 t3 hm c15
      go_enter Tryd.func20, Tryd.ntmps20
      go_wp2
      go_ret
      exact ⟨rfl, v, u, HA.out, BA.out.mono (by omega)⟩
    · have e15 : (x 0 == 15) = false := by simpa using c15
      rw [if_neg c15] at WY
      have pb := Tm.popsN_le (x 0)
      have qb := Tm.pushN_le (x 0)
      rw [← hm] at t0 t1 t2 t3
      obtain ⟨nm, hnm⟩ : ∃ nm, nm = Tm.opName (x 0) := ⟨_, rfl⟩
      rw [← hnm] at t0
      obtain ⟨va, vc, hv⟩ := own_form H.out.sv
      have HSF := Lib.hid (fun W h => iHasStack nm (Tm.popsN (x 0)) (Tm.pushN (x 0)) (Tm.namN (x 0)) p (.int .i64 (j : Int)) u va s.length vc 31 W h (by omega) pb qb)
      have HCF := Lib.hid (fun W h hl => iHasCell (x 0) p B (j : Int) v u s o W h hl (by omega))
      obtain ⟨a, ha⟩ : ∃ a, a = Tm.popsN (x 0) := ⟨_, rfl⟩
      obtain ⟨b, hb⟩ : ∃ b, b = Tm.pushN (x 0) := ⟨_, rfl⟩
      have hp2 : x 0 = 11 ∨ x 0 = 12 → 1 ≤ a := by
        rw [ha]; intro hh
        rcases hh with hh | hh <;> rw [hh] <;> decide
      rw [← ha] at pb t1 HSF WY
      rw [← hb] at qb t2 HSF WY
      subst hv
      have k15 : (0 : Int) ≤ (m : Int) := by omega
      have k16 : (m : Int) < 15 := by omega
      have k17 : 1 ≤ (m : Int) + 1 := by omega
      have k18 : (m : Int) + 1 ≤ 15 := by omega
      have em : IntKind.i64.wrap (x 0 - 1) = (m : Int) := by rw [IntWalk.i64_in _ (by omega)]; omega
      have hpe : p ≠ w.heap.size := by omega
      have hep : w.heap.size ≠ p := by omega
      obtain ⟨A, hA⟩ : ∃ A, A = w.alloc (.cells #[.int .i64 (x 0), .int .i64 (x 1), .int .i64 (x 2), .int .i64 (x 3)] 26) := ⟨_, rfl⟩
      have a0 : A.cell? ⟨w.heap.size, 0, none⟩ = some (.int .i64 (x 0)) := by rw [hA]; simp
      have a1 : A.cell? ⟨w.heap.size, 1, none⟩ = some (.int .i64 (x 1)) := by rw [hA]; simp
      have a2 : A.cell? ⟨w.heap.size, 2, none⟩ = some (.int .i64 (x 2)) := by rw [hA]; simp
      have a3 : A.cell? ⟨w.heap.size, 3, none⟩ = some (.int .i64 (x 3)) := by rw [hA]; simp
      have sA : A.heap.size = w.heap.size + 1 := by rw [hA]; simp
      have AC := Lib.hid (And.intro a0 (And.intro a1 (And.intro a2 a3)))
      clear a0 a1 a2 a3
      rw [← hA] at HA BA
      by_cases cS : a ≤ (s.length : Int) ∧ (s.length : Int) - a + b ≤ 20
      · rw [if_neg (fun hh => hh cS)] at WY
        rw [decide_eq_true cS] at HSF
        by_cases cC : (x 0 = 11 ∨ x 0 = 12) ∧ ¬ (-13 ≤ Tm.top s ∧ Tm.top s ≤ 13)
        · rw [if_pos cC] at WY
          rw [WY, if_neg (by decide), if_neg (by decide), if_neg (by decide)]
          rw [decide_eq_true cC] at HCF
          have hl1 : x 0 = 11 ∨ x 0 = 12 → 1 ≤ s.length := fun hh => by have := hp2 hh; omega
          clear cS cC ha hb hnm XI hm
          go_enter Tryd.func20, Tryd.ntmps20
          go_wp2_with fail
          rw [← hA]
          clear hA
          refine (HSF.out _ HA.out.blk).mono ?_
          rintro e w1 ⟨rfl, hb1⟩
          have M1 := Lib.hid (HA.out.later hb1)
          have e0 := hb1.cell (p := ⟨w.heap.size, 0, none⟩) (show w.heap.size < A.heap.size by omega)
          rw [AC.out.1] at e0
          have B1 := Lib.hid (BA.out.trans (hb1.mono (by omega)))
          clear hb1
          go_wp2_with fail
          refine (HCF.out _ M1.out hl1).mono ?_
          rintro e w2 ⟨rfl, hb2⟩
          have M2 := Lib.hid (M1.out.later hb2)
          have s1 := B1.out.size
          have B2 := Lib.hid (B1.out.trans (hb2.mono s1))
          clear hb2
          go_wp2
          go_ret
          exact ⟨rfl, _, u, M2.out, B2.out.mono (by omega)⟩
        · rw [if_neg cC] at WY
          rw [WY, if_pos rfl, if_pos rfl, if_pos rfl]
          rw [decide_eq_false cC] at HCF
          have hl1 : x 0 = 11 ∨ x 0 = 12 → 1 ≤ s.length := fun hh => by have := hp2 hh; omega
          have hcell : x 0 = 11 ∨ x 0 = 12 → -13 ≤ Tm.top s ∧ Tm.top s ≤ 13 := fun hh => Classical.not_not.1 fun hn => cC ⟨hh, hn⟩
          have EX := Lib.hid (fun (W : World) v h => iExecute x (L.length : Int) p B ((j : Int) + 1) v u s o W h HX.out c15 (by rw [← ha]; exact cS.1) hcell hcs ho27 hs20)
          have ej : IntKind.i64.wrap ((j : Int) + 1) = (j : Int) + 1 := IntWalk.i64_in _ (by omega)
          clear cS cC ha hb hnm XI hm hcell
          go_enter Tryd.func20, Tryd.ntmps20
          go_wp2_with fail
          rw [← hA]
          clear hA
          refine (HSF.out _ HA.out.blk).mono ?_
          rintro e w1 ⟨rfl, hb1⟩
          have M1 := Lib.hid (HA.out.later hb1)
          have e0 := hb1.cell (p := ⟨w.heap.size, 0, none⟩) (show w.heap.size < A.heap.size by omega)
          have e1 := hb1.cell (p := ⟨w.heap.size, 1, none⟩) (show w.heap.size < A.heap.size by omega)
          have e2 := hb1.cell (p := ⟨w.heap.size, 2, none⟩) (show w.heap.size < A.heap.size by omega)
          have e3 := hb1.cell (p := ⟨w.heap.size, 3, none⟩) (show w.heap.size < A.heap.size by omega)
          rw [AC.out.1] at e0
          rw [AC.out.2.1] at e1
          rw [AC.out.2.2.1] at e2
          rw [AC.out.2.2.2] at e3
          have EE := Lib.hid (And.intro e0 (And.intro e1 (And.intro e2 e3)))
          have s0 := hb1.size
          have B1 := Lib.hid (BA.out.trans (hb1.mono (by omega)))
          clear hb1 e1 e2 e3
          go_wp2_with fail
          refine (HCF.out _ M1.out hl1).mono ?_
          rintro e w2 ⟨rfl, hb2⟩
          have M2 := Lib.hid (M1.out.later hb2)
          have s1 := B1.out.size
          have B2 := Lib.hid (B1.out.trans (hb2.mono s1))
          have f0 := hb2.cell (p := ⟨w.heap.size, 0, none⟩) (show w.heap.size < w1.heap.size by omega)
          have f1 := hb2.cell (p := ⟨w.heap.size, 1, none⟩) (show w.heap.size < w1.heap.size by omega)
          have f2 := hb2.cell (p := ⟨w.heap.size, 2, none⟩) (show w.heap.size < w1.heap.size by omega)
          have f3 := hb2.cell (p := ⟨w.heap.size, 3, none⟩) (show w.heap.size < w1.heap.size by omega)
          rw [EE.out.1] at f0
          rw [EE.out.2.1] at f1
          rw [EE.out.2.2.1] at f2
          rw [EE.out.2.2.2] at f3
          clear hb2 e0
          obtain ⟨g0, _, _⟩ := M2.out.blk.cells
          have fz := M2.out.blk.frozen
          have M3 : Hid (MSt (w2.setCell ⟨p, 0, none⟩ (.int .i64 ((j : Int) + 1))) B p ((j : Int) + 1) (.slice va s.length vc) s u o ∧ Below B w2 (w2.setCell ⟨p, 0, none⟩ (.int .i64 ((j : Int) + 1)))) := Lib.hid (M2.out.turn ((TurnV.refl p (.slice va s.length vc) w2).set 0 _) (M2.out.blk.set0 _) (own_set_far M2.out.sv M2.out.vp) (.inl rfl))
          go_wp2_with fail
          refine (EX.out _ _ M3.out.1).mono ?_
          rintro e w3 ⟨rfl, v', u', m3, b3⟩
          go_wp2
          go_ret
          exact ⟨rfl, v', u', m3, (B2.out.mono (by omega)).trans (M3.out.2.trans b3)⟩
      · rw [if_pos cS] at WY
        rw [WY, if_neg (by decide), if_neg (by decide), if_neg (by decide)]
        rw [decide_eq_false cS] at HSF
        clear cS ha hb hnm XI hm
        go_enter Tryd.func20, Tryd.ntmps20
        go_wp2_with fail
        rw [← hA]
        clear hA
        refine (HSF.out _ HA.out.blk).mono ?_
        rintro e w1 ⟨rfl, hb1⟩
        have M1 := Lib.hid (HA.out.later hb1)
        have B1 := Lib.hid (BA.out.trans (hb1.mono (by omega)))
        clear hb1
        go_wp2
        go_ret
        exact ⟨rfl, _, u, M1.out, B1.out.mono (by omega)⟩
end Go.Proofs.YtcphnfhpidhnmaaDoor

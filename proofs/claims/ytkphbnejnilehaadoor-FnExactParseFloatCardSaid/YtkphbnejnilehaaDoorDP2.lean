/- The model reads texts of floats. -/
import Derived.Test.YtkphbnejnilehaaDoorDP
namespace Go.Proofs.YtkphbnejnilehaaDoor
open Go.RowKit
namespace Tm
theorem rdU_no_size {l : List UInt8} (h : l.length < 1 ∨ 15 < l.length) : rdU l = false := by
  rw [rdU, decide_eq_false (by omega)]; rfl
theorem rdU_no_zero {l : List UInt8} (h : l[0]? = some 48) (h2 : 1 < l.length) : rdU l = false := by
  rw [rdU, decide_eq_false (fun g => g.2.2 ⟨by rw [List.head?_eq_getElem?]; exact h, h2⟩)]; rfl
theorem rdU_no_dg {l : List UInt8} {i : Nat} (h : i < l.length) (h2 : isDg l[i] = false) : rdU l = false := by
  rw [rdU, Bool.and_eq_false_iff]
  right
  rw [List.all_eq_false]
  exact ⟨l[i], List.getElem_mem h, by rw [h2]; decide⟩
theorem rdU_yes {l : List UInt8} (h1 : 1 ≤ l.length) (h2 : l.length ≤ 15) (h3 : ¬ (l[0]? = some 48 ∧ 1 < l.length)) (h4 : l.all isDg = true) : rdU l = true := by
  rw [rdU, decide_eq_true ⟨h1, h2, fun g => h3 ⟨by rw [← List.head?_eq_getElem?]; exact g.1, g.2⟩⟩, h4]; rfl
theorem byte_val {b : UInt8} {c : Nat} (h : b.toNat = c) (hc : c < 256) : b = UInt8.ofNat c := by
  apply UInt8.toNat_inj.1
  rw [h]; simp; omega
end Tm
set_option maxRecDepth 20000 in
set_option maxHeartbeats 2000000 in
/-- The loop over digits. -/
theorem sReadD (s : ByteArray) (w : World) (h1 : 1 ≤ s.size) (h2 : s.size ≤ 15) (hz : ¬ (s.data.toList[0]? = some 48 ∧ 1 < s.size)) (hn : Tm.ngT s.data.toList = false) : Calls Tryd.prog 24 #[.string s] w fun e w' => e = .returned (.tuple #[.int .i64 (Tm.rdUV s.data.toList), .bool (Tm.rdU s.data.toList)]) ∧ w = w' := by
  have hl : s.data.toList.length = s.size := by rw [Array.length_toList]; rfl
  have i0 := ix_run s 0 h1
  have B0 := bt_list s 0 h1
  have c0a := byte_ge s[0]
  have c0b := byte_le s[0]
  obtain ⟨c0, hc0⟩ : ∃ c : Int, c = (s[0].toNat : Int) := ⟨_, rfl⟩
  simp only [Int.natCast_zero] at i0
  rw [← hc0] at c0a c0b
  simp only [← hc0] at i0
  have Z : c0 = 48 → ¬ (1 < s.size) := fun e g => hz ⟨by rw [B0, Tm.byte_val (b := s[0]) (c := 48) (by omega) (by omega)]; rfl, g⟩
  have NG : 1 < s.size → c0 = 45 → ∀ g : 1 < s.size, s[1].toNat = 45 := fun g e _ => by
    have d := of_decide_eq_false hn
    rcases Nat.lt_or_ge 45 s[1].toNat with q | q
    · exact absurd ⟨by omega, by rw [B0, Tm.byte_val (b := s[0]) (c := 45) (by omega) (by omega)]; rfl, by rw [bt_list s 1 g]; intro h; rw [Option.some.inj h] at q; exact absurd q (by decide)⟩ d
    · rcases Nat.lt_or_ge s[1].toNat 45 with q2 | q2
      · exact absurd ⟨by omega, by rw [B0, Tm.byte_val (b := s[0]) (c := 45) (by omega) (by omega)]; rfl, by rw [bt_list s 1 g]; intro h; rw [Option.some.inj h] at q2; exact absurd q2 (by decide)⟩ d
      · omega
  have HB0 := Lib.hid B0
  have HL := Lib.hid hl
  have HC := Lib.hid hc0
  have HZ := Lib.hid hz
  clear hn hz B0 hl hc0

  rcases Nat.lt_or_ge 1 s.size with n1 | n1
  · by_cases e45 : c0 = 45
    · have q := NG n1 e45 n1
      have i1 := ix_run s 1 n1
      simp only [q, Int.natCast_one] at i1
      subst e45
      go_enter Tryd.func24, Tryd.ntmps24
      go_wp2_with fail
      go_loop [6, 7] (fun v i => ∃ k : Nat, k ≤ s.size ∧ i = .int .i64 (k : Int) ∧ v = .int .i64 (Tm.dv (s.data.toList.take k) : Nat) ∧ Hid ((s.data.toList.take k).all Tm.isDg = true)) (fun _ i => s.size - (intOf i).toNat)
      case atStart => exact ⟨0, by omega, rfl, by simp [Tm.dv], Lib.hid (by simp)⟩
      case round =>
        obtain ⟨k, hk, rfl, rfl, AD⟩ := hrel
        have db := Tm.dv_bd _ AD.out
        have dl : (s.data.toList.take k).length = k := by rw [List.length_take, HL.out]; omega
        rw [dl] at db
        have p15 : (10 : Nat) ^ k ≤ 10 ^ 15 := Nat.pow_le_pow_right (by omega) (by omega)
        rw [show (10 : Nat) ^ 15 = 1000000000000000 from by decide] at p15
        clear dl
        by_cases hlt : k < s.size
        · have ik := ix_run s k hlt
          have Bk := bt_list s k hlt
          have ca := byte_ge s[k]
          have cb := byte_le s[k]
          have tk : s.data.toList.take (k + 1) = s.data.toList.take k ++ [s[k]] := by
            rw [List.take_add_one, Bk]; rfl
          have gk : s.data.toList[k]'(by rw [HL.out]; exact hlt) = s[k] := rfl
          have dva := Tm.dv_app (s.data.toList.take k) s[k]
          rw [← tk] at dva
          obtain ⟨c, hc⟩ : ∃ c : Int, c = (s[k].toNat : Int) := ⟨_, rfl⟩
          rw [← hc] at ca cb
          simp only [← hc] at ik
          obtain ⟨v, hv⟩ : ∃ v, v = Tm.dv (s.data.toList.take k) := ⟨_, rfl⟩
          rw [← hv] at db dva ⊢
          have TK := Lib.hid tk
          have GK := Lib.hid gk
          have DV := Lib.hid dva
          have HK := Lib.hid hc
          clear hv tk gk dva Bk hc i0 NG Z
          by_cases dg : 48 ≤ c ∧ c ≤ 57
          · obtain ⟨g1, g2⟩ := dg
            go_wp2
            refine ⟨⟨k + 1, by omega, by go_num, ?_, Lib.hid ?_⟩, by simp [intOf]; omega⟩
            · have e := DV.out
              have e2 := HK.out
              unfold Tm.dg at e
              exact val_int (by omega)
            · rw [TK.out, List.all_append, AD.out, Bool.true_and, List.all_cons, List.all_nil, Bool.and_true]
              exact decide_eq_true (by have := HK.out; omega)
          · have nd : Tm.rdU s.data.toList = false := Tm.rdU_no_dg (i := k) (by rw [HL.out]; exact hlt) (by rw [GK.out]; exact decide_eq_false (by have := HK.out; omega))
            have ND := Lib.hid nd
            clear nd
            rcases Int.lt_or_le c 48 with g | g
            · clear dg
              go_wp2
              go_ret2
              exact ⟨by rw [Tm.rdUV, ND.out]; rfl, rfl⟩
            · have g3 : 57 < c := by omega
              clear dg
              go_wp2
              go_ret2
              exact ⟨by rw [Tm.rdUV, ND.out]; rfl, rfl⟩
        · obtain rfl : k = s.size := by omega
          have tk : s.data.toList.take s.size = s.data.toList := List.take_of_length_le (by rw [HL.out]; exact Nat.le_refl _)
          rw [tk] at AD db ⊢
          have YS : Hid (Tm.rdU s.data.toList = true) := Lib.hid (Tm.rdU_yes (by rw [HL.out]; exact h1) (by rw [HL.out]; exact h2) (by rw [HL.out]; exact HZ.out) AD.out)
          obtain ⟨v, hv⟩ : ∃ v, v = Tm.dv s.data.toList := ⟨_, rfl⟩
          rw [← hv]
          have HV := Lib.hid hv
          clear hv tk i0 NG Z
          go_wp2
          go_ret2
          exact ⟨by rw [Tm.rdUV, YS.out, if_pos rfl]; first | rfl | (rw [← HV.out]; rfl), rfl⟩
    · have e48 : c0 ≠ 48 := fun e => Z e n1
      have f1 : (c0 == 45) = false := by simpa using e45
      have f2 : (c0 == 48) = false := by simpa using e48
      go_enter Tryd.func24, Tryd.ntmps24
      go_wp2_with fail
      go_loop [6, 7] (fun v i => ∃ k : Nat, k ≤ s.size ∧ i = .int .i64 (k : Int) ∧ v = .int .i64 (Tm.dv (s.data.toList.take k) : Nat) ∧ Hid ((s.data.toList.take k).all Tm.isDg = true)) (fun _ i => s.size - (intOf i).toNat)
      case atStart => exact ⟨0, by omega, rfl, by simp [Tm.dv], Lib.hid (by simp)⟩
      case round =>
        obtain ⟨k, hk, rfl, rfl, AD⟩ := hrel
        have db := Tm.dv_bd _ AD.out
        have dl : (s.data.toList.take k).length = k := by rw [List.length_take, HL.out]; omega
        rw [dl] at db
        have p15 : (10 : Nat) ^ k ≤ 10 ^ 15 := Nat.pow_le_pow_right (by omega) (by omega)
        rw [show (10 : Nat) ^ 15 = 1000000000000000 from by decide] at p15
        clear dl
        by_cases hlt : k < s.size
        · have ik := ix_run s k hlt
          have Bk := bt_list s k hlt
          have ca := byte_ge s[k]
          have cb := byte_le s[k]
          have tk : s.data.toList.take (k + 1) = s.data.toList.take k ++ [s[k]] := by
            rw [List.take_add_one, Bk]; rfl
          have gk : s.data.toList[k]'(by rw [HL.out]; exact hlt) = s[k] := rfl
          have dva := Tm.dv_app (s.data.toList.take k) s[k]
          rw [← tk] at dva
          obtain ⟨c, hc⟩ : ∃ c : Int, c = (s[k].toNat : Int) := ⟨_, rfl⟩
          rw [← hc] at ca cb
          simp only [← hc] at ik
          obtain ⟨v, hv⟩ : ∃ v, v = Tm.dv (s.data.toList.take k) := ⟨_, rfl⟩
          rw [← hv] at db dva ⊢
          have TK := Lib.hid tk
          have GK := Lib.hid gk
          have DV := Lib.hid dva
          have HK := Lib.hid hc
          clear hv tk gk dva Bk hc i0 NG Z
          by_cases dg : 48 ≤ c ∧ c ≤ 57
          · obtain ⟨g1, g2⟩ := dg
            go_wp2
            refine ⟨⟨k + 1, by omega, by go_num, ?_, Lib.hid ?_⟩, by simp [intOf]; omega⟩
            · have e := DV.out
              have e2 := HK.out
              unfold Tm.dg at e
              exact val_int (by omega)
            · rw [TK.out, List.all_append, AD.out, Bool.true_and, List.all_cons, List.all_nil, Bool.and_true]
              exact decide_eq_true (by have := HK.out; omega)
          · have nd : Tm.rdU s.data.toList = false := Tm.rdU_no_dg (i := k) (by rw [HL.out]; exact hlt) (by rw [GK.out]; exact decide_eq_false (by have := HK.out; omega))
            have ND := Lib.hid nd
            clear nd
            rcases Int.lt_or_le c 48 with g | g
            · clear dg
              go_wp2
              go_ret2
              exact ⟨by rw [Tm.rdUV, ND.out]; rfl, rfl⟩
            · have g3 : 57 < c := by omega
              clear dg
              go_wp2
              go_ret2
              exact ⟨by rw [Tm.rdUV, ND.out]; rfl, rfl⟩
        · obtain rfl : k = s.size := by omega
          have tk : s.data.toList.take s.size = s.data.toList := List.take_of_length_le (by rw [HL.out]; exact Nat.le_refl _)
          rw [tk] at AD db ⊢
          have YS : Hid (Tm.rdU s.data.toList = true) := Lib.hid (Tm.rdU_yes (by rw [HL.out]; exact h1) (by rw [HL.out]; exact h2) (by rw [HL.out]; exact HZ.out) AD.out)
          obtain ⟨v, hv⟩ : ∃ v, v = Tm.dv s.data.toList := ⟨_, rfl⟩
          rw [← hv]
          have HV := Lib.hid hv
          clear hv tk i0 NG Z
          go_wp2
          go_ret2
          exact ⟨by rw [Tm.rdUV, YS.out, if_pos rfl]; first | rfl | (rw [← HV.out]; rfl), rfl⟩
  · have sz : s.size = 1 := by omega
    by_cases e48 : c0 = 48
    · subst e48
      go_enter Tryd.func24, Tryd.ntmps24
      go_wp2_with fail
      go_loop [6, 7] (fun v i => ∃ k : Nat, k ≤ s.size ∧ i = .int .i64 (k : Int) ∧ v = .int .i64 (Tm.dv (s.data.toList.take k) : Nat) ∧ Hid ((s.data.toList.take k).all Tm.isDg = true)) (fun _ i => s.size - (intOf i).toNat)
      case atStart => exact ⟨0, by omega, rfl, by simp [Tm.dv], Lib.hid (by simp)⟩
      case round =>
        obtain ⟨k, hk, rfl, rfl, AD⟩ := hrel
        have db := Tm.dv_bd _ AD.out
        have dl : (s.data.toList.take k).length = k := by rw [List.length_take, HL.out]; omega
        rw [dl] at db
        have p15 : (10 : Nat) ^ k ≤ 10 ^ 15 := Nat.pow_le_pow_right (by omega) (by omega)
        rw [show (10 : Nat) ^ 15 = 1000000000000000 from by decide] at p15
        clear dl
        by_cases hlt : k < s.size
        · have ik := ix_run s k hlt
          have Bk := bt_list s k hlt
          have ca := byte_ge s[k]
          have cb := byte_le s[k]
          have tk : s.data.toList.take (k + 1) = s.data.toList.take k ++ [s[k]] := by
            rw [List.take_add_one, Bk]; rfl
          have gk : s.data.toList[k]'(by rw [HL.out]; exact hlt) = s[k] := rfl
          have dva := Tm.dv_app (s.data.toList.take k) s[k]
          rw [← tk] at dva
          obtain ⟨c, hc⟩ : ∃ c : Int, c = (s[k].toNat : Int) := ⟨_, rfl⟩
          rw [← hc] at ca cb
          simp only [← hc] at ik
          obtain ⟨v, hv⟩ : ∃ v, v = Tm.dv (s.data.toList.take k) := ⟨_, rfl⟩
          rw [← hv] at db dva ⊢
          have TK := Lib.hid tk
          have GK := Lib.hid gk
          have DV := Lib.hid dva
          have HK := Lib.hid hc
          clear hv tk gk dva Bk hc i0 NG Z
          by_cases dg : 48 ≤ c ∧ c ≤ 57
          · obtain ⟨g1, g2⟩ := dg
            go_wp2
            refine ⟨⟨k + 1, by omega, by go_num, ?_, Lib.hid ?_⟩, by simp [intOf]; omega⟩
            · have e := DV.out
              have e2 := HK.out
              unfold Tm.dg at e
              exact val_int (by omega)
            · rw [TK.out, List.all_append, AD.out, Bool.true_and, List.all_cons, List.all_nil, Bool.and_true]
              exact decide_eq_true (by have := HK.out; omega)
          · have nd : Tm.rdU s.data.toList = false := Tm.rdU_no_dg (i := k) (by rw [HL.out]; exact hlt) (by rw [GK.out]; exact decide_eq_false (by have := HK.out; omega))
            have ND := Lib.hid nd
            clear nd
            rcases Int.lt_or_le c 48 with g | g
            · clear dg
              go_wp2
              go_ret2
              exact ⟨by rw [Tm.rdUV, ND.out]; rfl, rfl⟩
            · have g3 : 57 < c := by omega
              clear dg
              go_wp2
              go_ret2
              exact ⟨by rw [Tm.rdUV, ND.out]; rfl, rfl⟩
        · obtain rfl : k = s.size := by omega
          have tk : s.data.toList.take s.size = s.data.toList := List.take_of_length_le (by rw [HL.out]; exact Nat.le_refl _)
          rw [tk] at AD db ⊢
          have YS : Hid (Tm.rdU s.data.toList = true) := Lib.hid (Tm.rdU_yes (by rw [HL.out]; exact h1) (by rw [HL.out]; exact h2) (by rw [HL.out]; exact HZ.out) AD.out)
          obtain ⟨v, hv⟩ : ∃ v, v = Tm.dv s.data.toList := ⟨_, rfl⟩
          rw [← hv]
          have HV := Lib.hid hv
          clear hv tk i0 NG Z
          go_wp2
          go_ret2
          exact ⟨by rw [Tm.rdUV, YS.out, if_pos rfl]; first | rfl | (rw [← HV.out]; rfl), rfl⟩
    · have f2 : (c0 == 48) = false := by simpa using e48
      go_enter Tryd.func24, Tryd.ntmps24
      go_wp2_with fail
      go_loop [6, 7] (fun v i => ∃ k : Nat, k ≤ s.size ∧ i = .int .i64 (k : Int) ∧ v = .int .i64 (Tm.dv (s.data.toList.take k) : Nat) ∧ Hid ((s.data.toList.take k).all Tm.isDg = true)) (fun _ i => s.size - (intOf i).toNat)
      case atStart => exact ⟨0, by omega, rfl, by simp [Tm.dv], Lib.hid (by simp)⟩
      case round =>
        obtain ⟨k, hk, rfl, rfl, AD⟩ := hrel
        have db := Tm.dv_bd _ AD.out
        have dl : (s.data.toList.take k).length = k := by rw [List.length_take, HL.out]; omega
        rw [dl] at db
        have p15 : (10 : Nat) ^ k ≤ 10 ^ 15 := Nat.pow_le_pow_right (by omega) (by omega)
        rw [show (10 : Nat) ^ 15 = 1000000000000000 from by decide] at p15
        clear dl
        by_cases hlt : k < s.size
        · have ik := ix_run s k hlt
          have Bk := bt_list s k hlt
          have ca := byte_ge s[k]
          have cb := byte_le s[k]
          have tk : s.data.toList.take (k + 1) = s.data.toList.take k ++ [s[k]] := by
            rw [List.take_add_one, Bk]; rfl
          have gk : s.data.toList[k]'(by rw [HL.out]; exact hlt) = s[k] := rfl
          have dva := Tm.dv_app (s.data.toList.take k) s[k]
          rw [← tk] at dva
          obtain ⟨c, hc⟩ : ∃ c : Int, c = (s[k].toNat : Int) := ⟨_, rfl⟩
          rw [← hc] at ca cb
          simp only [← hc] at ik
          obtain ⟨v, hv⟩ : ∃ v, v = Tm.dv (s.data.toList.take k) := ⟨_, rfl⟩
          rw [← hv] at db dva ⊢
          have TK := Lib.hid tk
          have GK := Lib.hid gk
          have DV := Lib.hid dva
          have HK := Lib.hid hc
          clear hv tk gk dva Bk hc i0 NG Z
          by_cases dg : 48 ≤ c ∧ c ≤ 57
          · obtain ⟨g1, g2⟩ := dg
            go_wp2
            refine ⟨⟨k + 1, by omega, by go_num, ?_, Lib.hid ?_⟩, by simp [intOf]; omega⟩
            · have e := DV.out
              have e2 := HK.out
              unfold Tm.dg at e
              exact val_int (by omega)
            · rw [TK.out, List.all_append, AD.out, Bool.true_and, List.all_cons, List.all_nil, Bool.and_true]
              exact decide_eq_true (by have := HK.out; omega)
          · have nd : Tm.rdU s.data.toList = false := Tm.rdU_no_dg (i := k) (by rw [HL.out]; exact hlt) (by rw [GK.out]; exact decide_eq_false (by have := HK.out; omega))
            have ND := Lib.hid nd
            clear nd
            rcases Int.lt_or_le c 48 with g | g
            · clear dg
              go_wp2
              go_ret2
              exact ⟨by rw [Tm.rdUV, ND.out]; rfl, rfl⟩
            · have g3 : 57 < c := by omega
              clear dg
              go_wp2
              go_ret2
              exact ⟨by rw [Tm.rdUV, ND.out]; rfl, rfl⟩
        · obtain rfl : k = s.size := by omega
          have tk : s.data.toList.take s.size = s.data.toList := List.take_of_length_le (by rw [HL.out]; exact Nat.le_refl _)
          rw [tk] at AD db ⊢
          have YS : Hid (Tm.rdU s.data.toList = true) := Lib.hid (Tm.rdU_yes (by rw [HL.out]; exact h1) (by rw [HL.out]; exact h2) (by rw [HL.out]; exact HZ.out) AD.out)
          obtain ⟨v, hv⟩ : ∃ v, v = Tm.dv s.data.toList := ⟨_, rfl⟩
          rw [← hv]
          have HV := Lib.hid hv
          clear hv tk i0 NG Z
          go_wp2
          go_ret2
          exact ⟨by rw [Tm.rdUV, YS.out, if_pos rfl]; first | rfl | (rw [← HV.out]; rfl), rfl⟩
theorem sReadU (s : ByteArray) (w : World) (hn : Tm.ngT s.data.toList = false) (hm : s.size ≤ 2000000) : Calls Tryd.prog 24 #[.string s] w fun e w' => e = .returned (.tuple #[.int .i64 (Tm.rdUV s.data.toList), .bool (Tm.rdU s.data.toList)]) ∧ w = w' := by
  have hl : s.data.toList.length = s.size := by rw [Array.length_toList]; rfl
  rcases Nat.eq_zero_or_pos s.size with z | z
  · have R : Tm.rdU s.data.toList = false := Tm.rdU_no_size (by omega)
    rw [Tm.rdUV, R]
    clear R hl hn
    go_enter Tryd.func24, Tryd.ntmps24
    go_wp2
    go_ret2
    exact ⟨rfl, rfl⟩
  · have i0 := ix_run s 0 z
    have B0 := bt_list s 0 z
    have c0a := byte_ge s[0]
    have c0b := byte_le s[0]
    obtain ⟨c0, hc0⟩ : ∃ c : Int, c = (s[0].toNat : Int) := ⟨_, rfl⟩
    simp only [Int.natCast_zero] at i0
    rw [← hc0] at c0a c0b
    simp only [← hc0] at i0
    have NG : c0 = 45 → ∀ g : 1 < s.size, s[1].toNat = 45 := fun e g => by
      have d := of_decide_eq_false hn
      rcases Nat.lt_or_ge 45 s[1].toNat with q | q
      · exact absurd ⟨by omega, by rw [B0, Tm.byte_val (b := s[0]) (c := 45) (by omega) (by omega)]; rfl, by rw [bt_list s 1 g]; intro h; rw [Option.some.inj h] at q; exact absurd q (by decide)⟩ d
      · rcases Nat.lt_or_ge s[1].toNat 45 with q2 | q2
        · exact absurd ⟨by omega, by rw [B0, Tm.byte_val (b := s[0]) (c := 45) (by omega) (by omega)]; rfl, by rw [bt_list s 1 g]; intro h; rw [Option.some.inj h] at q2; exact absurd q2 (by decide)⟩ d
        · omega
    by_cases zz : s.data.toList[0]? = some 48 ∧ 1 < s.size
    · have R : Tm.rdU s.data.toList = false := Tm.rdU_no_zero zz.1 (by omega)
      have n1 := zz.2
      have e : c0 = 48 := by rw [B0] at zz; rw [hc0, Option.some.inj zz.1]; rfl
      rw [Tm.rdUV, R]
      subst e
      clear R hl hn zz NG hc0 B0
      rcases Nat.lt_or_ge 15 s.size with g | g
      · go_enter Tryd.func24, Tryd.ntmps24
        go_wp2
        go_ret2
        exact ⟨rfl, rfl⟩
      · go_enter Tryd.func24, Tryd.ntmps24
        go_wp2
        go_ret2
        exact ⟨rfl, rfl⟩
    · rcases Nat.lt_or_ge 15 s.size with g | g
      · have R : Tm.rdU s.data.toList = false := Tm.rdU_no_size (by omega)
        rw [Tm.rdUV, R]
        have n1 : 1 < s.size := by omega
        clear R hl hn zz hc0 B0
        by_cases e45 : c0 = 45
        · have q := NG e45 n1
          have i1 := ix_run s 1 n1
          simp only [q, Int.natCast_one] at i1
          subst e45
          clear NG
          go_enter Tryd.func24, Tryd.ntmps24
          go_wp2
          go_ret2
          exact ⟨rfl, rfl⟩
        · have f1 : (c0 == 45) = false := by simpa using e45
          clear NG
          go_enter Tryd.func24, Tryd.ntmps24
          go_wp2
          go_ret2
          exact ⟨rfl, rfl⟩
      · exact sReadD s w z g zz hn
theorem sRead5 (s : ByteArray) (w : World) (hm : s.size ≤ 2000000) : Calls Tryd.prog 24 #[.string s] w fun e w' => e = .returned (.tuple #[.int .i64 (Tm.rdV5 s.data.toList), .bool (Tm.rdOk5 s.data.toList)]) ∧ w = w' := by
  by_cases g : Tm.ngT s.data.toList = true
  · have d := of_decide_eq_true g
    have hl : s.data.toList.length = s.size := by rw [Array.length_toList]; rfl
    obtain ⟨d1, d2, d3⟩ := d
    have n1 : 1 < s.size := by omega
    have tl : (s.extract 1 s.size).data.toList = s.data.toList.tail := by
      rw [ByteArray.data_extract, Array.toList_extract, List.extract_eq_take_drop, List.take_of_length_le (by rw [List.length_drop, hl]; exact Nat.le_refl _), List.drop_one]
    have ng : Tm.ngT (s.extract 1 s.size).data.toList = false := by
      rw [tl]
      exact decide_eq_false fun h => d3 (by have := h.2.1; rwa [List.getElem?_tail] at this)
    have RU := Lib.hid (fun w => sReadU (s.extract 1 s.size) w ng (by rw [ByteArray.size_extract]; omega))
    rw [tl] at RU
    have i0 := ix_run s 0 (by omega)
    have i1 := ix_run s 1 n1
    have b0 : s[0].toNat = 45 := by rw [bt_list s 0 (by omega)] at d2; rw [Option.some.inj d2]; rfl
    have b1 : s[1].toNat ≠ 45 := fun h => d3 (by rw [bt_list s 1 n1, Tm.byte_val h (by omega)]; rfl)
    simp only [b0, Int.natCast_zero] at i0
    have ca := byte_ge s[1]
    have cb := byte_le s[1]
    obtain ⟨c1, hc1⟩ : ∃ c : Int, c = (s[1].toNat : Int) := ⟨_, rfl⟩
    have c1n : c1 ≠ 45 := by omega
    have f1 : (c1 != 45) = true := by simpa using c1n
    rw [← hc1] at ca cb
    simp only [← hc1, Int.natCast_one] at i1
    rw [Tm.rdV5, Tm.rdOk5, if_pos g, if_pos g]
    have vb : Tm.rdUV s.data.toList.tail < 10 ^ 15 := by
      rw [Tm.rdUV]; split
      · rename_i hh
        rw [Tm.rdU, Bool.and_eq_true, decide_eq_true_eq] at hh
        exact Nat.lt_of_lt_of_le (Tm.dv_bd _ hh.2) (Nat.pow_le_pow_right (by omega) hh.1.2.1)
      · exact Nat.pow_pos (by omega)
    rw [show (10 : Nat) ^ 15 = 1000000000000000 from by decide] at vb
    obtain ⟨v, hv⟩ : ∃ v, v = Tm.rdUV s.data.toList.tail := ⟨_, rfl⟩
    obtain ⟨ok, hok⟩ : ∃ v, v = Tm.rdU s.data.toList.tail := ⟨_, rfl⟩
    rw [← hv] at RU vb ⊢
    rw [← hok] at RU ⊢
    clear hv hok tl ng g d1 d2 d3 b0 b1 hl c1n hc1
    cases ok with
    | false =>
      go_enter Tryd.func24, Tryd.ntmps24
      go_wp2_with fail
      refine (RU.out _).mono ?_
      rintro r w' ⟨rfl, rfl⟩
      go_wp2
      go_ret2
      exact ⟨rfl, rfl⟩
    | true =>
      by_cases v0 : v = 0
      · subst v0
        go_enter Tryd.func24, Tryd.ntmps24
        go_wp2_with fail
        refine (RU.out _).mono ?_
        rintro r w' ⟨rfl, rfl⟩
        go_wp2
        go_ret2
        exact ⟨rfl, rfl⟩
      · have f2 : ((v : Int) != 0) = true := by simp; omega
        have f3 : decide (v ≠ 0) = true := decide_eq_true v0
        rw [f3]
        go_enter Tryd.func24, Tryd.ntmps24
        go_wp2_with fail
        refine (RU.out _).mono ?_
        rintro r w' ⟨rfl, rfl⟩
        go_wp2
        go_ret2
        exact ⟨rfl, rfl⟩
  · simp only [Bool.not_eq_true] at g
    rw [Tm.rdV5, Tm.rdOk5, g]
    exact sReadU s w g hm
set_option maxRecDepth 20000 in
set_option maxHeartbeats 1000000 in
theorem sParseFloat (s : ByteArray) (w : World) (hs : s.size ≤ 1048576) : Calls Tryd.prog 10 #[.string s] w (RetFB 3 w (Tm.prD s) (Tm.prE s) (Tm.prOk s)) := by
  by_cases h8 : s.size < 8
  · obtain ⟨r1, r2, r3⟩ := Tm.pr_no (s := s) (fun ⟨ds, e, P⟩ => by have := (Tm.model_has P).1; omega)
    rw [r1, r2, r3]
    clear r1 r2 r3
    go_enter Tryd.func10, Tryd.ntmps10
    go_wp2
    go_returns
    exact ret_nil_fb (by (repeat' (first | (with_reducible exact Below.refl _ _) | (with_reducible assumption) | (with_reducible refine below_drewN ?_ _) | (with_reducible refine Below.drew ?_) | (with_reducible refine Below.alloc ?_ ?_ _) | (with_reducible refine Below.setCell ?_ ?_ _) | (with_reducible refine below_gw ?_ ?_ _) | (with_reducible refine below_via ?_ ‹Below _ _ _› ?_) | (with_reducible exact Nat.le_refl _) | (with_reducible refine le_gw ?_ _) | (with_reducible refine le_alloc ?_ _) | (with_reducible refine le_setCell ?_ _ _) | (with_reducible refine le_drew ?_) | (with_reducible refine le_drewN ?_ _) | go_size)))
  have i6 := ix_run s 6 (by omega)
  have B6 := bt_list s 6 (by omega)
  have ca := byte_ge s[6]
  have cb := byte_le s[6]
  by_cases x6 : s[6].toNat = 120
  · have b6 : s.data.toList[6]? = some 120 := by rw [B6, Tm.byte_val x6 (by omega)]; rfl
    simp only [x6] at i6
    obtain ⟨u, hu⟩ : ∃ u, u = s.extract 0 6 := ⟨_, rfl⟩
    obtain ⟨v, hv⟩ : ∃ v, v = s.extract 7 s.size := ⟨_, rfl⟩
    have vs : v.size ≤ 2000000 := by rw [hv, ByteArray.size_extract]; omega
    have PW := Lib.hid (fun w => sParseWord u w)
    have RD := Lib.hid (fun w => sRead5 v w vs)
    have MO := Tm.model_ok (s := s) (by omega) b6
    have MH := fun ds e (P : Tm.isP s ds e) => Tm.model_has P
    rw [← hu, ← hv] at MO
    simp only [← hu, ← hv] at MH
    obtain ⟨xs, hxs⟩ : ∃ xs, xs = Tm.prs u := ⟨_, rfl⟩
    obtain ⟨o, ho⟩ : ∃ o, o = Tm.prsOk u := ⟨_, rfl⟩
    obtain ⟨n, hn⟩ : ∃ n, n = Tm.rdV5 v.data.toList := ⟨_, rfl⟩
    obtain ⟨k, hk⟩ : ∃ k, k = Tm.rdOk5 v.data.toList := ⟨_, rfl⟩
    rw [← hxs, ← ho] at PW
    rw [← hn, ← hk] at RD
    rw [← hxs, ← ho, ← hn, ← hk] at MO
    simp only [← hxs, ← ho, ← hn, ← hk] at MH
    have XU := hu.symm
    have XV := hv.symm
    have IF := Lib.hid (fun (a : Option Addr) (c : Nat) (w : World) (h : Ints w a xs.length c xs) => sIsFloat a _ c xs n w h)
    cases g : (o && k && Tm.isF xs n) with
    | true =>
      obtain ⟨⟨g1, g2⟩, g3⟩ : (o = true ∧ k = true) ∧ Tm.isF xs n = true := by simpa using g
      obtain ⟨r1, r2, r3⟩ := Tm.pr_yes (MO g1 g2 g3)
      rw [r1, r2, r3]
      rw [g3] at IF
      subst g1 g2
      clear g g3 r1 r2 r3 MO MH hu hv hxs ho hn hk b6 B6
      go_enter Tryd.func10, Tryd.ntmps10
      go_wp2_with fail
      refine (PW.out _).mono ?_
      rintro r w1 ⟨a1, c1, rfl, hown, hb, ln⟩
      have I1 := Lib.hid (Ints.of_own hown)
      have O1 := Lib.hid hown
      obtain ⟨p, rfl⟩ := gw_of_below hb
      clear hown hb
      go_wp2_with fail
      refine (RD.out _).mono ?_
      rintro r w' ⟨rfl, rfl⟩
      go_wp2_with fail
      refine (IF.out a1 c1 _ (I1.out.alloc _)).mono ?_
      rintro r w4 ⟨rfl, hb⟩
      obtain ⟨q4, rfl⟩ := gw_of_below hb
      clear hb
      go_wp2
      go_returns
      refine ret_own_fb (own_below (own_weak (own_gw O1.out (by rw [World.size_alloc]; omega)) (by rw [World.size_alloc]; omega)) (by (repeat' (first | (with_reducible exact Below.refl _ _) | (with_reducible assumption) | (with_reducible refine below_drewN ?_ _) | (with_reducible refine Below.drew ?_) | (with_reducible refine Below.alloc ?_ ?_ _) | (with_reducible refine Below.setCell ?_ ?_ _) | (with_reducible refine below_gw ?_ ?_ _) | (with_reducible refine below_via ?_ ‹Below _ _ _› ?_) | (with_reducible exact Nat.le_refl _) | (with_reducible refine le_gw ?_ _) | (with_reducible refine le_alloc ?_ _) | (with_reducible refine le_setCell ?_ _ _) | (with_reducible refine le_drew ?_) | (with_reducible refine le_drewN ?_ _) | go_size)))) (by (repeat' (first | (with_reducible exact Below.refl _ _) | (with_reducible assumption) | (with_reducible refine below_drewN ?_ _) | (with_reducible refine Below.drew ?_) | (with_reducible refine Below.alloc ?_ ?_ _) | (with_reducible refine Below.setCell ?_ ?_ _) | (with_reducible refine below_gw ?_ ?_ _) | (with_reducible refine below_via ?_ ‹Below _ _ _› ?_) | (with_reducible exact Nat.le_refl _) | (with_reducible refine le_gw ?_ _) | (with_reducible refine le_alloc ?_ _) | (with_reducible refine le_setCell ?_ _ _) | (with_reducible refine le_drew ?_) | (with_reducible refine le_drewN ?_ _) | go_size))) ln
    | false =>
      obtain ⟨r1, r2, r3⟩ := Tm.pr_no (s := s) (fun ⟨ds, e, P⟩ => by
        obtain ⟨-, -, m3, m4, m5, m6⟩ := MH ds e P
        have := P.1
        rw [m3, m5, m4, m6, this] at g
        cases g)
      rw [r1, r2, r3]
      clear r1 r2 r3 MO MH hu hv hxs ho hn hk b6 B6
      cases o with
      | false =>
        clear g
        go_enter Tryd.func10, Tryd.ntmps10
        go_wp2_with fail
        refine (PW.out _).mono ?_
        rintro r w1 ⟨a1, c1, rfl, hown, hb, ln⟩
        obtain ⟨p, rfl⟩ := gw_of_below hb
        clear hown hb
        go_wp2_with fail
        refine (RD.out _).mono ?_
        rintro r w' ⟨rfl, rfl⟩
        go_wp2
        go_returns
        exact ret_nil_fb (by (repeat' (first | (with_reducible exact Below.refl _ _) | (with_reducible assumption) | (with_reducible refine below_drewN ?_ _) | (with_reducible refine Below.drew ?_) | (with_reducible refine Below.alloc ?_ ?_ _) | (with_reducible refine Below.setCell ?_ ?_ _) | (with_reducible refine below_gw ?_ ?_ _) | (with_reducible refine below_via ?_ ‹Below _ _ _› ?_) | (with_reducible exact Nat.le_refl _) | (with_reducible refine le_gw ?_ _) | (with_reducible refine le_alloc ?_ _) | (with_reducible refine le_setCell ?_ _ _) | (with_reducible refine le_drew ?_) | (with_reducible refine le_drewN ?_ _) | go_size)))
      | true =>
        cases k with
        | false =>
          clear g
          go_enter Tryd.func10, Tryd.ntmps10
          go_wp2_with fail
          refine (PW.out _).mono ?_
          rintro r w1 ⟨a1, c1, rfl, hown, hb, ln⟩
          obtain ⟨p, rfl⟩ := gw_of_below hb
          clear hown hb
          go_wp2_with fail
          refine (RD.out _).mono ?_
          rintro r w' ⟨rfl, rfl⟩
          go_wp2
          go_returns
          exact ret_nil_fb (by (repeat' (first | (with_reducible exact Below.refl _ _) | (with_reducible assumption) | (with_reducible refine below_drewN ?_ _) | (with_reducible refine Below.drew ?_) | (with_reducible refine Below.alloc ?_ ?_ _) | (with_reducible refine Below.setCell ?_ ?_ _) | (with_reducible refine below_gw ?_ ?_ _) | (with_reducible refine below_via ?_ ‹Below _ _ _› ?_) | (with_reducible exact Nat.le_refl _) | (with_reducible refine le_gw ?_ _) | (with_reducible refine le_alloc ?_ _) | (with_reducible refine le_setCell ?_ _ _) | (with_reducible refine le_drew ?_) | (with_reducible refine le_drewN ?_ _) | go_size)))
        | true =>
          have g3 : Tm.isF xs n = false := by simpa using g
          rw [g3] at IF
          clear g g3
          go_enter Tryd.func10, Tryd.ntmps10
          go_wp2_with fail
          refine (PW.out _).mono ?_
          rintro r w1 ⟨a1, c1, rfl, hown, hb, ln⟩
          have I1 := Lib.hid (Ints.of_own hown)
          obtain ⟨p, rfl⟩ := gw_of_below hb
          clear hown hb
          go_wp2_with fail
          refine (RD.out _).mono ?_
          rintro r w' ⟨rfl, rfl⟩
          go_wp2_with fail
          refine (IF.out a1 c1 _ (I1.out.alloc _)).mono ?_
          rintro r w4 ⟨rfl, hb⟩
          obtain ⟨q4, rfl⟩ := gw_of_below hb
          clear hb
          go_wp2
          go_returns
          exact ret_nil_fb (by (repeat' (first | (with_reducible exact Below.refl _ _) | (with_reducible assumption) | (with_reducible refine below_drewN ?_ _) | (with_reducible refine Below.drew ?_) | (with_reducible refine Below.alloc ?_ ?_ _) | (with_reducible refine Below.setCell ?_ ?_ _) | (with_reducible refine below_gw ?_ ?_ _) | (with_reducible refine below_via ?_ ‹Below _ _ _› ?_) | (with_reducible exact Nat.le_refl _) | (with_reducible refine le_gw ?_ _) | (with_reducible refine le_alloc ?_ _) | (with_reducible refine le_setCell ?_ _ _) | (with_reducible refine le_drew ?_) | (with_reducible refine le_drewN ?_ _) | go_size)))
  · obtain ⟨r1, r2, r3⟩ := Tm.pr_no (s := s) (fun ⟨ds, e, P⟩ => by
      have := (Tm.model_has P).2.1
      rw [B6] at this
      exact x6 (by rw [Option.some.inj this]; rfl))
    rw [r1, r2, r3]
    have f1 : ((s[6].toNat : Int) != 120) = true := by simp; omega
    have f2 : ¬ ((s[6].toNat : Int) = 120) := by omega
    clear r1 r2 r3 B6 i6
    go_enter Tryd.func10, Tryd.ntmps10
    go_wp2
    go_returns
    exact ret_nil_fb (by (repeat' (first | (with_reducible exact Below.refl _ _) | (with_reducible assumption) | (with_reducible refine below_drewN ?_ _) | (with_reducible refine Below.drew ?_) | (with_reducible refine Below.alloc ?_ ?_ _) | (with_reducible refine Below.setCell ?_ ?_ _) | (with_reducible refine below_gw ?_ ?_ _) | (with_reducible refine below_via ?_ ‹Below _ _ _› ?_) | (with_reducible exact Nat.le_refl _) | (with_reducible refine le_gw ?_ _) | (with_reducible refine le_alloc ?_ _) | (with_reducible refine le_setCell ?_ _ _) | (with_reducible refine le_drew ?_) | (with_reducible refine le_drewN ?_ _) | go_size)))
end Go.Proofs.YtkphbnejnilehaaDoor

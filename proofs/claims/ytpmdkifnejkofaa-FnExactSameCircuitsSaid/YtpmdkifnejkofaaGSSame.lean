/- Circuits that are compared by the model. -/
import Derived.Test.YtpmdkifnejkofaaGS2
import Derived.Test.YtpmdkifnejkofaaGSMath
import Derived.Test.YtpmdkifnejkofaaWVal
import Derived.Deep.LoopGhost
namespace Go.Proofs.Ytpmdkifnejkofaa
set_option maxRecDepth 20000
open Go.RowKit
set_option maxHeartbeats 8000000 in
theorem sSameCircuits (k : Int) (a : Option Addr) (n c : Nat) (L : List (Nat → Int)) (b : Option Addr) (m d : Nat) (o : List Int) (l : Int) (a2 : Option Addr) (n2 c2 : Nat) (M : List (Nat → Int)) (b2 : Option Addr) (m2 d2 : Nat) (u : List Int) (w : World) (h : Cs w a n c L b m d o) (h2 : Cs w a2 n2 c2 M b2 m2 d2 u) :
    Calls Try.prog 24 #[circV k a n c b m d, circV l a2 n2 c2 b2 m2 d2] w fun r w' => r = .returned (.bool (Tm.same k L o l M u)) ∧ Below w.heap.size w w' := by
  obtain ⟨i0, hi, hz0, hz1, hz2⟩ := info_parts infoInt
  have H := Lib.hid h
  have H2 := Lib.hid h2
  obtain rfl : L.length = n := h.1.1
  obtain rfl : o.length = m := h.2.1
  obtain rfl : M.length = n2 := h2.1.1
  obtain rfl : u.length = m2 := h2.2.1
  have hd1 := h.2.2.1
  have hd2 := h.2.2.2.1
  have he1 := h2.2.2.1
  have he2 := h2.2.2.2.1
  unfold maxLen at hd2 he2
  have I1 := Lib.hid (fun (w : World) h => sIsCircuit k a L.length c L b o.length d o w h)
  have I2 := Lib.hid (fun (w : World) h => sIsCircuit l a2 M.length c2 M b2 u.length d2 u w h)
  clear h h2
  cases hC : Tm.isCirc k L o with
  | false =>
    rw [hC] at I1
    have NO : Hid (false = Tm.same k L o l M u) := Lib.hid (by rw [Tm.same, hC]; rfl)
    clear hC
    go_enter Try.func24, Try.ntmps24
    go_wp2_with fail
    refine (I1.out _ ((H.out.alloc _).alloc _)).mono ?_
    rintro r w1 ⟨rfl, hb1⟩
    obtain ⟨p, rfl⟩ := gw_of_below hb1
    clear hb1
    go_wp2
    go_ret
    exact ⟨ret_bool NO.out, by (repeat' (first | (with_reducible exact Below.refl _ _) | (with_reducible assumption) | (with_reducible refine below_drewN ?_ _) | (with_reducible refine Below.drew ?_) | (with_reducible refine Below.alloc ?_ ?_ _) | (with_reducible refine Below.setCell ?_ ?_ _) | (with_reducible refine below_gw ?_ ?_ _) | (with_reducible refine below_via ?_ ‹Below _ _ _› ?_) | (with_reducible exact Nat.le_refl _) | (with_reducible refine le_gw ?_ _) | (with_reducible refine le_alloc ?_ _) | (with_reducible refine le_setCell ?_ _ _) | (with_reducible refine le_drew ?_) | (with_reducible refine le_drewN ?_ _) | go_size))⟩
  | true =>
    rw [hC] at I1
    cases hD : Tm.isCirc l M u with
    | false =>
      rw [hD] at I2
      have NO : Hid (false = Tm.same k L o l M u) := Lib.hid (by rw [Tm.same, hD]; simp)
      clear hD hC
      go_enter Try.func24, Try.ntmps24
      go_wp2_with fail
      refine (I1.out _ ((H.out.alloc _).alloc _)).mono ?_
      rintro r w1 ⟨rfl, hb1⟩
      obtain ⟨p, rfl⟩ := gw_of_below hb1
      clear hb1
      go_wp2_with fail
      refine (I2.out _ (H2.out.below (by (repeat' (first | (with_reducible exact Below.refl _ _) | (with_reducible assumption) | (with_reducible refine below_drewN ?_ _) | (with_reducible refine Below.drew ?_) | (with_reducible refine Below.alloc ?_ ?_ _) | (with_reducible refine Below.setCell ?_ ?_ _) | (with_reducible refine below_gw ?_ ?_ _) | (with_reducible refine below_via ?_ ‹Below _ _ _› ?_) | (with_reducible exact Nat.le_refl _) | (with_reducible refine le_gw ?_ _) | (with_reducible refine le_alloc ?_ _) | (with_reducible refine le_setCell ?_ _ _) | (with_reducible refine le_drew ?_) | (with_reducible refine le_drewN ?_ _) | go_size))))).mono ?_
      rintro r w1 ⟨rfl, hb1⟩
      obtain ⟨q, rfl⟩ := gw_of_below hb1
      clear hb1
      go_wp2
      go_ret
      exact ⟨ret_bool NO.out, by (repeat' (first | (with_reducible exact Below.refl _ _) | (with_reducible assumption) | (with_reducible refine below_drewN ?_ _) | (with_reducible refine Below.drew ?_) | (with_reducible refine Below.alloc ?_ ?_ _) | (with_reducible refine Below.setCell ?_ ?_ _) | (with_reducible refine below_gw ?_ ?_ _) | (with_reducible refine below_via ?_ ‹Below _ _ _› ?_) | (with_reducible exact Nat.le_refl _) | (with_reducible refine le_gw ?_ _) | (with_reducible refine le_alloc ?_ _) | (with_reducible refine le_setCell ?_ _ _) | (with_reducible refine le_drew ?_) | (with_reducible refine le_drewN ?_ _) | go_size))⟩
    | true =>
      rw [hD] at I2
      have hCi := (Tm.isCirc_iff _ _ _).1 hC
      have hDi := (Tm.isCirc_iff _ _ _).1 hD
      obtain ⟨⟨k1, k2⟩, -, hm, -⟩ := hCi
      obtain ⟨⟨l1, l2⟩, -, hm2, -⟩ := hDi
      by_cases hkl : k = l
      · by_cases hou : o.length = u.length
        · by_cases hk6 : k ≤ 6
          · subst hkl
            obtain ⟨K, rfl⟩ : ∃ K : Nat, k = (K : Int) := ⟨k.toNat, by omega⟩
            have K6 : K ≤ 6 := by omega
            have SM : Hid (Tm.same (K : Int) L o (K : Int) M u = Tm.sameAll K (Tm.agr L M o u)) := Lib.hid (by rw [Tm.same, hC, hD, decide_eq_true rfl, decide_eq_true hou, decide_eq_true hk6, Int.toNat_natCast]; rfl)
            have OC := Lib.hid (Tm.on_word (o := o) hC)
            have OD := Lib.hid (Tm.on_word (o := u) hD)
            have HOU := Lib.hid hou
            have hou2 : ((o.length : Int) != (u.length : Int)) = false := by rw [hou]; simp
            have LS := Tm.lim_small K6
            obtain ⟨LS1, LS2⟩ := LS
            have LS1 := Lib.hid LS1
            have L0 := Tm.limN_nonneg K
            obtain ⟨X, hX⟩ : ∃ X, X = Tm.limN K := ⟨_, rfl⟩
            have HX := Lib.hid hX
            rw [← hX] at LS1 LS2 L0
            clear hC hD hou hX hk6
            go_enter Try.func24, Try.ntmps24
            go_wp2_with fail
            refine (I1.out _ ((H.out.alloc _).alloc _)).mono ?_
            rintro r w1 ⟨rfl, hb1⟩
            obtain ⟨p, rfl⟩ := gw_of_below hb1
            clear hb1
            go_wp2_with fail
            refine (I2.out _ (H2.out.below (by (repeat' (first | (with_reducible exact Below.refl _ _) | (with_reducible assumption) | (with_reducible refine below_drewN ?_ _) | (with_reducible refine Below.drew ?_) | (with_reducible refine Below.alloc ?_ ?_ _) | (with_reducible refine Below.setCell ?_ ?_ _) | (with_reducible refine below_gw ?_ ?_ _) | (with_reducible refine below_via ?_ ‹Below _ _ _› ?_) | (with_reducible exact Nat.le_refl _) | (with_reducible refine le_gw ?_ _) | (with_reducible refine le_alloc ?_ _) | (with_reducible refine le_setCell ?_ _ _) | (with_reducible refine le_drew ?_) | (with_reducible refine le_drewN ?_ _) | go_size))))).mono ?_
            rintro r w1 ⟨rfl, hb1⟩
            obtain ⟨q, rfl⟩ := gw_of_below hb1
            clear hb1 I1 I2
            obtain ⟨w1, hw1, BB⟩ : ∃ w1, w1 = gw (gw ((w.alloc (.cells #[.int .i64 (K : Int), .slice a L.length c, .slice b o.length d] 30)).alloc (.cells #[.int .i64 (K : Int), .slice a2 M.length c2, .slice b2 u.length d2] 30)) p) q ∧ Hid (Below (w.heap.size + 2) ((w.alloc (.cells #[.int .i64 (K : Int), .slice a L.length c, .slice b o.length d] 30)).alloc (.cells #[.int .i64 (K : Int), .slice a2 M.length c2, .slice b2 u.length d2] 30)) w1) := ⟨_, rfl, Lib.hid (by rw [gw_gw]; exact below_gw (Below.refl _ _) (by simp) _)⟩
            rw [← hw1]
            clear hw1
            have hs1 : w.heap.size + 2 ≤ w1.heap.size := by have := BB.out.size; rw [World.size_alloc, World.size_alloc] at this; exact this
            have lt0 : w.heap.size < w1.heap.size := by omega
            have lt1 : w.heap.size + 1 < w1.heap.size := by omega
            have c0 : w1.cell? ⟨w.heap.size, 0, none⟩ = some (.int .i64 (K : Int)) := by rw [BB.out.cell (p := ⟨w.heap.size, 0, none⟩) (by simp)]; simp
            have c1 : w1.cell? ⟨w.heap.size, 1, none⟩ = some (.slice a L.length c) := by rw [BB.out.cell (p := ⟨w.heap.size, 1, none⟩) (by simp)]; simp
            have c2' : w1.cell? ⟨w.heap.size, 2, none⟩ = some (.slice b o.length d) := by rw [BB.out.cell (p := ⟨w.heap.size, 2, none⟩) (by simp)]; simp
            have e0 : w1.cell? ⟨w.heap.size + 1, 0, none⟩ = some (.int .i64 (K : Int)) := by rw [BB.out.cell (p := ⟨w.heap.size + 1, 0, none⟩) (by simp)]; simp
            have e1 : w1.cell? ⟨w.heap.size + 1, 1, none⟩ = some (.slice a2 M.length c2) := by rw [BB.out.cell (p := ⟨w.heap.size + 1, 1, none⟩) (by simp)]; simp
            have e2 : w1.cell? ⟨w.heap.size + 1, 2, none⟩ = some (.slice b2 u.length d2) := by rw [BB.out.cell (p := ⟨w.heap.size + 1, 2, none⟩) (by simp)]; simp
            go_wp2_with (at_make; refine wpList_make_full _ rfl _ _ 23 rfl (w1.heap.size) 3 i0 (.int .i64 0) 1 Try.underlying23 hi hz0 hz1 _ _ _ _ (K) rfl rfl (by first | rfl | omega) (by first | rfl | omega) (by rw [hz2]; omega) (by unfold maxLen; omega) (by first | go_size | (simp only [gw_size, World.size_alloc]; omega) | exact Nat.le_refl _ | omega) ?_)
            clear c0 c1 c2' e0 e1 e2 lt0 lt1
            intro w2 hown hgrow
            obtain ⟨bi, hbi⟩ : ∃ bi, bi = w1.heap.size := ⟨_, rfl⟩
            have HO0 : Hid (w2.ownsRow (w.heap.size + 2) 3 1 (.slice (some ⟨bi, 0, none⟩) K K) K ((List.replicate 0 (-1 : Int) ++ (List.replicate K 0).drop 0).map (Value.int .i64))) := Lib.hid (by
              rw [toList_madeCells_one] at hown
              rw [hbi]
              simpa using own_weak2 hown hs1)
            have BB0 := Lib.hid (BB.out.grown hgrow hs1 (fun q hq => by cases hq))
            have b1 : w.heap.size + 2 ≤ bi := by omega
            rw [← hbi]
            clear hown hgrow BB hs1 hbi
            clear w1
            go_wp2_with fail
            go_loopw [47] (fun i wr => ∃ j : Nat, j ≤ K ∧ i = .int .i64 j ∧ Hid (wr.ownsRow (w.heap.size + 2) 3 1 (.slice (some ⟨bi, 0, none⟩) K K) K ((List.replicate j (-1 : Int) ++ (List.replicate K 0).drop j).map (Value.int .i64))) ∧ Hid (Below (w.heap.size + 2) ((w.alloc (.cells #[.int .i64 (K : Int), .slice a L.length c, .slice b o.length d] 30)).alloc (.cells #[.int .i64 (K : Int), .slice a2 M.length c2, .slice b2 u.length d2] 30)) wr)) (fun i _ => K - (intOf i).toNat)
            case atStart => exact ⟨0, by omega, rfl, HO0, BB0⟩
            case round =>
              clear HO0 BB0
              obtain ⟨j, hj, rfl, HO, BB⟩ := hrel
              have hs1 : w.heap.size + 2 ≤ wr.heap.size := by have := BB.out.size; rw [World.size_alloc, World.size_alloc] at this; exact this
              by_cases hlt : j < K
              · have fz := HO.out.frozenAt j
                have hst := HO.out.stored j (.int .i64 (-1))
                have ck := HO.out.cellAt j (by omega)
                rw [List.getElem?_eq_getElem (by simp; omega)] at ck
                have e3 : ((List.replicate j (-1 : Int) ++ (List.replicate K 0).drop j).map (Value.int .i64)).set j (.int .i64 (-1)) = (List.replicate (j + 1) (-1 : Int) ++ (List.replicate K 0).drop (j + 1)).map (Value.int .i64) := by
                  rw [← List.map_set, Tm.set_step (by simpa using hlt), Tm.rep_step]
                rw [e3] at hst
                obtain ⟨s1, s2⟩ := hst
                have S1 := Lib.hid s1
                have B2 := Lib.hid (BB.out.grown s2 hs1 (fun q hq => by cases hq; exact b1))
                clear e3 s1 s2 HO BB
                go_wp2
                exact ⟨⟨j + 1, by omega, by go_num, S1, B2⟩, by simp [intOf]; omega⟩
              · obtain rfl : j = K := by omega
                have HO1 : Hid (wr.ownsRow (w.heap.size + 2) 3 1 (.slice (some ⟨bi, 0, none⟩) j j) j ((Tm.wordL (-X) j).map (Value.int .i64))) := Lib.hid (by
                  have := HO.out
                  rw [List.drop_eq_nil_of_le (by simp), List.append_nil, ← Tm.word_first, ← HX.out] at this
                  exact this)
                have BB1 := BB
                clear HO BB hs1 hlt hj
                go_wp2_with fail
                go_loopg [] (X - -X).toNat (fun gk wr => ∃ n : Int, -X ≤ n ∧ n ≤ X ∧ gk = (X - n).toNat ∧ Hid (∀ m, -X ≤ m → m < n → Tm.agr L M o u (Tm.wordL m j) = true) ∧ Hid (wr.ownsRow (w.heap.size + 2) 3 1 (.slice (some ⟨bi, 0, none⟩) j j) j ((Tm.wordL n j).map (Value.int .i64))) ∧ Hid (Below (w.heap.size + 2) ((w.alloc (.cells #[.int .i64 (j : Int), .slice a L.length c, .slice b o.length d] 30)).alloc (.cells #[.int .i64 (j : Int), .slice a2 M.length c2, .slice b2 u.length d2] 30)) wr))
                case atStart => exact ⟨-X, by omega, by omega, rfl, Lib.hid (fun m h1 h2 => by omega), HO1, BB1⟩
                case round =>
                  obtain ⟨n, n1, n2, rfl, AG, HO, BB⟩ := hrel
                  have hb0 : Below w.heap.size w wr := (((Below.refl w.heap.size w).alloc (Nat.le_refl _) _).alloc (by simp) _).trans (BB.out.mono (by omega))
                  have hs1 : w.heap.size + 2 ≤ wr.heap.size := by have := BB.out.size; rw [World.size_alloc, World.size_alloc] at this; exact this
                  have lt0 : w.heap.size < wr.heap.size := by omega
                  have lt1 : w.heap.size + 1 < wr.heap.size := by omega
                  have c0 : wr.cell? ⟨w.heap.size, 0, none⟩ = some (.int .i64 (j : Int)) := by rw [BB.out.cell (p := ⟨w.heap.size, 0, none⟩) (by simp)]; simp
                  have c1 : wr.cell? ⟨w.heap.size, 1, none⟩ = some (.slice a L.length c) := by rw [BB.out.cell (p := ⟨w.heap.size, 1, none⟩) (by simp)]; simp
                  have c2' : wr.cell? ⟨w.heap.size, 2, none⟩ = some (.slice b o.length d) := by rw [BB.out.cell (p := ⟨w.heap.size, 2, none⟩) (by simp)]; simp
                  have e0 : wr.cell? ⟨w.heap.size + 1, 0, none⟩ = some (.int .i64 (j : Int)) := by rw [BB.out.cell (p := ⟨w.heap.size + 1, 0, none⟩) (by simp)]; simp
                  have e1 : wr.cell? ⟨w.heap.size + 1, 1, none⟩ = some (.slice a2 M.length c2) := by rw [BB.out.cell (p := ⟨w.heap.size + 1, 1, none⟩) (by simp)]; simp
                  have e2 : wr.cell? ⟨w.heap.size + 1, 2, none⟩ = some (.slice b2 u.length d2) := by rw [BB.out.cell (p := ⟨w.heap.size + 1, 2, none⟩) (by simp)]; simp
                  obtain ⟨f1, f2⟩ := OC.out n
                  obtain ⟨g1, g2⟩ := OD.out n
                  have RC := Lib.hid (fun (w : World) h h2 hz => sRunCircuit (j : Int) a L.length c L b o.length d o (some ⟨bi, 0, none⟩) j j (Tm.wordL n j) w h h2 hz)
                  have RD := Lib.hid (fun (w : World) h h2 hz => sRunCircuit (j : Int) a2 M.length c2 M b2 u.length d2 u (some ⟨bi, 0, none⟩) j j (Tm.wordL n j) w h h2 hz)
                  rw [f1, f2] at RC
                  rw [g1, g2] at RD
                  obtain ⟨Y1, hY1⟩ : ∃ Y, Y = Tm.outsV L o (Tm.wordL n j) := ⟨_, rfl⟩
                  obtain ⟨Y2, hY2⟩ : ∃ Y, Y = Tm.outsV M u (Tm.wordL n j) := ⟨_, rfl⟩
                  rw [← hY1] at RC
                  rw [← hY2] at RD
                  have yl1 : Y1.length = o.length := by rw [hY1, Tm.outsV, List.length_map]
                  have yl2 : Y2.length = u.length := by rw [hY2, Tm.outsV, List.length_map]
                  have YL : Hid (Y1.length = Y2.length) := Lib.hid (by rw [yl1, yl2, HOU.out])
                  have y60 : Y1.length ≤ 60 := by omega
                  have y60' : Y2.length ≤ 60 := by omega
                  have ANO : Hid (∀ t, Y1.getD t 0 ≠ Y2.getD t 0 → Tm.agr L M o u (Tm.wordL n j) = false) := Lib.hid fun t ht => Tm.agr_no (j := t) (by rw [← hY1, ← hY2]; exact ht)
                  have AYES : Hid ((∀ t, t < Y1.length → Y1.getD t 0 = Y2.getD t 0) → Tm.agr L M o u (Tm.wordL n j) = true) := Lib.hid fun h => Tm.agr_of HOU.out (by rw [← hY1, ← hY2, ← yl1]; exact h)
                  have WT : Hid (∀ t, t < j → -1 ≤ (Tm.wordL n j).getD t 0 ∧ (Tm.wordL n j).getD t 0 ≤ 1) := Lib.hid fun t ht => Tm.word_trits n j _ (Tm.getD_mem (by rw [Tm.wordL_length]; exact ht))
                  have WN : Hid (∀ q, q < j → (∀ i, i < q → (Tm.wordL n j).getD i 0 = 1) → (Tm.wordL n j).getD q 0 ≠ 1 → n < X ∧ Tm.wordL (n + 1) j = List.replicate q (-1) ++ ((Tm.wordL n j).getD q 0 + 1) :: (Tm.wordL n j).drop (q + 1)) := Lib.hid fun q hq h1 h2 => by rw [HX.out]; exact Tm.word_next j q n (by rw [← HX.out]; exact n1) (by rw [← HX.out]; exact n2) hq h1 h2
                  have WL : Hid ((∀ i, i < j → (Tm.wordL n j).getD i 0 = 1) → n = X) := Lib.hid fun h => by rw [HX.out]; exact Tm.word_last j n (by rw [← HX.out]; exact n1) (by rw [← HX.out]; exact n2) h
                  have ZL : Hid ((Tm.wordL n j).length = j) := Lib.hid (Tm.wordL_length n j)
                  have NO : Hid (Tm.agr L M o u (Tm.wordL n j) = false → false = Tm.same (j : Int) L o (j : Int) M u) := Lib.hid fun h => by rw [SM.out, Tm.sameAll_no (n := n) (by rw [← HX.out]; exact n1) (by rw [← HX.out]; exact n2) h]
                  have AG1 : Hid (Tm.agr L M o u (Tm.wordL n j) = true → ∀ m, -X ≤ m → m < n + 1 → Tm.agr L M o u (Tm.wordL m j) = true) := Lib.hid fun h m h1 h2 => by
                    by_cases e : m = n
                    · subst e; exact h
                    · exact AG.out m h1 (by omega)
                  obtain ⟨Z, hZ⟩ : ∃ Z, Z = Tm.wordL n j := ⟨_, rfl⟩
                  rw [← hZ] at RC RD HO ANO AYES WT WN WL ZL NO AG1
                  have II := Lib.hid (Ints.of_own HO.out)
                  clear f1 f2 g1 g2 hY1 hY2 yl1 yl2 hZ AG
                  go_wp2_with fail
                  refine (RC.out _ (H.out.below hb0) II.out (fun e => by cases e)).mono ?_
                  rintro r w3 ⟨a3, c3, rfl, hown, hb1, -⟩
                  have I3a := Lib.hid (Ints.of_own hown)
                  obtain ⟨p1, rfl⟩ := gw_of_below hb1
                  clear hown hb1
                  go_wp2_with fail
                  refine (RD.out (gw wr p1) ((H2.out.below hb0).below (below_gw (Below.refl _ _) (Nat.le_refl _) _)) (II.out.gw p1) (fun e => by cases e)).mono ?_
                  rintro r w4 ⟨a4, c4, rfl, hown, hb1, -⟩
                  have I4 := Lib.hid (Ints.of_own hown)
                  have B4 := Lib.hid ((BB.out.trans ((below_gw (Below.refl _ _) (Nat.le_refl _) p1).mono hs1)).trans (hb1.mono (by rw [gw_size]; omega)))
                  have I3 := Lib.hid (I3a.out.below hb1)
                  have HO4 := Lib.hid (own_below (own_below HO.out (below_gw (Below.refl _ _) (Nat.le_refl _) p1)) hb1)
                  clear hown hb1 HO II I3a BB c0 c1 c2' e0 e1 e2 lt0 lt1 RC RD hs1 hb0
                  clear wr p1
                  go_wp2_with fail
                  go_loopw [68] (fun i wv => ∃ q : Nat, q ≤ Y1.length ∧ i = .int .i64 q ∧ Hid (∀ t, t < q → Y1.getD t 0 = Y2.getD t 0) ∧ ∃ dd, wv = w4.drewN dd) (fun i _ => Y1.length - (intOf i).toNat)
                  case atStart => exact ⟨0, by omega, rfl, Lib.hid (fun t ht => by omega), 0, rfl⟩
                  case round =>
                    obtain ⟨q, hq, rfl, EQ, dd, rfl⟩ := hrel
                    have hb4 : Below w.heap.size w (w4.drewN dd) := below_drewN ((((Below.refl w.heap.size w).alloc (Nat.le_refl _) _).alloc (by simp) _).trans (B4.out.mono (by omega))) _
                    by_cases hlt : q < Y1.length
                    · rcases I3.out.2.2.2 with h0 | ⟨b3, o3, rfl, hbl, hc⟩
                      · omega
                      rcases I4.out.2.2.2 with h0 | ⟨b4, o4, rfl, hbl', hc'⟩
                      · have := YL.out; omega
                      have lt2 : q < Y2.length := by have := YL.out; omega
                      have c1 := hc q hlt
                      have c2 := hc' q lt2
                      obtain ⟨x, hx⟩ : ∃ x, x = Y1.getD q 0 := ⟨_, rfl⟩
                      obtain ⟨y, hy⟩ : ∃ y, y = Y2.getD q 0 := ⟨_, rfl⟩
                      rw [← hx] at c1
                      rw [← hy] at c2
                      have XY : Hid (x = Y1.getD q 0 ∧ y = Y2.getD q 0) := Lib.hid ⟨hx, hy⟩
                      clear hc hc' hx hy
                      by_cases exy : x = y
                      · have EX := Lib.hid exy
                        have ne : (x != y) = false := by simpa using exy
                        have EQ2 : Hid (∀ t, t < q + 1 → Y1.getD t 0 = Y2.getD t 0) := Lib.hid fun t ht => by
                          by_cases e : t = q
                          · subst e; rw [← XY.out.1, ← XY.out.2, EX.out]
                          · exact EQ.out t (by omega)
                        clear EQ exy
                        go_wp2
                        go_quiet (fail)
                        go_wp2
                        exact ⟨⟨q + 1, by omega, by go_num, EQ2, dd + nq, rfl⟩, by simp [intOf]; omega⟩
                      · have N2 : Hid (false = Tm.same (j : Int) L o (j : Int) M u) := Lib.hid (NO.out (ANO.out q (by rw [← XY.out.1, ← XY.out.2]; exact exy)))
                        have ne : (x != y) = true := by simpa using exy
                        clear exy
                        go_wp2
                        go_quiet (fail)
                        go_wp2
                        go_ret
                        exact ⟨ret_bool N2.out, below_drewN hb4 _⟩
                    · have AGY := Lib.hid (AG1.out (AYES.out fun t ht => EQ.out t (by omega)))
                      obtain ⟨w5, hw5, HO5, B5⟩ : ∃ w5, w5 = w4.drewN dd ∧ Hid (w5.ownsRow (w.heap.size + 2) 3 1 (.slice (some ⟨bi, 0, none⟩) j j) j ((List.replicate 0 (-1 : Int) ++ Z.drop 0).map (Value.int .i64))) ∧ Hid (Below (w.heap.size + 2) ((w.alloc (.cells #[.int .i64 (j : Int), .slice a L.length c, .slice b o.length d] 30)).alloc (.cells #[.int .i64 (j : Int), .slice a2 M.length c2, .slice b2 u.length d2] 30)) w5) := ⟨_, rfl, HO4, Lib.hid (below_drewN B4.out _)⟩
                      rw [← hw5]
                      clear hw5 HO4 B4 I3 I4 EQ AYES ANO YL NO AG1 hb4 hq
                      go_wp2_with fail
                      go_loopw [12] (fun t wv => ∃ q : Nat, q ≤ j ∧ t = .int .i64 q ∧ Hid (∀ i, i < q → Z.getD i 0 = 1) ∧ Hid (wv.ownsRow (w.heap.size + 2) 3 1 (.slice (some ⟨bi, 0, none⟩) j j) j ((List.replicate q (-1 : Int) ++ Z.drop q).map (Value.int .i64))) ∧ Hid (Below (w.heap.size + 2) ((w.alloc (.cells #[.int .i64 (j : Int), .slice a L.length c, .slice b o.length d] 30)).alloc (.cells #[.int .i64 (j : Int), .slice a2 M.length c2, .slice b2 u.length d2] 30)) wv)) (fun t _ => j - (intOf t).toNat)
                      case atStart => exact ⟨0, by omega, rfl, Lib.hid (fun i hi => by omega), HO5, B5⟩
                      case round =>
                        clear HO5 B5
                        obtain ⟨q, hq, rfl, ON, HO, BB⟩ := hrel
                        have hs1 : w.heap.size + 2 ≤ wr.heap.size := by have := BB.out.size; rw [World.size_alloc, World.size_alloc] at this; exact this
                        have hb0 : Below w.heap.size w wr := (((Below.refl w.heap.size w).alloc (Nat.le_refl _) _).alloc (by simp) _).trans (BB.out.mono (by omega))
                        by_cases hlt : q < j
                        · have zl : q < Z.length := by rw [ZL.out]; exact hlt
                          have fz := HO.out.frozenAt q
                          have ck := own_get HO.out hlt
                          rw [Tm.getD_rep] at ck
                          obtain ⟨t1, t2⟩ := WT.out q hlt
                          have WNq := Lib.hid (WN.out q hlt ON.out)
                          obtain ⟨x, hx⟩ : ∃ x, x = Z.getD q 0 := ⟨_, rfl⟩
                          rw [← hx] at ck t1 t2 WNq
                          by_cases x1 : x = 1
                          · have hx1 : (x == 1) = true := by simpa using x1
                            have hst := HO.out.stored q (.int .i64 (-1))
                            have e3 : ((List.replicate q (-1 : Int) ++ Z.drop q).map (Value.int .i64)).set q (.int .i64 (-1)) = (List.replicate (q + 1) (-1 : Int) ++ Z.drop (q + 1)).map (Value.int .i64) := by
                              rw [← List.map_set, Tm.set_step zl, Tm.rep_step]
                            rw [e3] at hst
                            obtain ⟨s1, s2⟩ := hst
                            have S1 := Lib.hid s1
                            have B2 := Lib.hid (BB.out.grown s2 hs1 (fun q hq => by cases hq; exact b1))
                            have ON2 : Hid (∀ i, i < q + 1 → Z.getD i 0 = 1) := Lib.hid fun i hi => by
                              by_cases e : i = q
                              · subst e; rw [← hx, x1]
                              · exact ON.out i (by omega)
                            subst x1
                            clear e3 s1 s2 HO BB ON hx hx1 WNq
                            go_wp2
                            exact ⟨⟨q + 1, by omega, by go_num, ON2, S1, B2⟩, by simp [intOf]; omega⟩
                          · have hx1 : (x == 1) = false := by simpa using x1
                            obtain ⟨nl, wn⟩ := WNq.out x1
                            have hst := HO.out.stored q (.int .i64 (x + 1))
                            have e3 : ((List.replicate q (-1 : Int) ++ Z.drop q).map (Value.int .i64)).set q (.int .i64 (x + 1)) = (Tm.wordL (n + 1) j).map (Value.int .i64) := by
                              rw [← List.map_set, Tm.set_step zl, wn]
                            rw [e3] at hst
                            obtain ⟨s1, s2⟩ := hst
                            have S1 := Lib.hid s1
                            have B2 := Lib.hid (BB.out.grown s2 hs1 (fun q hq => by cases hq; exact b1))
                            have qj : ((q : Int) == (j : Int)) = false := by rw [beq_eq_false_iff_ne]; omega
                            clear e3 s1 s2 HO BB ON hx x1 wn WNq
                            go_wp2
                            go_roundg ((X - (n + 1)).toNat)
                            case measure => omega
                            case rel => exact ⟨n + 1, by omega, by omega, rfl, AGY, S1, B2⟩
                        · obtain rfl : q = j := by omega
                          have nX := WL.out ON.out
                          have YES : Hid (true = Tm.same (q : Int) L o (q : Int) M u) := Lib.hid (by rw [SM.out, (Tm.sameAll_iff q _).2 (by rw [← HX.out]; exact fun m h1 h2 => AGY.out m h1 (by omega))])
                          clear nX
                          go_wp2
                          go_ret
                          exact ⟨ret_bool YES.out, hb0⟩
          · have NO : Hid (false = Tm.same k L o l M u) := Lib.hid (by rw [Tm.same, decide_eq_false hk6]; simp)
            subst hkl
            have hk7 : 6 < k := by omega
            have hou2 : ((o.length : Int) != (u.length : Int)) = false := by rw [hou]; simp
            clear hk6 hC hD hou
            go_enter Try.func24, Try.ntmps24
            go_wp2_with fail
            refine (I1.out _ ((H.out.alloc _).alloc _)).mono ?_
            rintro r w1 ⟨rfl, hb1⟩
            obtain ⟨p, rfl⟩ := gw_of_below hb1
            clear hb1
            go_wp2_with fail
            refine (I2.out _ (H2.out.below (by (repeat' (first | (with_reducible exact Below.refl _ _) | (with_reducible assumption) | (with_reducible refine below_drewN ?_ _) | (with_reducible refine Below.drew ?_) | (with_reducible refine Below.alloc ?_ ?_ _) | (with_reducible refine Below.setCell ?_ ?_ _) | (with_reducible refine below_gw ?_ ?_ _) | (with_reducible refine below_via ?_ ‹Below _ _ _› ?_) | (with_reducible exact Nat.le_refl _) | (with_reducible refine le_gw ?_ _) | (with_reducible refine le_alloc ?_ _) | (with_reducible refine le_setCell ?_ _ _) | (with_reducible refine le_drew ?_) | (with_reducible refine le_drewN ?_ _) | go_size))))).mono ?_
            rintro r w1 ⟨rfl, hb1⟩
            obtain ⟨q, rfl⟩ := gw_of_below hb1
            clear hb1
            go_wp2
            go_ret
            exact ⟨ret_bool NO.out, by (repeat' (first | (with_reducible exact Below.refl _ _) | (with_reducible assumption) | (with_reducible refine below_drewN ?_ _) | (with_reducible refine Below.drew ?_) | (with_reducible refine Below.alloc ?_ ?_ _) | (with_reducible refine Below.setCell ?_ ?_ _) | (with_reducible refine below_gw ?_ ?_ _) | (with_reducible refine below_via ?_ ‹Below _ _ _› ?_) | (with_reducible exact Nat.le_refl _) | (with_reducible refine le_gw ?_ _) | (with_reducible refine le_alloc ?_ _) | (with_reducible refine le_setCell ?_ _ _) | (with_reducible refine le_drew ?_) | (with_reducible refine le_drewN ?_ _) | go_size))⟩
        · have NO : Hid (false = Tm.same k L o l M u) := Lib.hid (by rw [Tm.same, decide_eq_false hou]; simp)
          subst hkl
          have hou2 : ((o.length : Int) != (u.length : Int)) = true := by rw [bne_iff_ne]; omega
          clear hC hD hou
          by_cases hk6 : k ≤ 6
          · skip
            go_enter Try.func24, Try.ntmps24
            go_wp2_with fail
            refine (I1.out _ ((H.out.alloc _).alloc _)).mono ?_
            rintro r w1 ⟨rfl, hb1⟩
            obtain ⟨p, rfl⟩ := gw_of_below hb1
            clear hb1
            go_wp2_with fail
            refine (I2.out _ (H2.out.below (by (repeat' (first | (with_reducible exact Below.refl _ _) | (with_reducible assumption) | (with_reducible refine below_drewN ?_ _) | (with_reducible refine Below.drew ?_) | (with_reducible refine Below.alloc ?_ ?_ _) | (with_reducible refine Below.setCell ?_ ?_ _) | (with_reducible refine below_gw ?_ ?_ _) | (with_reducible refine below_via ?_ ‹Below _ _ _› ?_) | (with_reducible exact Nat.le_refl _) | (with_reducible refine le_gw ?_ _) | (with_reducible refine le_alloc ?_ _) | (with_reducible refine le_setCell ?_ _ _) | (with_reducible refine le_drew ?_) | (with_reducible refine le_drewN ?_ _) | go_size))))).mono ?_
            rintro r w1 ⟨rfl, hb1⟩
            obtain ⟨q, rfl⟩ := gw_of_below hb1
            clear hb1
            go_wp2
            go_ret
            exact ⟨ret_bool NO.out, by (repeat' (first | (with_reducible exact Below.refl _ _) | (with_reducible assumption) | (with_reducible refine below_drewN ?_ _) | (with_reducible refine Below.drew ?_) | (with_reducible refine Below.alloc ?_ ?_ _) | (with_reducible refine Below.setCell ?_ ?_ _) | (with_reducible refine below_gw ?_ ?_ _) | (with_reducible refine below_via ?_ ‹Below _ _ _› ?_) | (with_reducible exact Nat.le_refl _) | (with_reducible refine le_gw ?_ _) | (with_reducible refine le_alloc ?_ _) | (with_reducible refine le_setCell ?_ _ _) | (with_reducible refine le_drew ?_) | (with_reducible refine le_drewN ?_ _) | go_size))⟩
          · have hk7 : 6 < k := by omega
            clear hk6
            go_enter Try.func24, Try.ntmps24
            go_wp2_with fail
            refine (I1.out _ ((H.out.alloc _).alloc _)).mono ?_
            rintro r w1 ⟨rfl, hb1⟩
            obtain ⟨p, rfl⟩ := gw_of_below hb1
            clear hb1
            go_wp2_with fail
            refine (I2.out _ (H2.out.below (by (repeat' (first | (with_reducible exact Below.refl _ _) | (with_reducible assumption) | (with_reducible refine below_drewN ?_ _) | (with_reducible refine Below.drew ?_) | (with_reducible refine Below.alloc ?_ ?_ _) | (with_reducible refine Below.setCell ?_ ?_ _) | (with_reducible refine below_gw ?_ ?_ _) | (with_reducible refine below_via ?_ ‹Below _ _ _› ?_) | (with_reducible exact Nat.le_refl _) | (with_reducible refine le_gw ?_ _) | (with_reducible refine le_alloc ?_ _) | (with_reducible refine le_setCell ?_ _ _) | (with_reducible refine le_drew ?_) | (with_reducible refine le_drewN ?_ _) | go_size))))).mono ?_
            rintro r w1 ⟨rfl, hb1⟩
            obtain ⟨q, rfl⟩ := gw_of_below hb1
            clear hb1
            go_wp2
            go_ret
            exact ⟨ret_bool NO.out, by (repeat' (first | (with_reducible exact Below.refl _ _) | (with_reducible assumption) | (with_reducible refine below_drewN ?_ _) | (with_reducible refine Below.drew ?_) | (with_reducible refine Below.alloc ?_ ?_ _) | (with_reducible refine Below.setCell ?_ ?_ _) | (with_reducible refine below_gw ?_ ?_ _) | (with_reducible refine below_via ?_ ‹Below _ _ _› ?_) | (with_reducible exact Nat.le_refl _) | (with_reducible refine le_gw ?_ _) | (with_reducible refine le_alloc ?_ _) | (with_reducible refine le_setCell ?_ _ _) | (with_reducible refine le_drew ?_) | (with_reducible refine le_drewN ?_ _) | go_size))⟩
      · have NO : Hid (false = Tm.same k L o l M u) := Lib.hid (by rw [Tm.same, decide_eq_false hkl]; simp)
        have hkl2 : (k != l) = true := by simpa using hkl
        clear hC hD hkl
        by_cases hk6 : k ≤ 6
        · skip
          go_enter Try.func24, Try.ntmps24
          go_wp2_with fail
          refine (I1.out _ ((H.out.alloc _).alloc _)).mono ?_
          rintro r w1 ⟨rfl, hb1⟩
          obtain ⟨p, rfl⟩ := gw_of_below hb1
          clear hb1
          go_wp2_with fail
          refine (I2.out _ (H2.out.below (by (repeat' (first | (with_reducible exact Below.refl _ _) | (with_reducible assumption) | (with_reducible refine below_drewN ?_ _) | (with_reducible refine Below.drew ?_) | (with_reducible refine Below.alloc ?_ ?_ _) | (with_reducible refine Below.setCell ?_ ?_ _) | (with_reducible refine below_gw ?_ ?_ _) | (with_reducible refine below_via ?_ ‹Below _ _ _› ?_) | (with_reducible exact Nat.le_refl _) | (with_reducible refine le_gw ?_ _) | (with_reducible refine le_alloc ?_ _) | (with_reducible refine le_setCell ?_ _ _) | (with_reducible refine le_drew ?_) | (with_reducible refine le_drewN ?_ _) | go_size))))).mono ?_
          rintro r w1 ⟨rfl, hb1⟩
          obtain ⟨q, rfl⟩ := gw_of_below hb1
          clear hb1
          go_wp2
          go_ret
          exact ⟨ret_bool NO.out, by (repeat' (first | (with_reducible exact Below.refl _ _) | (with_reducible assumption) | (with_reducible refine below_drewN ?_ _) | (with_reducible refine Below.drew ?_) | (with_reducible refine Below.alloc ?_ ?_ _) | (with_reducible refine Below.setCell ?_ ?_ _) | (with_reducible refine below_gw ?_ ?_ _) | (with_reducible refine below_via ?_ ‹Below _ _ _› ?_) | (with_reducible exact Nat.le_refl _) | (with_reducible refine le_gw ?_ _) | (with_reducible refine le_alloc ?_ _) | (with_reducible refine le_setCell ?_ _ _) | (with_reducible refine le_drew ?_) | (with_reducible refine le_drewN ?_ _) | go_size))⟩
        · have hk7 : 6 < k := by omega
          clear hk6
          go_enter Try.func24, Try.ntmps24
          go_wp2_with fail
          refine (I1.out _ ((H.out.alloc _).alloc _)).mono ?_
          rintro r w1 ⟨rfl, hb1⟩
          obtain ⟨p, rfl⟩ := gw_of_below hb1
          clear hb1
          go_wp2_with fail
          refine (I2.out _ (H2.out.below (by (repeat' (first | (with_reducible exact Below.refl _ _) | (with_reducible assumption) | (with_reducible refine below_drewN ?_ _) | (with_reducible refine Below.drew ?_) | (with_reducible refine Below.alloc ?_ ?_ _) | (with_reducible refine Below.setCell ?_ ?_ _) | (with_reducible refine below_gw ?_ ?_ _) | (with_reducible refine below_via ?_ ‹Below _ _ _› ?_) | (with_reducible exact Nat.le_refl _) | (with_reducible refine le_gw ?_ _) | (with_reducible refine le_alloc ?_ _) | (with_reducible refine le_setCell ?_ _ _) | (with_reducible refine le_drew ?_) | (with_reducible refine le_drewN ?_ _) | go_size))))).mono ?_
          rintro r w1 ⟨rfl, hb1⟩
          obtain ⟨q, rfl⟩ := gw_of_below hb1
          clear hb1
          go_wp2
          go_ret
          exact ⟨ret_bool NO.out, by (repeat' (first | (with_reducible exact Below.refl _ _) | (with_reducible assumption) | (with_reducible refine below_drewN ?_ _) | (with_reducible refine Below.drew ?_) | (with_reducible refine Below.alloc ?_ ?_ _) | (with_reducible refine Below.setCell ?_ ?_ _) | (with_reducible refine below_gw ?_ ?_ _) | (with_reducible refine below_via ?_ ‹Below _ _ _› ?_) | (with_reducible exact Nat.le_refl _) | (with_reducible refine le_gw ?_ _) | (with_reducible refine le_alloc ?_ _) | (with_reducible refine le_setCell ?_ _ _) | (with_reducible refine le_drew ?_) | (with_reducible refine le_drewN ?_ _) | go_size))⟩
end Go.Proofs.Ytpmdkifnejkofaa

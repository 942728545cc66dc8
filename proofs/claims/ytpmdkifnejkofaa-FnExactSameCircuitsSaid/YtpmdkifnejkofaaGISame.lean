/- Circuits that are compared, both. -/
import Derived.Test.YtpmdkifnejkofaaGI3
import Derived.Test.YtpmdkifnejkofaaGI0
import Derived.Test.YtpmdkifnejkofaaGSMath
namespace Go.Proofs.Ytpmdkifnejkofaa
set_option maxRecDepth 20000
open Go.RowKit
set_option maxHeartbeats 8000000 in
theorem iSameCircuits (k : Int) (a : Option Addr) (n c : Nat) (L : List (Nat → Int)) (b : Option Addr) (m d : Nat) (o : List Int) (l : Int) (a2 : Option Addr) (n2 c2 : Nat) (M : List (Nat → Int)) (b2 : Option Addr) (m2 d2 : Nat) (u : List Int) (w : World) (h : Cs w a n c L b m d o) (h2 : Cs w a2 n2 c2 M b2 m2 d2 u) :
    Calls Try.prog 25 #[circV k a n c b m d, circV l a2 n2 c2 b2 m2 d2] w fun r w' => r = .returned (.bool (Tm.same k L o l M u)) ∧ Below w.heap.size w w' := by
  obtain ⟨i0, hi, hz0, hz1, hz2⟩ := info_parts infoInt
  have H := Lib.hid h
  have H2 := Lib.hid h2
  obtain rfl : L.length = n := h.1.1
  obtain rfl : o.length = m := h.2.1
  obtain rfl : M.length = n2 := h2.1.1
  obtain rfl : u.length = m2 := h2.2.1
  have hd1 := h.2.2.1
  have hd2 := h.2.2.2.1
  have he1 := h2.2.2.1
  have he2 := h2.2.2.2.1
  unfold maxLen at hd2 he2
  have I1 := Lib.hid (fun (w : World) h => iIsCircuit k a L.length c L b o.length d o w h)
  have I2 := Lib.hid (fun (w : World) h => iIsCircuit l a2 M.length c2 M b2 u.length d2 u w h)
  clear h h2
  cases hC : Tm.isCirc k L o with
  | false =>
    rw [hC] at I1
    have NO : Hid (false = Tm.same k L o l M u) := Lib.hid (by rw [Tm.same, hC]; rfl)
    clear hC
    go_enter Try.func25, Try.ntmps25
    go_wp2_with fail
    refine (I1.out _ ((H.out.alloc _).alloc _)).mono ?_
    rintro r w1 ⟨rfl, hb1⟩
    obtain ⟨p, rfl⟩ := gw_of_below hb1
    clear hb1
    go_wp2
    go_ret
    exact ⟨ret_bool NO.out, by (repeat' (first | (with_reducible exact Below.refl _ _) | (with_reducible assumption) | (with_reducible refine below_drewN ?_ _) | (with_reducible refine Below.drew ?_) | (with_reducible refine Below.alloc ?_ ?_ _) | (with_reducible refine Below.setCell ?_ ?_ _) | (with_reducible refine below_gw ?_ ?_ _) | (with_reducible refine below_via ?_ ‹Below _ _ _› ?_) | (with_reducible exact Nat.le_refl _) | (with_reducible refine le_gw ?_ _) | (with_reducible refine le_alloc ?_ _) | (with_reducible refine le_setCell ?_ _ _) | (with_reducible refine le_drew ?_) | (with_reducible refine le_drewN ?_ _) | go_size))⟩
  | true =>
    rw [hC] at I1
    cases hD : Tm.isCirc l M u with
    | false =>
      rw [hD] at I2
      have NO : Hid (false = Tm.same k L o l M u) := Lib.hid (by rw [Tm.same, hD]; simp)
      clear hD hC
      go_enter Try.func25, Try.ntmps25
      go_wp2_with fail
      refine (I1.out _ ((H.out.alloc _).alloc _)).mono ?_
      rintro r w1 ⟨rfl, hb1⟩
      obtain ⟨p, rfl⟩ := gw_of_below hb1
      clear hb1
      go_wp2_with fail
      refine (I2.out _ (H2.out.below (by (repeat' (first | (with_reducible exact Below.refl _ _) | (with_reducible assumption) | (with_reducible refine below_drewN ?_ _) | (with_reducible refine Below.drew ?_) | (with_reducible refine Below.alloc ?_ ?_ _) | (with_reducible refine Below.setCell ?_ ?_ _) | (with_reducible refine below_gw ?_ ?_ _) | (with_reducible refine below_via ?_ ‹Below _ _ _› ?_) | (with_reducible exact Nat.le_refl _) | (with_reducible refine le_gw ?_ _) | (with_reducible refine le_alloc ?_ _) | (with_reducible refine le_setCell ?_ _ _) | (with_reducible refine le_drew ?_) | (with_reducible refine le_drewN ?_ _) | go_size))))).mono ?_
      rintro r w1 ⟨rfl, hb1⟩
      obtain ⟨q, rfl⟩ := gw_of_below hb1
      clear hb1
      go_wp2
      go_ret
      exact ⟨ret_bool NO.out, by (repeat' (first | (with_reducible exact Below.refl _ _) | (with_reducible assumption) | (with_reducible refine below_drewN ?_ _) | (with_reducible refine Below.drew ?_) | (with_reducible refine Below.alloc ?_ ?_ _) | (with_reducible refine Below.setCell ?_ ?_ _) | (with_reducible refine below_gw ?_ ?_ _) | (with_reducible refine below_via ?_ ‹Below _ _ _› ?_) | (with_reducible exact Nat.le_refl _) | (with_reducible refine le_gw ?_ _) | (with_reducible refine le_alloc ?_ _) | (with_reducible refine le_setCell ?_ _ _) | (with_reducible refine le_drew ?_) | (with_reducible refine le_drewN ?_ _) | go_size))⟩
    | true =>
      rw [hD] at I2
      have hCi := (Tm.isCirc_iff _ _ _).1 hC
      have hDi := (Tm.isCirc_iff _ _ _).1 hD
      obtain ⟨⟨k1, k2⟩, -, hm, -⟩ := hCi
      obtain ⟨⟨l1, l2⟩, -, hm2, -⟩ := hDi
      by_cases hkl : k = l
      · by_cases hou : o.length = u.length
        · by_cases hk6 : k ≤ 6
          · subst hkl
            obtain ⟨K, rfl⟩ : ∃ K : Nat, k = (K : Int) := ⟨k.toNat, by omega⟩
            have K6 : K ≤ 6 := by omega
            have SM : Hid (Tm.same (K : Int) L o (K : Int) M u = Tm.sameAll K (Tm.agr L M o u)) := Lib.hid (by rw [Tm.same, hC, hD, decide_eq_true rfl, decide_eq_true hou, decide_eq_true hk6, Int.toNat_natCast]; rfl)
            have OC := Lib.hid (Tm.on_word (o := o) hC)
            have OD := Lib.hid (Tm.on_word (o := u) hD)
            have HOU := Lib.hid hou
            have hou2 : ((o.length : Int) != (u.length : Int)) = false := by rw [hou]; simp
            have LS := Tm.lim_small K6
            obtain ⟨LS1, LS2⟩ := LS
            have LS1 := Lib.hid LS1
            have L0 := Tm.limN_nonneg K
            obtain ⟨X, hX⟩ : ∃ X, X = Tm.limN K := ⟨_, rfl⟩
            have HX := Lib.hid hX
            rw [← hX] at LS1 LS2 L0
            clear hC hD hou hX hk6
            go_enter Try.func25, Try.ntmps25
            go_wp2_with fail
            refine (I1.out _ ((H.out.alloc _).alloc _)).mono ?_
            rintro r w1 ⟨rfl, hb1⟩
            obtain ⟨p, rfl⟩ := gw_of_below hb1
            clear hb1
            go_wp2_with fail
            refine (I2.out _ (H2.out.below (by (repeat' (first | (with_reducible exact Below.refl _ _) | (with_reducible assumption) | (with_reducible refine below_drewN ?_ _) | (with_reducible refine Below.drew ?_) | (with_reducible refine Below.alloc ?_ ?_ _) | (with_reducible refine Below.setCell ?_ ?_ _) | (with_reducible refine below_gw ?_ ?_ _) | (with_reducible refine below_via ?_ ‹Below _ _ _› ?_) | (with_reducible exact Nat.le_refl _) | (with_reducible refine le_gw ?_ _) | (with_reducible refine le_alloc ?_ _) | (with_reducible refine le_setCell ?_ _ _) | (with_reducible refine le_drew ?_) | (with_reducible refine le_drewN ?_ _) | go_size))))).mono ?_
            rintro r w1 ⟨rfl, hb1⟩
            obtain ⟨q, rfl⟩ := gw_of_below hb1
            clear hb1 I1 I2
            have W0 : Hid (Below w.heap.size w (gw ((w.alloc (.cells #[.int .i64 (K : Int), .slice a L.length c, .slice b o.length d] 30)).alloc (.cells #[.int .i64 (K : Int), .slice a2 M.length c2, .slice b2 u.length d2] 30)) (gcat p q))) := Lib.hid (by (repeat' (first | (with_reducible exact Below.refl _ _) | (with_reducible assumption) | (with_reducible refine below_drewN ?_ _) | (with_reducible refine Below.drew ?_) | (with_reducible refine Below.alloc ?_ ?_ _) | (with_reducible refine Below.setCell ?_ ?_ _) | (with_reducible refine below_gw ?_ ?_ _) | (with_reducible refine below_via ?_ ‹Below _ _ _› ?_) | (with_reducible exact Nat.le_refl _) | (with_reducible refine le_gw ?_ _) | (with_reducible refine le_alloc ?_ _) | (with_reducible refine le_setCell ?_ _ _) | (with_reducible refine le_drew ?_) | (with_reducible refine le_drewN ?_ _) | go_size)))
            go_wp2_with fail
            refine (iLimitOf _ _).mono ?_
            rw [LS1.out]
            rintro r w1 ⟨rfl, rfl⟩
            go_wp2_with fail
            go_loopw [6] (fun i wr => ∃ n : Int, -X ≤ n ∧ n ≤ X + 1 ∧ i = .int .i64 n ∧ Hid (∀ m, -X ≤ m → m < n → Tm.agr L M o u (Tm.wordL m K) = true) ∧ Hid (Below (w.heap.size + 2) ((w.alloc (.cells #[.int .i64 (K : Int), .slice a L.length c, .slice b o.length d] 30)).alloc (.cells #[.int .i64 (K : Int), .slice a2 M.length c2, .slice b2 u.length d2] 30)) wr)) (fun i _ => (X + 1 - intOf i).toNat)
            case atStart => exact ⟨-X, by omega, by omega, rfl, Lib.hid (fun m h1 h2 => by omega), Lib.hid ((below_gw (Below.refl _ _) (by simp) _))⟩
            case round =>
              obtain ⟨n, n1, n2, rfl, AG, BB⟩ := hrel
              have hb0 : Below w.heap.size w wr := (((Below.refl w.heap.size w).alloc (Nat.le_refl _) _).alloc (by simp) _).trans (BB.out.mono (by omega))
              have hs1 : w.heap.size + 2 ≤ wr.heap.size := by have := BB.out.size; rw [World.size_alloc, World.size_alloc] at this; exact this
              have lt0 : w.heap.size < wr.heap.size := by omega
              have lt1 : w.heap.size + 1 < wr.heap.size := by omega
              have c0 : wr.cell? ⟨w.heap.size, 0, none⟩ = some (.int .i64 (K : Int)) := by rw [BB.out.cell (p := ⟨w.heap.size, 0, none⟩) (by simp)]; simp
              have c1 : wr.cell? ⟨w.heap.size, 1, none⟩ = some (.slice a L.length c) := by rw [BB.out.cell (p := ⟨w.heap.size, 1, none⟩) (by simp)]; simp
              have c2' : wr.cell? ⟨w.heap.size, 2, none⟩ = some (.slice b o.length d) := by rw [BB.out.cell (p := ⟨w.heap.size, 2, none⟩) (by simp)]; simp
              have e0 : wr.cell? ⟨w.heap.size + 1, 0, none⟩ = some (.int .i64 (K : Int)) := by rw [BB.out.cell (p := ⟨w.heap.size + 1, 0, none⟩) (by simp)]; simp
              have e1 : wr.cell? ⟨w.heap.size + 1, 1, none⟩ = some (.slice a2 M.length c2) := by rw [BB.out.cell (p := ⟨w.heap.size + 1, 1, none⟩) (by simp)]; simp
              have e2 : wr.cell? ⟨w.heap.size + 1, 2, none⟩ = some (.slice b2 u.length d2) := by rw [BB.out.cell (p := ⟨w.heap.size + 1, 2, none⟩) (by simp)]; simp
              by_cases hlt : n ≤ X
              · have WO := Lib.hid (fun w => iWordOf n (K : Int) w)
                rw [Tm.word_small K6 (by rw [← HX.out]; exact n1) (by rw [← HX.out]; exact hlt)] at WO
                obtain ⟨f1, f2⟩ := OC.out n
                obtain ⟨g1, g2⟩ := OD.out n
                have RC := Lib.hid (fun (ai : Option Addr) (ci : Nat) (w : World) h h2 hz => iRunCircuit (K : Int) a L.length c L b o.length d o ai (Tm.wordL n K).length ci (Tm.wordL n K) w h h2 hz)
                have RD := Lib.hid (fun (ai : Option Addr) (ci : Nat) (w : World) h h2 hz => iRunCircuit (K : Int) a2 M.length c2 M b2 u.length d2 u ai (Tm.wordL n K).length ci (Tm.wordL n K) w h h2 hz)
                rw [f1, f2] at RC
                rw [g1, g2] at RD
                obtain ⟨Y1, hY1⟩ : ∃ Y, Y = Tm.outsV L o (Tm.wordL n K) := ⟨_, rfl⟩
                obtain ⟨Y2, hY2⟩ : ∃ Y, Y = Tm.outsV M u (Tm.wordL n K) := ⟨_, rfl⟩
                rw [← hY1] at RC
                rw [← hY2] at RD
                have ES := Lib.hid (fun (a1 a2 : Option Addr) (c1 c2 : Nat) (w : World) h h2 => iEqualS a1 Y1.length c1 Y1 a2 Y2.length c2 Y2 w h h2)
                have AE : Hid (Tm.agr L M o u (Tm.wordL n K) = decide (Y1 = Y2)) := Lib.hid (by rw [Tm.agr, hY1, hY2])
                obtain ⟨Z, hZ⟩ : ∃ Z, Z = Tm.wordL n K := ⟨_, rfl⟩
                rw [← hZ] at WO RC RD
                have HZ := Lib.hid hZ
                clear f1 f2 g1 g2 hY1 hY2 hZ
                go_wp2_with fail
                refine (WO.out _).mono ?_
                rintro r w2 ⟨ai, ci, rfl, hown, hb1, -⟩
                have II := Lib.hid (Ints.of_own hown)
                have NZ := Lib.hid (own_nilc hown)
                obtain ⟨p1, rfl⟩ := gw_of_below hb1
                clear hown hb1
                go_wp2_with fail
                refine (RC.out ai ci (gw wr p1) ((H.out.below hb0).below (below_gw (Below.refl _ _) (Nat.le_refl _) _)) II.out NZ.out).mono ?_
                rintro r w3 ⟨a3, c3, rfl, hown, hb1, -⟩
                have I3 := Lib.hid (Ints.of_own hown)
                obtain ⟨p2, hp2⟩ := gw_of_below hb1
                rw [gw_gw] at hp2
                subst hp2
                clear hown hb1
                go_wp2_with fail
                refine (RD.out ai ci (gw wr (gcat p1 p2)) ((H2.out.below hb0).below (below_gw (Below.refl _ _) (Nat.le_refl _) _)) (by have := II.out.gw p2; rw [gw_gw] at this; exact this) NZ.out).mono ?_
                rintro r w4 ⟨a4, c4, rfl, hown, hb1, -⟩
                have I4 := Lib.hid (Ints.of_own hown)
                obtain ⟨p3, hp3⟩ := gw_of_below hb1
                rw [gw_gw] at hp3
                subst hp3
                clear hown hb1
                go_wp2_with fail
                refine (ES.out a3 a4 c3 c4 (gw wr (gcat (gcat p1 p2) p3)) (by have := I3.out.gw p3; rw [gw_gw] at this; exact this) I4.out).mono ?_
                rintro r w5 ⟨rfl, hb1⟩
                obtain ⟨p4, hp4⟩ := gw_of_below hb1
                rw [gw_gw] at hp4
                subst hp4
                clear hb1
                have B3 : Hid (Below (w.heap.size + 2) ((w.alloc (.cells #[.int .i64 (K : Int), .slice a L.length c, .slice b o.length d] 30)).alloc (.cells #[.int .i64 (K : Int), .slice a2 M.length c2, .slice b2 u.length d2] 30)) (gw wr (gcat (gcat (gcat p1 p2) p3) p4))) := Lib.hid (below_gw BB.out hs1 _)
                cases hY : decide (Y1 = Y2) with
                | false =>
                  have NO : Hid (false = Tm.same (K : Int) L o (K : Int) M u) := Lib.hid (by rw [SM.out, Tm.sameAll_no (n := n) (by rw [← HX.out]; exact n1) (by rw [← HX.out]; exact hlt) (by rw [AE.out]; exact hY)])
                  clear hY
                  go_wp2
                  go_ret
                  exact ⟨ret_bool NO.out, below_gw hb0 (by omega) _⟩
                | true =>
                  have AG2 : Hid (∀ m, -X ≤ m → m < n + 1 → Tm.agr L M o u (Tm.wordL m K) = true) := Lib.hid fun m h1 h2 => by
                    by_cases e : m = n
                    · subst e; rw [AE.out]; exact hY
                    · exact AG.out m h1 (by omega)
                  clear hY AG
                  go_wp2
                  go_roundw
                  case rel => exact ⟨n + 1, by omega, by omega, rfl, AG2, B3⟩
                  case measure => simp [intOf]; omega
              · obtain rfl : n = X + 1 := by omega
                go_wp2
                go_ret
                exact ⟨ret_bool (by rw [SM.out, (Tm.sameAll_iff K _).2 (by rw [← HX.out]; exact fun n h1 h2 => AG.out n h1 (by omega))]), hb0⟩
          · have NO : Hid (false = Tm.same k L o l M u) := Lib.hid (by rw [Tm.same, decide_eq_false hk6]; simp)
            subst hkl
            have hk7 : 6 < k := by omega
            have hou2 : ((o.length : Int) != (u.length : Int)) = false := by rw [hou]; simp
            clear hk6 hC hD hou
            go_enter Try.func25, Try.ntmps25
            go_wp2_with fail
            refine (I1.out _ ((H.out.alloc _).alloc _)).mono ?_
            rintro r w1 ⟨rfl, hb1⟩
            obtain ⟨p, rfl⟩ := gw_of_below hb1
            clear hb1
            go_wp2_with fail
            refine (I2.out _ (H2.out.below (by (repeat' (first | (with_reducible exact Below.refl _ _) | (with_reducible assumption) | (with_reducible refine below_drewN ?_ _) | (with_reducible refine Below.drew ?_) | (with_reducible refine Below.alloc ?_ ?_ _) | (with_reducible refine Below.setCell ?_ ?_ _) | (with_reducible refine below_gw ?_ ?_ _) | (with_reducible refine below_via ?_ ‹Below _ _ _› ?_) | (with_reducible exact Nat.le_refl _) | (with_reducible refine le_gw ?_ _) | (with_reducible refine le_alloc ?_ _) | (with_reducible refine le_setCell ?_ _ _) | (with_reducible refine le_drew ?_) | (with_reducible refine le_drewN ?_ _) | go_size))))).mono ?_
            rintro r w1 ⟨rfl, hb1⟩
            obtain ⟨q, rfl⟩ := gw_of_below hb1
            clear hb1
            go_wp2
            go_ret
            exact ⟨ret_bool NO.out, by (repeat' (first | (with_reducible exact Below.refl _ _) | (with_reducible assumption) | (with_reducible refine below_drewN ?_ _) | (with_reducible refine Below.drew ?_) | (with_reducible refine Below.alloc ?_ ?_ _) | (with_reducible refine Below.setCell ?_ ?_ _) | (with_reducible refine below_gw ?_ ?_ _) | (with_reducible refine below_via ?_ ‹Below _ _ _› ?_) | (with_reducible exact Nat.le_refl _) | (with_reducible refine le_gw ?_ _) | (with_reducible refine le_alloc ?_ _) | (with_reducible refine le_setCell ?_ _ _) | (with_reducible refine le_drew ?_) | (with_reducible refine le_drewN ?_ _) | go_size))⟩
        · have NO : Hid (false = Tm.same k L o l M u) := Lib.hid (by rw [Tm.same, decide_eq_false hou]; simp)
          subst hkl
          have hou2 : ((o.length : Int) != (u.length : Int)) = true := by rw [bne_iff_ne]; omega
          clear hC hD hou
          by_cases hk6 : k ≤ 6
          · skip
            go_enter Try.func25, Try.ntmps25
            go_wp2_with fail
            refine (I1.out _ ((H.out.alloc _).alloc _)).mono ?_
            rintro r w1 ⟨rfl, hb1⟩
            obtain ⟨p, rfl⟩ := gw_of_below hb1
            clear hb1
            go_wp2_with fail
            refine (I2.out _ (H2.out.below (by (repeat' (first | (with_reducible exact Below.refl _ _) | (with_reducible assumption) | (with_reducible refine below_drewN ?_ _) | (with_reducible refine Below.drew ?_) | (with_reducible refine Below.alloc ?_ ?_ _) | (with_reducible refine Below.setCell ?_ ?_ _) | (with_reducible refine below_gw ?_ ?_ _) | (with_reducible refine below_via ?_ ‹Below _ _ _› ?_) | (with_reducible exact Nat.le_refl _) | (with_reducible refine le_gw ?_ _) | (with_reducible refine le_alloc ?_ _) | (with_reducible refine le_setCell ?_ _ _) | (with_reducible refine le_drew ?_) | (with_reducible refine le_drewN ?_ _) | go_size))))).mono ?_
            rintro r w1 ⟨rfl, hb1⟩
            obtain ⟨q, rfl⟩ := gw_of_below hb1
            clear hb1
            go_wp2
            go_ret
            exact ⟨ret_bool NO.out, by (repeat' (first | (with_reducible exact Below.refl _ _) | (with_reducible assumption) | (with_reducible refine below_drewN ?_ _) | (with_reducible refine Below.drew ?_) | (with_reducible refine Below.alloc ?_ ?_ _) | (with_reducible refine Below.setCell ?_ ?_ _) | (with_reducible refine below_gw ?_ ?_ _) | (with_reducible refine below_via ?_ ‹Below _ _ _› ?_) | (with_reducible exact Nat.le_refl _) | (with_reducible refine le_gw ?_ _) | (with_reducible refine le_alloc ?_ _) | (with_reducible refine le_setCell ?_ _ _) | (with_reducible refine le_drew ?_) | (with_reducible refine le_drewN ?_ _) | go_size))⟩
          · have hk7 : 6 < k := by omega
            clear hk6
            go_enter Try.func25, Try.ntmps25
            go_wp2_with fail
            refine (I1.out _ ((H.out.alloc _).alloc _)).mono ?_
            rintro r w1 ⟨rfl, hb1⟩
            obtain ⟨p, rfl⟩ := gw_of_below hb1
            clear hb1
            go_wp2_with fail
            refine (I2.out _ (H2.out.below (by (repeat' (first | (with_reducible exact Below.refl _ _) | (with_reducible assumption) | (with_reducible refine below_drewN ?_ _) | (with_reducible refine Below.drew ?_) | (with_reducible refine Below.alloc ?_ ?_ _) | (with_reducible refine Below.setCell ?_ ?_ _) | (with_reducible refine below_gw ?_ ?_ _) | (with_reducible refine below_via ?_ ‹Below _ _ _› ?_) | (with_reducible exact Nat.le_refl _) | (with_reducible refine le_gw ?_ _) | (with_reducible refine le_alloc ?_ _) | (with_reducible refine le_setCell ?_ _ _) | (with_reducible refine le_drew ?_) | (with_reducible refine le_drewN ?_ _) | go_size))))).mono ?_
            rintro r w1 ⟨rfl, hb1⟩
            obtain ⟨q, rfl⟩ := gw_of_below hb1
            clear hb1
            go_wp2
            go_ret
            exact ⟨ret_bool NO.out, by (repeat' (first | (with_reducible exact Below.refl _ _) | (with_reducible assumption) | (with_reducible refine below_drewN ?_ _) | (with_reducible refine Below.drew ?_) | (with_reducible refine Below.alloc ?_ ?_ _) | (with_reducible refine Below.setCell ?_ ?_ _) | (with_reducible refine below_gw ?_ ?_ _) | (with_reducible refine below_via ?_ ‹Below _ _ _› ?_) | (with_reducible exact Nat.le_refl _) | (with_reducible refine le_gw ?_ _) | (with_reducible refine le_alloc ?_ _) | (with_reducible refine le_setCell ?_ _ _) | (with_reducible refine le_drew ?_) | (with_reducible refine le_drewN ?_ _) | go_size))⟩
      · have NO : Hid (false = Tm.same k L o l M u) := Lib.hid (by rw [Tm.same, decide_eq_false hkl]; simp)
        have hkl2 : (k != l) = true := by simpa using hkl
        clear hC hD hkl
        by_cases hk6 : k ≤ 6
        · skip
          go_enter Try.func25, Try.ntmps25
          go_wp2_with fail
          refine (I1.out _ ((H.out.alloc _).alloc _)).mono ?_
          rintro r w1 ⟨rfl, hb1⟩
          obtain ⟨p, rfl⟩ := gw_of_below hb1
          clear hb1
          go_wp2_with fail
          refine (I2.out _ (H2.out.below (by (repeat' (first | (with_reducible exact Below.refl _ _) | (with_reducible assumption) | (with_reducible refine below_drewN ?_ _) | (with_reducible refine Below.drew ?_) | (with_reducible refine Below.alloc ?_ ?_ _) | (with_reducible refine Below.setCell ?_ ?_ _) | (with_reducible refine below_gw ?_ ?_ _) | (with_reducible refine below_via ?_ ‹Below _ _ _› ?_) | (with_reducible exact Nat.le_refl _) | (with_reducible refine le_gw ?_ _) | (with_reducible refine le_alloc ?_ _) | (with_reducible refine le_setCell ?_ _ _) | (with_reducible refine le_drew ?_) | (with_reducible refine le_drewN ?_ _) | go_size))))).mono ?_
          rintro r w1 ⟨rfl, hb1⟩
          obtain ⟨q, rfl⟩ := gw_of_below hb1
          clear hb1
          go_wp2
          go_ret
          exact ⟨ret_bool NO.out, by (repeat' (first | (with_reducible exact Below.refl _ _) | (with_reducible assumption) | (with_reducible refine below_drewN ?_ _) | (with_reducible refine Below.drew ?_) | (with_reducible refine Below.alloc ?_ ?_ _) | (with_reducible refine Below.setCell ?_ ?_ _) | (with_reducible refine below_gw ?_ ?_ _) | (with_reducible refine below_via ?_ ‹Below _ _ _› ?_) | (with_reducible exact Nat.le_refl _) | (with_reducible refine le_gw ?_ _) | (with_reducible refine le_alloc ?_ _) | (with_reducible refine le_setCell ?_ _ _) | (with_reducible refine le_drew ?_) | (with_reducible refine le_drewN ?_ _) | go_size))⟩
        · have hk7 : 6 < k := by omega
          clear hk6
          go_enter Try.func25, Try.ntmps25
          go_wp2_with fail
          refine (I1.out _ ((H.out.alloc _).alloc _)).mono ?_
          rintro r w1 ⟨rfl, hb1⟩
          obtain ⟨p, rfl⟩ := gw_of_below hb1
          clear hb1
          go_wp2_with fail
          refine (I2.out _ (H2.out.below (by (repeat' (first | (with_reducible exact Below.refl _ _) | (with_reducible assumption) | (with_reducible refine below_drewN ?_ _) | (with_reducible refine Below.drew ?_) | (with_reducible refine Below.alloc ?_ ?_ _) | (with_reducible refine Below.setCell ?_ ?_ _) | (with_reducible refine below_gw ?_ ?_ _) | (with_reducible refine below_via ?_ ‹Below _ _ _› ?_) | (with_reducible exact Nat.le_refl _) | (with_reducible refine le_gw ?_ _) | (with_reducible refine le_alloc ?_ _) | (with_reducible refine le_setCell ?_ _ _) | (with_reducible refine le_drew ?_) | (with_reducible refine le_drewN ?_ _) | go_size))))).mono ?_
          rintro r w1 ⟨rfl, hb1⟩
          obtain ⟨q, rfl⟩ := gw_of_below hb1
          clear hb1
          go_wp2
          go_ret
          exact ⟨ret_bool NO.out, by (repeat' (first | (with_reducible exact Below.refl _ _) | (with_reducible assumption) | (with_reducible refine below_drewN ?_ _) | (with_reducible refine Below.drew ?_) | (with_reducible refine Below.alloc ?_ ?_ _) | (with_reducible refine Below.setCell ?_ ?_ _) | (with_reducible refine below_gw ?_ ?_ _) | (with_reducible refine below_via ?_ ‹Below _ _ _› ?_) | (with_reducible exact Nat.le_refl _) | (with_reducible refine le_gw ?_ _) | (with_reducible refine le_alloc ?_ _) | (with_reducible refine le_setCell ?_ _ _) | (with_reducible refine le_drew ?_) | (with_reducible refine le_drewN ?_ _) | go_size))⟩
end Go.Proofs.Ytpmdkifnejkofaa

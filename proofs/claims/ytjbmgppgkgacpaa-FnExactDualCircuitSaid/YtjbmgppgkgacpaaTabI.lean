/- The program's IsTable compares a table with its signs. -/
import Derived.Test.YtjbmgppgkgacpaaTab
namespace Go.Proofs.Ytjbmgppgkgacpaa
set_option maxRecDepth 20000
open Go.RowKit
theorem run_equalIn_arr9 {P : Program} (w : World) (d : Nat) (t e : TypeId) (x0 x1 x2 x3 x4 x5 x6 x7 x8 y0 y1 y2 y3 y4 y5 y6 y7 y8 : Int) (ht : P.underlying t = some (.array 9 e)) (he : P.underlying e = some (.int .i64))
    (hp : ∀ (xs : Array Value) (i : Nat) (v : Value) (w : World), xs[i]? = some v → (part e xs i).run P w = .ok v w) (hs : ∀ w, (sizeOf e).run P w = .ok 1 w) :
    (Op.equalIn (d + 2) t (.agg #[.int .i64 x0, .int .i64 x1, .int .i64 x2, .int .i64 x3, .int .i64 x4, .int .i64 x5, .int .i64 x6, .int .i64 x7, .int .i64 x8]) (.agg #[.int .i64 y0, .int .i64 y1, .int .i64 y2, .int .i64 y3, .int .i64 y4, .int .i64 y5, .int .i64 y6, .int .i64 y7, .int .i64 y8])).run P w
      = .ok (x0 == y0 && x1 == y1 && x2 == y2 && x3 == y3 && x4 == y4 && x5 == y5 && x6 == y6 && x7 == y7 && x8 == y8) w := by
  have hi : ∀ (a b : Int) (w : World), (Op.equalIn (d + 1) e (.int .i64 a) (.int .i64 b)).run P w = .ok (a == b) w := fun a b w => run_equalIn_int w d e .i64 .i64 a b he
  rw [Op.equalIn]
  simp only [Sem.run_bind, run_underlying ht, Result.andThen_ok, hs]
  rw [Std.Legacy.Range.forIn_eq_forIn_range']
  simp [Std.Legacy.Range.size, List.range', hp, hi]
  repeat' split
  all_goals simp_all
theorem eqTab (x0 x1 x2 x3 x4 x5 x6 x7 x8 y0 y1 y2 y3 y4 y5 y6 y7 y8 : Int) (w : World) :
    (Op.equalIn 10000 33 (.agg #[.int .i64 x0, .int .i64 x1, .int .i64 x2, .int .i64 x3, .int .i64 x4, .int .i64 x5, .int .i64 x6, .int .i64 x7, .int .i64 x8]) (.agg #[.int .i64 y0, .int .i64 y1, .int .i64 y2, .int .i64 y3, .int .i64 y4, .int .i64 y5, .int .i64 y6, .int .i64 y7, .int .i64 y8])).run Try.prog w
      = .ok (x0 == y0 && x1 == y1 && x2 == y2 && x3 == y3 && x4 == y4 && x5 == y5 && x6 == y6 && x7 == y7 && x8 == y8) w :=
  run_equalIn_arr9 w 9998 33 3 _ _ _ _ _ _ _ _ _ _ _ _ _ _ _ _ _ _ Try.underlying33 Try.underlying3 (fun xs i v w h => run_part_plain w (by kernel_rfl) h) (fun w => by kernel_rfl)
theorem isTab_sgn (f : Nat → Int) : (f 0 == Tm.sgn (f 0) && f 1 == Tm.sgn (f 1) && f 2 == Tm.sgn (f 2) && f 3 == Tm.sgn (f 3) && f 4 == Tm.sgn (f 4) && f 5 == Tm.sgn (f 5) && f 6 == Tm.sgn (f 6) && f 7 == Tm.sgn (f 7) && f 8 == Tm.sgn (f 8)) = Tm.isTab f := by
  have h : ∀ a : Int, (a == Tm.sgn a) = Tm.isT a := by intro a; simp only [Tm.sgn, Tm.isT]; grind
  simp only [h, Tm.isTab]
theorem iIsTable (f : Nat → Int) (w : World) : Calls Try.prog 33 #[tabV f] w fun e w' => e = .returned (.bool (Tm.isTab f)) ∧ Below w.heap.size w w' := by
  have he := eqTab
  go_enter Try.func33, Try.ntmps33
  go_wp2_with fail
  (refine wp_region_quiet_below (by kernel_rfl) (by kernel_rfl) ?_; (repeat (go_big_quiet_step ((go_at_call 58; exact met_below (fun _ => iSignTable f _))))); refine wpQuiet_nil ?_; intro wq hwq; obtain ⟨pq, hpq⟩ := hwq; have hpq' : wq = gw _ pq := hpq; clear hpq; subst hpq')
  go_wp2
  go_ret
  exact ⟨ret_bool (isTab_sgn f), by (repeat' (first | (with_reducible exact Below.refl _ _) | (with_reducible assumption) | (with_reducible refine below_drewN ?_ _) | (with_reducible refine Below.drew ?_) | (with_reducible refine Below.alloc ?_ ?_ _) | (with_reducible refine Below.setCell ?_ ?_ _) | (with_reducible refine below_gw ?_ ?_ _) | (with_reducible refine below_via ?_ ‹Below _ _ _› ?_) | (with_reducible exact Nat.le_refl _) | (with_reducible refine le_gw ?_ _) | (with_reducible refine le_alloc ?_ _) | (with_reducible refine le_setCell ?_ _ _) | (with_reducible refine le_drew ?_) | (with_reducible refine le_drewN ?_ _) | go_size))⟩
end Go.Proofs.Ytjbmgppgkgacpaa

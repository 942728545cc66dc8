/- For every input the law FnStack returns true, and each argument reads afterwards as it read before; the listed variables of the library hold what the program's text lays (tied). -/
import Derived.Test.YtfnhoiomdjmjhaaDoorRows
import Derived.Test.YtfnhoiomdjmjhaaDoorCards
import Derived.Test.YtfnhoiomdjmjhaaDoorTie
import Derived.Test.YtfnhoiomdjmjhaaDoorOpen
import Derived.Test.YtfnhoiomdjmjhaaDoorMTab
import Derived.Test.YtfnhoiomdjmjhaaDoorMLk
import Derived.SevenTiedAt
import Derived.LaidLaws
import Derived.Stop.LaidErr
import Derived.Lib.LaidTab
import Derived.SizedLaws
import Derived.OpenVars
namespace Go.Proofs.YtfnhoiomdjmjhaaDoor.fnStack
open Go.ChangeShapes Go.WideShapes Go.ChangeAt Go.RowKit
open Go.ChangeMaps (open_string shut_string)
set_option linter.unusedVariables false

theorem own : ownKnob Tryd.prog.godebug = none := by kernel_rfl
theorem laidOut : laidOutB Tryd.prog = true := by kernel_rfl

noncomputable def low : Nat := (World.holding Tryd.prog default ⟨#[], #[], []⟩).heap.size
/-- The settled world, the listed variables as their initialisers lay them. -/
noncomputable def laidWorld (os : Os) : World :=
  let w0 := World.holding Tryd.prog os ⟨#[], #[], []⟩
  { w0 with heap := (w0.heap.modify 0 fun
      | .cells _ t frozen => .cells #[.string { data := #[112, 117, 115, 104] }, .int .i64 0, .int .i64 1, .int .i64 1, .string { data := #[97, 100, 100] }, .int .i64 2, .int .i64 1, .int .i64 0, .string { data := #[115, 117, 98] }, .int .i64 2, .int .i64 1, .int .i64 0, .string { data := #[109, 117, 108] }, .int .i64 2, .int .i64 1, .int .i64 0, .string { data := #[110, 101, 103, 97, 116, 101] }, .int .i64 1, .int .i64 1, .int .i64 0, .string { data := #[115, 105, 103, 110] }, .int .i64 1, .int .i64 1, .int .i64 0, .string { data := #[99, 111, 112, 121] }, .int .i64 1, .int .i64 2, .int .i64 0, .string { data := #[115, 119, 97, 112] }, .int .i64 2, .int .i64 2, .int .i64 0, .string { data := #[100, 114, 111, 112] }, .int .i64 1, .int .i64 0, .int .i64 0, .string { data := #[115, 104, 105, 102, 116] }, .int .i64 1, .int .i64 1, .int .i64 1, .string { data := #[108, 111, 97, 100] }, .int .i64 1, .int .i64 1, .int .i64 0, .string { data := #[115, 116, 111, 114, 101] }, .int .i64 2, .int .i64 0, .int .i64 0, .string { data := #[106, 117, 109, 112] }, .int .i64 0, .int .i64 0, .int .i64 1, .string { data := #[98, 114, 97, 110, 99, 104] }, .int .i64 1, .int .i64 0, .int .i64 3, .string { data := #[104, 97, 108, 116] }, .int .i64 0, .int .i64 0, .int .i64 0] t frozen
      | o => o) }
theorem laidWorld_met (os : Os) (args : Array Value) : laidMet Tryd.prog Rows.fnStackRow.laid ((laidWorld os).forCall (fun _ _ => 0) ⟨#[], args, []⟩).memory :=
  laidMet_of_run' 8 (by kernel_rfl) (by kernel_rfl)

theorem ops_met {W : World} (hL : laidMet Tryd.prog Rows.fnStackRow.laid W) : OpsTab W :=
  opsTab_of (show Rows.laid_loop_example_g03225_impl_operations = _ by kernel_rfl) (show laidMet Tryd.prog (("loop.example/g03225/impl.operations", Rows.laid_loop_example_g03225_impl_operations) :: _) W from hL)
set_option maxRecDepth 100000 in
theorem lifted (os : Os) (started : os.Started) (H : Type) (enc : TypeId × Value → H) :
    ReturnsInHanded {} Tryd.checked os 3 .any (fun w args => (Rows.fnStackSpec.pre enc Tryd.prog Tryd.f3 Rows.fnStackRow.domain false w args ∧ laidMet Tryd.prog Rows.fnStackRow.laid w) ∧ sizedMet enc Tryd.prog Tryd.f3 (OpenSpec.ofChange Rows.fnStackSpec) false w args)
      (Rows.fnStackSpec.post enc Tryd.prog Tryd.f3 false true false false) := by
  refine returnsInHanded_of_change_and (C := Tryd.checked) (X := fun w _ => laidMet Tryd.prog Rows.fnStackRow.laid w) (fun _ _ _ hh h => h.of_heap hh) own started (by kernel_rfl) Tryd.func3
    (ChangeSpec.witness_at (enc := enc) (C := Tryd.checked) (os := os) (X := fun w _ => laidMet Tryd.prog Rows.fnStackRow.laid w) false (laidWorld os) #[.slice none 0 0] 8 rfl (by kernel_rfl) (by kernel_rfl) (by kernel_rfl) (by kernel_rfl) (by kernel_rfl) (laidWorld_met os _)) ?_
  intro W base args ds gs before hval0 hW hcnd _ hL _
  have hval : ∀ (j : Nat) t v, Tryd.f3.params[j]? = some t → args[j]? = some v → Value.okWide Tryd.prog W .any base t v := hval0
  have hW' := hW
  obtain ⟨p, q, hA0, hV, rfl, hfz, hnd⟩ := hW
  have hA : DataW.TrodAll enc Tryd.prog W 0 (fun _ => true) true Tryd.f3.params.toList args.toList ds p := hA0
  rw [Tryd.params3] at hA hval
  obtain ⟨v0, vs0, d0, ds0, p0, q0, hargs, rfl, rfl, h0, r0⟩ := trodAll_cons hA
  obtain ⟨rfl, rfl, rfl⟩ := trodAll_nil r0
  obtain rfl : args = #[v0] := by cases args; simp_all
  have hV1 := hV
  obtain ⟨gv, tv, csv, fv, dv, pvv, rfl, -, -, -, -, -⟩ := trodVars_one hV1
  clear hV1
  obtain ⟨a0, len0, cap0, rfl⟩ := okWide_slice Tryd.underlying22 (hval 0 22 v0 rfl rfl)
  have k0 := h0
  have lt0 : ∀ x ∈ p0, x.block < W.heap.size := by obtain ⟨m, hm⟩ := k0; exact DataW.trod_lt m _ _ _ hm
  obtain ⟨z0, w0⟩ : ∃ zs, IsRow .u8 W a0 len0 cap0 zs := by
    obtain ⟨fuel, hf⟩ := h0
    rcases open_ints Tryd.underlying22 Tryd.underlying5 (by kernel_rfl) hf with ⟨hcs, _⟩ | ⟨x, l, c, zs, hcs, _, hl, hm, hz, _, hcell, hwz⟩
    · simp [Value.cells] at hcs
      obtain ⟨rfl, rfl, rfl⟩ := hcs
      exact ⟨[], .inl ⟨rfl, rfl, rfl, rfl⟩⟩
    · simp [Value.cells] at hcs
      obtain ⟨rfl, rfl, rfl⟩ := hcs
      exact ⟨zs, .inr ⟨_, rfl, hl, hm, by simpa using hz, hcell, hwz⟩⟩
  clear hA0 hval0
  refine (wFnStack a0 len0 cap0 z0 W w0 (ops_met hL)).mono fun e W' ⟨he, bel⟩ => ?_
  subst he
  exact ⟨_, rfl, _, _, _, [], _, _, hW', trodAll_mk1 (shut_bool Tryd.underlying4 _), (trodAll_cons_mk (Below.trod laidOut (by kernel_rfl) (of_decide_eq_true (by kernel_rfl)) k0 bel lt0) trodAll_mk0), Below.trodVars laidOut bel (by kernel_rfl) hV, bel.frame _, fun h => by cases h⟩

theorem over : Rows.FnStackSaid :=
  OpenClaim.holds_of_wide 3 Tryd.f3 rfl rfl rfl rfl rfl rfl rfl ⟨rfl, rfl, rfl, rfl, rfl⟩ rfl rfl rfl rfl rfl (by kernel_rfl) Tryd.func3 (by kernel_rfl)
    (of_decide_eq_true (by kernel_rfl)) (by unfold Func.isWrapper; first | (rw [if_pos (by decide +kernel)]; kernel_rfl) | (rw [if_neg (by decide +kernel)]; exact ⟨rfl, rfl⟩))
    (fun os started H enc _ => lifted os started H enc)

theorem proved : Rows.FnStackCardSaid :=
  Claim7.holds_tied_plain_at .later [] [.data] true (true, "1863e8275097c8f575916b97172ad87178b1cc7bb3b3b71a8fd6f3ced2b16edc") false
    over (fun _ h => by cases h) (by kernel_rfl) (fun _ h => by cases h) fnStack_row_tie rfl ⟨rfl, rfl⟩ (by kernel_rfl) rfl
    (fun f fn hf hfn => by
      obtain rfl : f = 3 := Option.some.inj ((show Tryd.prog.funcNamed "loop.example/g03225/laws.FnStack" = some 3 by kernel_rfl).symm.trans hf) |>.symm
      obtain rfl : fn = Tryd.f3 := (Option.some.inj (Tryd.func3.symm.trans hfn)).symm
      exact ⟨by kernel_rfl, fun j t ht => by
        rw [Tryd.params3] at ht
        match j, ht with
        | 0, ht => (obtain rfl : t = 22 := by simpa using ht.symm); exact (show Tryd.prog.wantsStandIn 22 = false by kernel_rfl)
        | j + 1, ht => simp at ht⟩)
    (by kernel_rfl)
#print axioms proved
end Go.Proofs.YtfnhoiomdjmjhaaDoor.fnStack

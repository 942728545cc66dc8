/-
  No cell of these rows narrows 'for every input' (looked for: loops, veiled, ifaces, maps, wideKeys, modest, calm, conditions, laid).
  DERIVED. THE GIVEN ROWS OF THIS SEAT. 4 by the template 'for every input the law returns true; each argument reads behind the call as it read before'; 0 by the template 'total and deterministic' (their statements: YtjbmgppgkgacpaaTotals.lean).
  GIVEN WITH THE SEED: the statements are not yours to turn. If you find one false, say at which input.
  Laid BY PROGRAM, IN A SANDBOX (cutbox-rows.mjs): the forced cells as the released guide's own fill.sh prints them over the translation b04e961fd9fbaba6… (all of the seat's roots in one cut). By AI agents, Wed Nov 11 2026. No macro, syntax, notation, axiom, sorry.
-/
import Derived.Test.YtjbmgppgkgacpaaChecked
import GoSem.Claim
import GoSem.ClaimJoined
import GoSem.ClaimMapViews
import Derived.JoinedTies
import Derived.KernelRfl
namespace Go.Proofs.Ytjbmgppgkgacpaa
/- THE CELL 'sum', in the pinned program and in every row, IS THE sha256 OF THE DUMP (.gsa) THAT YtjbmgppgkgacpaaProg.lean LOADS. Nothing in Lean hashes anything: it is a label: what it is worth is what the hold of that sum in a sandbox is worth. -/
noncomputable def Try.pinned : Pinned := { name := "ytjbmgppgkgacpaa", sum := "b04e961fd9fbaba6018b9cae7011d0d138f64486dc2b0ef9d77ae60e3f0eda0d", checked := Try.checked }
namespace Rows
def none {H : Type} : Left H := { results := [], args := [] }

/-- 'laws.FnExactAdderCircuit': WHATEVER THE INPUT: true; the input reads as it did. -/
def fnExactAdderCircuitSpec : ChangeSpec := { name := "fnExactAdderCircuit", fn := fun _ => fun
  | [d] => { results := [.lit (.bool true)], args := [d] }
  | _ => none }
def fnExactAdderCircuitRow : OpenClaim := { program := "ytjbmgppgkgacpaa", sum := "b04e961fd9fbaba6018b9cae7011d0d138f64486dc2b0ef9d77ae60e3f0eda0d", func := "loop.example/g03225/laws.FnExactAdderCircuit", spec := "fnExactAdderCircuit", unfollowed := true, recurses := true, plainKeys := false, apart := false }
def FnExactAdderCircuitSaid : Prop := fnExactAdderCircuitRow.holds Try.pinned (OpenSpec.ofChange fnExactAdderCircuitSpec)

/-- ITS FALSE NEIGHBOUR: 'it returns false'. Refute it at one input. -/
def fnExactAdderCircuitWrong : ChangeSpec := { name := "fnExactAdderCircuit", fn := fun _ => fun
  | [d] => { results := [.lit (.bool false)], args := [d] }
  | _ => none }
def FnExactAdderCircuitWrongFalsely : Prop := fnExactAdderCircuitRow.holds Try.pinned (OpenSpec.ofChange fnExactAdderCircuitWrong)

/-- 'laws.FnExactBuildCircuit': WHATEVER THE INPUT: true; the input reads as it did. -/
def fnExactBuildCircuitSpec : ChangeSpec := { name := "fnExactBuildCircuit", fn := fun _ => fun
  | [d] => { results := [.lit (.bool true)], args := [d] }
  | _ => none }
def fnExactBuildCircuitRow : OpenClaim := { program := "ytjbmgppgkgacpaa", sum := "b04e961fd9fbaba6018b9cae7011d0d138f64486dc2b0ef9d77ae60e3f0eda0d", func := "loop.example/g03225/laws.FnExactBuildCircuit", spec := "fnExactBuildCircuit", unfollowed := true, recurses := true, plainKeys := false, apart := false }
def FnExactBuildCircuitSaid : Prop := fnExactBuildCircuitRow.holds Try.pinned (OpenSpec.ofChange fnExactBuildCircuitSpec)

/-- ITS FALSE NEIGHBOUR: 'it returns false'. Refute it at one input. -/
def fnExactBuildCircuitWrong : ChangeSpec := { name := "fnExactBuildCircuit", fn := fun _ => fun
  | [d] => { results := [.lit (.bool false)], args := [d] }
  | _ => none }
def FnExactBuildCircuitWrongFalsely : Prop := fnExactBuildCircuitRow.holds Try.pinned (OpenSpec.ofChange fnExactBuildCircuitWrong)

/-- 'laws.FnExactDualCircuit': WHATEVER THE INPUT: true; the input reads as it did. -/
def fnExactDualCircuitSpec : ChangeSpec := { name := "fnExactDualCircuit", fn := fun _ => fun
  | [d] => { results := [.lit (.bool true)], args := [d] }
  | _ => none }
def fnExactDualCircuitRow : OpenClaim := { program := "ytjbmgppgkgacpaa", sum := "b04e961fd9fbaba6018b9cae7011d0d138f64486dc2b0ef9d77ae60e3f0eda0d", func := "loop.example/g03225/laws.FnExactDualCircuit", spec := "fnExactDualCircuit", unfollowed := true, recurses := true, plainKeys := false, apart := false }
def FnExactDualCircuitSaid : Prop := fnExactDualCircuitRow.holds Try.pinned (OpenSpec.ofChange fnExactDualCircuitSpec)

/-- ITS FALSE NEIGHBOUR: 'it returns false'. Refute it at one input. -/
def fnExactDualCircuitWrong : ChangeSpec := { name := "fnExactDualCircuit", fn := fun _ => fun
  | [d] => { results := [.lit (.bool false)], args := [d] }
  | _ => none }
def FnExactDualCircuitWrongFalsely : Prop := fnExactDualCircuitRow.holds Try.pinned (OpenSpec.ofChange fnExactDualCircuitWrong)

/-- 'laws.FnExactTrimCircuit': WHATEVER THE INPUT: true; the input reads as it did. -/
def fnExactTrimCircuitSpec : ChangeSpec := { name := "fnExactTrimCircuit", fn := fun _ => fun
  | [d] => { results := [.lit (.bool true)], args := [d] }
  | _ => none }
def fnExactTrimCircuitRow : OpenClaim := { program := "ytjbmgppgkgacpaa", sum := "b04e961fd9fbaba6018b9cae7011d0d138f64486dc2b0ef9d77ae60e3f0eda0d", func := "loop.example/g03225/laws.FnExactTrimCircuit", spec := "fnExactTrimCircuit", unfollowed := true, recurses := true, plainKeys := false, apart := false }
def FnExactTrimCircuitSaid : Prop := fnExactTrimCircuitRow.holds Try.pinned (OpenSpec.ofChange fnExactTrimCircuitSpec)

/-- ITS FALSE NEIGHBOUR: 'it returns false'. Refute it at one input. -/
def fnExactTrimCircuitWrong : ChangeSpec := { name := "fnExactTrimCircuit", fn := fun _ => fun
  | [d] => { results := [.lit (.bool false)], args := [d] }
  | _ => none }
def FnExactTrimCircuitWrongFalsely : Prop := fnExactTrimCircuitRow.holds Try.pinned (OpenSpec.ofChange fnExactTrimCircuitWrong)

/- THE SECOND FORM. 'bulk': how many values and letters a reading holds, each counted each time it is reached (what is shared counts as often as it is met; a slice's spare places count too). A statement '..UptoSaid' is the law's where the arguments, and the package variables that the reading takes, are together of bulk at most 1048576: NARROWER than '..Said'. Prove '..Said' where nothing that the law and all that it calls make is longer than what came in: it says more and counts as full. Else prove '..UptoSaid'. A law counts once. -/
mutual
def uptoBulk {H : Type} : DataW H → Nat
  | .lit (.string bytes) => bytes.length + 1
  | .lit _ => 1
  | .nil => 1
  | .ptr d => uptoBulk d + 1
  | .slice elems spare => uptoBulkAll elems + uptoBulkAll spare + 1
  | .agg parts => uptoBulkAll parts + 1
  | .iface _ d => uptoBulk d + 1
  | .map entries => uptoBulkEntries entries + 1
  | .held _ => 1
def uptoBulkAll {H : Type} : List (DataW H) → Nat
  | [] => 0
  | d :: r => uptoBulk d + uptoBulkAll r
def uptoBulkEntries {H : Type} : List (Lit × DataW H) → Nat
  | [] => 0
  | x :: r => uptoBulkEntry x + uptoBulkEntries r
def uptoBulkEntry {H : Type} : Lit × DataW H → Nat
  | (.string bytes, d) => bytes.length + uptoBulk d + 1
  | (_, d) => uptoBulk d + 1
 end
def uptoSmall : (H : Type) → List (DataW H) → Bool := fun _ ds => decide (uptoBulkAll ds ≤ 1048576)
def OpenSpec.upto (s : _root_.Go.ChangeSpec) : _root_.Go.OpenSpec := { _root_.Go.OpenSpec.ofChange s with cond := some uptoSmall }

/-- 'laws.FnExactAdderCircuit', WHERE WHAT IT READS IS OF BULK AT MOST 1048576: true; the input reads as it did. -/
def fnExactAdderCircuitUptoRow : OpenClaim := { program := "ytjbmgppgkgacpaa", sum := "b04e961fd9fbaba6018b9cae7011d0d138f64486dc2b0ef9d77ae60e3f0eda0d", func := "loop.example/g03225/laws.FnExactAdderCircuit", spec := "fnExactAdderCircuit", unfollowed := true, recurses := true, plainKeys := false, apart := false, narrowed := true }
def FnExactAdderCircuitUptoSaid : Prop := fnExactAdderCircuitUptoRow.holds Try.pinned (OpenSpec.upto fnExactAdderCircuitSpec)

/-- 'laws.FnExactBuildCircuit', WHERE WHAT IT READS IS OF BULK AT MOST 1048576: true; the input reads as it did. -/
def fnExactBuildCircuitUptoRow : OpenClaim := { program := "ytjbmgppgkgacpaa", sum := "b04e961fd9fbaba6018b9cae7011d0d138f64486dc2b0ef9d77ae60e3f0eda0d", func := "loop.example/g03225/laws.FnExactBuildCircuit", spec := "fnExactBuildCircuit", unfollowed := true, recurses := true, plainKeys := false, apart := false, narrowed := true }
def FnExactBuildCircuitUptoSaid : Prop := fnExactBuildCircuitUptoRow.holds Try.pinned (OpenSpec.upto fnExactBuildCircuitSpec)

/-- 'laws.FnExactDualCircuit', WHERE WHAT IT READS IS OF BULK AT MOST 1048576: true; the input reads as it did. -/
def fnExactDualCircuitUptoRow : OpenClaim := { program := "ytjbmgppgkgacpaa", sum := "b04e961fd9fbaba6018b9cae7011d0d138f64486dc2b0ef9d77ae60e3f0eda0d", func := "loop.example/g03225/laws.FnExactDualCircuit", spec := "fnExactDualCircuit", unfollowed := true, recurses := true, plainKeys := false, apart := false, narrowed := true }
def FnExactDualCircuitUptoSaid : Prop := fnExactDualCircuitUptoRow.holds Try.pinned (OpenSpec.upto fnExactDualCircuitSpec)

/-- 'laws.FnExactTrimCircuit', WHERE WHAT IT READS IS OF BULK AT MOST 1048576: true; the input reads as it did. -/
def fnExactTrimCircuitUptoRow : OpenClaim := { program := "ytjbmgppgkgacpaa", sum := "b04e961fd9fbaba6018b9cae7011d0d138f64486dc2b0ef9d77ae60e3f0eda0d", func := "loop.example/g03225/laws.FnExactTrimCircuit", spec := "fnExactTrimCircuit", unfollowed := true, recurses := true, plainKeys := false, apart := false, narrowed := true }
def FnExactTrimCircuitUptoSaid : Prop := fnExactTrimCircuitUptoRow.holds Try.pinned (OpenSpec.upto fnExactTrimCircuitSpec)

end Rows
end Go.Proofs.Ytjbmgppgkgacpaa

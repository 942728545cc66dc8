/-
  No cell of these rows narrows 'for every input' (looked for: loops, veiled, ifaces, maps, wideKeys, modest, calm, conditions, laid).
  DERIVED. THE GIVEN ROWS OF THIS SEAT. 13 by the template 'for every input the law returns true; each argument reads behind the call as it read before'; 0 by the template 'total and deterministic' (their statements: YtjfeiekdkefpeaaTotals.lean).
  GIVEN WITH THE SEED: the statements are not yours to turn. If you find one false, say at which input.
  Laid BY PROGRAM, IN A SANDBOX (cutbox-rows.mjs): the forced cells as the released guide's own fill.sh prints them over the translation 7497f115373607c9… (all of the seat's roots in one cut). By AI agents, Wed Nov 11 2026. No macro, syntax, notation, axiom, sorry.
-/
import Derived.Test.YtjfeiekdkefpeaaChecked
import GoSem.Claim
import GoSem.ClaimJoined
import GoSem.ClaimMapViews
import Derived.JoinedTies
import Derived.KernelRfl
namespace Go.Proofs.Ytjfeiekdkefpeaa
/- THE CELL 'sum', in the pinned program and in every row, IS THE sha256 OF THE DUMP (.gsa) THAT YtjfeiekdkefpeaaProg.lean LOADS. Nothing in Lean hashes anything: it is a label: what it is worth is what the hold of that sum in a sandbox is worth. -/
noncomputable def Try.pinned : Pinned := { name := "ytjfeiekdkefpeaa", sum := "7497f115373607c99efa53db5ce6d7eeaa45696d70074b0f2a3eb5e216cf9afa", checked := Try.checked }
namespace Rows
def none {H : Type} : Left H := { results := [], args := [] }

/-- 'laws.FnExactIsCircuit': WHATEVER THE INPUT: true; the input reads as it did. -/
def fnExactIsCircuitSpec : ChangeSpec := { name := "fnExactIsCircuit", fn := fun _ => fun
  | [d] => { results := [.lit (.bool true)], args := [d] }
  | _ => none }
def fnExactIsCircuitRow : OpenClaim := { program := "ytjfeiekdkefpeaa", sum := "7497f115373607c99efa53db5ce6d7eeaa45696d70074b0f2a3eb5e216cf9afa", func := "loop.example/g03225/laws.FnExactIsCircuit", spec := "fnExactIsCircuit", plainKeys := false, apart := false }
def FnExactIsCircuitSaid : Prop := fnExactIsCircuitRow.holds Try.pinned (OpenSpec.ofChange fnExactIsCircuitSpec)

/-- ITS FALSE NEIGHBOUR: 'it returns false'. Refute it at one input. -/
def fnExactIsCircuitWrong : ChangeSpec := { name := "fnExactIsCircuit", fn := fun _ => fun
  | [d] => { results := [.lit (.bool false)], args := [d] }
  | _ => none }
def FnExactIsCircuitWrongFalsely : Prop := fnExactIsCircuitRow.holds Try.pinned (OpenSpec.ofChange fnExactIsCircuitWrong)

/-- 'laws.FnExactLinesOf': WHATEVER THE INPUT: true; the input reads as it did. -/
def fnExactLinesOfSpec : ChangeSpec := { name := "fnExactLinesOf", fn := fun _ => fun
  | [d1, d2] => { results := [.lit (.bool true)], args := [d1, d2] }
  | _ => none }
def fnExactLinesOfRow : OpenClaim := { program := "ytjfeiekdkefpeaa", sum := "7497f115373607c99efa53db5ce6d7eeaa45696d70074b0f2a3eb5e216cf9afa", func := "loop.example/g03225/laws.FnExactLinesOf", spec := "fnExactLinesOf", unfollowed := true, recurses := true, plainKeys := false, apart := false }
def FnExactLinesOfSaid : Prop := fnExactLinesOfRow.holds Try.pinned (OpenSpec.ofChange fnExactLinesOfSpec)

/-- ITS FALSE NEIGHBOUR: 'it returns false'. Refute it at one input. -/
def fnExactLinesOfWrong : ChangeSpec := { name := "fnExactLinesOf", fn := fun _ => fun
  | [d1, d2] => { results := [.lit (.bool false)], args := [d1, d2] }
  | _ => none }
def FnExactLinesOfWrongFalsely : Prop := fnExactLinesOfRow.holds Try.pinned (OpenSpec.ofChange fnExactLinesOfWrong)

/-- 'laws.FnExactRunCircuit': WHATEVER THE INPUT: true; the input reads as it did. -/
def fnExactRunCircuitSpec : ChangeSpec := { name := "fnExactRunCircuit", fn := fun _ => fun
  | [d1, d2] => { results := [.lit (.bool true)], args := [d1, d2] }
  | _ => none }
def fnExactRunCircuitRow : OpenClaim := { program := "ytjfeiekdkefpeaa", sum := "7497f115373607c99efa53db5ce6d7eeaa45696d70074b0f2a3eb5e216cf9afa", func := "loop.example/g03225/laws.FnExactRunCircuit", spec := "fnExactRunCircuit", unfollowed := true, recurses := true, plainKeys := false, apart := false }
def FnExactRunCircuitSaid : Prop := fnExactRunCircuitRow.holds Try.pinned (OpenSpec.ofChange fnExactRunCircuitSpec)

/-- ITS FALSE NEIGHBOUR: 'it returns false'. Refute it at one input. -/
def fnExactRunCircuitWrong : ChangeSpec := { name := "fnExactRunCircuit", fn := fun _ => fun
  | [d1, d2] => { results := [.lit (.bool false)], args := [d1, d2] }
  | _ => none }
def FnExactRunCircuitWrongFalsely : Prop := fnExactRunCircuitRow.holds Try.pinned (OpenSpec.ofChange fnExactRunCircuitWrong)

/-- 'laws.FnExactAdderCircuit': WHATEVER THE INPUT: true; the input reads as it did. -/
def fnExactAdderCircuitSpec : ChangeSpec := { name := "fnExactAdderCircuit", fn := fun _ => fun
  | [d] => { results := [.lit (.bool true)], args := [d] }
  | _ => none }
def fnExactAdderCircuitRow : OpenClaim := { program := "ytjfeiekdkefpeaa", sum := "7497f115373607c99efa53db5ce6d7eeaa45696d70074b0f2a3eb5e216cf9afa", func := "loop.example/g03225/laws.FnExactAdderCircuit", spec := "fnExactAdderCircuit", unfollowed := true, recurses := true, plainKeys := false, apart := false }
def FnExactAdderCircuitSaid : Prop := fnExactAdderCircuitRow.holds Try.pinned (OpenSpec.ofChange fnExactAdderCircuitSpec)

/-- ITS FALSE NEIGHBOUR: 'it returns false'. Refute it at one input. -/
def fnExactAdderCircuitWrong : ChangeSpec := { name := "fnExactAdderCircuit", fn := fun _ => fun
  | [d] => { results := [.lit (.bool false)], args := [d] }
  | _ => none }
def FnExactAdderCircuitWrongFalsely : Prop := fnExactAdderCircuitRow.holds Try.pinned (OpenSpec.ofChange fnExactAdderCircuitWrong)

/-- 'laws.FnExactLiteralTable': WHATEVER THE INPUT: true; the input reads as it did. -/
def fnExactLiteralTableSpec : ChangeSpec := { name := "fnExactLiteralTable", fn := fun _ => fun
  | [d] => { results := [.lit (.bool true)], args := [d] }
  | _ => none }
def fnExactLiteralTableRow : OpenClaim := { program := "ytjfeiekdkefpeaa", sum := "7497f115373607c99efa53db5ce6d7eeaa45696d70074b0f2a3eb5e216cf9afa", func := "loop.example/g03225/laws.FnExactLiteralTable", spec := "fnExactLiteralTable", unfollowed := true, recurses := true, plainKeys := false, apart := false }
def FnExactLiteralTableSaid : Prop := fnExactLiteralTableRow.holds Try.pinned (OpenSpec.ofChange fnExactLiteralTableSpec)

/-- ITS FALSE NEIGHBOUR: 'it returns false'. Refute it at one input. -/
def fnExactLiteralTableWrong : ChangeSpec := { name := "fnExactLiteralTable", fn := fun _ => fun
  | [d] => { results := [.lit (.bool false)], args := [d] }
  | _ => none }
def FnExactLiteralTableWrongFalsely : Prop := fnExactLiteralTableRow.holds Try.pinned (OpenSpec.ofChange fnExactLiteralTableWrong)

/-- 'laws.FnExactBuildCircuit': WHATEVER THE INPUT: true; the input reads as it did. -/
def fnExactBuildCircuitSpec : ChangeSpec := { name := "fnExactBuildCircuit", fn := fun _ => fun
  | [d] => { results := [.lit (.bool true)], args := [d] }
  | _ => none }
def fnExactBuildCircuitRow : OpenClaim := { program := "ytjfeiekdkefpeaa", sum := "7497f115373607c99efa53db5ce6d7eeaa45696d70074b0f2a3eb5e216cf9afa", func := "loop.example/g03225/laws.FnExactBuildCircuit", spec := "fnExactBuildCircuit", unfollowed := true, recurses := true, plainKeys := false, apart := false }
def FnExactBuildCircuitSaid : Prop := fnExactBuildCircuitRow.holds Try.pinned (OpenSpec.ofChange fnExactBuildCircuitSpec)

/-- ITS FALSE NEIGHBOUR: 'it returns false'. Refute it at one input. -/
def fnExactBuildCircuitWrong : ChangeSpec := { name := "fnExactBuildCircuit", fn := fun _ => fun
  | [d] => { results := [.lit (.bool false)], args := [d] }
  | _ => none }
def FnExactBuildCircuitWrongFalsely : Prop := fnExactBuildCircuitRow.holds Try.pinned (OpenSpec.ofChange fnExactBuildCircuitWrong)

/-- 'laws.FnExactDualCircuit': WHATEVER THE INPUT: true; the input reads as it did. -/
def fnExactDualCircuitSpec : ChangeSpec := { name := "fnExactDualCircuit", fn := fun _ => fun
  | [d] => { results := [.lit (.bool true)], args := [d] }
  | _ => none }
def fnExactDualCircuitRow : OpenClaim := { program := "ytjfeiekdkefpeaa", sum := "7497f115373607c99efa53db5ce6d7eeaa45696d70074b0f2a3eb5e216cf9afa", func := "loop.example/g03225/laws.FnExactDualCircuit", spec := "fnExactDualCircuit", unfollowed := true, recurses := true, plainKeys := false, apart := false }
def FnExactDualCircuitSaid : Prop := fnExactDualCircuitRow.holds Try.pinned (OpenSpec.ofChange fnExactDualCircuitSpec)

/-- ITS FALSE NEIGHBOUR: 'it returns false'. Refute it at one input. -/
def fnExactDualCircuitWrong : ChangeSpec := { name := "fnExactDualCircuit", fn := fun _ => fun
  | [d] => { results := [.lit (.bool false)], args := [d] }
  | _ => none }
def FnExactDualCircuitWrongFalsely : Prop := fnExactDualCircuitRow.holds Try.pinned (OpenSpec.ofChange fnExactDualCircuitWrong)

/-- 'laws.FnExactDepthOf': WHATEVER THE INPUT: true; the input reads as it did. -/
def fnExactDepthOfSpec : ChangeSpec := { name := "fnExactDepthOf", fn := fun _ => fun
  | [d] => { results := [.lit (.bool true)], args := [d] }
  | _ => none }
def fnExactDepthOfRow : OpenClaim := { program := "ytjfeiekdkefpeaa", sum := "7497f115373607c99efa53db5ce6d7eeaa45696d70074b0f2a3eb5e216cf9afa", func := "loop.example/g03225/laws.FnExactDepthOf", spec := "fnExactDepthOf", unfollowed := true, recurses := true, plainKeys := false, apart := false }
def FnExactDepthOfSaid : Prop := fnExactDepthOfRow.holds Try.pinned (OpenSpec.ofChange fnExactDepthOfSpec)

/-- ITS FALSE NEIGHBOUR: 'it returns false'. Refute it at one input. -/
def fnExactDepthOfWrong : ChangeSpec := { name := "fnExactDepthOf", fn := fun _ => fun
  | [d] => { results := [.lit (.bool false)], args := [d] }
  | _ => none }
def FnExactDepthOfWrongFalsely : Prop := fnExactDepthOfRow.holds Try.pinned (OpenSpec.ofChange fnExactDepthOfWrong)

/-- 'laws.FnExactTrimCircuit': WHATEVER THE INPUT: true; the input reads as it did. -/
def fnExactTrimCircuitSpec : ChangeSpec := { name := "fnExactTrimCircuit", fn := fun _ => fun
  | [d] => { results := [.lit (.bool true)], args := [d] }
  | _ => none }
def fnExactTrimCircuitRow : OpenClaim := { program := "ytjfeiekdkefpeaa", sum := "7497f115373607c99efa53db5ce6d7eeaa45696d70074b0f2a3eb5e216cf9afa", func := "loop.example/g03225/laws.FnExactTrimCircuit", spec := "fnExactTrimCircuit", unfollowed := true, recurses := true, plainKeys := false, apart := false }
def FnExactTrimCircuitSaid : Prop := fnExactTrimCircuitRow.holds Try.pinned (OpenSpec.ofChange fnExactTrimCircuitSpec)

/-- ITS FALSE NEIGHBOUR: 'it returns false'. Refute it at one input. -/
def fnExactTrimCircuitWrong : ChangeSpec := { name := "fnExactTrimCircuit", fn := fun _ => fun
  | [d] => { results := [.lit (.bool false)], args := [d] }
  | _ => none }
def FnExactTrimCircuitWrongFalsely : Prop := fnExactTrimCircuitRow.holds Try.pinned (OpenSpec.ofChange fnExactTrimCircuitWrong)

/-- 'laws.FnExactSameCircuits': WHATEVER THE INPUT: true; the input reads as it did. -/
def fnExactSameCircuitsSpec : ChangeSpec := { name := "fnExactSameCircuits", fn := fun _ => fun
  | [d1, d2] => { results := [.lit (.bool true)], args := [d1, d2] }
  | _ => none }
def fnExactSameCircuitsRow : OpenClaim := { program := "ytjfeiekdkefpeaa", sum := "7497f115373607c99efa53db5ce6d7eeaa45696d70074b0f2a3eb5e216cf9afa", func := "loop.example/g03225/laws.FnExactSameCircuits", spec := "fnExactSameCircuits", unfollowed := true, recurses := true, plainKeys := false, apart := false }
def FnExactSameCircuitsSaid : Prop := fnExactSameCircuitsRow.holds Try.pinned (OpenSpec.ofChange fnExactSameCircuitsSpec)

/-- ITS FALSE NEIGHBOUR: 'it returns false'. Refute it at one input. -/
def fnExactSameCircuitsWrong : ChangeSpec := { name := "fnExactSameCircuits", fn := fun _ => fun
  | [d1, d2] => { results := [.lit (.bool false)], args := [d1, d2] }
  | _ => none }
def FnExactSameCircuitsWrongFalsely : Prop := fnExactSameCircuitsRow.holds Try.pinned (OpenSpec.ofChange fnExactSameCircuitsWrong)

/-- 'laws.FnGates': WHATEVER THE INPUT: true; the input reads as it did. -/
def fnGatesSpec : ChangeSpec := { name := "fnGates", fn := fun _ => fun
  | [d] => { results := [.lit (.bool true)], args := [d] }
  | _ => none }
def fnGatesRow : OpenClaim := { program := "ytjfeiekdkefpeaa", sum := "7497f115373607c99efa53db5ce6d7eeaa45696d70074b0f2a3eb5e216cf9afa", func := "loop.example/g03225/laws.FnGates", spec := "fnGates", unfollowed := true, recurses := true, plainKeys := false, apart := false }
def FnGatesSaid : Prop := fnGatesRow.holds Try.pinned (OpenSpec.ofChange fnGatesSpec)

/-- ITS FALSE NEIGHBOUR: 'it returns false'. Refute it at one input. -/
def fnGatesWrong : ChangeSpec := { name := "fnGates", fn := fun _ => fun
  | [d] => { results := [.lit (.bool false)], args := [d] }
  | _ => none }
def FnGatesWrongFalsely : Prop := fnGatesRow.holds Try.pinned (OpenSpec.ofChange fnGatesWrong)

/-- 'laws.FnBuilt': WHATEVER THE INPUT: true; the input reads as it did. -/
def fnBuiltSpec : ChangeSpec := { name := "fnBuilt", fn := fun _ => fun
  | [d] => { results := [.lit (.bool true)], args := [d] }
  | _ => none }
def fnBuiltRow : OpenClaim := { program := "ytjfeiekdkefpeaa", sum := "7497f115373607c99efa53db5ce6d7eeaa45696d70074b0f2a3eb5e216cf9afa", func := "loop.example/g03225/laws.FnBuilt", spec := "fnBuilt", unfollowed := true, recurses := true, plainKeys := false, apart := false }
def FnBuiltSaid : Prop := fnBuiltRow.holds Try.pinned (OpenSpec.ofChange fnBuiltSpec)

/-- ITS FALSE NEIGHBOUR: 'it returns false'. Refute it at one input. -/
def fnBuiltWrong : ChangeSpec := { name := "fnBuilt", fn := fun _ => fun
  | [d] => { results := [.lit (.bool false)], args := [d] }
  | _ => none }
def FnBuiltWrongFalsely : Prop := fnBuiltRow.holds Try.pinned (OpenSpec.ofChange fnBuiltWrong)

/-- 'laws.FnLines': WHATEVER THE INPUT: true; the input reads as it did. -/
def fnLinesSpec : ChangeSpec := { name := "fnLines", fn := fun _ => fun
  | [d] => { results := [.lit (.bool true)], args := [d] }
  | _ => none }
def fnLinesRow : OpenClaim := { program := "ytjfeiekdkefpeaa", sum := "7497f115373607c99efa53db5ce6d7eeaa45696d70074b0f2a3eb5e216cf9afa", func := "loop.example/g03225/laws.FnLines", spec := "fnLines", unfollowed := true, recurses := true, plainKeys := false, apart := false }
def FnLinesSaid : Prop := fnLinesRow.holds Try.pinned (OpenSpec.ofChange fnLinesSpec)

/-- ITS FALSE NEIGHBOUR: 'it returns false'. Refute it at one input. -/
def fnLinesWrong : ChangeSpec := { name := "fnLines", fn := fun _ => fun
  | [d] => { results := [.lit (.bool false)], args := [d] }
  | _ => none }
def FnLinesWrongFalsely : Prop := fnLinesRow.holds Try.pinned (OpenSpec.ofChange fnLinesWrong)

/- THE SECOND FORM. 'bulk': how many values and letters a reading holds, each counted each time it is reached (what is shared counts as often as it is met; a slice's spare places count too). A statement '..UptoSaid' is the law's where the arguments, and the package variables that the reading takes, are together of bulk at most 1048576: NARROWER than '..Said'. Prove '..Said' where nothing that the law and all that it calls make is longer than what came in: it says more and counts as full. Else prove '..UptoSaid'. A law counts once. -/
mutual
def uptoBulk {H : Type} : DataW H → Nat
  | .lit (.string bytes) => bytes.length + 1
  | .lit _ => 1
  | .nil => 1
  | .ptr d => uptoBulk d + 1
  | .slice elems spare => uptoBulkAll elems + uptoBulkAll spare + 1
  | .agg parts => uptoBulkAll parts + 1
  | .iface _ d => uptoBulk d + 1
  | .map entries => uptoBulkEntries entries + 1
  | .held _ => 1
def uptoBulkAll {H : Type} : List (DataW H) → Nat
  | [] => 0
  | d :: r => uptoBulk d + uptoBulkAll r
def uptoBulkEntries {H : Type} : List (Lit × DataW H) → Nat
  | [] => 0
  | x :: r => uptoBulkEntry x + uptoBulkEntries r
def uptoBulkEntry {H : Type} : Lit × DataW H → Nat
  | (.string bytes, d) => bytes.length + uptoBulk d + 1
  | (_, d) => uptoBulk d + 1
 end
def uptoSmall : (H : Type) → List (DataW H) → Bool := fun _ ds => decide (uptoBulkAll ds ≤ 1048576)
def OpenSpec.upto (s : _root_.Go.ChangeSpec) : _root_.Go.OpenSpec := { _root_.Go.OpenSpec.ofChange s with cond := some uptoSmall }

/-- 'laws.FnExactIsCircuit', WHERE WHAT IT READS IS OF BULK AT MOST 1048576: true; the input reads as it did. -/
def fnExactIsCircuitUptoRow : OpenClaim := { program := "ytjfeiekdkefpeaa", sum := "7497f115373607c99efa53db5ce6d7eeaa45696d70074b0f2a3eb5e216cf9afa", func := "loop.example/g03225/laws.FnExactIsCircuit", spec := "fnExactIsCircuit", plainKeys := false, apart := false, narrowed := true }
def FnExactIsCircuitUptoSaid : Prop := fnExactIsCircuitUptoRow.holds Try.pinned (OpenSpec.upto fnExactIsCircuitSpec)

/-- 'laws.FnExactLinesOf', WHERE WHAT IT READS IS OF BULK AT MOST 1048576: true; the input reads as it did. -/
def fnExactLinesOfUptoRow : OpenClaim := { program := "ytjfeiekdkefpeaa", sum := "7497f115373607c99efa53db5ce6d7eeaa45696d70074b0f2a3eb5e216cf9afa", func := "loop.example/g03225/laws.FnExactLinesOf", spec := "fnExactLinesOf", unfollowed := true, recurses := true, plainKeys := false, apart := false, narrowed := true }
def FnExactLinesOfUptoSaid : Prop := fnExactLinesOfUptoRow.holds Try.pinned (OpenSpec.upto fnExactLinesOfSpec)

/-- 'laws.FnExactRunCircuit', WHERE WHAT IT READS IS OF BULK AT MOST 1048576: true; the input reads as it did. -/
def fnExactRunCircuitUptoRow : OpenClaim := { program := "ytjfeiekdkefpeaa", sum := "7497f115373607c99efa53db5ce6d7eeaa45696d70074b0f2a3eb5e216cf9afa", func := "loop.example/g03225/laws.FnExactRunCircuit", spec := "fnExactRunCircuit", unfollowed := true, recurses := true, plainKeys := false, apart := false, narrowed := true }
def FnExactRunCircuitUptoSaid : Prop := fnExactRunCircuitUptoRow.holds Try.pinned (OpenSpec.upto fnExactRunCircuitSpec)

/-- 'laws.FnExactAdderCircuit', WHERE WHAT IT READS IS OF BULK AT MOST 1048576: true; the input reads as it did. -/
def fnExactAdderCircuitUptoRow : OpenClaim := { program := "ytjfeiekdkefpeaa", sum := "7497f115373607c99efa53db5ce6d7eeaa45696d70074b0f2a3eb5e216cf9afa", func := "loop.example/g03225/laws.FnExactAdderCircuit", spec := "fnExactAdderCircuit", unfollowed := true, recurses := true, plainKeys := false, apart := false, narrowed := true }
def FnExactAdderCircuitUptoSaid : Prop := fnExactAdderCircuitUptoRow.holds Try.pinned (OpenSpec.upto fnExactAdderCircuitSpec)

/-- 'laws.FnExactLiteralTable', WHERE WHAT IT READS IS OF BULK AT MOST 1048576: true; the input reads as it did. -/
def fnExactLiteralTableUptoRow : OpenClaim := { program := "ytjfeiekdkefpeaa", sum := "7497f115373607c99efa53db5ce6d7eeaa45696d70074b0f2a3eb5e216cf9afa", func := "loop.example/g03225/laws.FnExactLiteralTable", spec := "fnExactLiteralTable", unfollowed := true, recurses := true, plainKeys := false, apart := false, narrowed := true }
def FnExactLiteralTableUptoSaid : Prop := fnExactLiteralTableUptoRow.holds Try.pinned (OpenSpec.upto fnExactLiteralTableSpec)

/-- 'laws.FnExactBuildCircuit', WHERE WHAT IT READS IS OF BULK AT MOST 1048576: true; the input reads as it did. -/
def fnExactBuildCircuitUptoRow : OpenClaim := { program := "ytjfeiekdkefpeaa", sum := "7497f115373607c99efa53db5ce6d7eeaa45696d70074b0f2a3eb5e216cf9afa", func := "loop.example/g03225/laws.FnExactBuildCircuit", spec := "fnExactBuildCircuit", unfollowed := true, recurses := true, plainKeys := false, apart := false, narrowed := true }
def FnExactBuildCircuitUptoSaid : Prop := fnExactBuildCircuitUptoRow.holds Try.pinned (OpenSpec.upto fnExactBuildCircuitSpec)

/-- 'laws.FnExactDualCircuit', WHERE WHAT IT READS IS OF BULK AT MOST 1048576: true; the input reads as it did. -/
def fnExactDualCircuitUptoRow : OpenClaim := { program := "ytjfeiekdkefpeaa", sum := "7497f115373607c99efa53db5ce6d7eeaa45696d70074b0f2a3eb5e216cf9afa", func := "loop.example/g03225/laws.FnExactDualCircuit", spec := "fnExactDualCircuit", unfollowed := true, recurses := true, plainKeys := false, apart := false, narrowed := true }
def FnExactDualCircuitUptoSaid : Prop := fnExactDualCircuitUptoRow.holds Try.pinned (OpenSpec.upto fnExactDualCircuitSpec)

/-- 'laws.FnExactDepthOf', WHERE WHAT IT READS IS OF BULK AT MOST 1048576: true; the input reads as it did. -/
def fnExactDepthOfUptoRow : OpenClaim := { program := "ytjfeiekdkefpeaa", sum := "7497f115373607c99efa53db5ce6d7eeaa45696d70074b0f2a3eb5e216cf9afa", func := "loop.example/g03225/laws.FnExactDepthOf", spec := "fnExactDepthOf", unfollowed := true, recurses := true, plainKeys := false, apart := false, narrowed := true }
def FnExactDepthOfUptoSaid : Prop := fnExactDepthOfUptoRow.holds Try.pinned (OpenSpec.upto fnExactDepthOfSpec)

/-- 'laws.FnExactTrimCircuit', WHERE WHAT IT READS IS OF BULK AT MOST 1048576: true; the input reads as it did. -/
def fnExactTrimCircuitUptoRow : OpenClaim := { program := "ytjfeiekdkefpeaa", sum := "7497f115373607c99efa53db5ce6d7eeaa45696d70074b0f2a3eb5e216cf9afa", func := "loop.example/g03225/laws.FnExactTrimCircuit", spec := "fnExactTrimCircuit", unfollowed := true, recurses := true, plainKeys := false, apart := false, narrowed := true }
def FnExactTrimCircuitUptoSaid : Prop := fnExactTrimCircuitUptoRow.holds Try.pinned (OpenSpec.upto fnExactTrimCircuitSpec)

/-- 'laws.FnExactSameCircuits', WHERE WHAT IT READS IS OF BULK AT MOST 1048576: true; the input reads as it did. -/
def fnExactSameCircuitsUptoRow : OpenClaim := { program := "ytjfeiekdkefpeaa", sum := "7497f115373607c99efa53db5ce6d7eeaa45696d70074b0f2a3eb5e216cf9afa", func := "loop.example/g03225/laws.FnExactSameCircuits", spec := "fnExactSameCircuits", unfollowed := true, recurses := true, plainKeys := false, apart := false, narrowed := true }
def FnExactSameCircuitsUptoSaid : Prop := fnExactSameCircuitsUptoRow.holds Try.pinned (OpenSpec.upto fnExactSameCircuitsSpec)

/-- 'laws.FnGates', WHERE WHAT IT READS IS OF BULK AT MOST 1048576: true; the input reads as it did. -/
def fnGatesUptoRow : OpenClaim := { program := "ytjfeiekdkefpeaa", sum := "7497f115373607c99efa53db5ce6d7eeaa45696d70074b0f2a3eb5e216cf9afa", func := "loop.example/g03225/laws.FnGates", spec := "fnGates", unfollowed := true, recurses := true, plainKeys := false, apart := false, narrowed := true }
def FnGatesUptoSaid : Prop := fnGatesUptoRow.holds Try.pinned (OpenSpec.upto fnGatesSpec)

/-- 'laws.FnBuilt', WHERE WHAT IT READS IS OF BULK AT MOST 1048576: true; the input reads as it did. -/
def fnBuiltUptoRow : OpenClaim := { program := "ytjfeiekdkefpeaa", sum := "7497f115373607c99efa53db5ce6d7eeaa45696d70074b0f2a3eb5e216cf9afa", func := "loop.example/g03225/laws.FnBuilt", spec := "fnBuilt", unfollowed := true, recurses := true, plainKeys := false, apart := false, narrowed := true }
def FnBuiltUptoSaid : Prop := fnBuiltUptoRow.holds Try.pinned (OpenSpec.upto fnBuiltSpec)

/-- 'laws.FnLines', WHERE WHAT IT READS IS OF BULK AT MOST 1048576: true; the input reads as it did. -/
def fnLinesUptoRow : OpenClaim := { program := "ytjfeiekdkefpeaa", sum := "7497f115373607c99efa53db5ce6d7eeaa45696d70074b0f2a3eb5e216cf9afa", func := "loop.example/g03225/laws.FnLines", spec := "fnLines", unfollowed := true, recurses := true, plainKeys := false, apart := false, narrowed := true }
def FnLinesUptoSaid : Prop := fnLinesUptoRow.holds Try.pinned (OpenSpec.upto fnLinesSpec)

end Rows
end Go.Proofs.Ytjfeiekdkefpeaa

/-
  No cell of these rows narrows 'for every input' (looked for: loops, veiled, ifaces, maps, wideKeys, modest, calm, conditions, laid).
  DERIVED. THE GIVEN ROWS OF THIS SEAT. 11 by the template 'for every input the law returns true; each argument reads behind the call as it read before'; 0 by the template 'total and deterministic' (their statements: YtkphbnejnilehaaTotals.lean).
  GIVEN WITH THE SEED: the statements are not yours to turn. If you find one false, say at which input.
  Laid BY PROGRAM, IN A SANDBOX (cutbox-rows.mjs): the forced cells as the released guide's own fill.sh prints them over the translation 744205ba656c91d5… (all of the seat's roots in one cut). By AI agents, Wed Nov 11 2026. No macro, syntax, notation, axiom, sorry.
-/
import Derived.Test.YtkphbnejnilehaaChecked
import GoSem.Claim
import GoSem.ClaimJoined
import GoSem.ClaimMapViews
import Derived.JoinedTies
import Derived.KernelRfl
namespace Go.Proofs.Ytkphbnejnilehaa
/- THE CELL 'sum', in the pinned program and in every row, IS THE sha256 OF THE DUMP (.gsa) THAT YtkphbnejnilehaaProg.lean LOADS. Nothing in Lean hashes anything: it is a label: what it is worth is what the hold of that sum in a sandbox is worth. -/
noncomputable def Try.pinned : Pinned := { name := "ytkphbnejnilehaa", sum := "744205ba656c91d553ef1b6aaeab4fb567eadc9512221cbfaaf7237135835ff5", checked := Try.checked }
namespace Rows
def none {H : Type} : Left H := { results := [], args := [] }

/-- 'laws.FnExactIsFloat': WHATEVER THE INPUT: true; the input reads as it did. -/
def fnExactIsFloatSpec : ChangeSpec := { name := "fnExactIsFloat", fn := fun _ => fun
  | [d] => { results := [.lit (.bool true)], args := [d] }
  | _ => none }
def fnExactIsFloatRow : OpenClaim := { program := "ytkphbnejnilehaa", sum := "744205ba656c91d553ef1b6aaeab4fb567eadc9512221cbfaaf7237135835ff5", func := "loop.example/g03225/laws.FnExactIsFloat", spec := "fnExactIsFloat", apart := false }
def FnExactIsFloatSaid : Prop := fnExactIsFloatRow.holds Try.pinned (OpenSpec.ofChange fnExactIsFloatSpec)

/-- ITS FALSE NEIGHBOUR: 'it returns false'. Refute it at one input. -/
def fnExactIsFloatWrong : ChangeSpec := { name := "fnExactIsFloat", fn := fun _ => fun
  | [d] => { results := [.lit (.bool false)], args := [d] }
  | _ => none }
def FnExactIsFloatWrongFalsely : Prop := fnExactIsFloatRow.holds Try.pinned (OpenSpec.ofChange fnExactIsFloatWrong)

/-- 'laws.FnExactFloatOf': WHATEVER THE INPUT: true; the input reads as it did. -/
def fnExactFloatOfSpec : ChangeSpec := { name := "fnExactFloatOf", fn := fun _ => fun
  | [d1, d2] => { results := [.lit (.bool true)], args := [d1, d2] }
  | _ => none }
def fnExactFloatOfRow : OpenClaim := { program := "ytkphbnejnilehaa", sum := "744205ba656c91d553ef1b6aaeab4fb567eadc9512221cbfaaf7237135835ff5", func := "loop.example/g03225/laws.FnExactFloatOf", spec := "fnExactFloatOf", apart := false }
def FnExactFloatOfSaid : Prop := fnExactFloatOfRow.holds Try.pinned (OpenSpec.ofChange fnExactFloatOfSpec)

/-- ITS FALSE NEIGHBOUR: 'it returns false'. Refute it at one input. -/
def fnExactFloatOfWrong : ChangeSpec := { name := "fnExactFloatOf", fn := fun _ => fun
  | [d1, d2] => { results := [.lit (.bool false)], args := [d1, d2] }
  | _ => none }
def FnExactFloatOfWrongFalsely : Prop := fnExactFloatOfRow.holds Try.pinned (OpenSpec.ofChange fnExactFloatOfWrong)

/-- 'laws.FnExactNegateFloat': WHATEVER THE INPUT: true; the input reads as it did. -/
def fnExactNegateFloatSpec : ChangeSpec := { name := "fnExactNegateFloat", fn := fun _ => fun
  | [d] => { results := [.lit (.bool true)], args := [d] }
  | _ => none }
def fnExactNegateFloatRow : OpenClaim := { program := "ytkphbnejnilehaa", sum := "744205ba656c91d553ef1b6aaeab4fb567eadc9512221cbfaaf7237135835ff5", func := "loop.example/g03225/laws.FnExactNegateFloat", spec := "fnExactNegateFloat", apart := false }
def FnExactNegateFloatSaid : Prop := fnExactNegateFloatRow.holds Try.pinned (OpenSpec.ofChange fnExactNegateFloatSpec)

/-- ITS FALSE NEIGHBOUR: 'it returns false'. Refute it at one input. -/
def fnExactNegateFloatWrong : ChangeSpec := { name := "fnExactNegateFloat", fn := fun _ => fun
  | [d] => { results := [.lit (.bool false)], args := [d] }
  | _ => none }
def FnExactNegateFloatWrongFalsely : Prop := fnExactNegateFloatRow.holds Try.pinned (OpenSpec.ofChange fnExactNegateFloatWrong)

/-- 'laws.FnExactCompareFloats': WHATEVER THE INPUT: true; the input reads as it did. -/
def fnExactCompareFloatsSpec : ChangeSpec := { name := "fnExactCompareFloats", fn := fun _ => fun
  | [d1, d2] => { results := [.lit (.bool true)], args := [d1, d2] }
  | _ => none }
def fnExactCompareFloatsRow : OpenClaim := { program := "ytkphbnejnilehaa", sum := "744205ba656c91d553ef1b6aaeab4fb567eadc9512221cbfaaf7237135835ff5", func := "loop.example/g03225/laws.FnExactCompareFloats", spec := "fnExactCompareFloats", apart := false }
def FnExactCompareFloatsSaid : Prop := fnExactCompareFloatsRow.holds Try.pinned (OpenSpec.ofChange fnExactCompareFloatsSpec)

/-- ITS FALSE NEIGHBOUR: 'it returns false'. Refute it at one input. -/
def fnExactCompareFloatsWrong : ChangeSpec := { name := "fnExactCompareFloats", fn := fun _ => fun
  | [d1, d2] => { results := [.lit (.bool false)], args := [d1, d2] }
  | _ => none }
def FnExactCompareFloatsWrongFalsely : Prop := fnExactCompareFloatsRow.holds Try.pinned (OpenSpec.ofChange fnExactCompareFloatsWrong)

/-- 'laws.FnExactScaleFloat': WHATEVER THE INPUT: true; the input reads as it did. -/
def fnExactScaleFloatSpec : ChangeSpec := { name := "fnExactScaleFloat", fn := fun _ => fun
  | [d1, d2] => { results := [.lit (.bool true)], args := [d1, d2] }
  | _ => none }
def fnExactScaleFloatRow : OpenClaim := { program := "ytkphbnejnilehaa", sum := "744205ba656c91d553ef1b6aaeab4fb567eadc9512221cbfaaf7237135835ff5", func := "loop.example/g03225/laws.FnExactScaleFloat", spec := "fnExactScaleFloat", apart := false }
def FnExactScaleFloatSaid : Prop := fnExactScaleFloatRow.holds Try.pinned (OpenSpec.ofChange fnExactScaleFloatSpec)

/-- ITS FALSE NEIGHBOUR: 'it returns false'. Refute it at one input. -/
def fnExactScaleFloatWrong : ChangeSpec := { name := "fnExactScaleFloat", fn := fun _ => fun
  | [d1, d2] => { results := [.lit (.bool false)], args := [d1, d2] }
  | _ => none }
def FnExactScaleFloatWrongFalsely : Prop := fnExactScaleFloatRow.holds Try.pinned (OpenSpec.ofChange fnExactScaleFloatWrong)

/-- 'laws.FnExactAddFloats': WHATEVER THE INPUT: true; the input reads as it did. -/
def fnExactAddFloatsSpec : ChangeSpec := { name := "fnExactAddFloats", fn := fun _ => fun
  | [d1, d2] => { results := [.lit (.bool true)], args := [d1, d2] }
  | _ => none }
def fnExactAddFloatsRow : OpenClaim := { program := "ytkphbnejnilehaa", sum := "744205ba656c91d553ef1b6aaeab4fb567eadc9512221cbfaaf7237135835ff5", func := "loop.example/g03225/laws.FnExactAddFloats", spec := "fnExactAddFloats", apart := false }
def FnExactAddFloatsSaid : Prop := fnExactAddFloatsRow.holds Try.pinned (OpenSpec.ofChange fnExactAddFloatsSpec)

/-- ITS FALSE NEIGHBOUR: 'it returns false'. Refute it at one input. -/
def fnExactAddFloatsWrong : ChangeSpec := { name := "fnExactAddFloats", fn := fun _ => fun
  | [d1, d2] => { results := [.lit (.bool false)], args := [d1, d2] }
  | _ => none }
def FnExactAddFloatsWrongFalsely : Prop := fnExactAddFloatsRow.holds Try.pinned (OpenSpec.ofChange fnExactAddFloatsWrong)

/-- 'laws.FnExactSubFloats': WHATEVER THE INPUT: true; the input reads as it did. -/
def fnExactSubFloatsSpec : ChangeSpec := { name := "fnExactSubFloats", fn := fun _ => fun
  | [d1, d2] => { results := [.lit (.bool true)], args := [d1, d2] }
  | _ => none }
def fnExactSubFloatsRow : OpenClaim := { program := "ytkphbnejnilehaa", sum := "744205ba656c91d553ef1b6aaeab4fb567eadc9512221cbfaaf7237135835ff5", func := "loop.example/g03225/laws.FnExactSubFloats", spec := "fnExactSubFloats", apart := false }
def FnExactSubFloatsSaid : Prop := fnExactSubFloatsRow.holds Try.pinned (OpenSpec.ofChange fnExactSubFloatsSpec)

/-- ITS FALSE NEIGHBOUR: 'it returns false'. Refute it at one input. -/
def fnExactSubFloatsWrong : ChangeSpec := { name := "fnExactSubFloats", fn := fun _ => fun
  | [d1, d2] => { results := [.lit (.bool false)], args := [d1, d2] }
  | _ => none }
def FnExactSubFloatsWrongFalsely : Prop := fnExactSubFloatsRow.holds Try.pinned (OpenSpec.ofChange fnExactSubFloatsWrong)

/-- 'laws.FnExactMulFloats': WHATEVER THE INPUT: true; the input reads as it did. -/
def fnExactMulFloatsSpec : ChangeSpec := { name := "fnExactMulFloats", fn := fun _ => fun
  | [d1, d2] => { results := [.lit (.bool true)], args := [d1, d2] }
  | _ => none }
def fnExactMulFloatsRow : OpenClaim := { program := "ytkphbnejnilehaa", sum := "744205ba656c91d553ef1b6aaeab4fb567eadc9512221cbfaaf7237135835ff5", func := "loop.example/g03225/laws.FnExactMulFloats", spec := "fnExactMulFloats", apart := false }
def FnExactMulFloatsSaid : Prop := fnExactMulFloatsRow.holds Try.pinned (OpenSpec.ofChange fnExactMulFloatsSpec)

/-- ITS FALSE NEIGHBOUR: 'it returns false'. Refute it at one input. -/
def fnExactMulFloatsWrong : ChangeSpec := { name := "fnExactMulFloats", fn := fun _ => fun
  | [d1, d2] => { results := [.lit (.bool false)], args := [d1, d2] }
  | _ => none }
def FnExactMulFloatsWrongFalsely : Prop := fnExactMulFloatsRow.holds Try.pinned (OpenSpec.ofChange fnExactMulFloatsWrong)

/-- 'laws.FnExactDivFloats': WHATEVER THE INPUT: true; the input reads as it did. -/
def fnExactDivFloatsSpec : ChangeSpec := { name := "fnExactDivFloats", fn := fun _ => fun
  | [d1, d2] => { results := [.lit (.bool true)], args := [d1, d2] }
  | _ => none }
def fnExactDivFloatsRow : OpenClaim := { program := "ytkphbnejnilehaa", sum := "744205ba656c91d553ef1b6aaeab4fb567eadc9512221cbfaaf7237135835ff5", func := "loop.example/g03225/laws.FnExactDivFloats", spec := "fnExactDivFloats", apart := false }
def FnExactDivFloatsSaid : Prop := fnExactDivFloatsRow.holds Try.pinned (OpenSpec.ofChange fnExactDivFloatsSpec)

/-- ITS FALSE NEIGHBOUR: 'it returns false'. Refute it at one input. -/
def fnExactDivFloatsWrong : ChangeSpec := { name := "fnExactDivFloats", fn := fun _ => fun
  | [d1, d2] => { results := [.lit (.bool false)], args := [d1, d2] }
  | _ => none }
def FnExactDivFloatsWrongFalsely : Prop := fnExactDivFloatsRow.holds Try.pinned (OpenSpec.ofChange fnExactDivFloatsWrong)

/-- 'laws.FnExactFloorFloat': WHATEVER THE INPUT: true; the input reads as it did. -/
def fnExactFloorFloatSpec : ChangeSpec := { name := "fnExactFloorFloat", fn := fun _ => fun
  | [d] => { results := [.lit (.bool true)], args := [d] }
  | _ => none }
def fnExactFloorFloatRow : OpenClaim := { program := "ytkphbnejnilehaa", sum := "744205ba656c91d553ef1b6aaeab4fb567eadc9512221cbfaaf7237135835ff5", func := "loop.example/g03225/laws.FnExactFloorFloat", spec := "fnExactFloorFloat", apart := false }
def FnExactFloorFloatSaid : Prop := fnExactFloorFloatRow.holds Try.pinned (OpenSpec.ofChange fnExactFloorFloatSpec)

/-- ITS FALSE NEIGHBOUR: 'it returns false'. Refute it at one input. -/
def fnExactFloorFloatWrong : ChangeSpec := { name := "fnExactFloorFloat", fn := fun _ => fun
  | [d] => { results := [.lit (.bool false)], args := [d] }
  | _ => none }
def FnExactFloorFloatWrongFalsely : Prop := fnExactFloorFloatRow.holds Try.pinned (OpenSpec.ofChange fnExactFloorFloatWrong)

/-- 'laws.FnExactSingleOf': WHATEVER THE INPUT: true; the input reads as it did. -/
def fnExactSingleOfSpec : ChangeSpec := { name := "fnExactSingleOf", fn := fun _ => fun
  | [d] => { results := [.lit (.bool true)], args := [d] }
  | _ => none }
def fnExactSingleOfRow : OpenClaim := { program := "ytkphbnejnilehaa", sum := "744205ba656c91d553ef1b6aaeab4fb567eadc9512221cbfaaf7237135835ff5", func := "loop.example/g03225/laws.FnExactSingleOf", spec := "fnExactSingleOf", apart := false }
def FnExactSingleOfSaid : Prop := fnExactSingleOfRow.holds Try.pinned (OpenSpec.ofChange fnExactSingleOfSpec)

/-- ITS FALSE NEIGHBOUR: 'it returns false'. Refute it at one input. -/
def fnExactSingleOfWrong : ChangeSpec := { name := "fnExactSingleOf", fn := fun _ => fun
  | [d] => { results := [.lit (.bool false)], args := [d] }
  | _ => none }
def FnExactSingleOfWrongFalsely : Prop := fnExactSingleOfRow.holds Try.pinned (OpenSpec.ofChange fnExactSingleOfWrong)

/- THE SECOND FORM. 'bulk': how many values and letters a reading holds, each counted each time it is reached (what is shared counts as often as it is met; a slice's spare places count too). A statement '..UptoSaid' is the law's where the arguments, and the package variables that the reading takes, are together of bulk at most 1048576: NARROWER than '..Said'. Prove '..Said' where nothing that the law and all that it calls make is longer than what came in: it says more and counts as full. Else prove '..UptoSaid'. A law counts once. -/
mutual
def uptoBulk {H : Type} : DataW H → Nat
  | .lit (.string bytes) => bytes.length + 1
  | .lit _ => 1
  | .nil => 1
  | .ptr d => uptoBulk d + 1
  | .slice elems spare => uptoBulkAll elems + uptoBulkAll spare + 1
  | .agg parts => uptoBulkAll parts + 1
  | .iface _ d => uptoBulk d + 1
  | .map entries => uptoBulkEntries entries + 1
  | .held _ => 1
def uptoBulkAll {H : Type} : List (DataW H) → Nat
  | [] => 0
  | d :: r => uptoBulk d + uptoBulkAll r
def uptoBulkEntries {H : Type} : List (Lit × DataW H) → Nat
  | [] => 0
  | x :: r => uptoBulkEntry x + uptoBulkEntries r
def uptoBulkEntry {H : Type} : Lit × DataW H → Nat
  | (.string bytes, d) => bytes.length + uptoBulk d + 1
  | (_, d) => uptoBulk d + 1
 end
def uptoSmall : (H : Type) → List (DataW H) → Bool := fun _ ds => decide (uptoBulkAll ds ≤ 1048576)
def OpenSpec.upto (s : _root_.Go.ChangeSpec) : _root_.Go.OpenSpec := { _root_.Go.OpenSpec.ofChange s with cond := some uptoSmall }

/-- 'laws.FnExactIsFloat', WHERE WHAT IT READS IS OF BULK AT MOST 1048576: true; the input reads as it did. -/
def fnExactIsFloatUptoRow : OpenClaim := { program := "ytkphbnejnilehaa", sum := "744205ba656c91d553ef1b6aaeab4fb567eadc9512221cbfaaf7237135835ff5", func := "loop.example/g03225/laws.FnExactIsFloat", spec := "fnExactIsFloat", apart := false, narrowed := true }
def FnExactIsFloatUptoSaid : Prop := fnExactIsFloatUptoRow.holds Try.pinned (OpenSpec.upto fnExactIsFloatSpec)

/-- 'laws.FnExactFloatOf', WHERE WHAT IT READS IS OF BULK AT MOST 1048576: true; the input reads as it did. -/
def fnExactFloatOfUptoRow : OpenClaim := { program := "ytkphbnejnilehaa", sum := "744205ba656c91d553ef1b6aaeab4fb567eadc9512221cbfaaf7237135835ff5", func := "loop.example/g03225/laws.FnExactFloatOf", spec := "fnExactFloatOf", apart := false, narrowed := true }
def FnExactFloatOfUptoSaid : Prop := fnExactFloatOfUptoRow.holds Try.pinned (OpenSpec.upto fnExactFloatOfSpec)

/-- 'laws.FnExactNegateFloat', WHERE WHAT IT READS IS OF BULK AT MOST 1048576: true; the input reads as it did. -/
def fnExactNegateFloatUptoRow : OpenClaim := { program := "ytkphbnejnilehaa", sum := "744205ba656c91d553ef1b6aaeab4fb567eadc9512221cbfaaf7237135835ff5", func := "loop.example/g03225/laws.FnExactNegateFloat", spec := "fnExactNegateFloat", apart := false, narrowed := true }
def FnExactNegateFloatUptoSaid : Prop := fnExactNegateFloatUptoRow.holds Try.pinned (OpenSpec.upto fnExactNegateFloatSpec)

/-- 'laws.FnExactCompareFloats', WHERE WHAT IT READS IS OF BULK AT MOST 1048576: true; the input reads as it did. -/
def fnExactCompareFloatsUptoRow : OpenClaim := { program := "ytkphbnejnilehaa", sum := "744205ba656c91d553ef1b6aaeab4fb567eadc9512221cbfaaf7237135835ff5", func := "loop.example/g03225/laws.FnExactCompareFloats", spec := "fnExactCompareFloats", apart := false, narrowed := true }
def FnExactCompareFloatsUptoSaid : Prop := fnExactCompareFloatsUptoRow.holds Try.pinned (OpenSpec.upto fnExactCompareFloatsSpec)

/-- 'laws.FnExactScaleFloat', WHERE WHAT IT READS IS OF BULK AT MOST 1048576: true; the input reads as it did. -/
def fnExactScaleFloatUptoRow : OpenClaim := { program := "ytkphbnejnilehaa", sum := "744205ba656c91d553ef1b6aaeab4fb567eadc9512221cbfaaf7237135835ff5", func := "loop.example/g03225/laws.FnExactScaleFloat", spec := "fnExactScaleFloat", apart := false, narrowed := true }
def FnExactScaleFloatUptoSaid : Prop := fnExactScaleFloatUptoRow.holds Try.pinned (OpenSpec.upto fnExactScaleFloatSpec)

/-- 'laws.FnExactAddFloats', WHERE WHAT IT READS IS OF BULK AT MOST 1048576: true; the input reads as it did. -/
def fnExactAddFloatsUptoRow : OpenClaim := { program := "ytkphbnejnilehaa", sum := "744205ba656c91d553ef1b6aaeab4fb567eadc9512221cbfaaf7237135835ff5", func := "loop.example/g03225/laws.FnExactAddFloats", spec := "fnExactAddFloats", apart := false, narrowed := true }
def FnExactAddFloatsUptoSaid : Prop := fnExactAddFloatsUptoRow.holds Try.pinned (OpenSpec.upto fnExactAddFloatsSpec)

/-- 'laws.FnExactSubFloats', WHERE WHAT IT READS IS OF BULK AT MOST 1048576: true; the input reads as it did. -/
def fnExactSubFloatsUptoRow : OpenClaim := { program := "ytkphbnejnilehaa", sum := "744205ba656c91d553ef1b6aaeab4fb567eadc9512221cbfaaf7237135835ff5", func := "loop.example/g03225/laws.FnExactSubFloats", spec := "fnExactSubFloats", apart := false, narrowed := true }
def FnExactSubFloatsUptoSaid : Prop := fnExactSubFloatsUptoRow.holds Try.pinned (OpenSpec.upto fnExactSubFloatsSpec)

/-- 'laws.FnExactMulFloats', WHERE WHAT IT READS IS OF BULK AT MOST 1048576: true; the input reads as it did. -/
def fnExactMulFloatsUptoRow : OpenClaim := { program := "ytkphbnejnilehaa", sum := "744205ba656c91d553ef1b6aaeab4fb567eadc9512221cbfaaf7237135835ff5", func := "loop.example/g03225/laws.FnExactMulFloats", spec := "fnExactMulFloats", apart := false, narrowed := true }
def FnExactMulFloatsUptoSaid : Prop := fnExactMulFloatsUptoRow.holds Try.pinned (OpenSpec.upto fnExactMulFloatsSpec)

/-- 'laws.FnExactDivFloats', WHERE WHAT IT READS IS OF BULK AT MOST 1048576: true; the input reads as it did. -/
def fnExactDivFloatsUptoRow : OpenClaim := { program := "ytkphbnejnilehaa", sum := "744205ba656c91d553ef1b6aaeab4fb567eadc9512221cbfaaf7237135835ff5", func := "loop.example/g03225/laws.FnExactDivFloats", spec := "fnExactDivFloats", apart := false, narrowed := true }
def FnExactDivFloatsUptoSaid : Prop := fnExactDivFloatsUptoRow.holds Try.pinned (OpenSpec.upto fnExactDivFloatsSpec)

/-- 'laws.FnExactFloorFloat', WHERE WHAT IT READS IS OF BULK AT MOST 1048576: true; the input reads as it did. -/
def fnExactFloorFloatUptoRow : OpenClaim := { program := "ytkphbnejnilehaa", sum := "744205ba656c91d553ef1b6aaeab4fb567eadc9512221cbfaaf7237135835ff5", func := "loop.example/g03225/laws.FnExactFloorFloat", spec := "fnExactFloorFloat", apart := false, narrowed := true }
def FnExactFloorFloatUptoSaid : Prop := fnExactFloorFloatUptoRow.holds Try.pinned (OpenSpec.upto fnExactFloorFloatSpec)

/-- 'laws.FnExactSingleOf', WHERE WHAT IT READS IS OF BULK AT MOST 1048576: true; the input reads as it did. -/
def fnExactSingleOfUptoRow : OpenClaim := { program := "ytkphbnejnilehaa", sum := "744205ba656c91d553ef1b6aaeab4fb567eadc9512221cbfaaf7237135835ff5", func := "loop.example/g03225/laws.FnExactSingleOf", spec := "fnExactSingleOf", apart := false, narrowed := true }
def FnExactSingleOfUptoSaid : Prop := fnExactSingleOfUptoRow.holds Try.pinned (OpenSpec.upto fnExactSingleOfSpec)

end Rows
end Go.Proofs.Ytkphbnejnilehaa

/-
  No cell of these rows narrows 'for every input' (looked for: loops, veiled, ifaces, maps, wideKeys, modest, calm, conditions, laid).
  DERIVED. THE GIVEN ROWS OF THIS SEAT. 9 by the template 'for every input the law returns true; each argument reads behind the call as it read before'; 0 by the template 'total and deterministic' (their statements: YtlbhekfjcbcpaaaTotals.lean).
  GIVEN WITH THE SEED: the statements are not yours to turn. If you find one false, say at which input.
  Laid BY PROGRAM, IN A SANDBOX (cutbox-rows.mjs): the forced cells as the released guide's own fill.sh prints them over the translation 6e95af7821f9c1ea… (all of the seat's roots in one cut). By AI agents, Wed Nov 11 2026. No macro, syntax, notation, axiom, sorry.
-/
import Derived.Test.YtlbhekfjcbcpaaaChecked
import GoSem.Claim
import GoSem.ClaimJoined
import GoSem.ClaimMapViews
import Derived.JoinedTies
import Derived.KernelRfl
namespace Go.Proofs.Ytlbhekfjcbcpaaa
/- THE CELL 'sum', in the pinned program and in every row, IS THE sha256 OF THE DUMP (.gsa) THAT YtlbhekfjcbcpaaaProg.lean LOADS. Nothing in Lean hashes anything: it is a label: what it is worth is what the hold of that sum in a sandbox is worth. -/
noncomputable def Try.pinned : Pinned := { name := "ytlbhekfjcbcpaaa", sum := "6e95af7821f9c1eae0196f1827a84cc1bc900cfb1ef38028dde2c3c1f8dc4798", checked := Try.checked }
namespace Rows
def none {H : Type} : Left H := { results := [], args := [] }

/-- 'laws.FnValues': WHATEVER THE INPUT: true; the input reads as it did. -/
def fnValuesSpec : ChangeSpec := { name := "fnValues", fn := fun _ => fun
  | [d] => { results := [.lit (.bool true)], args := [d] }
  | _ => none }
def fnValuesRow : OpenClaim := { program := "ytlbhekfjcbcpaaa", sum := "6e95af7821f9c1eae0196f1827a84cc1bc900cfb1ef38028dde2c3c1f8dc4798", func := "loop.example/g03225/laws.FnValues", spec := "fnValues", inPlace := ["internal/bytealg.IndexByteString"], plainKeys := false, apart := false }
def FnValuesSaid : Prop := fnValuesRow.holds Try.pinned (OpenSpec.ofChange fnValuesSpec)

/-- ITS FALSE NEIGHBOUR: 'it returns false'. Refute it at one input. -/
def fnValuesWrong : ChangeSpec := { name := "fnValues", fn := fun _ => fun
  | [d] => { results := [.lit (.bool false)], args := [d] }
  | _ => none }
def FnValuesWrongFalsely : Prop := fnValuesRow.holds Try.pinned (OpenSpec.ofChange fnValuesWrong)

/-- 'laws.FnOrder': WHATEVER THE INPUT: true; the input reads as it did. -/
def fnOrderSpec : ChangeSpec := { name := "fnOrder", fn := fun _ => fun
  | [d] => { results := [.lit (.bool true)], args := [d] }
  | _ => none }
def fnOrderRow : OpenClaim := { program := "ytlbhekfjcbcpaaa", sum := "6e95af7821f9c1eae0196f1827a84cc1bc900cfb1ef38028dde2c3c1f8dc4798", func := "loop.example/g03225/laws.FnOrder", spec := "fnOrder", plainKeys := false, apart := false }
def FnOrderSaid : Prop := fnOrderRow.holds Try.pinned (OpenSpec.ofChange fnOrderSpec)

/-- ITS FALSE NEIGHBOUR: 'it returns false'. Refute it at one input. -/
def fnOrderWrong : ChangeSpec := { name := "fnOrder", fn := fun _ => fun
  | [d] => { results := [.lit (.bool false)], args := [d] }
  | _ => none }
def FnOrderWrongFalsely : Prop := fnOrderRow.holds Try.pinned (OpenSpec.ofChange fnOrderWrong)

/-- 'laws.FnRounded': WHATEVER THE INPUT: true; the input reads as it did. -/
def fnRoundedSpec : ChangeSpec := { name := "fnRounded", fn := fun _ => fun
  | [d] => { results := [.lit (.bool true)], args := [d] }
  | _ => none }
def fnRoundedRow : OpenClaim := { program := "ytlbhekfjcbcpaaa", sum := "6e95af7821f9c1eae0196f1827a84cc1bc900cfb1ef38028dde2c3c1f8dc4798", func := "loop.example/g03225/laws.FnRounded", spec := "fnRounded", plainKeys := false, apart := false }
def FnRoundedSaid : Prop := fnRoundedRow.holds Try.pinned (OpenSpec.ofChange fnRoundedSpec)

/-- ITS FALSE NEIGHBOUR: 'it returns false'. Refute it at one input. -/
def fnRoundedWrong : ChangeSpec := { name := "fnRounded", fn := fun _ => fun
  | [d] => { results := [.lit (.bool false)], args := [d] }
  | _ => none }
def FnRoundedWrongFalsely : Prop := fnRoundedRow.holds Try.pinned (OpenSpec.ofChange fnRoundedWrong)

/-- 'laws.FnSliced': WHATEVER THE INPUT: true; the input reads as it did. -/
def fnSlicedSpec : ChangeSpec := { name := "fnSliced", fn := fun _ => fun
  | [d] => { results := [.lit (.bool true)], args := [d] }
  | _ => none }
def fnSlicedRow : OpenClaim := { program := "ytlbhekfjcbcpaaa", sum := "6e95af7821f9c1eae0196f1827a84cc1bc900cfb1ef38028dde2c3c1f8dc4798", func := "loop.example/g03225/laws.FnSliced", spec := "fnSliced", plainKeys := false, apart := false }
def FnSlicedSaid : Prop := fnSlicedRow.holds Try.pinned (OpenSpec.ofChange fnSlicedSpec)

/-- ITS FALSE NEIGHBOUR: 'it returns false'. Refute it at one input. -/
def fnSlicedWrong : ChangeSpec := { name := "fnSliced", fn := fun _ => fun
  | [d] => { results := [.lit (.bool false)], args := [d] }
  | _ => none }
def FnSlicedWrongFalsely : Prop := fnSlicedRow.holds Try.pinned (OpenSpec.ofChange fnSlicedWrong)

/-- 'laws.FnIncrement': WHATEVER THE INPUT: true; the input reads as it did. -/
def fnIncrementSpec : ChangeSpec := { name := "fnIncrement", fn := fun _ => fun
  | [d] => { results := [.lit (.bool true)], args := [d] }
  | _ => none }
def fnIncrementRow : OpenClaim := { program := "ytlbhekfjcbcpaaa", sum := "6e95af7821f9c1eae0196f1827a84cc1bc900cfb1ef38028dde2c3c1f8dc4798", func := "loop.example/g03225/laws.FnIncrement", spec := "fnIncrement", plainKeys := false, apart := false }
def FnIncrementSaid : Prop := fnIncrementRow.holds Try.pinned (OpenSpec.ofChange fnIncrementSpec)

/-- ITS FALSE NEIGHBOUR: 'it returns false'. Refute it at one input. -/
def fnIncrementWrong : ChangeSpec := { name := "fnIncrement", fn := fun _ => fun
  | [d] => { results := [.lit (.bool false)], args := [d] }
  | _ => none }
def FnIncrementWrongFalsely : Prop := fnIncrementRow.holds Try.pinned (OpenSpec.ofChange fnIncrementWrong)

/-- 'laws.FnCarrySave': WHATEVER THE INPUT: true; the input reads as it did. -/
def fnCarrySaveSpec : ChangeSpec := { name := "fnCarrySave", fn := fun _ => fun
  | [d] => { results := [.lit (.bool true)], args := [d] }
  | _ => none }
def fnCarrySaveRow : OpenClaim := { program := "ytlbhekfjcbcpaaa", sum := "6e95af7821f9c1eae0196f1827a84cc1bc900cfb1ef38028dde2c3c1f8dc4798", func := "loop.example/g03225/laws.FnCarrySave", spec := "fnCarrySave", plainKeys := false, apart := false }
def FnCarrySaveSaid : Prop := fnCarrySaveRow.holds Try.pinned (OpenSpec.ofChange fnCarrySaveSpec)

/-- ITS FALSE NEIGHBOUR: 'it returns false'. Refute it at one input. -/
def fnCarrySaveWrong : ChangeSpec := { name := "fnCarrySave", fn := fun _ => fun
  | [d] => { results := [.lit (.bool false)], args := [d] }
  | _ => none }
def FnCarrySaveWrongFalsely : Prop := fnCarrySaveRow.holds Try.pinned (OpenSpec.ofChange fnCarrySaveWrong)

/-- 'laws.FnRedundant': WHATEVER THE INPUT: true; the input reads as it did. -/
def fnRedundantSpec : ChangeSpec := { name := "fnRedundant", fn := fun _ => fun
  | [d] => { results := [.lit (.bool true)], args := [d] }
  | _ => none }
def fnRedundantRow : OpenClaim := { program := "ytlbhekfjcbcpaaa", sum := "6e95af7821f9c1eae0196f1827a84cc1bc900cfb1ef38028dde2c3c1f8dc4798", func := "loop.example/g03225/laws.FnRedundant", spec := "fnRedundant", plainKeys := false, apart := false }
def FnRedundantSaid : Prop := fnRedundantRow.holds Try.pinned (OpenSpec.ofChange fnRedundantSpec)

/-- ITS FALSE NEIGHBOUR: 'it returns false'. Refute it at one input. -/
def fnRedundantWrong : ChangeSpec := { name := "fnRedundant", fn := fun _ => fun
  | [d] => { results := [.lit (.bool false)], args := [d] }
  | _ => none }
def FnRedundantWrongFalsely : Prop := fnRedundantRow.holds Try.pinned (OpenSpec.ofChange fnRedundantWrong)

/-- 'laws.FnMaps': WHATEVER THE INPUT: true; the input reads as it did. -/
def fnMapsSpec : ChangeSpec := { name := "fnMaps", fn := fun _ => fun
  | [d] => { results := [.lit (.bool true)], args := [d] }
  | _ => none }
def fnMapsRow : OpenClaim := { program := "ytlbhekfjcbcpaaa", sum := "6e95af7821f9c1eae0196f1827a84cc1bc900cfb1ef38028dde2c3c1f8dc4798", func := "loop.example/g03225/laws.FnMaps", spec := "fnMaps", plainKeys := false, apart := false }
def FnMapsSaid : Prop := fnMapsRow.holds Try.pinned (OpenSpec.ofChange fnMapsSpec)

/-- ITS FALSE NEIGHBOUR: 'it returns false'. Refute it at one input. -/
def fnMapsWrong : ChangeSpec := { name := "fnMaps", fn := fun _ => fun
  | [d] => { results := [.lit (.bool false)], args := [d] }
  | _ => none }
def FnMapsWrongFalsely : Prop := fnMapsRow.holds Try.pinned (OpenSpec.ofChange fnMapsWrong)

/-- 'laws.FnAdders': WHATEVER THE INPUT: true; the input reads as it did. -/
def fnAddersSpec : ChangeSpec := { name := "fnAdders", fn := fun _ => fun
  | [d] => { results := [.lit (.bool true)], args := [d] }
  | _ => none }
def fnAddersRow : OpenClaim := { program := "ytlbhekfjcbcpaaa", sum := "6e95af7821f9c1eae0196f1827a84cc1bc900cfb1ef38028dde2c3c1f8dc4798", func := "loop.example/g03225/laws.FnAdders", spec := "fnAdders", plainKeys := false, apart := false }
def FnAddersSaid : Prop := fnAddersRow.holds Try.pinned (OpenSpec.ofChange fnAddersSpec)

/-- ITS FALSE NEIGHBOUR: 'it returns false'. Refute it at one input. -/
def fnAddersWrong : ChangeSpec := { name := "fnAdders", fn := fun _ => fun
  | [d] => { results := [.lit (.bool false)], args := [d] }
  | _ => none }
def FnAddersWrongFalsely : Prop := fnAddersRow.holds Try.pinned (OpenSpec.ofChange fnAddersWrong)

/- THE SECOND FORM. 'bulk': how many values and letters a reading holds, each counted each time it is reached (what is shared counts as often as it is met; a slice's spare places count too). A statement '..UptoSaid' is the law's where the arguments, and the package variables that the reading takes, are together of bulk at most 1048576: NARROWER than '..Said'. Prove '..Said' where nothing that the law and all that it calls make is longer than what came in: it says more and counts as full. Else prove '..UptoSaid'. A law counts once. -/
mutual
def uptoBulk {H : Type} : DataW H → Nat
  | .lit (.string bytes) => bytes.length + 1
  | .lit _ => 1
  | .nil => 1
  | .ptr d => uptoBulk d + 1
  | .slice elems spare => uptoBulkAll elems + uptoBulkAll spare + 1
  | .agg parts => uptoBulkAll parts + 1
  | .iface _ d => uptoBulk d + 1
  | .map entries => uptoBulkEntries entries + 1
  | .held _ => 1
def uptoBulkAll {H : Type} : List (DataW H) → Nat
  | [] => 0
  | d :: r => uptoBulk d + uptoBulkAll r
def uptoBulkEntries {H : Type} : List (Lit × DataW H) → Nat
  | [] => 0
  | x :: r => uptoBulkEntry x + uptoBulkEntries r
def uptoBulkEntry {H : Type} : Lit × DataW H → Nat
  | (.string bytes, d) => bytes.length + uptoBulk d + 1
  | (_, d) => uptoBulk d + 1
 end
def uptoSmall : (H : Type) → List (DataW H) → Bool := fun _ ds => decide (uptoBulkAll ds ≤ 1048576)
def OpenSpec.upto (s : _root_.Go.ChangeSpec) : _root_.Go.OpenSpec := { _root_.Go.OpenSpec.ofChange s with cond := some uptoSmall }

/-- 'laws.FnValues', WHERE WHAT IT READS IS OF BULK AT MOST 1048576: true; the input reads as it did. -/
def fnValuesUptoRow : OpenClaim := { program := "ytlbhekfjcbcpaaa", sum := "6e95af7821f9c1eae0196f1827a84cc1bc900cfb1ef38028dde2c3c1f8dc4798", func := "loop.example/g03225/laws.FnValues", spec := "fnValues", inPlace := ["internal/bytealg.IndexByteString"], plainKeys := false, apart := false, narrowed := true }
def FnValuesUptoSaid : Prop := fnValuesUptoRow.holds Try.pinned (OpenSpec.upto fnValuesSpec)

/-- 'laws.FnOrder', WHERE WHAT IT READS IS OF BULK AT MOST 1048576: true; the input reads as it did. -/
def fnOrderUptoRow : OpenClaim := { program := "ytlbhekfjcbcpaaa", sum := "6e95af7821f9c1eae0196f1827a84cc1bc900cfb1ef38028dde2c3c1f8dc4798", func := "loop.example/g03225/laws.FnOrder", spec := "fnOrder", plainKeys := false, apart := false, narrowed := true }
def FnOrderUptoSaid : Prop := fnOrderUptoRow.holds Try.pinned (OpenSpec.upto fnOrderSpec)

/-- 'laws.FnRounded', WHERE WHAT IT READS IS OF BULK AT MOST 1048576: true; the input reads as it did. -/
def fnRoundedUptoRow : OpenClaim := { program := "ytlbhekfjcbcpaaa", sum := "6e95af7821f9c1eae0196f1827a84cc1bc900cfb1ef38028dde2c3c1f8dc4798", func := "loop.example/g03225/laws.FnRounded", spec := "fnRounded", plainKeys := false, apart := false, narrowed := true }
def FnRoundedUptoSaid : Prop := fnRoundedUptoRow.holds Try.pinned (OpenSpec.upto fnRoundedSpec)

/-- 'laws.FnSliced', WHERE WHAT IT READS IS OF BULK AT MOST 1048576: true; the input reads as it did. -/
def fnSlicedUptoRow : OpenClaim := { program := "ytlbhekfjcbcpaaa", sum := "6e95af7821f9c1eae0196f1827a84cc1bc900cfb1ef38028dde2c3c1f8dc4798", func := "loop.example/g03225/laws.FnSliced", spec := "fnSliced", plainKeys := false, apart := false, narrowed := true }
def FnSlicedUptoSaid : Prop := fnSlicedUptoRow.holds Try.pinned (OpenSpec.upto fnSlicedSpec)

/-- 'laws.FnIncrement', WHERE WHAT IT READS IS OF BULK AT MOST 1048576: true; the input reads as it did. -/
def fnIncrementUptoRow : OpenClaim := { program := "ytlbhekfjcbcpaaa", sum := "6e95af7821f9c1eae0196f1827a84cc1bc900cfb1ef38028dde2c3c1f8dc4798", func := "loop.example/g03225/laws.FnIncrement", spec := "fnIncrement", plainKeys := false, apart := false, narrowed := true }
def FnIncrementUptoSaid : Prop := fnIncrementUptoRow.holds Try.pinned (OpenSpec.upto fnIncrementSpec)

/-- 'laws.FnCarrySave', WHERE WHAT IT READS IS OF BULK AT MOST 1048576: true; the input reads as it did. -/
def fnCarrySaveUptoRow : OpenClaim := { program := "ytlbhekfjcbcpaaa", sum := "6e95af7821f9c1eae0196f1827a84cc1bc900cfb1ef38028dde2c3c1f8dc4798", func := "loop.example/g03225/laws.FnCarrySave", spec := "fnCarrySave", plainKeys := false, apart := false, narrowed := true }
def FnCarrySaveUptoSaid : Prop := fnCarrySaveUptoRow.holds Try.pinned (OpenSpec.upto fnCarrySaveSpec)

/-- 'laws.FnRedundant', WHERE WHAT IT READS IS OF BULK AT MOST 1048576: true; the input reads as it did. -/
def fnRedundantUptoRow : OpenClaim := { program := "ytlbhekfjcbcpaaa", sum := "6e95af7821f9c1eae0196f1827a84cc1bc900cfb1ef38028dde2c3c1f8dc4798", func := "loop.example/g03225/laws.FnRedundant", spec := "fnRedundant", plainKeys := false, apart := false, narrowed := true }
def FnRedundantUptoSaid : Prop := fnRedundantUptoRow.holds Try.pinned (OpenSpec.upto fnRedundantSpec)

/-- 'laws.FnMaps', WHERE WHAT IT READS IS OF BULK AT MOST 1048576: true; the input reads as it did. -/
def fnMapsUptoRow : OpenClaim := { program := "ytlbhekfjcbcpaaa", sum := "6e95af7821f9c1eae0196f1827a84cc1bc900cfb1ef38028dde2c3c1f8dc4798", func := "loop.example/g03225/laws.FnMaps", spec := "fnMaps", plainKeys := false, apart := false, narrowed := true }
def FnMapsUptoSaid : Prop := fnMapsUptoRow.holds Try.pinned (OpenSpec.upto fnMapsSpec)

/-- 'laws.FnAdders', WHERE WHAT IT READS IS OF BULK AT MOST 1048576: true; the input reads as it did. -/
def fnAddersUptoRow : OpenClaim := { program := "ytlbhekfjcbcpaaa", sum := "6e95af7821f9c1eae0196f1827a84cc1bc900cfb1ef38028dde2c3c1f8dc4798", func := "loop.example/g03225/laws.FnAdders", spec := "fnAdders", plainKeys := false, apart := false, narrowed := true }
def FnAddersUptoSaid : Prop := fnAddersUptoRow.holds Try.pinned (OpenSpec.upto fnAddersSpec)

end Rows
end Go.Proofs.Ytlbhekfjcbcpaaa

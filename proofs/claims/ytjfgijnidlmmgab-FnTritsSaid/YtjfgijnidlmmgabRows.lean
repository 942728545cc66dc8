/-
  No cell of these rows narrows 'for every input' (looked for: loops, veiled, ifaces, maps, wideKeys, modest, calm, conditions, laid).
  DERIVED. THE GIVEN ROWS OF THIS SEAT. 12 by the template 'for every input the law returns true; each argument reads behind the call as it read before'; 0 by the template 'total and deterministic' (their statements: YtjfgijnidlmmgabTotals.lean).
  GIVEN WITH THE SEED: the statements are not yours to turn. If you find one false, say at which input.
  Laid BY PROGRAM, IN A SANDBOX (cutbox-rows.mjs): the forced cells as the released guide's own fill.sh prints them over the translation e750bebe737c49ec… (all of the seat's roots in one cut). By AI agents, Wed Nov 11 2026. No macro, syntax, notation, axiom, sorry.
-/
import Derived.Test.YtjfgijnidlmmgabChecked
import GoSem.Claim
import GoSem.ClaimJoined
import GoSem.ClaimMapViews
import Derived.JoinedTies
import Derived.KernelRfl
namespace Go.Proofs.Ytjfgijnidlmmgab
/- THE CELL 'sum', in the pinned program and in every row, IS THE sha256 OF THE DUMP (.gsa) THAT YtjfgijnidlmmgabProg.lean LOADS. Nothing in Lean hashes anything: it is a label: what it is worth is what the hold of that sum in a sandbox is worth. -/
noncomputable def Try.pinned : Pinned := { name := "ytjfgijnidlmmgab", sum := "e750bebe737c49ec3b0dc3dc8e97859873fbcf1af7f7865d25ee7ddc752378e2", checked := Try.checked }
namespace Rows
def none {H : Type} : Left H := { results := [], args := [] }

/-- 'laws.FnExactRoundWord': WHATEVER THE INPUT: true; the input reads as it did. -/
def fnExactRoundWordSpec : ChangeSpec := { name := "fnExactRoundWord", fn := fun _ => fun
  | [d1, d2] => { results := [.lit (.bool true)], args := [d1, d2] }
  | _ => none }
def fnExactRoundWordRow : OpenClaim := { program := "ytjfgijnidlmmgab", sum := "e750bebe737c49ec3b0dc3dc8e97859873fbcf1af7f7865d25ee7ddc752378e2", func := "loop.example/g03225/laws.FnExactRoundWord", spec := "fnExactRoundWord", apart := false }
def FnExactRoundWordSaid : Prop := fnExactRoundWordRow.holds Try.pinned (OpenSpec.ofChange fnExactRoundWordSpec)

/-- ITS FALSE NEIGHBOUR: 'it returns false'. Refute it at one input. -/
def fnExactRoundWordWrong : ChangeSpec := { name := "fnExactRoundWord", fn := fun _ => fun
  | [d1, d2] => { results := [.lit (.bool false)], args := [d1, d2] }
  | _ => none }
def FnExactRoundWordWrongFalsely : Prop := fnExactRoundWordRow.holds Try.pinned (OpenSpec.ofChange fnExactRoundWordWrong)

/-- 'laws.FnExactSliceWord': WHATEVER THE INPUT: true; the input reads as it did. -/
def fnExactSliceWordSpec : ChangeSpec := { name := "fnExactSliceWord", fn := fun _ => fun
  | [d1, d2, d3] => { results := [.lit (.bool true)], args := [d1, d2, d3] }
  | _ => none }
def fnExactSliceWordRow : OpenClaim := { program := "ytjfgijnidlmmgab", sum := "e750bebe737c49ec3b0dc3dc8e97859873fbcf1af7f7865d25ee7ddc752378e2", func := "loop.example/g03225/laws.FnExactSliceWord", spec := "fnExactSliceWord", apart := false }
def FnExactSliceWordSaid : Prop := fnExactSliceWordRow.holds Try.pinned (OpenSpec.ofChange fnExactSliceWordSpec)

/-- ITS FALSE NEIGHBOUR: 'it returns false'. Refute it at one input. -/
def fnExactSliceWordWrong : ChangeSpec := { name := "fnExactSliceWord", fn := fun _ => fun
  | [d1, d2, d3] => { results := [.lit (.bool false)], args := [d1, d2, d3] }
  | _ => none }
def FnExactSliceWordWrongFalsely : Prop := fnExactSliceWordRow.holds Try.pinned (OpenSpec.ofChange fnExactSliceWordWrong)

/-- 'laws.FnExactJoinWords': WHATEVER THE INPUT: true; the input reads as it did. -/
def fnExactJoinWordsSpec : ChangeSpec := { name := "fnExactJoinWords", fn := fun _ => fun
  | [d1, d2] => { results := [.lit (.bool true)], args := [d1, d2] }
  | _ => none }
def fnExactJoinWordsRow : OpenClaim := { program := "ytjfgijnidlmmgab", sum := "e750bebe737c49ec3b0dc3dc8e97859873fbcf1af7f7865d25ee7ddc752378e2", func := "loop.example/g03225/laws.FnExactJoinWords", spec := "fnExactJoinWords", apart := false }
def FnExactJoinWordsSaid : Prop := fnExactJoinWordsRow.holds Try.pinned (OpenSpec.ofChange fnExactJoinWordsSpec)

/-- ITS FALSE NEIGHBOUR: 'it returns false'. Refute it at one input. -/
def fnExactJoinWordsWrong : ChangeSpec := { name := "fnExactJoinWords", fn := fun _ => fun
  | [d1, d2] => { results := [.lit (.bool false)], args := [d1, d2] }
  | _ => none }
def FnExactJoinWordsWrongFalsely : Prop := fnExactJoinWordsRow.holds Try.pinned (OpenSpec.ofChange fnExactJoinWordsWrong)

/-- 'laws.FnExactWeightOf': WHATEVER THE INPUT: true; the input reads as it did. -/
def fnExactWeightOfSpec : ChangeSpec := { name := "fnExactWeightOf", fn := fun _ => fun
  | [d] => { results := [.lit (.bool true)], args := [d] }
  | _ => none }
def fnExactWeightOfRow : OpenClaim := { program := "ytjfgijnidlmmgab", sum := "e750bebe737c49ec3b0dc3dc8e97859873fbcf1af7f7865d25ee7ddc752378e2", func := "loop.example/g03225/laws.FnExactWeightOf", spec := "fnExactWeightOf", apart := false }
def FnExactWeightOfSaid : Prop := fnExactWeightOfRow.holds Try.pinned (OpenSpec.ofChange fnExactWeightOfSpec)

/-- ITS FALSE NEIGHBOUR: 'it returns false'. Refute it at one input. -/
def fnExactWeightOfWrong : ChangeSpec := { name := "fnExactWeightOf", fn := fun _ => fun
  | [d] => { results := [.lit (.bool false)], args := [d] }
  | _ => none }
def FnExactWeightOfWrongFalsely : Prop := fnExactWeightOfRow.holds Try.pinned (OpenSpec.ofChange fnExactWeightOfWrong)

/-- 'laws.FnExactSumOf': WHATEVER THE INPUT: true; the input reads as it did. -/
def fnExactSumOfSpec : ChangeSpec := { name := "fnExactSumOf", fn := fun _ => fun
  | [d] => { results := [.lit (.bool true)], args := [d] }
  | _ => none }
def fnExactSumOfRow : OpenClaim := { program := "ytjfgijnidlmmgab", sum := "e750bebe737c49ec3b0dc3dc8e97859873fbcf1af7f7865d25ee7ddc752378e2", func := "loop.example/g03225/laws.FnExactSumOf", spec := "fnExactSumOf", apart := false }
def FnExactSumOfSaid : Prop := fnExactSumOfRow.holds Try.pinned (OpenSpec.ofChange fnExactSumOfSpec)

/-- ITS FALSE NEIGHBOUR: 'it returns false'. Refute it at one input. -/
def fnExactSumOfWrong : ChangeSpec := { name := "fnExactSumOf", fn := fun _ => fun
  | [d] => { results := [.lit (.bool false)], args := [d] }
  | _ => none }
def FnExactSumOfWrongFalsely : Prop := fnExactSumOfRow.holds Try.pinned (OpenSpec.ofChange fnExactSumOfWrong)

/-- 'laws.FnExactReverseWord': WHATEVER THE INPUT: true; the input reads as it did. -/
def fnExactReverseWordSpec : ChangeSpec := { name := "fnExactReverseWord", fn := fun _ => fun
  | [d] => { results := [.lit (.bool true)], args := [d] }
  | _ => none }
def fnExactReverseWordRow : OpenClaim := { program := "ytjfgijnidlmmgab", sum := "e750bebe737c49ec3b0dc3dc8e97859873fbcf1af7f7865d25ee7ddc752378e2", func := "loop.example/g03225/laws.FnExactReverseWord", spec := "fnExactReverseWord", apart := false }
def FnExactReverseWordSaid : Prop := fnExactReverseWordRow.holds Try.pinned (OpenSpec.ofChange fnExactReverseWordSpec)

/-- ITS FALSE NEIGHBOUR: 'it returns false'. Refute it at one input. -/
def fnExactReverseWordWrong : ChangeSpec := { name := "fnExactReverseWord", fn := fun _ => fun
  | [d] => { results := [.lit (.bool false)], args := [d] }
  | _ => none }
def FnExactReverseWordWrongFalsely : Prop := fnExactReverseWordRow.holds Try.pinned (OpenSpec.ofChange fnExactReverseWordWrong)

/-- 'laws.FnRounded': WHATEVER THE INPUT: true; the input reads as it did. -/
def fnRoundedSpec : ChangeSpec := { name := "fnRounded", fn := fun _ => fun
  | [d] => { results := [.lit (.bool true)], args := [d] }
  | _ => none }
def fnRoundedRow : OpenClaim := { program := "ytjfgijnidlmmgab", sum := "e750bebe737c49ec3b0dc3dc8e97859873fbcf1af7f7865d25ee7ddc752378e2", func := "loop.example/g03225/laws.FnRounded", spec := "fnRounded", apart := false }
def FnRoundedSaid : Prop := fnRoundedRow.holds Try.pinned (OpenSpec.ofChange fnRoundedSpec)

/-- ITS FALSE NEIGHBOUR: 'it returns false'. Refute it at one input. -/
def fnRoundedWrong : ChangeSpec := { name := "fnRounded", fn := fun _ => fun
  | [d] => { results := [.lit (.bool false)], args := [d] }
  | _ => none }
def FnRoundedWrongFalsely : Prop := fnRoundedRow.holds Try.pinned (OpenSpec.ofChange fnRoundedWrong)

/-- 'laws.FnSliced': WHATEVER THE INPUT: true; the input reads as it did. -/
def fnSlicedSpec : ChangeSpec := { name := "fnSliced", fn := fun _ => fun
  | [d] => { results := [.lit (.bool true)], args := [d] }
  | _ => none }
def fnSlicedRow : OpenClaim := { program := "ytjfgijnidlmmgab", sum := "e750bebe737c49ec3b0dc3dc8e97859873fbcf1af7f7865d25ee7ddc752378e2", func := "loop.example/g03225/laws.FnSliced", spec := "fnSliced", apart := false }
def FnSlicedSaid : Prop := fnSlicedRow.holds Try.pinned (OpenSpec.ofChange fnSlicedSpec)

/-- ITS FALSE NEIGHBOUR: 'it returns false'. Refute it at one input. -/
def fnSlicedWrong : ChangeSpec := { name := "fnSliced", fn := fun _ => fun
  | [d] => { results := [.lit (.bool false)], args := [d] }
  | _ => none }
def FnSlicedWrongFalsely : Prop := fnSlicedRow.holds Try.pinned (OpenSpec.ofChange fnSlicedWrong)

/-- 'laws.FnValues': WHATEVER THE INPUT: true; the input reads as it did. -/
def fnValuesSpec : ChangeSpec := { name := "fnValues", fn := fun _ => fun
  | [d] => { results := [.lit (.bool true)], args := [d] }
  | _ => none }
def fnValuesRow : OpenClaim := { program := "ytjfgijnidlmmgab", sum := "e750bebe737c49ec3b0dc3dc8e97859873fbcf1af7f7865d25ee7ddc752378e2", func := "loop.example/g03225/laws.FnValues", spec := "fnValues", inPlace := ["internal/bytealg.IndexByteString"], apart := false }
def FnValuesSaid : Prop := fnValuesRow.holds Try.pinned (OpenSpec.ofChange fnValuesSpec)

/-- ITS FALSE NEIGHBOUR: 'it returns false'. Refute it at one input. -/
def fnValuesWrong : ChangeSpec := { name := "fnValues", fn := fun _ => fun
  | [d] => { results := [.lit (.bool false)], args := [d] }
  | _ => none }
def FnValuesWrongFalsely : Prop := fnValuesRow.holds Try.pinned (OpenSpec.ofChange fnValuesWrong)

/-- 'laws.FnOrder': WHATEVER THE INPUT: true; the input reads as it did. -/
def fnOrderSpec : ChangeSpec := { name := "fnOrder", fn := fun _ => fun
  | [d] => { results := [.lit (.bool true)], args := [d] }
  | _ => none }
def fnOrderRow : OpenClaim := { program := "ytjfgijnidlmmgab", sum := "e750bebe737c49ec3b0dc3dc8e97859873fbcf1af7f7865d25ee7ddc752378e2", func := "loop.example/g03225/laws.FnOrder", spec := "fnOrder", apart := false }
def FnOrderSaid : Prop := fnOrderRow.holds Try.pinned (OpenSpec.ofChange fnOrderSpec)

/-- ITS FALSE NEIGHBOUR: 'it returns false'. Refute it at one input. -/
def fnOrderWrong : ChangeSpec := { name := "fnOrder", fn := fun _ => fun
  | [d] => { results := [.lit (.bool false)], args := [d] }
  | _ => none }
def FnOrderWrongFalsely : Prop := fnOrderRow.holds Try.pinned (OpenSpec.ofChange fnOrderWrong)

/-- 'laws.FnTables': WHATEVER THE INPUT: true; the input reads as it did. -/
def fnTablesSpec : ChangeSpec := { name := "fnTables", fn := fun _ => fun
  | [d] => { results := [.lit (.bool true)], args := [d] }
  | _ => none }
def fnTablesRow : OpenClaim := { program := "ytjfgijnidlmmgab", sum := "e750bebe737c49ec3b0dc3dc8e97859873fbcf1af7f7865d25ee7ddc752378e2", func := "loop.example/g03225/laws.FnTables", spec := "fnTables", inPlace := ["internal/bytealg.IndexByteString"], unfollowed := true, recurses := true, apart := false }
def FnTablesSaid : Prop := fnTablesRow.holds Try.pinned (OpenSpec.ofChange fnTablesSpec)

/-- ITS FALSE NEIGHBOUR: 'it returns false'. Refute it at one input. -/
def fnTablesWrong : ChangeSpec := { name := "fnTables", fn := fun _ => fun
  | [d] => { results := [.lit (.bool false)], args := [d] }
  | _ => none }
def FnTablesWrongFalsely : Prop := fnTablesRow.holds Try.pinned (OpenSpec.ofChange fnTablesWrong)

/-- 'laws.FnTrits': WHATEVER THE INPUT: true; the input reads as it did. -/
def fnTritsSpec : ChangeSpec := { name := "fnTrits", fn := fun _ => fun
  | [d] => { results := [.lit (.bool true)], args := [d] }
  | _ => none }
def fnTritsRow : OpenClaim := { program := "ytjfgijnidlmmgab", sum := "e750bebe737c49ec3b0dc3dc8e97859873fbcf1af7f7865d25ee7ddc752378e2", func := "loop.example/g03225/laws.FnTrits", spec := "fnTrits", apart := false }
def FnTritsSaid : Prop := fnTritsRow.holds Try.pinned (OpenSpec.ofChange fnTritsSpec)

/-- ITS FALSE NEIGHBOUR: 'it returns false'. Refute it at one input. -/
def fnTritsWrong : ChangeSpec := { name := "fnTrits", fn := fun _ => fun
  | [d] => { results := [.lit (.bool false)], args := [d] }
  | _ => none }
def FnTritsWrongFalsely : Prop := fnTritsRow.holds Try.pinned (OpenSpec.ofChange fnTritsWrong)

/- THE SECOND FORM. 'bulk': how many values and letters a reading holds, each counted each time it is reached (what is shared counts as often as it is met; a slice's spare places count too). A statement '..UptoSaid' is the law's where the arguments, and the package variables that the reading takes, are together of bulk at most 1048576: NARROWER than '..Said'. Prove '..Said' where nothing that the law and all that it calls make is longer than what came in: it says more and counts as full. Else prove '..UptoSaid'. A law counts once. -/
mutual
def uptoBulk {H : Type} : DataW H → Nat
  | .lit (.string bytes) => bytes.length + 1
  | .lit _ => 1
  | .nil => 1
  | .ptr d => uptoBulk d + 1
  | .slice elems spare => uptoBulkAll elems + uptoBulkAll spare + 1
  | .agg parts => uptoBulkAll parts + 1
  | .iface _ d => uptoBulk d + 1
  | .map entries => uptoBulkEntries entries + 1
  | .held _ => 1
def uptoBulkAll {H : Type} : List (DataW H) → Nat
  | [] => 0
  | d :: r => uptoBulk d + uptoBulkAll r
def uptoBulkEntries {H : Type} : List (Lit × DataW H) → Nat
  | [] => 0
  | x :: r => uptoBulkEntry x + uptoBulkEntries r
def uptoBulkEntry {H : Type} : Lit × DataW H → Nat
  | (.string bytes, d) => bytes.length + uptoBulk d + 1
  | (_, d) => uptoBulk d + 1
 end
def uptoSmall : (H : Type) → List (DataW H) → Bool := fun _ ds => decide (uptoBulkAll ds ≤ 1048576)
def OpenSpec.upto (s : _root_.Go.ChangeSpec) : _root_.Go.OpenSpec := { _root_.Go.OpenSpec.ofChange s with cond := some uptoSmall }

/-- 'laws.FnExactRoundWord', WHERE WHAT IT READS IS OF BULK AT MOST 1048576: true; the input reads as it did. -/
def fnExactRoundWordUptoRow : OpenClaim := { program := "ytjfgijnidlmmgab", sum := "e750bebe737c49ec3b0dc3dc8e97859873fbcf1af7f7865d25ee7ddc752378e2", func := "loop.example/g03225/laws.FnExactRoundWord", spec := "fnExactRoundWord", apart := false, narrowed := true }
def FnExactRoundWordUptoSaid : Prop := fnExactRoundWordUptoRow.holds Try.pinned (OpenSpec.upto fnExactRoundWordSpec)

/-- 'laws.FnExactSliceWord', WHERE WHAT IT READS IS OF BULK AT MOST 1048576: true; the input reads as it did. -/
def fnExactSliceWordUptoRow : OpenClaim := { program := "ytjfgijnidlmmgab", sum := "e750bebe737c49ec3b0dc3dc8e97859873fbcf1af7f7865d25ee7ddc752378e2", func := "loop.example/g03225/laws.FnExactSliceWord", spec := "fnExactSliceWord", apart := false, narrowed := true }
def FnExactSliceWordUptoSaid : Prop := fnExactSliceWordUptoRow.holds Try.pinned (OpenSpec.upto fnExactSliceWordSpec)

/-- 'laws.FnExactJoinWords', WHERE WHAT IT READS IS OF BULK AT MOST 1048576: true; the input reads as it did. -/
def fnExactJoinWordsUptoRow : OpenClaim := { program := "ytjfgijnidlmmgab", sum := "e750bebe737c49ec3b0dc3dc8e97859873fbcf1af7f7865d25ee7ddc752378e2", func := "loop.example/g03225/laws.FnExactJoinWords", spec := "fnExactJoinWords", apart := false, narrowed := true }
def FnExactJoinWordsUptoSaid : Prop := fnExactJoinWordsUptoRow.holds Try.pinned (OpenSpec.upto fnExactJoinWordsSpec)

/-- 'laws.FnExactWeightOf', WHERE WHAT IT READS IS OF BULK AT MOST 1048576: true; the input reads as it did. -/
def fnExactWeightOfUptoRow : OpenClaim := { program := "ytjfgijnidlmmgab", sum := "e750bebe737c49ec3b0dc3dc8e97859873fbcf1af7f7865d25ee7ddc752378e2", func := "loop.example/g03225/laws.FnExactWeightOf", spec := "fnExactWeightOf", apart := false, narrowed := true }
def FnExactWeightOfUptoSaid : Prop := fnExactWeightOfUptoRow.holds Try.pinned (OpenSpec.upto fnExactWeightOfSpec)

/-- 'laws.FnExactSumOf', WHERE WHAT IT READS IS OF BULK AT MOST 1048576: true; the input reads as it did. -/
def fnExactSumOfUptoRow : OpenClaim := { program := "ytjfgijnidlmmgab", sum := "e750bebe737c49ec3b0dc3dc8e97859873fbcf1af7f7865d25ee7ddc752378e2", func := "loop.example/g03225/laws.FnExactSumOf", spec := "fnExactSumOf", apart := false, narrowed := true }
def FnExactSumOfUptoSaid : Prop := fnExactSumOfUptoRow.holds Try.pinned (OpenSpec.upto fnExactSumOfSpec)

/-- 'laws.FnExactReverseWord', WHERE WHAT IT READS IS OF BULK AT MOST 1048576: true; the input reads as it did. -/
def fnExactReverseWordUptoRow : OpenClaim := { program := "ytjfgijnidlmmgab", sum := "e750bebe737c49ec3b0dc3dc8e97859873fbcf1af7f7865d25ee7ddc752378e2", func := "loop.example/g03225/laws.FnExactReverseWord", spec := "fnExactReverseWord", apart := false, narrowed := true }
def FnExactReverseWordUptoSaid : Prop := fnExactReverseWordUptoRow.holds Try.pinned (OpenSpec.upto fnExactReverseWordSpec)

/-- 'laws.FnRounded', WHERE WHAT IT READS IS OF BULK AT MOST 1048576: true; the input reads as it did. -/
def fnRoundedUptoRow : OpenClaim := { program := "ytjfgijnidlmmgab", sum := "e750bebe737c49ec3b0dc3dc8e97859873fbcf1af7f7865d25ee7ddc752378e2", func := "loop.example/g03225/laws.FnRounded", spec := "fnRounded", apart := false, narrowed := true }
def FnRoundedUptoSaid : Prop := fnRoundedUptoRow.holds Try.pinned (OpenSpec.upto fnRoundedSpec)

/-- 'laws.FnSliced', WHERE WHAT IT READS IS OF BULK AT MOST 1048576: true; the input reads as it did. -/
def fnSlicedUptoRow : OpenClaim := { program := "ytjfgijnidlmmgab", sum := "e750bebe737c49ec3b0dc3dc8e97859873fbcf1af7f7865d25ee7ddc752378e2", func := "loop.example/g03225/laws.FnSliced", spec := "fnSliced", apart := false, narrowed := true }
def FnSlicedUptoSaid : Prop := fnSlicedUptoRow.holds Try.pinned (OpenSpec.upto fnSlicedSpec)

/-- 'laws.FnValues', WHERE WHAT IT READS IS OF BULK AT MOST 1048576: true; the input reads as it did. -/
def fnValuesUptoRow : OpenClaim := { program := "ytjfgijnidlmmgab", sum := "e750bebe737c49ec3b0dc3dc8e97859873fbcf1af7f7865d25ee7ddc752378e2", func := "loop.example/g03225/laws.FnValues", spec := "fnValues", inPlace := ["internal/bytealg.IndexByteString"], apart := false, narrowed := true }
def FnValuesUptoSaid : Prop := fnValuesUptoRow.holds Try.pinned (OpenSpec.upto fnValuesSpec)

/-- 'laws.FnOrder', WHERE WHAT IT READS IS OF BULK AT MOST 1048576: true; the input reads as it did. -/
def fnOrderUptoRow : OpenClaim := { program := "ytjfgijnidlmmgab", sum := "e750bebe737c49ec3b0dc3dc8e97859873fbcf1af7f7865d25ee7ddc752378e2", func := "loop.example/g03225/laws.FnOrder", spec := "fnOrder", apart := false, narrowed := true }
def FnOrderUptoSaid : Prop := fnOrderUptoRow.holds Try.pinned (OpenSpec.upto fnOrderSpec)

/-- 'laws.FnTables', WHERE WHAT IT READS IS OF BULK AT MOST 1048576: true; the input reads as it did. -/
def fnTablesUptoRow : OpenClaim := { program := "ytjfgijnidlmmgab", sum := "e750bebe737c49ec3b0dc3dc8e97859873fbcf1af7f7865d25ee7ddc752378e2", func := "loop.example/g03225/laws.FnTables", spec := "fnTables", inPlace := ["internal/bytealg.IndexByteString"], unfollowed := true, recurses := true, apart := false, narrowed := true }
def FnTablesUptoSaid : Prop := fnTablesUptoRow.holds Try.pinned (OpenSpec.upto fnTablesSpec)

/-- 'laws.FnTrits', WHERE WHAT IT READS IS OF BULK AT MOST 1048576: true; the input reads as it did. -/
def fnTritsUptoRow : OpenClaim := { program := "ytjfgijnidlmmgab", sum := "e750bebe737c49ec3b0dc3dc8e97859873fbcf1af7f7865d25ee7ddc752378e2", func := "loop.example/g03225/laws.FnTrits", spec := "fnTrits", apart := false, narrowed := true }
def FnTritsUptoSaid : Prop := fnTritsUptoRow.holds Try.pinned (OpenSpec.upto fnTritsSpec)

end Rows
end Go.Proofs.Ytjfgijnidlmmgab

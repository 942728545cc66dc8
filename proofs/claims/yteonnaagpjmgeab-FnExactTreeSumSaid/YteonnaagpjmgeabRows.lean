/-
  No cell of these rows narrows 'for every input' (looked for: loops, veiled, ifaces, maps, wideKeys, modest, calm, conditions, laid).
  DERIVED. THE GIVEN ROWS OF THIS SEAT. 5 by the template 'for every input the law returns true; each argument reads behind the call as it read before'; 0 by the template 'total and deterministic' (their statements: YteonnaagpjmgeabTotals.lean).
  GIVEN WITH THE SEED: the statements are not yours to turn. If you find one false, say at which input.
  Laid BY PROGRAM, IN A SANDBOX (cutbox-rows.mjs): the forced cells as the released guide's own fill.sh prints them over the translation 91d84f8c2643633e… (all of the seat's roots in one cut). By AI agents, Wed Nov 11 2026. No macro, syntax, notation, axiom, sorry.
-/
import Derived.Test.YteonnaagpjmgeabChecked
import GoSem.Claim
import GoSem.ClaimJoined
import GoSem.ClaimMapViews
import Derived.JoinedTies
import Derived.KernelRfl
namespace Go.Proofs.Yteonnaagpjmgeab
/- THE CELL 'sum', in the pinned program and in every row, IS THE sha256 OF THE DUMP (.gsa) THAT YteonnaagpjmgeabProg.lean LOADS. Nothing in Lean hashes anything: it is a label: what it is worth is what the hold of that sum in a sandbox is worth. -/
noncomputable def Try.pinned : Pinned := { name := "yteonnaagpjmgeab", sum := "91d84f8c2643633e2e7f06ff9489b33226c2c0730f7bf0ca7629961c35d898ba", checked := Try.checked }
namespace Rows
def none {H : Type} : Left H := { results := [], args := [] }

/-- 'laws.FnAdders': WHATEVER THE INPUT: true; the input reads as it did. -/
def fnAddersSpec : ChangeSpec := { name := "fnAdders", fn := fun _ => fun
  | [d] => { results := [.lit (.bool true)], args := [d] }
  | _ => none }
def fnAddersRow : OpenClaim := { program := "yteonnaagpjmgeab", sum := "91d84f8c2643633e2e7f06ff9489b33226c2c0730f7bf0ca7629961c35d898ba", func := "loop.example/g03225/laws.FnAdders", spec := "fnAdders", plainKeys := false, apart := false }
def FnAddersSaid : Prop := fnAddersRow.holds Try.pinned (OpenSpec.ofChange fnAddersSpec)

/-- ITS FALSE NEIGHBOUR: 'it returns false'. Refute it at one input. -/
def fnAddersWrong : ChangeSpec := { name := "fnAdders", fn := fun _ => fun
  | [d] => { results := [.lit (.bool false)], args := [d] }
  | _ => none }
def FnAddersWrongFalsely : Prop := fnAddersRow.holds Try.pinned (OpenSpec.ofChange fnAddersWrong)

/-- 'laws.FnMaps': WHATEVER THE INPUT: true; the input reads as it did. -/
def fnMapsSpec : ChangeSpec := { name := "fnMaps", fn := fun _ => fun
  | [d] => { results := [.lit (.bool true)], args := [d] }
  | _ => none }
def fnMapsRow : OpenClaim := { program := "yteonnaagpjmgeab", sum := "91d84f8c2643633e2e7f06ff9489b33226c2c0730f7bf0ca7629961c35d898ba", func := "loop.example/g03225/laws.FnMaps", spec := "fnMaps", plainKeys := false, apart := false }
def FnMapsSaid : Prop := fnMapsRow.holds Try.pinned (OpenSpec.ofChange fnMapsSpec)

/-- ITS FALSE NEIGHBOUR: 'it returns false'. Refute it at one input. -/
def fnMapsWrong : ChangeSpec := { name := "fnMaps", fn := fun _ => fun
  | [d] => { results := [.lit (.bool false)], args := [d] }
  | _ => none }
def FnMapsWrongFalsely : Prop := fnMapsRow.holds Try.pinned (OpenSpec.ofChange fnMapsWrong)

/-- 'laws.FnCarrySave': WHATEVER THE INPUT: true; the input reads as it did. -/
def fnCarrySaveSpec : ChangeSpec := { name := "fnCarrySave", fn := fun _ => fun
  | [d] => { results := [.lit (.bool true)], args := [d] }
  | _ => none }
def fnCarrySaveRow : OpenClaim := { program := "yteonnaagpjmgeab", sum := "91d84f8c2643633e2e7f06ff9489b33226c2c0730f7bf0ca7629961c35d898ba", func := "loop.example/g03225/laws.FnCarrySave", spec := "fnCarrySave", plainKeys := false, apart := false }
def FnCarrySaveSaid : Prop := fnCarrySaveRow.holds Try.pinned (OpenSpec.ofChange fnCarrySaveSpec)

/-- ITS FALSE NEIGHBOUR: 'it returns false'. Refute it at one input. -/
def fnCarrySaveWrong : ChangeSpec := { name := "fnCarrySave", fn := fun _ => fun
  | [d] => { results := [.lit (.bool false)], args := [d] }
  | _ => none }
def FnCarrySaveWrongFalsely : Prop := fnCarrySaveRow.holds Try.pinned (OpenSpec.ofChange fnCarrySaveWrong)

/-- 'laws.FnExactAddAhead': WHATEVER THE INPUT: true; the input reads as it did. -/
def fnExactAddAheadSpec : ChangeSpec := { name := "fnExactAddAhead", fn := fun _ => fun
  | [d1, d2, d3] => { results := [.lit (.bool true)], args := [d1, d2, d3] }
  | _ => none }
def fnExactAddAheadRow : OpenClaim := { program := "yteonnaagpjmgeab", sum := "91d84f8c2643633e2e7f06ff9489b33226c2c0730f7bf0ca7629961c35d898ba", func := "loop.example/g03225/laws.FnExactAddAhead", spec := "fnExactAddAhead", plainKeys := false, apart := false }
def FnExactAddAheadSaid : Prop := fnExactAddAheadRow.holds Try.pinned (OpenSpec.ofChange fnExactAddAheadSpec)

/-- ITS FALSE NEIGHBOUR: 'it returns false'. Refute it at one input. -/
def fnExactAddAheadWrong : ChangeSpec := { name := "fnExactAddAhead", fn := fun _ => fun
  | [d1, d2, d3] => { results := [.lit (.bool false)], args := [d1, d2, d3] }
  | _ => none }
def FnExactAddAheadWrongFalsely : Prop := fnExactAddAheadRow.holds Try.pinned (OpenSpec.ofChange fnExactAddAheadWrong)

/-- 'laws.FnExactTreeSum': WHATEVER THE INPUT: true; the input reads as it did. -/
def fnExactTreeSumSpec : ChangeSpec := { name := "fnExactTreeSum", fn := fun _ => fun
  | [d] => { results := [.lit (.bool true)], args := [d] }
  | _ => none }
def fnExactTreeSumRow : OpenClaim := { program := "yteonnaagpjmgeab", sum := "91d84f8c2643633e2e7f06ff9489b33226c2c0730f7bf0ca7629961c35d898ba", func := "loop.example/g03225/laws.FnExactTreeSum", spec := "fnExactTreeSum", plainKeys := false, apart := false }
def FnExactTreeSumSaid : Prop := fnExactTreeSumRow.holds Try.pinned (OpenSpec.ofChange fnExactTreeSumSpec)

/-- ITS FALSE NEIGHBOUR: 'it returns false'. Refute it at one input. -/
def fnExactTreeSumWrong : ChangeSpec := { name := "fnExactTreeSum", fn := fun _ => fun
  | [d] => { results := [.lit (.bool false)], args := [d] }
  | _ => none }
def FnExactTreeSumWrongFalsely : Prop := fnExactTreeSumRow.holds Try.pinned (OpenSpec.ofChange fnExactTreeSumWrong)

/- THE SECOND FORM. 'bulk': how many values and letters a reading holds, each counted each time it is reached (what is shared counts as often as it is met; a slice's spare places count too). A statement '..UptoSaid' is the law's where the arguments, and the package variables that the reading takes, are together of bulk at most 1048576: NARROWER than '..Said'. Prove '..Said' where nothing that the law and all that it calls make is longer than what came in: it says more and counts as full. Else prove '..UptoSaid'. A law counts once. -/
mutual
def uptoBulk {H : Type} : DataW H → Nat
  | .lit (.string bytes) => bytes.length + 1
  | .lit _ => 1
  | .nil => 1
  | .ptr d => uptoBulk d + 1
  | .slice elems spare => uptoBulkAll elems + uptoBulkAll spare + 1
  | .agg parts => uptoBulkAll parts + 1
  | .iface _ d => uptoBulk d + 1
  | .map entries => uptoBulkEntries entries + 1
  | .held _ => 1
def uptoBulkAll {H : Type} : List (DataW H) → Nat
  | [] => 0
  | d :: r => uptoBulk d + uptoBulkAll r
def uptoBulkEntries {H : Type} : List (Lit × DataW H) → Nat
  | [] => 0
  | x :: r => uptoBulkEntry x + uptoBulkEntries r
def uptoBulkEntry {H : Type} : Lit × DataW H → Nat
  | (.string bytes, d) => bytes.length + uptoBulk d + 1
  | (_, d) => uptoBulk d + 1
 end
def uptoSmall : (H : Type) → List (DataW H) → Bool := fun _ ds => decide (uptoBulkAll ds ≤ 1048576)
def OpenSpec.upto (s : _root_.Go.ChangeSpec) : _root_.Go.OpenSpec := { _root_.Go.OpenSpec.ofChange s with cond := some uptoSmall }

/-- 'laws.FnAdders', WHERE WHAT IT READS IS OF BULK AT MOST 1048576: true; the input reads as it did. -/
def fnAddersUptoRow : OpenClaim := { program := "yteonnaagpjmgeab", sum := "91d84f8c2643633e2e7f06ff9489b33226c2c0730f7bf0ca7629961c35d898ba", func := "loop.example/g03225/laws.FnAdders", spec := "fnAdders", plainKeys := false, apart := false, narrowed := true }
def FnAddersUptoSaid : Prop := fnAddersUptoRow.holds Try.pinned (OpenSpec.upto fnAddersSpec)

/-- 'laws.FnMaps', WHERE WHAT IT READS IS OF BULK AT MOST 1048576: true; the input reads as it did. -/
def fnMapsUptoRow : OpenClaim := { program := "yteonnaagpjmgeab", sum := "91d84f8c2643633e2e7f06ff9489b33226c2c0730f7bf0ca7629961c35d898ba", func := "loop.example/g03225/laws.FnMaps", spec := "fnMaps", plainKeys := false, apart := false, narrowed := true }
def FnMapsUptoSaid : Prop := fnMapsUptoRow.holds Try.pinned (OpenSpec.upto fnMapsSpec)

/-- 'laws.FnCarrySave', WHERE WHAT IT READS IS OF BULK AT MOST 1048576: true; the input reads as it did. -/
def fnCarrySaveUptoRow : OpenClaim := { program := "yteonnaagpjmgeab", sum := "91d84f8c2643633e2e7f06ff9489b33226c2c0730f7bf0ca7629961c35d898ba", func := "loop.example/g03225/laws.FnCarrySave", spec := "fnCarrySave", plainKeys := false, apart := false, narrowed := true }
def FnCarrySaveUptoSaid : Prop := fnCarrySaveUptoRow.holds Try.pinned (OpenSpec.upto fnCarrySaveSpec)

/-- 'laws.FnExactAddAhead', WHERE WHAT IT READS IS OF BULK AT MOST 1048576: true; the input reads as it did. -/
def fnExactAddAheadUptoRow : OpenClaim := { program := "yteonnaagpjmgeab", sum := "91d84f8c2643633e2e7f06ff9489b33226c2c0730f7bf0ca7629961c35d898ba", func := "loop.example/g03225/laws.FnExactAddAhead", spec := "fnExactAddAhead", plainKeys := false, apart := false, narrowed := true }
def FnExactAddAheadUptoSaid : Prop := fnExactAddAheadUptoRow.holds Try.pinned (OpenSpec.upto fnExactAddAheadSpec)

/-- 'laws.FnExactTreeSum', WHERE WHAT IT READS IS OF BULK AT MOST 1048576: true; the input reads as it did. -/
def fnExactTreeSumUptoRow : OpenClaim := { program := "yteonnaagpjmgeab", sum := "91d84f8c2643633e2e7f06ff9489b33226c2c0730f7bf0ca7629961c35d898ba", func := "loop.example/g03225/laws.FnExactTreeSum", spec := "fnExactTreeSum", plainKeys := false, apart := false, narrowed := true }
def FnExactTreeSumUptoSaid : Prop := fnExactTreeSumUptoRow.holds Try.pinned (OpenSpec.upto fnExactTreeSumSpec)

end Rows
end Go.Proofs.Yteonnaagpjmgeab

/-
  No cell of these rows narrows 'for every input' (looked for: loops, veiled, ifaces, maps, wideKeys, modest, calm, conditions, laid).
  DERIVED. THE GIVEN ROWS OF THIS SEAT. 2 by the template 'for every input the law returns true; each argument reads behind the call as it read before'; 0 by the template 'total and deterministic' (their statements: YtgkljlmfflbejaaTotals.lean).
  GIVEN WITH THE SEED: the statements are not yours to turn. If you find one false, say at which input.
  Laid BY PROGRAM, IN A SANDBOX (cutbox-rows.mjs): the forced cells as the released guide's own fill.sh prints them over the translation 22fef24e452c9600… (all of the seat's roots in one cut). By AI agents, Wed Nov 11 2026. No macro, syntax, notation, axiom, sorry.
-/
import Derived.Test.YtgkljlmfflbejaaChecked
import GoSem.Claim
import GoSem.ClaimJoined
import GoSem.ClaimMapViews
import Derived.JoinedTies
import Derived.KernelRfl
namespace Go.Proofs.Ytgkljlmfflbejaa
/- THE CELL 'sum', in the pinned program and in every row, IS THE sha256 OF THE DUMP (.gsa) THAT YtgkljlmfflbejaaProg.lean LOADS. Nothing in Lean hashes anything: it is a label: what it is worth is what the hold of that sum in a sandbox is worth. -/
noncomputable def Try.pinned : Pinned := { name := "ytgkljlmfflbejaa", sum := "22fef24e452c960081a903718958a3b4697c5a36c840681e9d894b537a3fa635", checked := Try.checked }
namespace Rows
def none {H : Type} : Left H := { results := [], args := [] }

/-- 'laws.FnFloatExact': WHATEVER THE INPUT: true; the input reads as it did. -/
def fnFloatExactSpec : ChangeSpec := { name := "fnFloatExact", fn := fun _ => fun
  | [d] => { results := [.lit (.bool true)], args := [d] }
  | _ => none }
def fnFloatExactRow : OpenClaim := { program := "ytgkljlmfflbejaa", sum := "22fef24e452c960081a903718958a3b4697c5a36c840681e9d894b537a3fa635", func := "loop.example/g03225/laws.FnFloatExact", spec := "fnFloatExact", apart := false }
def FnFloatExactSaid : Prop := fnFloatExactRow.holds Try.pinned (OpenSpec.ofChange fnFloatExactSpec)

/-- ITS FALSE NEIGHBOUR: 'it returns false'. Refute it at one input. -/
def fnFloatExactWrong : ChangeSpec := { name := "fnFloatExact", fn := fun _ => fun
  | [d] => { results := [.lit (.bool false)], args := [d] }
  | _ => none }
def FnFloatExactWrongFalsely : Prop := fnFloatExactRow.holds Try.pinned (OpenSpec.ofChange fnFloatExactWrong)

/-- 'laws.FnFloatOrder': WHATEVER THE INPUT: true; the input reads as it did. -/
def fnFloatOrderSpec : ChangeSpec := { name := "fnFloatOrder", fn := fun _ => fun
  | [d] => { results := [.lit (.bool true)], args := [d] }
  | _ => none }
def fnFloatOrderRow : OpenClaim := { program := "ytgkljlmfflbejaa", sum := "22fef24e452c960081a903718958a3b4697c5a36c840681e9d894b537a3fa635", func := "loop.example/g03225/laws.FnFloatOrder", spec := "fnFloatOrder", apart := false }
def FnFloatOrderSaid : Prop := fnFloatOrderRow.holds Try.pinned (OpenSpec.ofChange fnFloatOrderSpec)

/-- ITS FALSE NEIGHBOUR: 'it returns false'. Refute it at one input. -/
def fnFloatOrderWrong : ChangeSpec := { name := "fnFloatOrder", fn := fun _ => fun
  | [d] => { results := [.lit (.bool false)], args := [d] }
  | _ => none }
def FnFloatOrderWrongFalsely : Prop := fnFloatOrderRow.holds Try.pinned (OpenSpec.ofChange fnFloatOrderWrong)

/- THE SECOND FORM. 'bulk': how many values and letters a reading holds, each counted each time it is reached (what is shared counts as often as it is met; a slice's spare places count too). A statement '..UptoSaid' is the law's where the arguments, and the package variables that the reading takes, are together of bulk at most 1048576: NARROWER than '..Said'. Prove '..Said' where nothing that the law and all that it calls make is longer than what came in: it says more and counts as full. Else prove '..UptoSaid'. A law counts once. -/
mutual
def uptoBulk {H : Type} : DataW H → Nat
  | .lit (.string bytes) => bytes.length + 1
  | .lit _ => 1
  | .nil => 1
  | .ptr d => uptoBulk d + 1
  | .slice elems spare => uptoBulkAll elems + uptoBulkAll spare + 1
  | .agg parts => uptoBulkAll parts + 1
  | .iface _ d => uptoBulk d + 1
  | .map entries => uptoBulkEntries entries + 1
  | .held _ => 1
def uptoBulkAll {H : Type} : List (DataW H) → Nat
  | [] => 0
  | d :: r => uptoBulk d + uptoBulkAll r
def uptoBulkEntries {H : Type} : List (Lit × DataW H) → Nat
  | [] => 0
  | x :: r => uptoBulkEntry x + uptoBulkEntries r
def uptoBulkEntry {H : Type} : Lit × DataW H → Nat
  | (.string bytes, d) => bytes.length + uptoBulk d + 1
  | (_, d) => uptoBulk d + 1
 end
def uptoSmall : (H : Type) → List (DataW H) → Bool := fun _ ds => decide (uptoBulkAll ds ≤ 1048576)
def OpenSpec.upto (s : _root_.Go.ChangeSpec) : _root_.Go.OpenSpec := { _root_.Go.OpenSpec.ofChange s with cond := some uptoSmall }

/-- 'laws.FnFloatExact', WHERE WHAT IT READS IS OF BULK AT MOST 1048576: true; the input reads as it did. -/
def fnFloatExactUptoRow : OpenClaim := { program := "ytgkljlmfflbejaa", sum := "22fef24e452c960081a903718958a3b4697c5a36c840681e9d894b537a3fa635", func := "loop.example/g03225/laws.FnFloatExact", spec := "fnFloatExact", apart := false, narrowed := true }
def FnFloatExactUptoSaid : Prop := fnFloatExactUptoRow.holds Try.pinned (OpenSpec.upto fnFloatExactSpec)

/-- 'laws.FnFloatOrder', WHERE WHAT IT READS IS OF BULK AT MOST 1048576: true; the input reads as it did. -/
def fnFloatOrderUptoRow : OpenClaim := { program := "ytgkljlmfflbejaa", sum := "22fef24e452c960081a903718958a3b4697c5a36c840681e9d894b537a3fa635", func := "loop.example/g03225/laws.FnFloatOrder", spec := "fnFloatOrder", apart := false, narrowed := true }
def FnFloatOrderUptoSaid : Prop := fnFloatOrderUptoRow.holds Try.pinned (OpenSpec.upto fnFloatOrderSpec)

end Rows
end Go.Proofs.Ytgkljlmfflbejaa

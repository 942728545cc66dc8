/-
  No cell of these rows narrows 'for every input' (looked for: loops, veiled, ifaces, maps, wideKeys, modest, calm, conditions, laid).
  DERIVED. THE GIVEN ROWS OF THIS SEAT. 13 by the template 'for every input the law returns true; each argument reads behind the call as it read before'; 0 by the template 'total and deterministic' (their statements: YteonnaagpjmgeaaTotals.lean).
  GIVEN WITH THE SEED: the statements are not yours to turn. If you find one false, say at which input.
  Laid BY PROGRAM, IN A SANDBOX (cutbox-rows.mjs): the forced cells as the released guide's own fill.sh prints them over the translation 639c56fda75df2c3… (all of the seat's roots in one cut). By AI agents, Wed Nov 11 2026. No macro, syntax, notation, axiom, sorry.
-/
import Derived.Test.YteonnaagpjmgeaaChecked
import GoSem.Claim
import GoSem.ClaimJoined
import GoSem.ClaimMapViews
import Derived.JoinedTies
import Derived.KernelRfl
namespace Go.Proofs.Yteonnaagpjmgeaa
/- THE CELL 'sum', in the pinned program and in every row, IS THE sha256 OF THE DUMP (.gsa) THAT YteonnaagpjmgeaaProg.lean LOADS. Nothing in Lean hashes anything: it is a label: what it is worth is what the hold of that sum in a sandbox is worth. -/
noncomputable def Try.pinned : Pinned := { name := "yteonnaagpjmgeaa", sum := "639c56fda75df2c3882cb5bb5de07997493eb3e9f2f636f76870a839226f53f7", checked := Try.checked }
namespace Rows
def none {H : Type} : Left H := { results := [], args := [] }

/-- 'laws.FnRedundant': WHATEVER THE INPUT: true; the input reads as it did. -/
def fnRedundantSpec : ChangeSpec := { name := "fnRedundant", fn := fun _ => fun
  | [d] => { results := [.lit (.bool true)], args := [d] }
  | _ => none }
def fnRedundantRow : OpenClaim := { program := "yteonnaagpjmgeaa", sum := "639c56fda75df2c3882cb5bb5de07997493eb3e9f2f636f76870a839226f53f7", func := "loop.example/g03225/laws.FnRedundant", spec := "fnRedundant", apart := false }
def FnRedundantSaid : Prop := fnRedundantRow.holds Try.pinned (OpenSpec.ofChange fnRedundantSpec)

/-- ITS FALSE NEIGHBOUR: 'it returns false'. Refute it at one input. -/
def fnRedundantWrong : ChangeSpec := { name := "fnRedundant", fn := fun _ => fun
  | [d] => { results := [.lit (.bool false)], args := [d] }
  | _ => none }
def FnRedundantWrongFalsely : Prop := fnRedundantRow.holds Try.pinned (OpenSpec.ofChange fnRedundantWrong)

/-- 'laws.FnIncrement': WHATEVER THE INPUT: true; the input reads as it did. -/
def fnIncrementSpec : ChangeSpec := { name := "fnIncrement", fn := fun _ => fun
  | [d] => { results := [.lit (.bool true)], args := [d] }
  | _ => none }
def fnIncrementRow : OpenClaim := { program := "yteonnaagpjmgeaa", sum := "639c56fda75df2c3882cb5bb5de07997493eb3e9f2f636f76870a839226f53f7", func := "loop.example/g03225/laws.FnIncrement", spec := "fnIncrement", apart := false }
def FnIncrementSaid : Prop := fnIncrementRow.holds Try.pinned (OpenSpec.ofChange fnIncrementSpec)

/-- ITS FALSE NEIGHBOUR: 'it returns false'. Refute it at one input. -/
def fnIncrementWrong : ChangeSpec := { name := "fnIncrement", fn := fun _ => fun
  | [d] => { results := [.lit (.bool false)], args := [d] }
  | _ => none }
def FnIncrementWrongFalsely : Prop := fnIncrementRow.holds Try.pinned (OpenSpec.ofChange fnIncrementWrong)

/-- 'laws.FnExactAddWords': WHATEVER THE INPUT: true; the input reads as it did. -/
def fnExactAddWordsSpec : ChangeSpec := { name := "fnExactAddWords", fn := fun _ => fun
  | [d1, d2, d3] => { results := [.lit (.bool true)], args := [d1, d2, d3] }
  | _ => none }
def fnExactAddWordsRow : OpenClaim := { program := "yteonnaagpjmgeaa", sum := "639c56fda75df2c3882cb5bb5de07997493eb3e9f2f636f76870a839226f53f7", func := "loop.example/g03225/laws.FnExactAddWords", spec := "fnExactAddWords", apart := false }
def FnExactAddWordsSaid : Prop := fnExactAddWordsRow.holds Try.pinned (OpenSpec.ofChange fnExactAddWordsSpec)

/-- ITS FALSE NEIGHBOUR: 'it returns false'. Refute it at one input. -/
def fnExactAddWordsWrong : ChangeSpec := { name := "fnExactAddWords", fn := fun _ => fun
  | [d1, d2, d3] => { results := [.lit (.bool false)], args := [d1, d2, d3] }
  | _ => none }
def FnExactAddWordsWrongFalsely : Prop := fnExactAddWordsRow.holds Try.pinned (OpenSpec.ofChange fnExactAddWordsWrong)

/-- 'laws.FnExactSubWords': WHATEVER THE INPUT: true; the input reads as it did. -/
def fnExactSubWordsSpec : ChangeSpec := { name := "fnExactSubWords", fn := fun _ => fun
  | [d1, d2] => { results := [.lit (.bool true)], args := [d1, d2] }
  | _ => none }
def fnExactSubWordsRow : OpenClaim := { program := "yteonnaagpjmgeaa", sum := "639c56fda75df2c3882cb5bb5de07997493eb3e9f2f636f76870a839226f53f7", func := "loop.example/g03225/laws.FnExactSubWords", spec := "fnExactSubWords", apart := false }
def FnExactSubWordsSaid : Prop := fnExactSubWordsRow.holds Try.pinned (OpenSpec.ofChange fnExactSubWordsSpec)

/-- ITS FALSE NEIGHBOUR: 'it returns false'. Refute it at one input. -/
def fnExactSubWordsWrong : ChangeSpec := { name := "fnExactSubWords", fn := fun _ => fun
  | [d1, d2] => { results := [.lit (.bool false)], args := [d1, d2] }
  | _ => none }
def FnExactSubWordsWrongFalsely : Prop := fnExactSubWordsRow.holds Try.pinned (OpenSpec.ofChange fnExactSubWordsWrong)

/-- 'laws.FnExactCarriesOf': WHATEVER THE INPUT: true; the input reads as it did. -/
def fnExactCarriesOfSpec : ChangeSpec := { name := "fnExactCarriesOf", fn := fun _ => fun
  | [d1, d2, d3] => { results := [.lit (.bool true)], args := [d1, d2, d3] }
  | _ => none }
def fnExactCarriesOfRow : OpenClaim := { program := "yteonnaagpjmgeaa", sum := "639c56fda75df2c3882cb5bb5de07997493eb3e9f2f636f76870a839226f53f7", func := "loop.example/g03225/laws.FnExactCarriesOf", spec := "fnExactCarriesOf", apart := false }
def FnExactCarriesOfSaid : Prop := fnExactCarriesOfRow.holds Try.pinned (OpenSpec.ofChange fnExactCarriesOfSpec)

/-- ITS FALSE NEIGHBOUR: 'it returns false'. Refute it at one input. -/
def fnExactCarriesOfWrong : ChangeSpec := { name := "fnExactCarriesOf", fn := fun _ => fun
  | [d1, d2, d3] => { results := [.lit (.bool false)], args := [d1, d2, d3] }
  | _ => none }
def FnExactCarriesOfWrongFalsely : Prop := fnExactCarriesOfRow.holds Try.pinned (OpenSpec.ofChange fnExactCarriesOfWrong)

/-- 'laws.FnExactMapOf': WHATEVER THE INPUT: true; the input reads as it did. -/
def fnExactMapOfSpec : ChangeSpec := { name := "fnExactMapOf", fn := fun _ => fun
  | [d1, d2] => { results := [.lit (.bool true)], args := [d1, d2] }
  | _ => none }
def fnExactMapOfRow : OpenClaim := { program := "yteonnaagpjmgeaa", sum := "639c56fda75df2c3882cb5bb5de07997493eb3e9f2f636f76870a839226f53f7", func := "loop.example/g03225/laws.FnExactMapOf", spec := "fnExactMapOf", apart := false }
def FnExactMapOfSaid : Prop := fnExactMapOfRow.holds Try.pinned (OpenSpec.ofChange fnExactMapOfSpec)

/-- ITS FALSE NEIGHBOUR: 'it returns false'. Refute it at one input. -/
def fnExactMapOfWrong : ChangeSpec := { name := "fnExactMapOf", fn := fun _ => fun
  | [d1, d2] => { results := [.lit (.bool false)], args := [d1, d2] }
  | _ => none }
def FnExactMapOfWrongFalsely : Prop := fnExactMapOfRow.holds Try.pinned (OpenSpec.ofChange fnExactMapOfWrong)

/-- 'laws.FnExactThenMap': WHATEVER THE INPUT: true; the input reads as it did. -/
def fnExactThenMapSpec : ChangeSpec := { name := "fnExactThenMap", fn := fun _ => fun
  | [d1, d2] => { results := [.lit (.bool true)], args := [d1, d2] }
  | _ => none }
def fnExactThenMapRow : OpenClaim := { program := "yteonnaagpjmgeaa", sum := "639c56fda75df2c3882cb5bb5de07997493eb3e9f2f636f76870a839226f53f7", func := "loop.example/g03225/laws.FnExactThenMap", spec := "fnExactThenMap", apart := false }
def FnExactThenMapSaid : Prop := fnExactThenMapRow.holds Try.pinned (OpenSpec.ofChange fnExactThenMapSpec)

/-- ITS FALSE NEIGHBOUR: 'it returns false'. Refute it at one input. -/
def fnExactThenMapWrong : ChangeSpec := { name := "fnExactThenMap", fn := fun _ => fun
  | [d1, d2] => { results := [.lit (.bool false)], args := [d1, d2] }
  | _ => none }
def FnExactThenMapWrongFalsely : Prop := fnExactThenMapRow.holds Try.pinned (OpenSpec.ofChange fnExactThenMapWrong)

/-- 'laws.FnExactIncrementWord': WHATEVER THE INPUT: true; the input reads as it did. -/
def fnExactIncrementWordSpec : ChangeSpec := { name := "fnExactIncrementWord", fn := fun _ => fun
  | [d] => { results := [.lit (.bool true)], args := [d] }
  | _ => none }
def fnExactIncrementWordRow : OpenClaim := { program := "yteonnaagpjmgeaa", sum := "639c56fda75df2c3882cb5bb5de07997493eb3e9f2f636f76870a839226f53f7", func := "loop.example/g03225/laws.FnExactIncrementWord", spec := "fnExactIncrementWord", apart := false }
def FnExactIncrementWordSaid : Prop := fnExactIncrementWordRow.holds Try.pinned (OpenSpec.ofChange fnExactIncrementWordSpec)

/-- ITS FALSE NEIGHBOUR: 'it returns false'. Refute it at one input. -/
def fnExactIncrementWordWrong : ChangeSpec := { name := "fnExactIncrementWord", fn := fun _ => fun
  | [d] => { results := [.lit (.bool false)], args := [d] }
  | _ => none }
def FnExactIncrementWordWrongFalsely : Prop := fnExactIncrementWordRow.holds Try.pinned (OpenSpec.ofChange fnExactIncrementWordWrong)

/-- 'laws.FnExactCarrySave': WHATEVER THE INPUT: true; the input reads as it did. -/
def fnExactCarrySaveSpec : ChangeSpec := { name := "fnExactCarrySave", fn := fun _ => fun
  | [d1, d2, d3] => { results := [.lit (.bool true)], args := [d1, d2, d3] }
  | _ => none }
def fnExactCarrySaveRow : OpenClaim := { program := "yteonnaagpjmgeaa", sum := "639c56fda75df2c3882cb5bb5de07997493eb3e9f2f636f76870a839226f53f7", func := "loop.example/g03225/laws.FnExactCarrySave", spec := "fnExactCarrySave", apart := false }
def FnExactCarrySaveSaid : Prop := fnExactCarrySaveRow.holds Try.pinned (OpenSpec.ofChange fnExactCarrySaveSpec)

/-- ITS FALSE NEIGHBOUR: 'it returns false'. Refute it at one input. -/
def fnExactCarrySaveWrong : ChangeSpec := { name := "fnExactCarrySave", fn := fun _ => fun
  | [d1, d2, d3] => { results := [.lit (.bool false)], args := [d1, d2, d3] }
  | _ => none }
def FnExactCarrySaveWrongFalsely : Prop := fnExactCarrySaveRow.holds Try.pinned (OpenSpec.ofChange fnExactCarrySaveWrong)

/-- 'laws.FnExactIsRedundant': WHATEVER THE INPUT: true; the input reads as it did. -/
def fnExactIsRedundantSpec : ChangeSpec := { name := "fnExactIsRedundant", fn := fun _ => fun
  | [d] => { results := [.lit (.bool true)], args := [d] }
  | _ => none }
def fnExactIsRedundantRow : OpenClaim := { program := "yteonnaagpjmgeaa", sum := "639c56fda75df2c3882cb5bb5de07997493eb3e9f2f636f76870a839226f53f7", func := "loop.example/g03225/laws.FnExactIsRedundant", spec := "fnExactIsRedundant", apart := false }
def FnExactIsRedundantSaid : Prop := fnExactIsRedundantRow.holds Try.pinned (OpenSpec.ofChange fnExactIsRedundantSpec)

/-- ITS FALSE NEIGHBOUR: 'it returns false'. Refute it at one input. -/
def fnExactIsRedundantWrong : ChangeSpec := { name := "fnExactIsRedundant", fn := fun _ => fun
  | [d] => { results := [.lit (.bool false)], args := [d] }
  | _ => none }
def FnExactIsRedundantWrongFalsely : Prop := fnExactIsRedundantRow.holds Try.pinned (OpenSpec.ofChange fnExactIsRedundantWrong)

/-- 'laws.FnExactValueRedundant': WHATEVER THE INPUT: true; the input reads as it did. -/
def fnExactValueRedundantSpec : ChangeSpec := { name := "fnExactValueRedundant", fn := fun _ => fun
  | [d] => { results := [.lit (.bool true)], args := [d] }
  | _ => none }
def fnExactValueRedundantRow : OpenClaim := { program := "yteonnaagpjmgeaa", sum := "639c56fda75df2c3882cb5bb5de07997493eb3e9f2f636f76870a839226f53f7", func := "loop.example/g03225/laws.FnExactValueRedundant", spec := "fnExactValueRedundant", apart := false }
def FnExactValueRedundantSaid : Prop := fnExactValueRedundantRow.holds Try.pinned (OpenSpec.ofChange fnExactValueRedundantSpec)

/-- ITS FALSE NEIGHBOUR: 'it returns false'. Refute it at one input. -/
def fnExactValueRedundantWrong : ChangeSpec := { name := "fnExactValueRedundant", fn := fun _ => fun
  | [d] => { results := [.lit (.bool false)], args := [d] }
  | _ => none }
def FnExactValueRedundantWrongFalsely : Prop := fnExactValueRedundantRow.holds Try.pinned (OpenSpec.ofChange fnExactValueRedundantWrong)

/-- 'laws.FnExactAddRedundant': WHATEVER THE INPUT: true; the input reads as it did. -/
def fnExactAddRedundantSpec : ChangeSpec := { name := "fnExactAddRedundant", fn := fun _ => fun
  | [d1, d2] => { results := [.lit (.bool true)], args := [d1, d2] }
  | _ => none }
def fnExactAddRedundantRow : OpenClaim := { program := "yteonnaagpjmgeaa", sum := "639c56fda75df2c3882cb5bb5de07997493eb3e9f2f636f76870a839226f53f7", func := "loop.example/g03225/laws.FnExactAddRedundant", spec := "fnExactAddRedundant", apart := false }
def FnExactAddRedundantSaid : Prop := fnExactAddRedundantRow.holds Try.pinned (OpenSpec.ofChange fnExactAddRedundantSpec)

/-- ITS FALSE NEIGHBOUR: 'it returns false'. Refute it at one input. -/
def fnExactAddRedundantWrong : ChangeSpec := { name := "fnExactAddRedundant", fn := fun _ => fun
  | [d1, d2] => { results := [.lit (.bool false)], args := [d1, d2] }
  | _ => none }
def FnExactAddRedundantWrongFalsely : Prop := fnExactAddRedundantRow.holds Try.pinned (OpenSpec.ofChange fnExactAddRedundantWrong)

/-- 'laws.FnExactNormalRedundant': WHATEVER THE INPUT: true; the input reads as it did. -/
def fnExactNormalRedundantSpec : ChangeSpec := { name := "fnExactNormalRedundant", fn := fun _ => fun
  | [d] => { results := [.lit (.bool true)], args := [d] }
  | _ => none }
def fnExactNormalRedundantRow : OpenClaim := { program := "yteonnaagpjmgeaa", sum := "639c56fda75df2c3882cb5bb5de07997493eb3e9f2f636f76870a839226f53f7", func := "loop.example/g03225/laws.FnExactNormalRedundant", spec := "fnExactNormalRedundant", apart := false }
def FnExactNormalRedundantSaid : Prop := fnExactNormalRedundantRow.holds Try.pinned (OpenSpec.ofChange fnExactNormalRedundantSpec)

/-- ITS FALSE NEIGHBOUR: 'it returns false'. Refute it at one input. -/
def fnExactNormalRedundantWrong : ChangeSpec := { name := "fnExactNormalRedundant", fn := fun _ => fun
  | [d] => { results := [.lit (.bool false)], args := [d] }
  | _ => none }
def FnExactNormalRedundantWrongFalsely : Prop := fnExactNormalRedundantRow.holds Try.pinned (OpenSpec.ofChange fnExactNormalRedundantWrong)

/- THE SECOND FORM. 'bulk': how many values and letters a reading holds, each counted each time it is reached (what is shared counts as often as it is met; a slice's spare places count too). A statement '..UptoSaid' is the law's where the arguments, and the package variables that the reading takes, are together of bulk at most 1048576: NARROWER than '..Said'. Prove '..Said' where nothing that the law and all that it calls make is longer than what came in: it says more and counts as full. Else prove '..UptoSaid'. A law counts once. -/
mutual
def uptoBulk {H : Type} : DataW H → Nat
  | .lit (.string bytes) => bytes.length + 1
  | .lit _ => 1
  | .nil => 1
  | .ptr d => uptoBulk d + 1
  | .slice elems spare => uptoBulkAll elems + uptoBulkAll spare + 1
  | .agg parts => uptoBulkAll parts + 1
  | .iface _ d => uptoBulk d + 1
  | .map entries => uptoBulkEntries entries + 1
  | .held _ => 1
def uptoBulkAll {H : Type} : List (DataW H) → Nat
  | [] => 0
  | d :: r => uptoBulk d + uptoBulkAll r
def uptoBulkEntries {H : Type} : List (Lit × DataW H) → Nat
  | [] => 0
  | x :: r => uptoBulkEntry x + uptoBulkEntries r
def uptoBulkEntry {H : Type} : Lit × DataW H → Nat
  | (.string bytes, d) => bytes.length + uptoBulk d + 1
  | (_, d) => uptoBulk d + 1
 end
def uptoSmall : (H : Type) → List (DataW H) → Bool := fun _ ds => decide (uptoBulkAll ds ≤ 1048576)
def OpenSpec.upto (s : _root_.Go.ChangeSpec) : _root_.Go.OpenSpec := { _root_.Go.OpenSpec.ofChange s with cond := some uptoSmall }

/-- 'laws.FnRedundant', WHERE WHAT IT READS IS OF BULK AT MOST 1048576: true; the input reads as it did. -/
def fnRedundantUptoRow : OpenClaim := { program := "yteonnaagpjmgeaa", sum := "639c56fda75df2c3882cb5bb5de07997493eb3e9f2f636f76870a839226f53f7", func := "loop.example/g03225/laws.FnRedundant", spec := "fnRedundant", apart := false, narrowed := true }
def FnRedundantUptoSaid : Prop := fnRedundantUptoRow.holds Try.pinned (OpenSpec.upto fnRedundantSpec)

/-- 'laws.FnIncrement', WHERE WHAT IT READS IS OF BULK AT MOST 1048576: true; the input reads as it did. -/
def fnIncrementUptoRow : OpenClaim := { program := "yteonnaagpjmgeaa", sum := "639c56fda75df2c3882cb5bb5de07997493eb3e9f2f636f76870a839226f53f7", func := "loop.example/g03225/laws.FnIncrement", spec := "fnIncrement", apart := false, narrowed := true }
def FnIncrementUptoSaid : Prop := fnIncrementUptoRow.holds Try.pinned (OpenSpec.upto fnIncrementSpec)

/-- 'laws.FnExactAddWords', WHERE WHAT IT READS IS OF BULK AT MOST 1048576: true; the input reads as it did. -/
def fnExactAddWordsUptoRow : OpenClaim := { program := "yteonnaagpjmgeaa", sum := "639c56fda75df2c3882cb5bb5de07997493eb3e9f2f636f76870a839226f53f7", func := "loop.example/g03225/laws.FnExactAddWords", spec := "fnExactAddWords", apart := false, narrowed := true }
def FnExactAddWordsUptoSaid : Prop := fnExactAddWordsUptoRow.holds Try.pinned (OpenSpec.upto fnExactAddWordsSpec)

/-- 'laws.FnExactSubWords', WHERE WHAT IT READS IS OF BULK AT MOST 1048576: true; the input reads as it did. -/
def fnExactSubWordsUptoRow : OpenClaim := { program := "yteonnaagpjmgeaa", sum := "639c56fda75df2c3882cb5bb5de07997493eb3e9f2f636f76870a839226f53f7", func := "loop.example/g03225/laws.FnExactSubWords", spec := "fnExactSubWords", apart := false, narrowed := true }
def FnExactSubWordsUptoSaid : Prop := fnExactSubWordsUptoRow.holds Try.pinned (OpenSpec.upto fnExactSubWordsSpec)

/-- 'laws.FnExactCarriesOf', WHERE WHAT IT READS IS OF BULK AT MOST 1048576: true; the input reads as it did. -/
def fnExactCarriesOfUptoRow : OpenClaim := { program := "yteonnaagpjmgeaa", sum := "639c56fda75df2c3882cb5bb5de07997493eb3e9f2f636f76870a839226f53f7", func := "loop.example/g03225/laws.FnExactCarriesOf", spec := "fnExactCarriesOf", apart := false, narrowed := true }
def FnExactCarriesOfUptoSaid : Prop := fnExactCarriesOfUptoRow.holds Try.pinned (OpenSpec.upto fnExactCarriesOfSpec)

/-- 'laws.FnExactMapOf', WHERE WHAT IT READS IS OF BULK AT MOST 1048576: true; the input reads as it did. -/
def fnExactMapOfUptoRow : OpenClaim := { program := "yteonnaagpjmgeaa", sum := "639c56fda75df2c3882cb5bb5de07997493eb3e9f2f636f76870a839226f53f7", func := "loop.example/g03225/laws.FnExactMapOf", spec := "fnExactMapOf", apart := false, narrowed := true }
def FnExactMapOfUptoSaid : Prop := fnExactMapOfUptoRow.holds Try.pinned (OpenSpec.upto fnExactMapOfSpec)

/-- 'laws.FnExactThenMap', WHERE WHAT IT READS IS OF BULK AT MOST 1048576: true; the input reads as it did. -/
def fnExactThenMapUptoRow : OpenClaim := { program := "yteonnaagpjmgeaa", sum := "639c56fda75df2c3882cb5bb5de07997493eb3e9f2f636f76870a839226f53f7", func := "loop.example/g03225/laws.FnExactThenMap", spec := "fnExactThenMap", apart := false, narrowed := true }
def FnExactThenMapUptoSaid : Prop := fnExactThenMapUptoRow.holds Try.pinned (OpenSpec.upto fnExactThenMapSpec)

/-- 'laws.FnExactIncrementWord', WHERE WHAT IT READS IS OF BULK AT MOST 1048576: true; the input reads as it did. -/
def fnExactIncrementWordUptoRow : OpenClaim := { program := "yteonnaagpjmgeaa", sum := "639c56fda75df2c3882cb5bb5de07997493eb3e9f2f636f76870a839226f53f7", func := "loop.example/g03225/laws.FnExactIncrementWord", spec := "fnExactIncrementWord", apart := false, narrowed := true }
def FnExactIncrementWordUptoSaid : Prop := fnExactIncrementWordUptoRow.holds Try.pinned (OpenSpec.upto fnExactIncrementWordSpec)

/-- 'laws.FnExactCarrySave', WHERE WHAT IT READS IS OF BULK AT MOST 1048576: true; the input reads as it did. -/
def fnExactCarrySaveUptoRow : OpenClaim := { program := "yteonnaagpjmgeaa", sum := "639c56fda75df2c3882cb5bb5de07997493eb3e9f2f636f76870a839226f53f7", func := "loop.example/g03225/laws.FnExactCarrySave", spec := "fnExactCarrySave", apart := false, narrowed := true }
def FnExactCarrySaveUptoSaid : Prop := fnExactCarrySaveUptoRow.holds Try.pinned (OpenSpec.upto fnExactCarrySaveSpec)

/-- 'laws.FnExactIsRedundant', WHERE WHAT IT READS IS OF BULK AT MOST 1048576: true; the input reads as it did. -/
def fnExactIsRedundantUptoRow : OpenClaim := { program := "yteonnaagpjmgeaa", sum := "639c56fda75df2c3882cb5bb5de07997493eb3e9f2f636f76870a839226f53f7", func := "loop.example/g03225/laws.FnExactIsRedundant", spec := "fnExactIsRedundant", apart := false, narrowed := true }
def FnExactIsRedundantUptoSaid : Prop := fnExactIsRedundantUptoRow.holds Try.pinned (OpenSpec.upto fnExactIsRedundantSpec)

/-- 'laws.FnExactValueRedundant', WHERE WHAT IT READS IS OF BULK AT MOST 1048576: true; the input reads as it did. -/
def fnExactValueRedundantUptoRow : OpenClaim := { program := "yteonnaagpjmgeaa", sum := "639c56fda75df2c3882cb5bb5de07997493eb3e9f2f636f76870a839226f53f7", func := "loop.example/g03225/laws.FnExactValueRedundant", spec := "fnExactValueRedundant", apart := false, narrowed := true }
def FnExactValueRedundantUptoSaid : Prop := fnExactValueRedundantUptoRow.holds Try.pinned (OpenSpec.upto fnExactValueRedundantSpec)

/-- 'laws.FnExactAddRedundant', WHERE WHAT IT READS IS OF BULK AT MOST 1048576: true; the input reads as it did. -/
def fnExactAddRedundantUptoRow : OpenClaim := { program := "yteonnaagpjmgeaa", sum := "639c56fda75df2c3882cb5bb5de07997493eb3e9f2f636f76870a839226f53f7", func := "loop.example/g03225/laws.FnExactAddRedundant", spec := "fnExactAddRedundant", apart := false, narrowed := true }
def FnExactAddRedundantUptoSaid : Prop := fnExactAddRedundantUptoRow.holds Try.pinned (OpenSpec.upto fnExactAddRedundantSpec)

/-- 'laws.FnExactNormalRedundant', WHERE WHAT IT READS IS OF BULK AT MOST 1048576: true; the input reads as it did. -/
def fnExactNormalRedundantUptoRow : OpenClaim := { program := "yteonnaagpjmgeaa", sum := "639c56fda75df2c3882cb5bb5de07997493eb3e9f2f636f76870a839226f53f7", func := "loop.example/g03225/laws.FnExactNormalRedundant", spec := "fnExactNormalRedundant", apart := false, narrowed := true }
def FnExactNormalRedundantUptoSaid : Prop := fnExactNormalRedundantUptoRow.holds Try.pinned (OpenSpec.upto fnExactNormalRedundantSpec)

end Rows
end Go.Proofs.Yteonnaagpjmgeaa

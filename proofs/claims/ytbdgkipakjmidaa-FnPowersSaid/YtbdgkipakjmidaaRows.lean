/-
  No cell of these rows narrows 'for every input' (looked for: loops, veiled, ifaces, maps, wideKeys, modest, calm, conditions, laid).
  DERIVED. THE GIVEN ROWS OF THIS SEAT. 13 by the template 'for every input the law returns true; each argument reads behind the call as it read before'; 0 by the template 'total and deterministic' (their statements: YtbdgkipakjmidaaTotals.lean).
  GIVEN WITH THE SEED: the statements are not yours to turn. If you find one false, say at which input.
  Laid BY PROGRAM, IN A SANDBOX (cutbox-rows.mjs): the forced cells as the released guide's own fill.sh prints them over the translation 6acacb1a6968fb71… (all of the seat's roots in one cut). By AI agents, Wed Nov 11 2026. No macro, syntax, notation, axiom, sorry.
-/
import Derived.Test.YtbdgkipakjmidaaChecked
import GoSem.Claim
import GoSem.ClaimJoined
import GoSem.ClaimMapViews
import Derived.JoinedTies
import Derived.KernelRfl
namespace Go.Proofs.Ytbdgkipakjmidaa
/- THE CELL 'sum', in the pinned program and in every row, IS THE sha256 OF THE DUMP (.gsa) THAT YtbdgkipakjmidaaProg.lean LOADS. Nothing in Lean hashes anything: it is a label: what it is worth is what the hold of that sum in a sandbox is worth. -/
noncomputable def Try.pinned : Pinned := { name := "ytbdgkipakjmidaa", sum := "6acacb1a6968fb715a92bc481ce610debfc27005a8675cc94720c7324a6ddbd1", checked := Try.checked }
namespace Rows
def none {H : Type} : Left H := { results := [], args := [] }

/-- 'laws.FnProducts': WHATEVER THE INPUT: true; the input reads as it did. -/
def fnProductsSpec : ChangeSpec := { name := "fnProducts", fn := fun _ => fun
  | [d] => { results := [.lit (.bool true)], args := [d] }
  | _ => none }
def fnProductsRow : OpenClaim := { program := "ytbdgkipakjmidaa", sum := "6acacb1a6968fb715a92bc481ce610debfc27005a8675cc94720c7324a6ddbd1", func := "loop.example/g03225/laws.FnProducts", spec := "fnProducts", apart := false }
def FnProductsSaid : Prop := fnProductsRow.holds Try.pinned (OpenSpec.ofChange fnProductsSpec)

/-- ITS FALSE NEIGHBOUR: 'it returns false'. Refute it at one input. -/
def fnProductsWrong : ChangeSpec := { name := "fnProducts", fn := fun _ => fun
  | [d] => { results := [.lit (.bool false)], args := [d] }
  | _ => none }
def FnProductsWrongFalsely : Prop := fnProductsRow.holds Try.pinned (OpenSpec.ofChange fnProductsWrong)

/-- 'laws.FnDivided': WHATEVER THE INPUT: true; the input reads as it did. -/
def fnDividedSpec : ChangeSpec := { name := "fnDivided", fn := fun _ => fun
  | [d] => { results := [.lit (.bool true)], args := [d] }
  | _ => none }
def fnDividedRow : OpenClaim := { program := "ytbdgkipakjmidaa", sum := "6acacb1a6968fb715a92bc481ce610debfc27005a8675cc94720c7324a6ddbd1", func := "loop.example/g03225/laws.FnDivided", spec := "fnDivided", apart := false }
def FnDividedSaid : Prop := fnDividedRow.holds Try.pinned (OpenSpec.ofChange fnDividedSpec)

/-- ITS FALSE NEIGHBOUR: 'it returns false'. Refute it at one input. -/
def fnDividedWrong : ChangeSpec := { name := "fnDivided", fn := fun _ => fun
  | [d] => { results := [.lit (.bool false)], args := [d] }
  | _ => none }
def FnDividedWrongFalsely : Prop := fnDividedRow.holds Try.pinned (OpenSpec.ofChange fnDividedWrong)

/-- 'laws.FnRoots': WHATEVER THE INPUT: true; the input reads as it did. -/
def fnRootsSpec : ChangeSpec := { name := "fnRoots", fn := fun _ => fun
  | [d] => { results := [.lit (.bool true)], args := [d] }
  | _ => none }
def fnRootsRow : OpenClaim := { program := "ytbdgkipakjmidaa", sum := "6acacb1a6968fb715a92bc481ce610debfc27005a8675cc94720c7324a6ddbd1", func := "loop.example/g03225/laws.FnRoots", spec := "fnRoots", unfollowed := true, recurses := true, apart := false }
def FnRootsSaid : Prop := fnRootsRow.holds Try.pinned (OpenSpec.ofChange fnRootsSpec)

/-- ITS FALSE NEIGHBOUR: 'it returns false'. Refute it at one input. -/
def fnRootsWrong : ChangeSpec := { name := "fnRoots", fn := fun _ => fun
  | [d] => { results := [.lit (.bool false)], args := [d] }
  | _ => none }
def FnRootsWrongFalsely : Prop := fnRootsRow.holds Try.pinned (OpenSpec.ofChange fnRootsWrong)

/-- 'laws.FnPowers': WHATEVER THE INPUT: true; the input reads as it did. -/
def fnPowersSpec : ChangeSpec := { name := "fnPowers", fn := fun _ => fun
  | [d] => { results := [.lit (.bool true)], args := [d] }
  | _ => none }
def fnPowersRow : OpenClaim := { program := "ytbdgkipakjmidaa", sum := "6acacb1a6968fb715a92bc481ce610debfc27005a8675cc94720c7324a6ddbd1", func := "loop.example/g03225/laws.FnPowers", spec := "fnPowers", apart := false }
def FnPowersSaid : Prop := fnPowersRow.holds Try.pinned (OpenSpec.ofChange fnPowersSpec)

/-- ITS FALSE NEIGHBOUR: 'it returns false'. Refute it at one input. -/
def fnPowersWrong : ChangeSpec := { name := "fnPowers", fn := fun _ => fun
  | [d] => { results := [.lit (.bool false)], args := [d] }
  | _ => none }
def FnPowersWrongFalsely : Prop := fnPowersRow.holds Try.pinned (OpenSpec.ofChange fnPowersWrong)

/-- 'laws.FnThirds': WHATEVER THE INPUT: true; the input reads as it did. -/
def fnThirdsSpec : ChangeSpec := { name := "fnThirds", fn := fun _ => fun
  | [d] => { results := [.lit (.bool true)], args := [d] }
  | _ => none }
def fnThirdsRow : OpenClaim := { program := "ytbdgkipakjmidaa", sum := "6acacb1a6968fb715a92bc481ce610debfc27005a8675cc94720c7324a6ddbd1", func := "loop.example/g03225/laws.FnThirds", spec := "fnThirds", apart := false }
def FnThirdsSaid : Prop := fnThirdsRow.holds Try.pinned (OpenSpec.ofChange fnThirdsSpec)

/-- ITS FALSE NEIGHBOUR: 'it returns false'. Refute it at one input. -/
def fnThirdsWrong : ChangeSpec := { name := "fnThirds", fn := fun _ => fun
  | [d] => { results := [.lit (.bool false)], args := [d] }
  | _ => none }
def FnThirdsWrongFalsely : Prop := fnThirdsRow.holds Try.pinned (OpenSpec.ofChange fnThirdsWrong)

/-- 'laws.FnExactPartialsOf': WHATEVER THE INPUT: true; the input reads as it did. -/
def fnExactPartialsOfSpec : ChangeSpec := { name := "fnExactPartialsOf", fn := fun _ => fun
  | [d1, d2] => { results := [.lit (.bool true)], args := [d1, d2] }
  | _ => none }
def fnExactPartialsOfRow : OpenClaim := { program := "ytbdgkipakjmidaa", sum := "6acacb1a6968fb715a92bc481ce610debfc27005a8675cc94720c7324a6ddbd1", func := "loop.example/g03225/laws.FnExactPartialsOf", spec := "fnExactPartialsOf", apart := false }
def FnExactPartialsOfSaid : Prop := fnExactPartialsOfRow.holds Try.pinned (OpenSpec.ofChange fnExactPartialsOfSpec)

/-- ITS FALSE NEIGHBOUR: 'it returns false'. Refute it at one input. -/
def fnExactPartialsOfWrong : ChangeSpec := { name := "fnExactPartialsOf", fn := fun _ => fun
  | [d1, d2] => { results := [.lit (.bool false)], args := [d1, d2] }
  | _ => none }
def FnExactPartialsOfWrongFalsely : Prop := fnExactPartialsOfRow.holds Try.pinned (OpenSpec.ofChange fnExactPartialsOfWrong)

/-- 'laws.FnExactMultiplyWords': WHATEVER THE INPUT: true; the input reads as it did. -/
def fnExactMultiplyWordsSpec : ChangeSpec := { name := "fnExactMultiplyWords", fn := fun _ => fun
  | [d1, d2] => { results := [.lit (.bool true)], args := [d1, d2] }
  | _ => none }
def fnExactMultiplyWordsRow : OpenClaim := { program := "ytbdgkipakjmidaa", sum := "6acacb1a6968fb715a92bc481ce610debfc27005a8675cc94720c7324a6ddbd1", func := "loop.example/g03225/laws.FnExactMultiplyWords", spec := "fnExactMultiplyWords", apart := false }
def FnExactMultiplyWordsSaid : Prop := fnExactMultiplyWordsRow.holds Try.pinned (OpenSpec.ofChange fnExactMultiplyWordsSpec)

/-- ITS FALSE NEIGHBOUR: 'it returns false'. Refute it at one input. -/
def fnExactMultiplyWordsWrong : ChangeSpec := { name := "fnExactMultiplyWords", fn := fun _ => fun
  | [d1, d2] => { results := [.lit (.bool false)], args := [d1, d2] }
  | _ => none }
def FnExactMultiplyWordsWrongFalsely : Prop := fnExactMultiplyWordsRow.holds Try.pinned (OpenSpec.ofChange fnExactMultiplyWordsWrong)

/-- 'laws.FnExactDivideWords': WHATEVER THE INPUT: true; the input reads as it did. -/
def fnExactDivideWordsSpec : ChangeSpec := { name := "fnExactDivideWords", fn := fun _ => fun
  | [d1, d2] => { results := [.lit (.bool true)], args := [d1, d2] }
  | _ => none }
def fnExactDivideWordsRow : OpenClaim := { program := "ytbdgkipakjmidaa", sum := "6acacb1a6968fb715a92bc481ce610debfc27005a8675cc94720c7324a6ddbd1", func := "loop.example/g03225/laws.FnExactDivideWords", spec := "fnExactDivideWords", apart := false }
def FnExactDivideWordsSaid : Prop := fnExactDivideWordsRow.holds Try.pinned (OpenSpec.ofChange fnExactDivideWordsSpec)

/-- ITS FALSE NEIGHBOUR: 'it returns false'. Refute it at one input. -/
def fnExactDivideWordsWrong : ChangeSpec := { name := "fnExactDivideWords", fn := fun _ => fun
  | [d1, d2] => { results := [.lit (.bool false)], args := [d1, d2] }
  | _ => none }
def FnExactDivideWordsWrongFalsely : Prop := fnExactDivideWordsRow.holds Try.pinned (OpenSpec.ofChange fnExactDivideWordsWrong)

/-- 'laws.FnExactRootWord': WHATEVER THE INPUT: true; the input reads as it did. -/
def fnExactRootWordSpec : ChangeSpec := { name := "fnExactRootWord", fn := fun _ => fun
  | [d] => { results := [.lit (.bool true)], args := [d] }
  | _ => none }
def fnExactRootWordRow : OpenClaim := { program := "ytbdgkipakjmidaa", sum := "6acacb1a6968fb715a92bc481ce610debfc27005a8675cc94720c7324a6ddbd1", func := "loop.example/g03225/laws.FnExactRootWord", spec := "fnExactRootWord", unfollowed := true, recurses := true, apart := false }
def FnExactRootWordSaid : Prop := fnExactRootWordRow.holds Try.pinned (OpenSpec.ofChange fnExactRootWordSpec)

/-- ITS FALSE NEIGHBOUR: 'it returns false'. Refute it at one input. -/
def fnExactRootWordWrong : ChangeSpec := { name := "fnExactRootWord", fn := fun _ => fun
  | [d] => { results := [.lit (.bool false)], args := [d] }
  | _ => none }
def FnExactRootWordWrongFalsely : Prop := fnExactRootWordRow.holds Try.pinned (OpenSpec.ofChange fnExactRootWordWrong)

/-- 'laws.FnExactPowerWord': WHATEVER THE INPUT: true; the input reads as it did. -/
def fnExactPowerWordSpec : ChangeSpec := { name := "fnExactPowerWord", fn := fun _ => fun
  | [d1, d2] => { results := [.lit (.bool true)], args := [d1, d2] }
  | _ => none }
def fnExactPowerWordRow : OpenClaim := { program := "ytbdgkipakjmidaa", sum := "6acacb1a6968fb715a92bc481ce610debfc27005a8675cc94720c7324a6ddbd1", func := "loop.example/g03225/laws.FnExactPowerWord", spec := "fnExactPowerWord", apart := false }
def FnExactPowerWordSaid : Prop := fnExactPowerWordRow.holds Try.pinned (OpenSpec.ofChange fnExactPowerWordSpec)

/-- ITS FALSE NEIGHBOUR: 'it returns false'. Refute it at one input. -/
def fnExactPowerWordWrong : ChangeSpec := { name := "fnExactPowerWord", fn := fun _ => fun
  | [d1, d2] => { results := [.lit (.bool false)], args := [d1, d2] }
  | _ => none }
def FnExactPowerWordWrongFalsely : Prop := fnExactPowerWordRow.holds Try.pinned (OpenSpec.ofChange fnExactPowerWordWrong)

/-- 'laws.FnExactGcdWords': WHATEVER THE INPUT: true; the input reads as it did. -/
def fnExactGcdWordsSpec : ChangeSpec := { name := "fnExactGcdWords", fn := fun _ => fun
  | [d1, d2] => { results := [.lit (.bool true)], args := [d1, d2] }
  | _ => none }
def fnExactGcdWordsRow : OpenClaim := { program := "ytbdgkipakjmidaa", sum := "6acacb1a6968fb715a92bc481ce610debfc27005a8675cc94720c7324a6ddbd1", func := "loop.example/g03225/laws.FnExactGcdWords", spec := "fnExactGcdWords", apart := false }
def FnExactGcdWordsSaid : Prop := fnExactGcdWordsRow.holds Try.pinned (OpenSpec.ofChange fnExactGcdWordsSpec)

/-- ITS FALSE NEIGHBOUR: 'it returns false'. Refute it at one input. -/
def fnExactGcdWordsWrong : ChangeSpec := { name := "fnExactGcdWords", fn := fun _ => fun
  | [d1, d2] => { results := [.lit (.bool false)], args := [d1, d2] }
  | _ => none }
def FnExactGcdWordsWrongFalsely : Prop := fnExactGcdWordsRow.holds Try.pinned (OpenSpec.ofChange fnExactGcdWordsWrong)

/-- 'laws.FnExactCutProduct': WHATEVER THE INPUT: true; the input reads as it did. -/
def fnExactCutProductSpec : ChangeSpec := { name := "fnExactCutProduct", fn := fun _ => fun
  | [d1, d2, d3] => { results := [.lit (.bool true)], args := [d1, d2, d3] }
  | _ => none }
def fnExactCutProductRow : OpenClaim := { program := "ytbdgkipakjmidaa", sum := "6acacb1a6968fb715a92bc481ce610debfc27005a8675cc94720c7324a6ddbd1", func := "loop.example/g03225/laws.FnExactCutProduct", spec := "fnExactCutProduct", apart := false }
def FnExactCutProductSaid : Prop := fnExactCutProductRow.holds Try.pinned (OpenSpec.ofChange fnExactCutProductSpec)

/-- ITS FALSE NEIGHBOUR: 'it returns false'. Refute it at one input. -/
def fnExactCutProductWrong : ChangeSpec := { name := "fnExactCutProduct", fn := fun _ => fun
  | [d1, d2, d3] => { results := [.lit (.bool false)], args := [d1, d2, d3] }
  | _ => none }
def FnExactCutProductWrongFalsely : Prop := fnExactCutProductRow.holds Try.pinned (OpenSpec.ofChange fnExactCutProductWrong)

/-- 'laws.FnExactThirdsOf': WHATEVER THE INPUT: true; the input reads as it did. -/
def fnExactThirdsOfSpec : ChangeSpec := { name := "fnExactThirdsOf", fn := fun _ => fun
  | [d1, d2, d3] => { results := [.lit (.bool true)], args := [d1, d2, d3] }
  | _ => none }
def fnExactThirdsOfRow : OpenClaim := { program := "ytbdgkipakjmidaa", sum := "6acacb1a6968fb715a92bc481ce610debfc27005a8675cc94720c7324a6ddbd1", func := "loop.example/g03225/laws.FnExactThirdsOf", spec := "fnExactThirdsOf", apart := false }
def FnExactThirdsOfSaid : Prop := fnExactThirdsOfRow.holds Try.pinned (OpenSpec.ofChange fnExactThirdsOfSpec)

/-- ITS FALSE NEIGHBOUR: 'it returns false'. Refute it at one input. -/
def fnExactThirdsOfWrong : ChangeSpec := { name := "fnExactThirdsOf", fn := fun _ => fun
  | [d1, d2, d3] => { results := [.lit (.bool false)], args := [d1, d2, d3] }
  | _ => none }
def FnExactThirdsOfWrongFalsely : Prop := fnExactThirdsOfRow.holds Try.pinned (OpenSpec.ofChange fnExactThirdsOfWrong)

/- THE SECOND FORM. 'bulk': how many values and letters a reading holds, each counted each time it is reached (what is shared counts as often as it is met; a slice's spare places count too). A statement '..UptoSaid' is the law's where the arguments, and the package variables that the reading takes, are together of bulk at most 1048576: NARROWER than '..Said'. Prove '..Said' where nothing that the law and all that it calls make is longer than what came in: it says more and counts as full. Else prove '..UptoSaid'. A law counts once. -/
mutual
def uptoBulk {H : Type} : DataW H → Nat
  | .lit (.string bytes) => bytes.length + 1
  | .lit _ => 1
  | .nil => 1
  | .ptr d => uptoBulk d + 1
  | .slice elems spare => uptoBulkAll elems + uptoBulkAll spare + 1
  | .agg parts => uptoBulkAll parts + 1
  | .iface _ d => uptoBulk d + 1
  | .map entries => uptoBulkEntries entries + 1
  | .held _ => 1
def uptoBulkAll {H : Type} : List (DataW H) → Nat
  | [] => 0
  | d :: r => uptoBulk d + uptoBulkAll r
def uptoBulkEntries {H : Type} : List (Lit × DataW H) → Nat
  | [] => 0
  | x :: r => uptoBulkEntry x + uptoBulkEntries r
def uptoBulkEntry {H : Type} : Lit × DataW H → Nat
  | (.string bytes, d) => bytes.length + uptoBulk d + 1
  | (_, d) => uptoBulk d + 1
 end
def uptoSmall : (H : Type) → List (DataW H) → Bool := fun _ ds => decide (uptoBulkAll ds ≤ 1048576)
def OpenSpec.upto (s : _root_.Go.ChangeSpec) : _root_.Go.OpenSpec := { _root_.Go.OpenSpec.ofChange s with cond := some uptoSmall }

/-- 'laws.FnProducts', WHERE WHAT IT READS IS OF BULK AT MOST 1048576: true; the input reads as it did. -/
def fnProductsUptoRow : OpenClaim := { program := "ytbdgkipakjmidaa", sum := "6acacb1a6968fb715a92bc481ce610debfc27005a8675cc94720c7324a6ddbd1", func := "loop.example/g03225/laws.FnProducts", spec := "fnProducts", apart := false, narrowed := true }
def FnProductsUptoSaid : Prop := fnProductsUptoRow.holds Try.pinned (OpenSpec.upto fnProductsSpec)

/-- 'laws.FnDivided', WHERE WHAT IT READS IS OF BULK AT MOST 1048576: true; the input reads as it did. -/
def fnDividedUptoRow : OpenClaim := { program := "ytbdgkipakjmidaa", sum := "6acacb1a6968fb715a92bc481ce610debfc27005a8675cc94720c7324a6ddbd1", func := "loop.example/g03225/laws.FnDivided", spec := "fnDivided", apart := false, narrowed := true }
def FnDividedUptoSaid : Prop := fnDividedUptoRow.holds Try.pinned (OpenSpec.upto fnDividedSpec)

/-- 'laws.FnRoots', WHERE WHAT IT READS IS OF BULK AT MOST 1048576: true; the input reads as it did. -/
def fnRootsUptoRow : OpenClaim := { program := "ytbdgkipakjmidaa", sum := "6acacb1a6968fb715a92bc481ce610debfc27005a8675cc94720c7324a6ddbd1", func := "loop.example/g03225/laws.FnRoots", spec := "fnRoots", unfollowed := true, recurses := true, apart := false, narrowed := true }
def FnRootsUptoSaid : Prop := fnRootsUptoRow.holds Try.pinned (OpenSpec.upto fnRootsSpec)

/-- 'laws.FnPowers', WHERE WHAT IT READS IS OF BULK AT MOST 1048576: true; the input reads as it did. -/
def fnPowersUptoRow : OpenClaim := { program := "ytbdgkipakjmidaa", sum := "6acacb1a6968fb715a92bc481ce610debfc27005a8675cc94720c7324a6ddbd1", func := "loop.example/g03225/laws.FnPowers", spec := "fnPowers", apart := false, narrowed := true }
def FnPowersUptoSaid : Prop := fnPowersUptoRow.holds Try.pinned (OpenSpec.upto fnPowersSpec)

/-- 'laws.FnThirds', WHERE WHAT IT READS IS OF BULK AT MOST 1048576: true; the input reads as it did. -/
def fnThirdsUptoRow : OpenClaim := { program := "ytbdgkipakjmidaa", sum := "6acacb1a6968fb715a92bc481ce610debfc27005a8675cc94720c7324a6ddbd1", func := "loop.example/g03225/laws.FnThirds", spec := "fnThirds", apart := false, narrowed := true }
def FnThirdsUptoSaid : Prop := fnThirdsUptoRow.holds Try.pinned (OpenSpec.upto fnThirdsSpec)

/-- 'laws.FnExactPartialsOf', WHERE WHAT IT READS IS OF BULK AT MOST 1048576: true; the input reads as it did. -/
def fnExactPartialsOfUptoRow : OpenClaim := { program := "ytbdgkipakjmidaa", sum := "6acacb1a6968fb715a92bc481ce610debfc27005a8675cc94720c7324a6ddbd1", func := "loop.example/g03225/laws.FnExactPartialsOf", spec := "fnExactPartialsOf", apart := false, narrowed := true }
def FnExactPartialsOfUptoSaid : Prop := fnExactPartialsOfUptoRow.holds Try.pinned (OpenSpec.upto fnExactPartialsOfSpec)

/-- 'laws.FnExactMultiplyWords', WHERE WHAT IT READS IS OF BULK AT MOST 1048576: true; the input reads as it did. -/
def fnExactMultiplyWordsUptoRow : OpenClaim := { program := "ytbdgkipakjmidaa", sum := "6acacb1a6968fb715a92bc481ce610debfc27005a8675cc94720c7324a6ddbd1", func := "loop.example/g03225/laws.FnExactMultiplyWords", spec := "fnExactMultiplyWords", apart := false, narrowed := true }
def FnExactMultiplyWordsUptoSaid : Prop := fnExactMultiplyWordsUptoRow.holds Try.pinned (OpenSpec.upto fnExactMultiplyWordsSpec)

/-- 'laws.FnExactDivideWords', WHERE WHAT IT READS IS OF BULK AT MOST 1048576: true; the input reads as it did. -/
def fnExactDivideWordsUptoRow : OpenClaim := { program := "ytbdgkipakjmidaa", sum := "6acacb1a6968fb715a92bc481ce610debfc27005a8675cc94720c7324a6ddbd1", func := "loop.example/g03225/laws.FnExactDivideWords", spec := "fnExactDivideWords", apart := false, narrowed := true }
def FnExactDivideWordsUptoSaid : Prop := fnExactDivideWordsUptoRow.holds Try.pinned (OpenSpec.upto fnExactDivideWordsSpec)

/-- 'laws.FnExactRootWord', WHERE WHAT IT READS IS OF BULK AT MOST 1048576: true; the input reads as it did. -/
def fnExactRootWordUptoRow : OpenClaim := { program := "ytbdgkipakjmidaa", sum := "6acacb1a6968fb715a92bc481ce610debfc27005a8675cc94720c7324a6ddbd1", func := "loop.example/g03225/laws.FnExactRootWord", spec := "fnExactRootWord", unfollowed := true, recurses := true, apart := false, narrowed := true }
def FnExactRootWordUptoSaid : Prop := fnExactRootWordUptoRow.holds Try.pinned (OpenSpec.upto fnExactRootWordSpec)

/-- 'laws.FnExactPowerWord', WHERE WHAT IT READS IS OF BULK AT MOST 1048576: true; the input reads as it did. -/
def fnExactPowerWordUptoRow : OpenClaim := { program := "ytbdgkipakjmidaa", sum := "6acacb1a6968fb715a92bc481ce610debfc27005a8675cc94720c7324a6ddbd1", func := "loop.example/g03225/laws.FnExactPowerWord", spec := "fnExactPowerWord", apart := false, narrowed := true }
def FnExactPowerWordUptoSaid : Prop := fnExactPowerWordUptoRow.holds Try.pinned (OpenSpec.upto fnExactPowerWordSpec)

/-- 'laws.FnExactGcdWords', WHERE WHAT IT READS IS OF BULK AT MOST 1048576: true; the input reads as it did. -/
def fnExactGcdWordsUptoRow : OpenClaim := { program := "ytbdgkipakjmidaa", sum := "6acacb1a6968fb715a92bc481ce610debfc27005a8675cc94720c7324a6ddbd1", func := "loop.example/g03225/laws.FnExactGcdWords", spec := "fnExactGcdWords", apart := false, narrowed := true }
def FnExactGcdWordsUptoSaid : Prop := fnExactGcdWordsUptoRow.holds Try.pinned (OpenSpec.upto fnExactGcdWordsSpec)

/-- 'laws.FnExactCutProduct', WHERE WHAT IT READS IS OF BULK AT MOST 1048576: true; the input reads as it did. -/
def fnExactCutProductUptoRow : OpenClaim := { program := "ytbdgkipakjmidaa", sum := "6acacb1a6968fb715a92bc481ce610debfc27005a8675cc94720c7324a6ddbd1", func := "loop.example/g03225/laws.FnExactCutProduct", spec := "fnExactCutProduct", apart := false, narrowed := true }
def FnExactCutProductUptoSaid : Prop := fnExactCutProductUptoRow.holds Try.pinned (OpenSpec.upto fnExactCutProductSpec)

/-- 'laws.FnExactThirdsOf', WHERE WHAT IT READS IS OF BULK AT MOST 1048576: true; the input reads as it did. -/
def fnExactThirdsOfUptoRow : OpenClaim := { program := "ytbdgkipakjmidaa", sum := "6acacb1a6968fb715a92bc481ce610debfc27005a8675cc94720c7324a6ddbd1", func := "loop.example/g03225/laws.FnExactThirdsOf", spec := "fnExactThirdsOf", apart := false, narrowed := true }
def FnExactThirdsOfUptoSaid : Prop := fnExactThirdsOfUptoRow.holds Try.pinned (OpenSpec.upto fnExactThirdsOfSpec)

end Rows
end Go.Proofs.Ytbdgkipakjmidaa

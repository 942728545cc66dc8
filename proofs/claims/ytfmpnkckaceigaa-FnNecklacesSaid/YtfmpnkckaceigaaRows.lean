/-
  No cell of these rows narrows 'for every input' (looked for: loops, veiled, ifaces, maps, wideKeys, modest, calm, conditions, laid).
  DERIVED. THE GIVEN ROWS OF THIS SEAT. 13 by the template 'for every input the law returns true; each argument reads behind the call as it read before'; 0 by the template 'total and deterministic' (their statements: YtfmpnkckaceigaaTotals.lean).
  GIVEN WITH THE SEED: the statements are not yours to turn. If you find one false, say at which input.
  Laid BY PROGRAM, IN A SANDBOX (cutbox-rows.mjs): the forced cells as the released guide's own fill.sh prints them over the translation a292fc4e8cedab27… (all of the seat's roots in one cut). By AI agents, Wed Nov 11 2026. No macro, syntax, notation, axiom, sorry.
-/
import Derived.Test.YtfmpnkckaceigaaChecked
import GoSem.Claim
import GoSem.ClaimJoined
import GoSem.ClaimMapViews
import Derived.JoinedTies
import Derived.KernelRfl
namespace Go.Proofs.Ytfmpnkckaceigaa
/- THE CELL 'sum', in the pinned program and in every row, IS THE sha256 OF THE DUMP (.gsa) THAT YtfmpnkckaceigaaProg.lean LOADS. Nothing in Lean hashes anything: it is a label: what it is worth is what the hold of that sum in a sandbox is worth. -/
noncomputable def Try.pinned : Pinned := { name := "ytfmpnkckaceigaa", sum := "a292fc4e8cedab27408933e44484f7076864056e40a8377613baef831a0f430d", checked := Try.checked }
namespace Rows
def none {H : Type} : Left H := { results := [], args := [] }

/-- 'laws.FnExactGrayWord': WHATEVER THE INPUT: true; the input reads as it did. -/
def fnExactGrayWordSpec : ChangeSpec := { name := "fnExactGrayWord", fn := fun _ => fun
  | [d1, d2] => { results := [.lit (.bool true)], args := [d1, d2] }
  | _ => none }
def fnExactGrayWordRow : OpenClaim := { program := "ytfmpnkckaceigaa", sum := "a292fc4e8cedab27408933e44484f7076864056e40a8377613baef831a0f430d", func := "loop.example/g03225/laws.FnExactGrayWord", spec := "fnExactGrayWord", apart := false }
def FnExactGrayWordSaid : Prop := fnExactGrayWordRow.holds Try.pinned (OpenSpec.ofChange fnExactGrayWordSpec)

/-- ITS FALSE NEIGHBOUR: 'it returns false'. Refute it at one input. -/
def fnExactGrayWordWrong : ChangeSpec := { name := "fnExactGrayWord", fn := fun _ => fun
  | [d1, d2] => { results := [.lit (.bool false)], args := [d1, d2] }
  | _ => none }
def FnExactGrayWordWrongFalsely : Prop := fnExactGrayWordRow.holds Try.pinned (OpenSpec.ofChange fnExactGrayWordWrong)

/-- 'laws.FnExactGrayRank': WHATEVER THE INPUT: true; the input reads as it did. -/
def fnExactGrayRankSpec : ChangeSpec := { name := "fnExactGrayRank", fn := fun _ => fun
  | [d] => { results := [.lit (.bool true)], args := [d] }
  | _ => none }
def fnExactGrayRankRow : OpenClaim := { program := "ytfmpnkckaceigaa", sum := "a292fc4e8cedab27408933e44484f7076864056e40a8377613baef831a0f430d", func := "loop.example/g03225/laws.FnExactGrayRank", spec := "fnExactGrayRank", apart := false }
def FnExactGrayRankSaid : Prop := fnExactGrayRankRow.holds Try.pinned (OpenSpec.ofChange fnExactGrayRankSpec)

/-- ITS FALSE NEIGHBOUR: 'it returns false'. Refute it at one input. -/
def fnExactGrayRankWrong : ChangeSpec := { name := "fnExactGrayRank", fn := fun _ => fun
  | [d] => { results := [.lit (.bool false)], args := [d] }
  | _ => none }
def FnExactGrayRankWrongFalsely : Prop := fnExactGrayRankRow.holds Try.pinned (OpenSpec.ofChange fnExactGrayRankWrong)

/-- 'laws.FnExactRotateWord': WHATEVER THE INPUT: true; the input reads as it did. -/
def fnExactRotateWordSpec : ChangeSpec := { name := "fnExactRotateWord", fn := fun _ => fun
  | [d1, d2] => { results := [.lit (.bool true)], args := [d1, d2] }
  | _ => none }
def fnExactRotateWordRow : OpenClaim := { program := "ytfmpnkckaceigaa", sum := "a292fc4e8cedab27408933e44484f7076864056e40a8377613baef831a0f430d", func := "loop.example/g03225/laws.FnExactRotateWord", spec := "fnExactRotateWord", apart := false }
def FnExactRotateWordSaid : Prop := fnExactRotateWordRow.holds Try.pinned (OpenSpec.ofChange fnExactRotateWordSpec)

/-- ITS FALSE NEIGHBOUR: 'it returns false'. Refute it at one input. -/
def fnExactRotateWordWrong : ChangeSpec := { name := "fnExactRotateWord", fn := fun _ => fun
  | [d1, d2] => { results := [.lit (.bool false)], args := [d1, d2] }
  | _ => none }
def FnExactRotateWordWrongFalsely : Prop := fnExactRotateWordRow.holds Try.pinned (OpenSpec.ofChange fnExactRotateWordWrong)

/-- 'laws.FnExactNecklaceOf': WHATEVER THE INPUT: true; the input reads as it did. -/
def fnExactNecklaceOfSpec : ChangeSpec := { name := "fnExactNecklaceOf", fn := fun _ => fun
  | [d] => { results := [.lit (.bool true)], args := [d] }
  | _ => none }
def fnExactNecklaceOfRow : OpenClaim := { program := "ytfmpnkckaceigaa", sum := "a292fc4e8cedab27408933e44484f7076864056e40a8377613baef831a0f430d", func := "loop.example/g03225/laws.FnExactNecklaceOf", spec := "fnExactNecklaceOf", apart := false }
def FnExactNecklaceOfSaid : Prop := fnExactNecklaceOfRow.holds Try.pinned (OpenSpec.ofChange fnExactNecklaceOfSpec)

/-- ITS FALSE NEIGHBOUR: 'it returns false'. Refute it at one input. -/
def fnExactNecklaceOfWrong : ChangeSpec := { name := "fnExactNecklaceOf", fn := fun _ => fun
  | [d] => { results := [.lit (.bool false)], args := [d] }
  | _ => none }
def FnExactNecklaceOfWrongFalsely : Prop := fnExactNecklaceOfRow.holds Try.pinned (OpenSpec.ofChange fnExactNecklaceOfWrong)

/-- 'laws.FnExactIsLyndon': WHATEVER THE INPUT: true; the input reads as it did. -/
def fnExactIsLyndonSpec : ChangeSpec := { name := "fnExactIsLyndon", fn := fun _ => fun
  | [d] => { results := [.lit (.bool true)], args := [d] }
  | _ => none }
def fnExactIsLyndonRow : OpenClaim := { program := "ytfmpnkckaceigaa", sum := "a292fc4e8cedab27408933e44484f7076864056e40a8377613baef831a0f430d", func := "loop.example/g03225/laws.FnExactIsLyndon", spec := "fnExactIsLyndon", apart := false }
def FnExactIsLyndonSaid : Prop := fnExactIsLyndonRow.holds Try.pinned (OpenSpec.ofChange fnExactIsLyndonSpec)

/-- ITS FALSE NEIGHBOUR: 'it returns false'. Refute it at one input. -/
def fnExactIsLyndonWrong : ChangeSpec := { name := "fnExactIsLyndon", fn := fun _ => fun
  | [d] => { results := [.lit (.bool false)], args := [d] }
  | _ => none }
def FnExactIsLyndonWrongFalsely : Prop := fnExactIsLyndonRow.holds Try.pinned (OpenSpec.ofChange fnExactIsLyndonWrong)

/-- 'laws.FnExactLyndonWords': WHATEVER THE INPUT: true; the input reads as it did. -/
def fnExactLyndonWordsSpec : ChangeSpec := { name := "fnExactLyndonWords", fn := fun _ => fun
  | [d] => { results := [.lit (.bool true)], args := [d] }
  | _ => none }
def fnExactLyndonWordsRow : OpenClaim := { program := "ytfmpnkckaceigaa", sum := "a292fc4e8cedab27408933e44484f7076864056e40a8377613baef831a0f430d", func := "loop.example/g03225/laws.FnExactLyndonWords", spec := "fnExactLyndonWords", apart := false }
def FnExactLyndonWordsSaid : Prop := fnExactLyndonWordsRow.holds Try.pinned (OpenSpec.ofChange fnExactLyndonWordsSpec)

/-- ITS FALSE NEIGHBOUR: 'it returns false'. Refute it at one input. -/
def fnExactLyndonWordsWrong : ChangeSpec := { name := "fnExactLyndonWords", fn := fun _ => fun
  | [d] => { results := [.lit (.bool false)], args := [d] }
  | _ => none }
def FnExactLyndonWordsWrongFalsely : Prop := fnExactLyndonWordsRow.holds Try.pinned (OpenSpec.ofChange fnExactLyndonWordsWrong)

/-- 'laws.FnExactCircleOf': WHATEVER THE INPUT: true; the input reads as it did. -/
def fnExactCircleOfSpec : ChangeSpec := { name := "fnExactCircleOf", fn := fun _ => fun
  | [d] => { results := [.lit (.bool true)], args := [d] }
  | _ => none }
def fnExactCircleOfRow : OpenClaim := { program := "ytfmpnkckaceigaa", sum := "a292fc4e8cedab27408933e44484f7076864056e40a8377613baef831a0f430d", func := "loop.example/g03225/laws.FnExactCircleOf", spec := "fnExactCircleOf", apart := false }
def FnExactCircleOfSaid : Prop := fnExactCircleOfRow.holds Try.pinned (OpenSpec.ofChange fnExactCircleOfSpec)

/-- ITS FALSE NEIGHBOUR: 'it returns false'. Refute it at one input. -/
def fnExactCircleOfWrong : ChangeSpec := { name := "fnExactCircleOf", fn := fun _ => fun
  | [d] => { results := [.lit (.bool false)], args := [d] }
  | _ => none }
def FnExactCircleOfWrongFalsely : Prop := fnExactCircleOfRow.holds Try.pinned (OpenSpec.ofChange fnExactCircleOfWrong)

/-- 'laws.FnExactThueTrits': WHATEVER THE INPUT: true; the input reads as it did. -/
def fnExactThueTritsSpec : ChangeSpec := { name := "fnExactThueTrits", fn := fun _ => fun
  | [d] => { results := [.lit (.bool true)], args := [d] }
  | _ => none }
def fnExactThueTritsRow : OpenClaim := { program := "ytfmpnkckaceigaa", sum := "a292fc4e8cedab27408933e44484f7076864056e40a8377613baef831a0f430d", func := "loop.example/g03225/laws.FnExactThueTrits", spec := "fnExactThueTrits", apart := false }
def FnExactThueTritsSaid : Prop := fnExactThueTritsRow.holds Try.pinned (OpenSpec.ofChange fnExactThueTritsSpec)

/-- ITS FALSE NEIGHBOUR: 'it returns false'. Refute it at one input. -/
def fnExactThueTritsWrong : ChangeSpec := { name := "fnExactThueTrits", fn := fun _ => fun
  | [d] => { results := [.lit (.bool false)], args := [d] }
  | _ => none }
def FnExactThueTritsWrongFalsely : Prop := fnExactThueTritsRow.holds Try.pinned (OpenSpec.ofChange fnExactThueTritsWrong)

/-- 'laws.FnExactHasSquare': WHATEVER THE INPUT: true; the input reads as it did. -/
def fnExactHasSquareSpec : ChangeSpec := { name := "fnExactHasSquare", fn := fun _ => fun
  | [d] => { results := [.lit (.bool true)], args := [d] }
  | _ => none }
def fnExactHasSquareRow : OpenClaim := { program := "ytfmpnkckaceigaa", sum := "a292fc4e8cedab27408933e44484f7076864056e40a8377613baef831a0f430d", func := "loop.example/g03225/laws.FnExactHasSquare", spec := "fnExactHasSquare", apart := false }
def FnExactHasSquareSaid : Prop := fnExactHasSquareRow.holds Try.pinned (OpenSpec.ofChange fnExactHasSquareSpec)

/-- ITS FALSE NEIGHBOUR: 'it returns false'. Refute it at one input. -/
def fnExactHasSquareWrong : ChangeSpec := { name := "fnExactHasSquare", fn := fun _ => fun
  | [d] => { results := [.lit (.bool false)], args := [d] }
  | _ => none }
def FnExactHasSquareWrongFalsely : Prop := fnExactHasSquareRow.holds Try.pinned (OpenSpec.ofChange fnExactHasSquareWrong)

/-- 'laws.FnGray': WHATEVER THE INPUT: true; the input reads as it did. -/
def fnGraySpec : ChangeSpec := { name := "fnGray", fn := fun _ => fun
  | [d] => { results := [.lit (.bool true)], args := [d] }
  | _ => none }
def fnGrayRow : OpenClaim := { program := "ytfmpnkckaceigaa", sum := "a292fc4e8cedab27408933e44484f7076864056e40a8377613baef831a0f430d", func := "loop.example/g03225/laws.FnGray", spec := "fnGray", apart := false }
def FnGraySaid : Prop := fnGrayRow.holds Try.pinned (OpenSpec.ofChange fnGraySpec)

/-- ITS FALSE NEIGHBOUR: 'it returns false'. Refute it at one input. -/
def fnGrayWrong : ChangeSpec := { name := "fnGray", fn := fun _ => fun
  | [d] => { results := [.lit (.bool false)], args := [d] }
  | _ => none }
def FnGrayWrongFalsely : Prop := fnGrayRow.holds Try.pinned (OpenSpec.ofChange fnGrayWrong)

/-- 'laws.FnCircle': WHATEVER THE INPUT: true; the input reads as it did. -/
def fnCircleSpec : ChangeSpec := { name := "fnCircle", fn := fun _ => fun
  | [d] => { results := [.lit (.bool true)], args := [d] }
  | _ => none }
def fnCircleRow : OpenClaim := { program := "ytfmpnkckaceigaa", sum := "a292fc4e8cedab27408933e44484f7076864056e40a8377613baef831a0f430d", func := "loop.example/g03225/laws.FnCircle", spec := "fnCircle", apart := false }
def FnCircleSaid : Prop := fnCircleRow.holds Try.pinned (OpenSpec.ofChange fnCircleSpec)

/-- ITS FALSE NEIGHBOUR: 'it returns false'. Refute it at one input. -/
def fnCircleWrong : ChangeSpec := { name := "fnCircle", fn := fun _ => fun
  | [d] => { results := [.lit (.bool false)], args := [d] }
  | _ => none }
def FnCircleWrongFalsely : Prop := fnCircleRow.holds Try.pinned (OpenSpec.ofChange fnCircleWrong)

/-- 'laws.FnNecklaces': WHATEVER THE INPUT: true; the input reads as it did. -/
def fnNecklacesSpec : ChangeSpec := { name := "fnNecklaces", fn := fun _ => fun
  | [d] => { results := [.lit (.bool true)], args := [d] }
  | _ => none }
def fnNecklacesRow : OpenClaim := { program := "ytfmpnkckaceigaa", sum := "a292fc4e8cedab27408933e44484f7076864056e40a8377613baef831a0f430d", func := "loop.example/g03225/laws.FnNecklaces", spec := "fnNecklaces", apart := false }
def FnNecklacesSaid : Prop := fnNecklacesRow.holds Try.pinned (OpenSpec.ofChange fnNecklacesSpec)

/-- ITS FALSE NEIGHBOUR: 'it returns false'. Refute it at one input. -/
def fnNecklacesWrong : ChangeSpec := { name := "fnNecklaces", fn := fun _ => fun
  | [d] => { results := [.lit (.bool false)], args := [d] }
  | _ => none }
def FnNecklacesWrongFalsely : Prop := fnNecklacesRow.holds Try.pinned (OpenSpec.ofChange fnNecklacesWrong)

/-- 'laws.FnThue': WHATEVER THE INPUT: true; the input reads as it did. -/
def fnThueSpec : ChangeSpec := { name := "fnThue", fn := fun _ => fun
  | [d] => { results := [.lit (.bool true)], args := [d] }
  | _ => none }
def fnThueRow : OpenClaim := { program := "ytfmpnkckaceigaa", sum := "a292fc4e8cedab27408933e44484f7076864056e40a8377613baef831a0f430d", func := "loop.example/g03225/laws.FnThue", spec := "fnThue", apart := false }
def FnThueSaid : Prop := fnThueRow.holds Try.pinned (OpenSpec.ofChange fnThueSpec)

/-- ITS FALSE NEIGHBOUR: 'it returns false'. Refute it at one input. -/
def fnThueWrong : ChangeSpec := { name := "fnThue", fn := fun _ => fun
  | [d] => { results := [.lit (.bool false)], args := [d] }
  | _ => none }
def FnThueWrongFalsely : Prop := fnThueRow.holds Try.pinned (OpenSpec.ofChange fnThueWrong)

/- THE SECOND FORM. 'bulk': how many values and letters a reading holds, each counted each time it is reached (what is shared counts as often as it is met; a slice's spare places count too). A statement '..UptoSaid' is the law's where the arguments, and the package variables that the reading takes, are together of bulk at most 1048576: NARROWER than '..Said'. Prove '..Said' where nothing that the law and all that it calls make is longer than what came in: it says more and counts as full. Else prove '..UptoSaid'. A law counts once. -/
mutual
def uptoBulk {H : Type} : DataW H → Nat
  | .lit (.string bytes) => bytes.length + 1
  | .lit _ => 1
  | .nil => 1
  | .ptr d => uptoBulk d + 1
  | .slice elems spare => uptoBulkAll elems + uptoBulkAll spare + 1
  | .agg parts => uptoBulkAll parts + 1
  | .iface _ d => uptoBulk d + 1
  | .map entries => uptoBulkEntries entries + 1
  | .held _ => 1
def uptoBulkAll {H : Type} : List (DataW H) → Nat
  | [] => 0
  | d :: r => uptoBulk d + uptoBulkAll r
def uptoBulkEntries {H : Type} : List (Lit × DataW H) → Nat
  | [] => 0
  | x :: r => uptoBulkEntry x + uptoBulkEntries r
def uptoBulkEntry {H : Type} : Lit × DataW H → Nat
  | (.string bytes, d) => bytes.length + uptoBulk d + 1
  | (_, d) => uptoBulk d + 1
 end
def uptoSmall : (H : Type) → List (DataW H) → Bool := fun _ ds => decide (uptoBulkAll ds ≤ 1048576)
def OpenSpec.upto (s : _root_.Go.ChangeSpec) : _root_.Go.OpenSpec := { _root_.Go.OpenSpec.ofChange s with cond := some uptoSmall }

/-- 'laws.FnExactGrayWord', WHERE WHAT IT READS IS OF BULK AT MOST 1048576: true; the input reads as it did. -/
def fnExactGrayWordUptoRow : OpenClaim := { program := "ytfmpnkckaceigaa", sum := "a292fc4e8cedab27408933e44484f7076864056e40a8377613baef831a0f430d", func := "loop.example/g03225/laws.FnExactGrayWord", spec := "fnExactGrayWord", apart := false, narrowed := true }
def FnExactGrayWordUptoSaid : Prop := fnExactGrayWordUptoRow.holds Try.pinned (OpenSpec.upto fnExactGrayWordSpec)

/-- 'laws.FnExactGrayRank', WHERE WHAT IT READS IS OF BULK AT MOST 1048576: true; the input reads as it did. -/
def fnExactGrayRankUptoRow : OpenClaim := { program := "ytfmpnkckaceigaa", sum := "a292fc4e8cedab27408933e44484f7076864056e40a8377613baef831a0f430d", func := "loop.example/g03225/laws.FnExactGrayRank", spec := "fnExactGrayRank", apart := false, narrowed := true }
def FnExactGrayRankUptoSaid : Prop := fnExactGrayRankUptoRow.holds Try.pinned (OpenSpec.upto fnExactGrayRankSpec)

/-- 'laws.FnExactRotateWord', WHERE WHAT IT READS IS OF BULK AT MOST 1048576: true; the input reads as it did. -/
def fnExactRotateWordUptoRow : OpenClaim := { program := "ytfmpnkckaceigaa", sum := "a292fc4e8cedab27408933e44484f7076864056e40a8377613baef831a0f430d", func := "loop.example/g03225/laws.FnExactRotateWord", spec := "fnExactRotateWord", apart := false, narrowed := true }
def FnExactRotateWordUptoSaid : Prop := fnExactRotateWordUptoRow.holds Try.pinned (OpenSpec.upto fnExactRotateWordSpec)

/-- 'laws.FnExactNecklaceOf', WHERE WHAT IT READS IS OF BULK AT MOST 1048576: true; the input reads as it did. -/
def fnExactNecklaceOfUptoRow : OpenClaim := { program := "ytfmpnkckaceigaa", sum := "a292fc4e8cedab27408933e44484f7076864056e40a8377613baef831a0f430d", func := "loop.example/g03225/laws.FnExactNecklaceOf", spec := "fnExactNecklaceOf", apart := false, narrowed := true }
def FnExactNecklaceOfUptoSaid : Prop := fnExactNecklaceOfUptoRow.holds Try.pinned (OpenSpec.upto fnExactNecklaceOfSpec)

/-- 'laws.FnExactIsLyndon', WHERE WHAT IT READS IS OF BULK AT MOST 1048576: true; the input reads as it did. -/
def fnExactIsLyndonUptoRow : OpenClaim := { program := "ytfmpnkckaceigaa", sum := "a292fc4e8cedab27408933e44484f7076864056e40a8377613baef831a0f430d", func := "loop.example/g03225/laws.FnExactIsLyndon", spec := "fnExactIsLyndon", apart := false, narrowed := true }
def FnExactIsLyndonUptoSaid : Prop := fnExactIsLyndonUptoRow.holds Try.pinned (OpenSpec.upto fnExactIsLyndonSpec)

/-- 'laws.FnExactLyndonWords', WHERE WHAT IT READS IS OF BULK AT MOST 1048576: true; the input reads as it did. -/
def fnExactLyndonWordsUptoRow : OpenClaim := { program := "ytfmpnkckaceigaa", sum := "a292fc4e8cedab27408933e44484f7076864056e40a8377613baef831a0f430d", func := "loop.example/g03225/laws.FnExactLyndonWords", spec := "fnExactLyndonWords", apart := false, narrowed := true }
def FnExactLyndonWordsUptoSaid : Prop := fnExactLyndonWordsUptoRow.holds Try.pinned (OpenSpec.upto fnExactLyndonWordsSpec)

/-- 'laws.FnExactCircleOf', WHERE WHAT IT READS IS OF BULK AT MOST 1048576: true; the input reads as it did. -/
def fnExactCircleOfUptoRow : OpenClaim := { program := "ytfmpnkckaceigaa", sum := "a292fc4e8cedab27408933e44484f7076864056e40a8377613baef831a0f430d", func := "loop.example/g03225/laws.FnExactCircleOf", spec := "fnExactCircleOf", apart := false, narrowed := true }
def FnExactCircleOfUptoSaid : Prop := fnExactCircleOfUptoRow.holds Try.pinned (OpenSpec.upto fnExactCircleOfSpec)

/-- 'laws.FnExactThueTrits', WHERE WHAT IT READS IS OF BULK AT MOST 1048576: true; the input reads as it did. -/
def fnExactThueTritsUptoRow : OpenClaim := { program := "ytfmpnkckaceigaa", sum := "a292fc4e8cedab27408933e44484f7076864056e40a8377613baef831a0f430d", func := "loop.example/g03225/laws.FnExactThueTrits", spec := "fnExactThueTrits", apart := false, narrowed := true }
def FnExactThueTritsUptoSaid : Prop := fnExactThueTritsUptoRow.holds Try.pinned (OpenSpec.upto fnExactThueTritsSpec)

/-- 'laws.FnExactHasSquare', WHERE WHAT IT READS IS OF BULK AT MOST 1048576: true; the input reads as it did. -/
def fnExactHasSquareUptoRow : OpenClaim := { program := "ytfmpnkckaceigaa", sum := "a292fc4e8cedab27408933e44484f7076864056e40a8377613baef831a0f430d", func := "loop.example/g03225/laws.FnExactHasSquare", spec := "fnExactHasSquare", apart := false, narrowed := true }
def FnExactHasSquareUptoSaid : Prop := fnExactHasSquareUptoRow.holds Try.pinned (OpenSpec.upto fnExactHasSquareSpec)

/-- 'laws.FnGray', WHERE WHAT IT READS IS OF BULK AT MOST 1048576: true; the input reads as it did. -/
def fnGrayUptoRow : OpenClaim := { program := "ytfmpnkckaceigaa", sum := "a292fc4e8cedab27408933e44484f7076864056e40a8377613baef831a0f430d", func := "loop.example/g03225/laws.FnGray", spec := "fnGray", apart := false, narrowed := true }
def FnGrayUptoSaid : Prop := fnGrayUptoRow.holds Try.pinned (OpenSpec.upto fnGraySpec)

/-- 'laws.FnCircle', WHERE WHAT IT READS IS OF BULK AT MOST 1048576: true; the input reads as it did. -/
def fnCircleUptoRow : OpenClaim := { program := "ytfmpnkckaceigaa", sum := "a292fc4e8cedab27408933e44484f7076864056e40a8377613baef831a0f430d", func := "loop.example/g03225/laws.FnCircle", spec := "fnCircle", apart := false, narrowed := true }
def FnCircleUptoSaid : Prop := fnCircleUptoRow.holds Try.pinned (OpenSpec.upto fnCircleSpec)

/-- 'laws.FnNecklaces', WHERE WHAT IT READS IS OF BULK AT MOST 1048576: true; the input reads as it did. -/
def fnNecklacesUptoRow : OpenClaim := { program := "ytfmpnkckaceigaa", sum := "a292fc4e8cedab27408933e44484f7076864056e40a8377613baef831a0f430d", func := "loop.example/g03225/laws.FnNecklaces", spec := "fnNecklaces", apart := false, narrowed := true }
def FnNecklacesUptoSaid : Prop := fnNecklacesUptoRow.holds Try.pinned (OpenSpec.upto fnNecklacesSpec)

/-- 'laws.FnThue', WHERE WHAT IT READS IS OF BULK AT MOST 1048576: true; the input reads as it did. -/
def fnThueUptoRow : OpenClaim := { program := "ytfmpnkckaceigaa", sum := "a292fc4e8cedab27408933e44484f7076864056e40a8377613baef831a0f430d", func := "loop.example/g03225/laws.FnThue", spec := "fnThue", apart := false, narrowed := true }
def FnThueUptoSaid : Prop := fnThueUptoRow.holds Try.pinned (OpenSpec.upto fnThueSpec)

end Rows
end Go.Proofs.Ytfmpnkckaceigaa

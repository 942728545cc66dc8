/-
  No cell of these rows narrows 'for every input' (looked for: loops, veiled, ifaces, maps, wideKeys, modest, calm, conditions, laid).
  DERIVED. THE GIVEN ROWS OF THIS SEAT. 12 by the template 'for every input the law returns true; each argument reads behind the call as it read before'; 0 by the template 'total and deterministic' (their statements: YteklgngooflhlaaTotals.lean).
  GIVEN WITH THE SEED: the statements are not yours to turn. If you find one false, say at which input.
  Laid BY PROGRAM, IN A SANDBOX (cutbox-rows.mjs): the forced cells as the released guide's own fill.sh prints them over the translation 834532a70e5d5b54… (all of the seat's roots in one cut). By AI agents, Wed Nov 11 2026. No macro, syntax, notation, axiom, sorry.
-/
import Derived.Test.YteklgngooflhlaaChecked
import GoSem.Claim
import GoSem.ClaimJoined
import GoSem.ClaimMapViews
import Derived.JoinedTies
import Derived.KernelRfl
namespace Go.Proofs.Yteklgngooflhlaa
/- THE CELL 'sum', in the pinned program and in every row, IS THE sha256 OF THE DUMP (.gsa) THAT YteklgngooflhlaaProg.lean LOADS. Nothing in Lean hashes anything: it is a label: what it is worth is what the hold of that sum in a sandbox is worth. -/
noncomputable def Try.pinned : Pinned := { name := "yteklgngooflhlaa", sum := "834532a70e5d5b5402cf7376227f7de60d6f1fd83755551e23fd0653cf6ab977", checked := Try.checked }
namespace Rows
def none {H : Type} : Left H := { results := [], args := [] }

/-- 'laws.FnWeighed': WHATEVER THE INPUT: true; the input reads as it did. -/
def fnWeighedSpec : ChangeSpec := { name := "fnWeighed", fn := fun _ => fun
  | [d] => { results := [.lit (.bool true)], args := [d] }
  | _ => none }
def fnWeighedRow : OpenClaim := { program := "yteklgngooflhlaa", sum := "834532a70e5d5b5402cf7376227f7de60d6f1fd83755551e23fd0653cf6ab977", func := "loop.example/g03225/laws.FnWeighed", spec := "fnWeighed", apart := false }
def FnWeighedSaid : Prop := fnWeighedRow.holds Try.pinned (OpenSpec.ofChange fnWeighedSpec)

/-- ITS FALSE NEIGHBOUR: 'it returns false'. Refute it at one input. -/
def fnWeighedWrong : ChangeSpec := { name := "fnWeighed", fn := fun _ => fun
  | [d] => { results := [.lit (.bool false)], args := [d] }
  | _ => none }
def FnWeighedWrongFalsely : Prop := fnWeighedRow.holds Try.pinned (OpenSpec.ofChange fnWeighedWrong)

/-- 'laws.FnCoins': WHATEVER THE INPUT: true; the input reads as it did. -/
def fnCoinsSpec : ChangeSpec := { name := "fnCoins", fn := fun _ => fun
  | [d] => { results := [.lit (.bool true)], args := [d] }
  | _ => none }
def fnCoinsRow : OpenClaim := { program := "yteklgngooflhlaa", sum := "834532a70e5d5b5402cf7376227f7de60d6f1fd83755551e23fd0653cf6ab977", func := "loop.example/g03225/laws.FnCoins", spec := "fnCoins", unfollowed := true, recurses := true, apart := false }
def FnCoinsSaid : Prop := fnCoinsRow.holds Try.pinned (OpenSpec.ofChange fnCoinsSpec)

/-- ITS FALSE NEIGHBOUR: 'it returns false'. Refute it at one input. -/
def fnCoinsWrong : ChangeSpec := { name := "fnCoins", fn := fun _ => fun
  | [d] => { results := [.lit (.bool false)], args := [d] }
  | _ => none }
def FnCoinsWrongFalsely : Prop := fnCoinsRow.holds Try.pinned (OpenSpec.ofChange fnCoinsWrong)

/-- 'laws.FnForward': WHATEVER THE INPUT: true; the input reads as it did. -/
def fnForwardSpec : ChangeSpec := { name := "fnForward", fn := fun _ => fun
  | [d] => { results := [.lit (.bool true)], args := [d] }
  | _ => none }
def fnForwardRow : OpenClaim := { program := "yteklgngooflhlaa", sum := "834532a70e5d5b5402cf7376227f7de60d6f1fd83755551e23fd0653cf6ab977", func := "loop.example/g03225/laws.FnForward", spec := "fnForward", apart := false }
def FnForwardSaid : Prop := fnForwardRow.holds Try.pinned (OpenSpec.ofChange fnForwardSpec)

/-- ITS FALSE NEIGHBOUR: 'it returns false'. Refute it at one input. -/
def fnForwardWrong : ChangeSpec := { name := "fnForward", fn := fun _ => fun
  | [d] => { results := [.lit (.bool false)], args := [d] }
  | _ => none }
def FnForwardWrongFalsely : Prop := fnForwardRow.holds Try.pinned (OpenSpec.ofChange fnForwardWrong)

/-- 'laws.FnExactWeighThing': WHATEVER THE INPUT: true; the input reads as it did. -/
def fnExactWeighThingSpec : ChangeSpec := { name := "fnExactWeighThing", fn := fun _ => fun
  | [d] => { results := [.lit (.bool true)], args := [d] }
  | _ => none }
def fnExactWeighThingRow : OpenClaim := { program := "yteklgngooflhlaa", sum := "834532a70e5d5b5402cf7376227f7de60d6f1fd83755551e23fd0653cf6ab977", func := "loop.example/g03225/laws.FnExactWeighThing", spec := "fnExactWeighThing", apart := false }
def FnExactWeighThingSaid : Prop := fnExactWeighThingRow.holds Try.pinned (OpenSpec.ofChange fnExactWeighThingSpec)

/-- ITS FALSE NEIGHBOUR: 'it returns false'. Refute it at one input. -/
def fnExactWeighThingWrong : ChangeSpec := { name := "fnExactWeighThing", fn := fun _ => fun
  | [d] => { results := [.lit (.bool false)], args := [d] }
  | _ => none }
def FnExactWeighThingWrongFalsely : Prop := fnExactWeighThingRow.holds Try.pinned (OpenSpec.ofChange fnExactWeighThingWrong)

/-- 'laws.FnExactBalanceOf': WHATEVER THE INPUT: true; the input reads as it did. -/
def fnExactBalanceOfSpec : ChangeSpec := { name := "fnExactBalanceOf", fn := fun _ => fun
  | [d1, d2] => { results := [.lit (.bool true)], args := [d1, d2] }
  | _ => none }
def fnExactBalanceOfRow : OpenClaim := { program := "yteklgngooflhlaa", sum := "834532a70e5d5b5402cf7376227f7de60d6f1fd83755551e23fd0653cf6ab977", func := "loop.example/g03225/laws.FnExactBalanceOf", spec := "fnExactBalanceOf", apart := false }
def FnExactBalanceOfSaid : Prop := fnExactBalanceOfRow.holds Try.pinned (OpenSpec.ofChange fnExactBalanceOfSpec)

/-- ITS FALSE NEIGHBOUR: 'it returns false'. Refute it at one input. -/
def fnExactBalanceOfWrong : ChangeSpec := { name := "fnExactBalanceOf", fn := fun _ => fun
  | [d1, d2] => { results := [.lit (.bool false)], args := [d1, d2] }
  | _ => none }
def FnExactBalanceOfWrongFalsely : Prop := fnExactBalanceOfRow.holds Try.pinned (OpenSpec.ofChange fnExactBalanceOfWrong)

/-- 'laws.FnExactCoinsFor': WHATEVER THE INPUT: true; the input reads as it did. -/
def fnExactCoinsForSpec : ChangeSpec := { name := "fnExactCoinsFor", fn := fun _ => fun
  | [d] => { results := [.lit (.bool true)], args := [d] }
  | _ => none }
def fnExactCoinsForRow : OpenClaim := { program := "yteklgngooflhlaa", sum := "834532a70e5d5b5402cf7376227f7de60d6f1fd83755551e23fd0653cf6ab977", func := "loop.example/g03225/laws.FnExactCoinsFor", spec := "fnExactCoinsFor", apart := false }
def FnExactCoinsForSaid : Prop := fnExactCoinsForRow.holds Try.pinned (OpenSpec.ofChange fnExactCoinsForSpec)

/-- ITS FALSE NEIGHBOUR: 'it returns false'. Refute it at one input. -/
def fnExactCoinsForWrong : ChangeSpec := { name := "fnExactCoinsFor", fn := fun _ => fun
  | [d] => { results := [.lit (.bool false)], args := [d] }
  | _ => none }
def FnExactCoinsForWrongFalsely : Prop := fnExactCoinsForRow.holds Try.pinned (OpenSpec.ofChange fnExactCoinsForWrong)

/-- 'laws.FnExactTurnsForward': WHATEVER THE INPUT: true; the input reads as it did. -/
def fnExactTurnsForwardSpec : ChangeSpec := { name := "fnExactTurnsForward", fn := fun _ => fun
  | [d] => { results := [.lit (.bool true)], args := [d] }
  | _ => none }
def fnExactTurnsForwardRow : OpenClaim := { program := "yteklgngooflhlaa", sum := "834532a70e5d5b5402cf7376227f7de60d6f1fd83755551e23fd0653cf6ab977", func := "loop.example/g03225/laws.FnExactTurnsForward", spec := "fnExactTurnsForward", apart := false }
def FnExactTurnsForwardSaid : Prop := fnExactTurnsForwardRow.holds Try.pinned (OpenSpec.ofChange fnExactTurnsForwardSpec)

/-- ITS FALSE NEIGHBOUR: 'it returns false'. Refute it at one input. -/
def fnExactTurnsForwardWrong : ChangeSpec := { name := "fnExactTurnsForward", fn := fun _ => fun
  | [d] => { results := [.lit (.bool false)], args := [d] }
  | _ => none }
def FnExactTurnsForwardWrongFalsely : Prop := fnExactTurnsForwardRow.holds Try.pinned (OpenSpec.ofChange fnExactTurnsForwardWrong)

/-- 'laws.FnExactCoinWords': WHATEVER THE INPUT: true; the input reads as it did. -/
def fnExactCoinWordsSpec : ChangeSpec := { name := "fnExactCoinWords", fn := fun _ => fun
  | [d1, d2] => { results := [.lit (.bool true)], args := [d1, d2] }
  | _ => none }
def fnExactCoinWordsRow : OpenClaim := { program := "yteklgngooflhlaa", sum := "834532a70e5d5b5402cf7376227f7de60d6f1fd83755551e23fd0653cf6ab977", func := "loop.example/g03225/laws.FnExactCoinWords", spec := "fnExactCoinWords", apart := false }
def FnExactCoinWordsSaid : Prop := fnExactCoinWordsRow.holds Try.pinned (OpenSpec.ofChange fnExactCoinWordsSpec)

/-- ITS FALSE NEIGHBOUR: 'it returns false'. Refute it at one input. -/
def fnExactCoinWordsWrong : ChangeSpec := { name := "fnExactCoinWords", fn := fun _ => fun
  | [d1, d2] => { results := [.lit (.bool false)], args := [d1, d2] }
  | _ => none }
def FnExactCoinWordsWrongFalsely : Prop := fnExactCoinWordsRow.holds Try.pinned (OpenSpec.ofChange fnExactCoinWordsWrong)

/-- 'laws.FnExactWeighingsOf': WHATEVER THE INPUT: true; the input reads as it did. -/
def fnExactWeighingsOfSpec : ChangeSpec := { name := "fnExactWeighingsOf", fn := fun _ => fun
  | [d] => { results := [.lit (.bool true)], args := [d] }
  | _ => none }
def fnExactWeighingsOfRow : OpenClaim := { program := "yteklgngooflhlaa", sum := "834532a70e5d5b5402cf7376227f7de60d6f1fd83755551e23fd0653cf6ab977", func := "loop.example/g03225/laws.FnExactWeighingsOf", spec := "fnExactWeighingsOf", apart := false }
def FnExactWeighingsOfSaid : Prop := fnExactWeighingsOfRow.holds Try.pinned (OpenSpec.ofChange fnExactWeighingsOfSpec)

/-- ITS FALSE NEIGHBOUR: 'it returns false'. Refute it at one input. -/
def fnExactWeighingsOfWrong : ChangeSpec := { name := "fnExactWeighingsOf", fn := fun _ => fun
  | [d] => { results := [.lit (.bool false)], args := [d] }
  | _ => none }
def FnExactWeighingsOfWrongFalsely : Prop := fnExactWeighingsOfRow.holds Try.pinned (OpenSpec.ofChange fnExactWeighingsOfWrong)

/-- 'laws.FnExactOutcomeOf': WHATEVER THE INPUT: true; the input reads as it did. -/
def fnExactOutcomeOfSpec : ChangeSpec := { name := "fnExactOutcomeOf", fn := fun _ => fun
  | [d1, d2, d3] => { results := [.lit (.bool true)], args := [d1, d2, d3] }
  | _ => none }
def fnExactOutcomeOfRow : OpenClaim := { program := "yteklgngooflhlaa", sum := "834532a70e5d5b5402cf7376227f7de60d6f1fd83755551e23fd0653cf6ab977", func := "loop.example/g03225/laws.FnExactOutcomeOf", spec := "fnExactOutcomeOf", apart := false }
def FnExactOutcomeOfSaid : Prop := fnExactOutcomeOfRow.holds Try.pinned (OpenSpec.ofChange fnExactOutcomeOfSpec)

/-- ITS FALSE NEIGHBOUR: 'it returns false'. Refute it at one input. -/
def fnExactOutcomeOfWrong : ChangeSpec := { name := "fnExactOutcomeOf", fn := fun _ => fun
  | [d1, d2, d3] => { results := [.lit (.bool false)], args := [d1, d2, d3] }
  | _ => none }
def FnExactOutcomeOfWrongFalsely : Prop := fnExactOutcomeOfRow.holds Try.pinned (OpenSpec.ofChange fnExactOutcomeOfWrong)

/-- 'laws.FnExactGuessOf': WHATEVER THE INPUT: true; the input reads as it did. -/
def fnExactGuessOfSpec : ChangeSpec := { name := "fnExactGuessOf", fn := fun _ => fun
  | [d1, d2] => { results := [.lit (.bool true)], args := [d1, d2] }
  | _ => none }
def fnExactGuessOfRow : OpenClaim := { program := "yteklgngooflhlaa", sum := "834532a70e5d5b5402cf7376227f7de60d6f1fd83755551e23fd0653cf6ab977", func := "loop.example/g03225/laws.FnExactGuessOf", spec := "fnExactGuessOf", apart := false }
def FnExactGuessOfSaid : Prop := fnExactGuessOfRow.holds Try.pinned (OpenSpec.ofChange fnExactGuessOfSpec)

/-- ITS FALSE NEIGHBOUR: 'it returns false'. Refute it at one input. -/
def fnExactGuessOfWrong : ChangeSpec := { name := "fnExactGuessOf", fn := fun _ => fun
  | [d1, d2] => { results := [.lit (.bool false)], args := [d1, d2] }
  | _ => none }
def FnExactGuessOfWrongFalsely : Prop := fnExactGuessOfRow.holds Try.pinned (OpenSpec.ofChange fnExactGuessOfWrong)

/-- 'laws.FnExactWeighCoins': WHATEVER THE INPUT: true; the input reads as it did. -/
def fnExactWeighCoinsSpec : ChangeSpec := { name := "fnExactWeighCoins", fn := fun _ => fun
  | [d1, d2] => { results := [.lit (.bool true)], args := [d1, d2] }
  | _ => none }
def fnExactWeighCoinsRow : OpenClaim := { program := "yteklgngooflhlaa", sum := "834532a70e5d5b5402cf7376227f7de60d6f1fd83755551e23fd0653cf6ab977", func := "loop.example/g03225/laws.FnExactWeighCoins", spec := "fnExactWeighCoins", unfollowed := true, recurses := true, apart := false }
def FnExactWeighCoinsSaid : Prop := fnExactWeighCoinsRow.holds Try.pinned (OpenSpec.ofChange fnExactWeighCoinsSpec)

/-- ITS FALSE NEIGHBOUR: 'it returns false'. Refute it at one input. -/
def fnExactWeighCoinsWrong : ChangeSpec := { name := "fnExactWeighCoins", fn := fun _ => fun
  | [d1, d2] => { results := [.lit (.bool false)], args := [d1, d2] }
  | _ => none }
def FnExactWeighCoinsWrongFalsely : Prop := fnExactWeighCoinsRow.holds Try.pinned (OpenSpec.ofChange fnExactWeighCoinsWrong)

/- THE SECOND FORM. 'bulk': how many values and letters a reading holds, each counted each time it is reached (what is shared counts as often as it is met; a slice's spare places count too). A statement '..UptoSaid' is the law's where the arguments, and the package variables that the reading takes, are together of bulk at most 1048576: NARROWER than '..Said'. Prove '..Said' where nothing that the law and all that it calls make is longer than what came in: it says more and counts as full. Else prove '..UptoSaid'. A law counts once. -/
mutual
def uptoBulk {H : Type} : DataW H → Nat
  | .lit (.string bytes) => bytes.length + 1
  | .lit _ => 1
  | .nil => 1
  | .ptr d => uptoBulk d + 1
  | .slice elems spare => uptoBulkAll elems + uptoBulkAll spare + 1
  | .agg parts => uptoBulkAll parts + 1
  | .iface _ d => uptoBulk d + 1
  | .map entries => uptoBulkEntries entries + 1
  | .held _ => 1
def uptoBulkAll {H : Type} : List (DataW H) → Nat
  | [] => 0
  | d :: r => uptoBulk d + uptoBulkAll r
def uptoBulkEntries {H : Type} : List (Lit × DataW H) → Nat
  | [] => 0
  | x :: r => uptoBulkEntry x + uptoBulkEntries r
def uptoBulkEntry {H : Type} : Lit × DataW H → Nat
  | (.string bytes, d) => bytes.length + uptoBulk d + 1
  | (_, d) => uptoBulk d + 1
 end
def uptoSmall : (H : Type) → List (DataW H) → Bool := fun _ ds => decide (uptoBulkAll ds ≤ 1048576)
def OpenSpec.upto (s : _root_.Go.ChangeSpec) : _root_.Go.OpenSpec := { _root_.Go.OpenSpec.ofChange s with cond := some uptoSmall }

/-- 'laws.FnWeighed', WHERE WHAT IT READS IS OF BULK AT MOST 1048576: true; the input reads as it did. -/
def fnWeighedUptoRow : OpenClaim := { program := "yteklgngooflhlaa", sum := "834532a70e5d5b5402cf7376227f7de60d6f1fd83755551e23fd0653cf6ab977", func := "loop.example/g03225/laws.FnWeighed", spec := "fnWeighed", apart := false, narrowed := true }
def FnWeighedUptoSaid : Prop := fnWeighedUptoRow.holds Try.pinned (OpenSpec.upto fnWeighedSpec)

/-- 'laws.FnCoins', WHERE WHAT IT READS IS OF BULK AT MOST 1048576: true; the input reads as it did. -/
def fnCoinsUptoRow : OpenClaim := { program := "yteklgngooflhlaa", sum := "834532a70e5d5b5402cf7376227f7de60d6f1fd83755551e23fd0653cf6ab977", func := "loop.example/g03225/laws.FnCoins", spec := "fnCoins", unfollowed := true, recurses := true, apart := false, narrowed := true }
def FnCoinsUptoSaid : Prop := fnCoinsUptoRow.holds Try.pinned (OpenSpec.upto fnCoinsSpec)

/-- 'laws.FnForward', WHERE WHAT IT READS IS OF BULK AT MOST 1048576: true; the input reads as it did. -/
def fnForwardUptoRow : OpenClaim := { program := "yteklgngooflhlaa", sum := "834532a70e5d5b5402cf7376227f7de60d6f1fd83755551e23fd0653cf6ab977", func := "loop.example/g03225/laws.FnForward", spec := "fnForward", apart := false, narrowed := true }
def FnForwardUptoSaid : Prop := fnForwardUptoRow.holds Try.pinned (OpenSpec.upto fnForwardSpec)

/-- 'laws.FnExactWeighThing', WHERE WHAT IT READS IS OF BULK AT MOST 1048576: true; the input reads as it did. -/
def fnExactWeighThingUptoRow : OpenClaim := { program := "yteklgngooflhlaa", sum := "834532a70e5d5b5402cf7376227f7de60d6f1fd83755551e23fd0653cf6ab977", func := "loop.example/g03225/laws.FnExactWeighThing", spec := "fnExactWeighThing", apart := false, narrowed := true }
def FnExactWeighThingUptoSaid : Prop := fnExactWeighThingUptoRow.holds Try.pinned (OpenSpec.upto fnExactWeighThingSpec)

/-- 'laws.FnExactBalanceOf', WHERE WHAT IT READS IS OF BULK AT MOST 1048576: true; the input reads as it did. -/
def fnExactBalanceOfUptoRow : OpenClaim := { program := "yteklgngooflhlaa", sum := "834532a70e5d5b5402cf7376227f7de60d6f1fd83755551e23fd0653cf6ab977", func := "loop.example/g03225/laws.FnExactBalanceOf", spec := "fnExactBalanceOf", apart := false, narrowed := true }
def FnExactBalanceOfUptoSaid : Prop := fnExactBalanceOfUptoRow.holds Try.pinned (OpenSpec.upto fnExactBalanceOfSpec)

/-- 'laws.FnExactCoinsFor', WHERE WHAT IT READS IS OF BULK AT MOST 1048576: true; the input reads as it did. -/
def fnExactCoinsForUptoRow : OpenClaim := { program := "yteklgngooflhlaa", sum := "834532a70e5d5b5402cf7376227f7de60d6f1fd83755551e23fd0653cf6ab977", func := "loop.example/g03225/laws.FnExactCoinsFor", spec := "fnExactCoinsFor", apart := false, narrowed := true }
def FnExactCoinsForUptoSaid : Prop := fnExactCoinsForUptoRow.holds Try.pinned (OpenSpec.upto fnExactCoinsForSpec)

/-- 'laws.FnExactTurnsForward', WHERE WHAT IT READS IS OF BULK AT MOST 1048576: true; the input reads as it did. -/
def fnExactTurnsForwardUptoRow : OpenClaim := { program := "yteklgngooflhlaa", sum := "834532a70e5d5b5402cf7376227f7de60d6f1fd83755551e23fd0653cf6ab977", func := "loop.example/g03225/laws.FnExactTurnsForward", spec := "fnExactTurnsForward", apart := false, narrowed := true }
def FnExactTurnsForwardUptoSaid : Prop := fnExactTurnsForwardUptoRow.holds Try.pinned (OpenSpec.upto fnExactTurnsForwardSpec)

/-- 'laws.FnExactCoinWords', WHERE WHAT IT READS IS OF BULK AT MOST 1048576: true; the input reads as it did. -/
def fnExactCoinWordsUptoRow : OpenClaim := { program := "yteklgngooflhlaa", sum := "834532a70e5d5b5402cf7376227f7de60d6f1fd83755551e23fd0653cf6ab977", func := "loop.example/g03225/laws.FnExactCoinWords", spec := "fnExactCoinWords", apart := false, narrowed := true }
def FnExactCoinWordsUptoSaid : Prop := fnExactCoinWordsUptoRow.holds Try.pinned (OpenSpec.upto fnExactCoinWordsSpec)

/-- 'laws.FnExactWeighingsOf', WHERE WHAT IT READS IS OF BULK AT MOST 1048576: true; the input reads as it did. -/
def fnExactWeighingsOfUptoRow : OpenClaim := { program := "yteklgngooflhlaa", sum := "834532a70e5d5b5402cf7376227f7de60d6f1fd83755551e23fd0653cf6ab977", func := "loop.example/g03225/laws.FnExactWeighingsOf", spec := "fnExactWeighingsOf", apart := false, narrowed := true }
def FnExactWeighingsOfUptoSaid : Prop := fnExactWeighingsOfUptoRow.holds Try.pinned (OpenSpec.upto fnExactWeighingsOfSpec)

/-- 'laws.FnExactOutcomeOf', WHERE WHAT IT READS IS OF BULK AT MOST 1048576: true; the input reads as it did. -/
def fnExactOutcomeOfUptoRow : OpenClaim := { program := "yteklgngooflhlaa", sum := "834532a70e5d5b5402cf7376227f7de60d6f1fd83755551e23fd0653cf6ab977", func := "loop.example/g03225/laws.FnExactOutcomeOf", spec := "fnExactOutcomeOf", apart := false, narrowed := true }
def FnExactOutcomeOfUptoSaid : Prop := fnExactOutcomeOfUptoRow.holds Try.pinned (OpenSpec.upto fnExactOutcomeOfSpec)

/-- 'laws.FnExactGuessOf', WHERE WHAT IT READS IS OF BULK AT MOST 1048576: true; the input reads as it did. -/
def fnExactGuessOfUptoRow : OpenClaim := { program := "yteklgngooflhlaa", sum := "834532a70e5d5b5402cf7376227f7de60d6f1fd83755551e23fd0653cf6ab977", func := "loop.example/g03225/laws.FnExactGuessOf", spec := "fnExactGuessOf", apart := false, narrowed := true }
def FnExactGuessOfUptoSaid : Prop := fnExactGuessOfUptoRow.holds Try.pinned (OpenSpec.upto fnExactGuessOfSpec)

/-- 'laws.FnExactWeighCoins', WHERE WHAT IT READS IS OF BULK AT MOST 1048576: true; the input reads as it did. -/
def fnExactWeighCoinsUptoRow : OpenClaim := { program := "yteklgngooflhlaa", sum := "834532a70e5d5b5402cf7376227f7de60d6f1fd83755551e23fd0653cf6ab977", func := "loop.example/g03225/laws.FnExactWeighCoins", spec := "fnExactWeighCoins", unfollowed := true, recurses := true, apart := false, narrowed := true }
def FnExactWeighCoinsUptoSaid : Prop := fnExactWeighCoinsUptoRow.holds Try.pinned (OpenSpec.upto fnExactWeighCoinsSpec)

end Rows
end Go.Proofs.Yteklgngooflhlaa

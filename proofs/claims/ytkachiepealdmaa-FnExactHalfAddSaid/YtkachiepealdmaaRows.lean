/-
  No cell of these rows narrows 'for every input' (looked for: loops, veiled, ifaces, maps, wideKeys, modest, calm, conditions, laid).
  DERIVED. THE GIVEN ROWS OF THIS SEAT. 12 by the template 'for every input the law returns true; each argument reads behind the call as it read before'; 0 by the template 'total and deterministic' (their statements: YtkachiepealdmaaTotals.lean).
  GIVEN WITH THE SEED: the statements are not yours to turn. If you find one false, say at which input.
  Laid BY PROGRAM, IN A SANDBOX (cutbox-rows.mjs): the forced cells as the released guide's own fill.sh prints them over the translation dc9dfab17381ebea… (all of the seat's roots in one cut). By AI agents, Wed Nov 11 2026. No macro, syntax, notation, axiom, sorry.
-/
import Derived.Test.YtkachiepealdmaaChecked
import GoSem.Claim
import GoSem.ClaimJoined
import GoSem.ClaimMapViews
import Derived.JoinedTies
import Derived.KernelRfl
namespace Go.Proofs.Ytkachiepealdmaa
/- THE CELL 'sum', in the pinned program and in every row, IS THE sha256 OF THE DUMP (.gsa) THAT YtkachiepealdmaaProg.lean LOADS. Nothing in Lean hashes anything: it is a label: what it is worth is what the hold of that sum in a sandbox is worth. -/
noncomputable def Try.pinned : Pinned := { name := "ytkachiepealdmaa", sum := "dc9dfab17381ebea2419e345c2ffc0d9e2fb2cd68899ffe417141552ce3d813a", checked := Try.checked }
namespace Rows
def none {H : Type} : Left H := { results := [], args := [] }

/-- 'laws.FnTrits': WHATEVER THE INPUT: true; the input reads as it did. -/
def fnTritsSpec : ChangeSpec := { name := "fnTrits", fn := fun _ => fun
  | [d] => { results := [.lit (.bool true)], args := [d] }
  | _ => none }
def fnTritsRow : OpenClaim := { program := "ytkachiepealdmaa", sum := "dc9dfab17381ebea2419e345c2ffc0d9e2fb2cd68899ffe417141552ce3d813a", func := "loop.example/g03225/laws.FnTrits", spec := "fnTrits", apart := false }
def FnTritsSaid : Prop := fnTritsRow.holds Try.pinned (OpenSpec.ofChange fnTritsSpec)

/-- ITS FALSE NEIGHBOUR: 'it returns false'. Refute it at one input. -/
def fnTritsWrong : ChangeSpec := { name := "fnTrits", fn := fun _ => fun
  | [d] => { results := [.lit (.bool false)], args := [d] }
  | _ => none }
def FnTritsWrongFalsely : Prop := fnTritsRow.holds Try.pinned (OpenSpec.ofChange fnTritsWrong)

/-- 'laws.FnTables': WHATEVER THE INPUT: true; the input reads as it did. -/
def fnTablesSpec : ChangeSpec := { name := "fnTables", fn := fun _ => fun
  | [d] => { results := [.lit (.bool true)], args := [d] }
  | _ => none }
def fnTablesRow : OpenClaim := { program := "ytkachiepealdmaa", sum := "dc9dfab17381ebea2419e345c2ffc0d9e2fb2cd68899ffe417141552ce3d813a", func := "loop.example/g03225/laws.FnTables", spec := "fnTables", inPlace := ["internal/bytealg.IndexByteString"], unfollowed := true, recurses := true, apart := false }
def FnTablesSaid : Prop := fnTablesRow.holds Try.pinned (OpenSpec.ofChange fnTablesSpec)

/-- ITS FALSE NEIGHBOUR: 'it returns false'. Refute it at one input. -/
def fnTablesWrong : ChangeSpec := { name := "fnTables", fn := fun _ => fun
  | [d] => { results := [.lit (.bool false)], args := [d] }
  | _ => none }
def FnTablesWrongFalsely : Prop := fnTablesRow.holds Try.pinned (OpenSpec.ofChange fnTablesWrong)

/-- 'laws.FnExactIsTrit': WHATEVER THE INPUT: true; the input reads as it did. -/
def fnExactIsTritSpec : ChangeSpec := { name := "fnExactIsTrit", fn := fun _ => fun
  | [d] => { results := [.lit (.bool true)], args := [d] }
  | _ => none }
def fnExactIsTritRow : OpenClaim := { program := "ytkachiepealdmaa", sum := "dc9dfab17381ebea2419e345c2ffc0d9e2fb2cd68899ffe417141552ce3d813a", func := "loop.example/g03225/laws.FnExactIsTrit", spec := "fnExactIsTrit", apart := false }
def FnExactIsTritSaid : Prop := fnExactIsTritRow.holds Try.pinned (OpenSpec.ofChange fnExactIsTritSpec)

/-- ITS FALSE NEIGHBOUR: 'it returns false'. Refute it at one input. -/
def fnExactIsTritWrong : ChangeSpec := { name := "fnExactIsTrit", fn := fun _ => fun
  | [d] => { results := [.lit (.bool false)], args := [d] }
  | _ => none }
def FnExactIsTritWrongFalsely : Prop := fnExactIsTritRow.holds Try.pinned (OpenSpec.ofChange fnExactIsTritWrong)

/-- 'laws.FnExactSignOf': WHATEVER THE INPUT: true; the input reads as it did. -/
def fnExactSignOfSpec : ChangeSpec := { name := "fnExactSignOf", fn := fun _ => fun
  | [d] => { results := [.lit (.bool true)], args := [d] }
  | _ => none }
def fnExactSignOfRow : OpenClaim := { program := "ytkachiepealdmaa", sum := "dc9dfab17381ebea2419e345c2ffc0d9e2fb2cd68899ffe417141552ce3d813a", func := "loop.example/g03225/laws.FnExactSignOf", spec := "fnExactSignOf", apart := false }
def FnExactSignOfSaid : Prop := fnExactSignOfRow.holds Try.pinned (OpenSpec.ofChange fnExactSignOfSpec)

/-- ITS FALSE NEIGHBOUR: 'it returns false'. Refute it at one input. -/
def fnExactSignOfWrong : ChangeSpec := { name := "fnExactSignOf", fn := fun _ => fun
  | [d] => { results := [.lit (.bool false)], args := [d] }
  | _ => none }
def FnExactSignOfWrongFalsely : Prop := fnExactSignOfRow.holds Try.pinned (OpenSpec.ofChange fnExactSignOfWrong)

/-- 'laws.FnExactNotTrit': WHATEVER THE INPUT: true; the input reads as it did. -/
def fnExactNotTritSpec : ChangeSpec := { name := "fnExactNotTrit", fn := fun _ => fun
  | [d] => { results := [.lit (.bool true)], args := [d] }
  | _ => none }
def fnExactNotTritRow : OpenClaim := { program := "ytkachiepealdmaa", sum := "dc9dfab17381ebea2419e345c2ffc0d9e2fb2cd68899ffe417141552ce3d813a", func := "loop.example/g03225/laws.FnExactNotTrit", spec := "fnExactNotTrit", apart := false }
def FnExactNotTritSaid : Prop := fnExactNotTritRow.holds Try.pinned (OpenSpec.ofChange fnExactNotTritSpec)

/-- ITS FALSE NEIGHBOUR: 'it returns false'. Refute it at one input. -/
def fnExactNotTritWrong : ChangeSpec := { name := "fnExactNotTrit", fn := fun _ => fun
  | [d] => { results := [.lit (.bool false)], args := [d] }
  | _ => none }
def FnExactNotTritWrongFalsely : Prop := fnExactNotTritRow.holds Try.pinned (OpenSpec.ofChange fnExactNotTritWrong)

/-- 'laws.FnExactTurnTrit': WHATEVER THE INPUT: true; the input reads as it did. -/
def fnExactTurnTritSpec : ChangeSpec := { name := "fnExactTurnTrit", fn := fun _ => fun
  | [d] => { results := [.lit (.bool true)], args := [d] }
  | _ => none }
def fnExactTurnTritRow : OpenClaim := { program := "ytkachiepealdmaa", sum := "dc9dfab17381ebea2419e345c2ffc0d9e2fb2cd68899ffe417141552ce3d813a", func := "loop.example/g03225/laws.FnExactTurnTrit", spec := "fnExactTurnTrit", apart := false }
def FnExactTurnTritSaid : Prop := fnExactTurnTritRow.holds Try.pinned (OpenSpec.ofChange fnExactTurnTritSpec)

/-- ITS FALSE NEIGHBOUR: 'it returns false'. Refute it at one input. -/
def fnExactTurnTritWrong : ChangeSpec := { name := "fnExactTurnTrit", fn := fun _ => fun
  | [d] => { results := [.lit (.bool false)], args := [d] }
  | _ => none }
def FnExactTurnTritWrongFalsely : Prop := fnExactTurnTritRow.holds Try.pinned (OpenSpec.ofChange fnExactTurnTritWrong)

/-- 'laws.FnExactMinTrits': WHATEVER THE INPUT: true; the input reads as it did. -/
def fnExactMinTritsSpec : ChangeSpec := { name := "fnExactMinTrits", fn := fun _ => fun
  | [d1, d2] => { results := [.lit (.bool true)], args := [d1, d2] }
  | _ => none }
def fnExactMinTritsRow : OpenClaim := { program := "ytkachiepealdmaa", sum := "dc9dfab17381ebea2419e345c2ffc0d9e2fb2cd68899ffe417141552ce3d813a", func := "loop.example/g03225/laws.FnExactMinTrits", spec := "fnExactMinTrits", apart := false }
def FnExactMinTritsSaid : Prop := fnExactMinTritsRow.holds Try.pinned (OpenSpec.ofChange fnExactMinTritsSpec)

/-- ITS FALSE NEIGHBOUR: 'it returns false'. Refute it at one input. -/
def fnExactMinTritsWrong : ChangeSpec := { name := "fnExactMinTrits", fn := fun _ => fun
  | [d1, d2] => { results := [.lit (.bool false)], args := [d1, d2] }
  | _ => none }
def FnExactMinTritsWrongFalsely : Prop := fnExactMinTritsRow.holds Try.pinned (OpenSpec.ofChange fnExactMinTritsWrong)

/-- 'laws.FnExactMaxTrits': WHATEVER THE INPUT: true; the input reads as it did. -/
def fnExactMaxTritsSpec : ChangeSpec := { name := "fnExactMaxTrits", fn := fun _ => fun
  | [d1, d2] => { results := [.lit (.bool true)], args := [d1, d2] }
  | _ => none }
def fnExactMaxTritsRow : OpenClaim := { program := "ytkachiepealdmaa", sum := "dc9dfab17381ebea2419e345c2ffc0d9e2fb2cd68899ffe417141552ce3d813a", func := "loop.example/g03225/laws.FnExactMaxTrits", spec := "fnExactMaxTrits", apart := false }
def FnExactMaxTritsSaid : Prop := fnExactMaxTritsRow.holds Try.pinned (OpenSpec.ofChange fnExactMaxTritsSpec)

/-- ITS FALSE NEIGHBOUR: 'it returns false'. Refute it at one input. -/
def fnExactMaxTritsWrong : ChangeSpec := { name := "fnExactMaxTrits", fn := fun _ => fun
  | [d1, d2] => { results := [.lit (.bool false)], args := [d1, d2] }
  | _ => none }
def FnExactMaxTritsWrongFalsely : Prop := fnExactMaxTritsRow.holds Try.pinned (OpenSpec.ofChange fnExactMaxTritsWrong)

/-- 'laws.FnExactAgreeTrits': WHATEVER THE INPUT: true; the input reads as it did. -/
def fnExactAgreeTritsSpec : ChangeSpec := { name := "fnExactAgreeTrits", fn := fun _ => fun
  | [d1, d2] => { results := [.lit (.bool true)], args := [d1, d2] }
  | _ => none }
def fnExactAgreeTritsRow : OpenClaim := { program := "ytkachiepealdmaa", sum := "dc9dfab17381ebea2419e345c2ffc0d9e2fb2cd68899ffe417141552ce3d813a", func := "loop.example/g03225/laws.FnExactAgreeTrits", spec := "fnExactAgreeTrits", apart := false }
def FnExactAgreeTritsSaid : Prop := fnExactAgreeTritsRow.holds Try.pinned (OpenSpec.ofChange fnExactAgreeTritsSpec)

/-- ITS FALSE NEIGHBOUR: 'it returns false'. Refute it at one input. -/
def fnExactAgreeTritsWrong : ChangeSpec := { name := "fnExactAgreeTrits", fn := fun _ => fun
  | [d1, d2] => { results := [.lit (.bool false)], args := [d1, d2] }
  | _ => none }
def FnExactAgreeTritsWrongFalsely : Prop := fnExactAgreeTritsRow.holds Try.pinned (OpenSpec.ofChange fnExactAgreeTritsWrong)

/-- 'laws.FnExactAnyTrits': WHATEVER THE INPUT: true; the input reads as it did. -/
def fnExactAnyTritsSpec : ChangeSpec := { name := "fnExactAnyTrits", fn := fun _ => fun
  | [d1, d2] => { results := [.lit (.bool true)], args := [d1, d2] }
  | _ => none }
def fnExactAnyTritsRow : OpenClaim := { program := "ytkachiepealdmaa", sum := "dc9dfab17381ebea2419e345c2ffc0d9e2fb2cd68899ffe417141552ce3d813a", func := "loop.example/g03225/laws.FnExactAnyTrits", spec := "fnExactAnyTrits", apart := false }
def FnExactAnyTritsSaid : Prop := fnExactAnyTritsRow.holds Try.pinned (OpenSpec.ofChange fnExactAnyTritsSpec)

/-- ITS FALSE NEIGHBOUR: 'it returns false'. Refute it at one input. -/
def fnExactAnyTritsWrong : ChangeSpec := { name := "fnExactAnyTrits", fn := fun _ => fun
  | [d1, d2] => { results := [.lit (.bool false)], args := [d1, d2] }
  | _ => none }
def FnExactAnyTritsWrongFalsely : Prop := fnExactAnyTritsRow.holds Try.pinned (OpenSpec.ofChange fnExactAnyTritsWrong)

/-- 'laws.FnExactTimesTrits': WHATEVER THE INPUT: true; the input reads as it did. -/
def fnExactTimesTritsSpec : ChangeSpec := { name := "fnExactTimesTrits", fn := fun _ => fun
  | [d1, d2] => { results := [.lit (.bool true)], args := [d1, d2] }
  | _ => none }
def fnExactTimesTritsRow : OpenClaim := { program := "ytkachiepealdmaa", sum := "dc9dfab17381ebea2419e345c2ffc0d9e2fb2cd68899ffe417141552ce3d813a", func := "loop.example/g03225/laws.FnExactTimesTrits", spec := "fnExactTimesTrits", apart := false }
def FnExactTimesTritsSaid : Prop := fnExactTimesTritsRow.holds Try.pinned (OpenSpec.ofChange fnExactTimesTritsSpec)

/-- ITS FALSE NEIGHBOUR: 'it returns false'. Refute it at one input. -/
def fnExactTimesTritsWrong : ChangeSpec := { name := "fnExactTimesTrits", fn := fun _ => fun
  | [d1, d2] => { results := [.lit (.bool false)], args := [d1, d2] }
  | _ => none }
def FnExactTimesTritsWrongFalsely : Prop := fnExactTimesTritsRow.holds Try.pinned (OpenSpec.ofChange fnExactTimesTritsWrong)

/-- 'laws.FnExactHalfAdd': WHATEVER THE INPUT: true; the input reads as it did. -/
def fnExactHalfAddSpec : ChangeSpec := { name := "fnExactHalfAdd", fn := fun _ => fun
  | [d1, d2] => { results := [.lit (.bool true)], args := [d1, d2] }
  | _ => none }
def fnExactHalfAddRow : OpenClaim := { program := "ytkachiepealdmaa", sum := "dc9dfab17381ebea2419e345c2ffc0d9e2fb2cd68899ffe417141552ce3d813a", func := "loop.example/g03225/laws.FnExactHalfAdd", spec := "fnExactHalfAdd", apart := false }
def FnExactHalfAddSaid : Prop := fnExactHalfAddRow.holds Try.pinned (OpenSpec.ofChange fnExactHalfAddSpec)

/-- ITS FALSE NEIGHBOUR: 'it returns false'. Refute it at one input. -/
def fnExactHalfAddWrong : ChangeSpec := { name := "fnExactHalfAdd", fn := fun _ => fun
  | [d1, d2] => { results := [.lit (.bool false)], args := [d1, d2] }
  | _ => none }
def FnExactHalfAddWrongFalsely : Prop := fnExactHalfAddRow.holds Try.pinned (OpenSpec.ofChange fnExactHalfAddWrong)

/- THE SECOND FORM. 'bulk': how many values and letters a reading holds, each counted each time it is reached (what is shared counts as often as it is met; a slice's spare places count too). A statement '..UptoSaid' is the law's where the arguments, and the package variables that the reading takes, are together of bulk at most 1048576: NARROWER than '..Said'. Prove '..Said' where nothing that the law and all that it calls make is longer than what came in: it says more and counts as full. Else prove '..UptoSaid'. A law counts once. -/
mutual
def uptoBulk {H : Type} : DataW H → Nat
  | .lit (.string bytes) => bytes.length + 1
  | .lit _ => 1
  | .nil => 1
  | .ptr d => uptoBulk d + 1
  | .slice elems spare => uptoBulkAll elems + uptoBulkAll spare + 1
  | .agg parts => uptoBulkAll parts + 1
  | .iface _ d => uptoBulk d + 1
  | .map entries => uptoBulkEntries entries + 1
  | .held _ => 1
def uptoBulkAll {H : Type} : List (DataW H) → Nat
  | [] => 0
  | d :: r => uptoBulk d + uptoBulkAll r
def uptoBulkEntries {H : Type} : List (Lit × DataW H) → Nat
  | [] => 0
  | x :: r => uptoBulkEntry x + uptoBulkEntries r
def uptoBulkEntry {H : Type} : Lit × DataW H → Nat
  | (.string bytes, d) => bytes.length + uptoBulk d + 1
  | (_, d) => uptoBulk d + 1
 end
def uptoSmall : (H : Type) → List (DataW H) → Bool := fun _ ds => decide (uptoBulkAll ds ≤ 1048576)
def OpenSpec.upto (s : _root_.Go.ChangeSpec) : _root_.Go.OpenSpec := { _root_.Go.OpenSpec.ofChange s with cond := some uptoSmall }

/-- 'laws.FnTrits', WHERE WHAT IT READS IS OF BULK AT MOST 1048576: true; the input reads as it did. -/
def fnTritsUptoRow : OpenClaim := { program := "ytkachiepealdmaa", sum := "dc9dfab17381ebea2419e345c2ffc0d9e2fb2cd68899ffe417141552ce3d813a", func := "loop.example/g03225/laws.FnTrits", spec := "fnTrits", apart := false, narrowed := true }
def FnTritsUptoSaid : Prop := fnTritsUptoRow.holds Try.pinned (OpenSpec.upto fnTritsSpec)

/-- 'laws.FnTables', WHERE WHAT IT READS IS OF BULK AT MOST 1048576: true; the input reads as it did. -/
def fnTablesUptoRow : OpenClaim := { program := "ytkachiepealdmaa", sum := "dc9dfab17381ebea2419e345c2ffc0d9e2fb2cd68899ffe417141552ce3d813a", func := "loop.example/g03225/laws.FnTables", spec := "fnTables", inPlace := ["internal/bytealg.IndexByteString"], unfollowed := true, recurses := true, apart := false, narrowed := true }
def FnTablesUptoSaid : Prop := fnTablesUptoRow.holds Try.pinned (OpenSpec.upto fnTablesSpec)

/-- 'laws.FnExactIsTrit', WHERE WHAT IT READS IS OF BULK AT MOST 1048576: true; the input reads as it did. -/
def fnExactIsTritUptoRow : OpenClaim := { program := "ytkachiepealdmaa", sum := "dc9dfab17381ebea2419e345c2ffc0d9e2fb2cd68899ffe417141552ce3d813a", func := "loop.example/g03225/laws.FnExactIsTrit", spec := "fnExactIsTrit", apart := false, narrowed := true }
def FnExactIsTritUptoSaid : Prop := fnExactIsTritUptoRow.holds Try.pinned (OpenSpec.upto fnExactIsTritSpec)

/-- 'laws.FnExactSignOf', WHERE WHAT IT READS IS OF BULK AT MOST 1048576: true; the input reads as it did. -/
def fnExactSignOfUptoRow : OpenClaim := { program := "ytkachiepealdmaa", sum := "dc9dfab17381ebea2419e345c2ffc0d9e2fb2cd68899ffe417141552ce3d813a", func := "loop.example/g03225/laws.FnExactSignOf", spec := "fnExactSignOf", apart := false, narrowed := true }
def FnExactSignOfUptoSaid : Prop := fnExactSignOfUptoRow.holds Try.pinned (OpenSpec.upto fnExactSignOfSpec)

/-- 'laws.FnExactNotTrit', WHERE WHAT IT READS IS OF BULK AT MOST 1048576: true; the input reads as it did. -/
def fnExactNotTritUptoRow : OpenClaim := { program := "ytkachiepealdmaa", sum := "dc9dfab17381ebea2419e345c2ffc0d9e2fb2cd68899ffe417141552ce3d813a", func := "loop.example/g03225/laws.FnExactNotTrit", spec := "fnExactNotTrit", apart := false, narrowed := true }
def FnExactNotTritUptoSaid : Prop := fnExactNotTritUptoRow.holds Try.pinned (OpenSpec.upto fnExactNotTritSpec)

/-- 'laws.FnExactTurnTrit', WHERE WHAT IT READS IS OF BULK AT MOST 1048576: true; the input reads as it did. -/
def fnExactTurnTritUptoRow : OpenClaim := { program := "ytkachiepealdmaa", sum := "dc9dfab17381ebea2419e345c2ffc0d9e2fb2cd68899ffe417141552ce3d813a", func := "loop.example/g03225/laws.FnExactTurnTrit", spec := "fnExactTurnTrit", apart := false, narrowed := true }
def FnExactTurnTritUptoSaid : Prop := fnExactTurnTritUptoRow.holds Try.pinned (OpenSpec.upto fnExactTurnTritSpec)

/-- 'laws.FnExactMinTrits', WHERE WHAT IT READS IS OF BULK AT MOST 1048576: true; the input reads as it did. -/
def fnExactMinTritsUptoRow : OpenClaim := { program := "ytkachiepealdmaa", sum := "dc9dfab17381ebea2419e345c2ffc0d9e2fb2cd68899ffe417141552ce3d813a", func := "loop.example/g03225/laws.FnExactMinTrits", spec := "fnExactMinTrits", apart := false, narrowed := true }
def FnExactMinTritsUptoSaid : Prop := fnExactMinTritsUptoRow.holds Try.pinned (OpenSpec.upto fnExactMinTritsSpec)

/-- 'laws.FnExactMaxTrits', WHERE WHAT IT READS IS OF BULK AT MOST 1048576: true; the input reads as it did. -/
def fnExactMaxTritsUptoRow : OpenClaim := { program := "ytkachiepealdmaa", sum := "dc9dfab17381ebea2419e345c2ffc0d9e2fb2cd68899ffe417141552ce3d813a", func := "loop.example/g03225/laws.FnExactMaxTrits", spec := "fnExactMaxTrits", apart := false, narrowed := true }
def FnExactMaxTritsUptoSaid : Prop := fnExactMaxTritsUptoRow.holds Try.pinned (OpenSpec.upto fnExactMaxTritsSpec)

/-- 'laws.FnExactAgreeTrits', WHERE WHAT IT READS IS OF BULK AT MOST 1048576: true; the input reads as it did. -/
def fnExactAgreeTritsUptoRow : OpenClaim := { program := "ytkachiepealdmaa", sum := "dc9dfab17381ebea2419e345c2ffc0d9e2fb2cd68899ffe417141552ce3d813a", func := "loop.example/g03225/laws.FnExactAgreeTrits", spec := "fnExactAgreeTrits", apart := false, narrowed := true }
def FnExactAgreeTritsUptoSaid : Prop := fnExactAgreeTritsUptoRow.holds Try.pinned (OpenSpec.upto fnExactAgreeTritsSpec)

/-- 'laws.FnExactAnyTrits', WHERE WHAT IT READS IS OF BULK AT MOST 1048576: true; the input reads as it did. -/
def fnExactAnyTritsUptoRow : OpenClaim := { program := "ytkachiepealdmaa", sum := "dc9dfab17381ebea2419e345c2ffc0d9e2fb2cd68899ffe417141552ce3d813a", func := "loop.example/g03225/laws.FnExactAnyTrits", spec := "fnExactAnyTrits", apart := false, narrowed := true }
def FnExactAnyTritsUptoSaid : Prop := fnExactAnyTritsUptoRow.holds Try.pinned (OpenSpec.upto fnExactAnyTritsSpec)

/-- 'laws.FnExactTimesTrits', WHERE WHAT IT READS IS OF BULK AT MOST 1048576: true; the input reads as it did. -/
def fnExactTimesTritsUptoRow : OpenClaim := { program := "ytkachiepealdmaa", sum := "dc9dfab17381ebea2419e345c2ffc0d9e2fb2cd68899ffe417141552ce3d813a", func := "loop.example/g03225/laws.FnExactTimesTrits", spec := "fnExactTimesTrits", apart := false, narrowed := true }
def FnExactTimesTritsUptoSaid : Prop := fnExactTimesTritsUptoRow.holds Try.pinned (OpenSpec.upto fnExactTimesTritsSpec)

/-- 'laws.FnExactHalfAdd', WHERE WHAT IT READS IS OF BULK AT MOST 1048576: true; the input reads as it did. -/
def fnExactHalfAddUptoRow : OpenClaim := { program := "ytkachiepealdmaa", sum := "dc9dfab17381ebea2419e345c2ffc0d9e2fb2cd68899ffe417141552ce3d813a", func := "loop.example/g03225/laws.FnExactHalfAdd", spec := "fnExactHalfAdd", apart := false, narrowed := true }
def FnExactHalfAddUptoSaid : Prop := fnExactHalfAddUptoRow.holds Try.pinned (OpenSpec.upto fnExactHalfAddSpec)

end Rows
end Go.Proofs.Ytkachiepealdmaa

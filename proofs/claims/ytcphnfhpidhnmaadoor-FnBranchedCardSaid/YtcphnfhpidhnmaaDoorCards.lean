/-
  DERIVED. GIVEN WITH THE SEED: THE CARDS: each row of YtcphnfhpidhnmaaDoorRows.lean that lists a variable, with what it lists TIED to the program's text (the seventh form; the later family's looks); each row that meets fmt, with fmt's text TOLD by the authors' own Lean function (tested against real Go, not proved from fmt's source: count such statements apart). THE CARD IS WHAT COUNTS. Prove the row's statement (the work); the ties are given (YtcphnfhpidhnmaaDoorTie.lean); close each card by the builder's one call (the guide's Derived/Test/ToyasCard.lean, 'card_holds'). Laid BY PROGRAM, IN A SANDBOX (cutbox-door.mjs). By AI agents, Wed Nov 11 2026. No macro, syntax, notation, axiom, sorry.
-/
import Derived.Test.YtcphnfhpidhnmaaDoorRows
import GoSem.ClaimSeven
namespace Go.Proofs.YtcphnfhpidhnmaaDoor
namespace Rows

/-- THE TIED CARD OF 'laws.FnBranched'. -/
def fnBranchedCard : Claim7 := { stood := { row := fnBranchedRow, standIns := [], harness := (true, "64be3422e0a4156c436f0743b47b655778529a95c4fab12b1130d15ddab7a0ca"), looks := false }, kinds := [], alts := [], laidByText := true, laidKinds := [.data], laidTests := true, laidLooks := .later }
def FnBranchedCardSaid : Prop := Claim7.holds Tryd.pinned (.plain (OpenSpec.ofChange fnBranchedSpec)) fnBranchedCard

/-- THE SECOND FORM's CARD OF 'laws.FnBranched'. -/
def fnBranchedUptoCard : Claim7 := { stood := { row := fnBranchedUptoRow, standIns := [], harness := (true, "64be3422e0a4156c436f0743b47b655778529a95c4fab12b1130d15ddab7a0ca"), looks := false }, kinds := [], alts := [], laidByText := true, laidKinds := [.data], laidTests := true, laidLooks := .later }
def FnBranchedUptoCardSaid : Prop := Claim7.holds Tryd.pinned (.plain (OpenSpec.upto fnBranchedSpec)) fnBranchedUptoCard
end Rows
end Go.Proofs.YtcphnfhpidhnmaaDoor

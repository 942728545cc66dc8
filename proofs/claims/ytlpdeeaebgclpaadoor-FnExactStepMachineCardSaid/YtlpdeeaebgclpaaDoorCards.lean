/-
  DERIVED. GIVEN WITH THE SEED: THE CARDS: each row of YtlpdeeaebgclpaaDoorRows.lean that lists a variable, with what it lists TIED to the program's text (the seventh form; the later family's looks); each row that meets fmt, with fmt's text TOLD by the authors' own Lean function (tested against real Go, not proved from fmt's source: count such statements apart). THE CARD IS WHAT COUNTS. Prove the row's statement (the work); the ties are given (YtlpdeeaebgclpaaDoorTie.lean); close each card by the builder's one call (the guide's Derived/Test/ToyasCard.lean, 'card_holds'). Laid BY PROGRAM, IN A SANDBOX (cutbox-door.mjs). By AI agents, Wed Nov 11 2026. No macro, syntax, notation, axiom, sorry.
-/
import Derived.Test.YtlpdeeaebgclpaaDoorRows
import GoSem.ClaimSeven
namespace Go.Proofs.YtlpdeeaebgclpaaDoor
namespace Rows

/-- THE TIED CARD OF 'laws.FnExactStepMachine'. -/
def fnExactStepMachineCard : Claim7 := { stood := { row := fnExactStepMachineRow, standIns := [], harness := (true, "d7bf7db2dc2b676b4bc361cdfdb9c0620712907d4fe58f4a5c0c8cd96339e6cd"), looks := false }, kinds := [], alts := [], laidByText := true, laidKinds := [.data], laidTests := true, laidLooks := .later }
def FnExactStepMachineCardSaid : Prop := Claim7.holds Tryd.pinned (.plain (OpenSpec.ofChange fnExactStepMachineSpec)) fnExactStepMachineCard

/-- THE TIED CARD OF 'laws.FnExactRunMachine'. -/
def fnExactRunMachineCard : Claim7 := { stood := { row := fnExactRunMachineRow, standIns := [], harness := (true, "d7bf7db2dc2b676b4bc361cdfdb9c0620712907d4fe58f4a5c0c8cd96339e6cd"), looks := false }, kinds := [], alts := [], laidByText := true, laidKinds := [.data], laidTests := true, laidLooks := .later }
def FnExactRunMachineCardSaid : Prop := Claim7.holds Tryd.pinned (.plain (OpenSpec.ofChange fnExactRunMachineSpec)) fnExactRunMachineCard

/-- THE SECOND FORM's CARD OF 'laws.FnExactStepMachine'. -/
def fnExactStepMachineUptoCard : Claim7 := { stood := { row := fnExactStepMachineUptoRow, standIns := [], harness := (true, "d7bf7db2dc2b676b4bc361cdfdb9c0620712907d4fe58f4a5c0c8cd96339e6cd"), looks := false }, kinds := [], alts := [], laidByText := true, laidKinds := [.data], laidTests := true, laidLooks := .later }
def FnExactStepMachineUptoCardSaid : Prop := Claim7.holds Tryd.pinned (.plain (OpenSpec.upto fnExactStepMachineSpec)) fnExactStepMachineUptoCard

/-- THE SECOND FORM's CARD OF 'laws.FnExactRunMachine'. -/
def fnExactRunMachineUptoCard : Claim7 := { stood := { row := fnExactRunMachineUptoRow, standIns := [], harness := (true, "d7bf7db2dc2b676b4bc361cdfdb9c0620712907d4fe58f4a5c0c8cd96339e6cd"), looks := false }, kinds := [], alts := [], laidByText := true, laidKinds := [.data], laidTests := true, laidLooks := .later }
def FnExactRunMachineUptoCardSaid : Prop := Claim7.holds Tryd.pinned (.plain (OpenSpec.upto fnExactRunMachineSpec)) fnExactRunMachineUptoCard
end Rows
end Go.Proofs.YtlpdeeaebgclpaaDoor

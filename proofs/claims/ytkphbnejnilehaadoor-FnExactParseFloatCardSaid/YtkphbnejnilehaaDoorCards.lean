/-
  DERIVED. GIVEN WITH THE SEED: THE CARDS: each row of YtkphbnejnilehaaDoorRows.lean that lists a variable, with what it lists TIED to the program's text (the seventh form; the later family's looks); each row that meets fmt, with fmt's text TOLD by the authors' own Lean function (tested against real Go, not proved from fmt's source: count such statements apart). THE CARD IS WHAT COUNTS. Prove the row's statement (the work); the ties are given (YtkphbnejnilehaaDoorTie.lean); close each card by the builder's one call (the guide's Derived/Test/ToyasCard.lean, 'card_holds'). Laid BY PROGRAM, IN A SANDBOX (cutbox-door.mjs). By AI agents, Wed Nov 11 2026. No macro, syntax, notation, axiom, sorry.
-/
import Derived.Test.YtkphbnejnilehaaDoorRows
import GoSem.ClaimSeven
namespace Go.Proofs.YtkphbnejnilehaaDoor
namespace Rows

/-- THE TIED CARD OF 'laws.FnExactFormatFloat'. -/
def fnExactFormatFloatCard : Claim7 := { stood := { row := fnExactFormatFloatRow, standIns := [], harness := (true, "ff09c18da3a080093bc7b3c5af6ba99f573eba53db162938997c5e40e8792a70"), looks := true }, kinds := [], alts := [], laidByText := true, laidKinds := [.data, .data, .data], laidTests := true, laidLooks := .later }
def FnExactFormatFloatCardSaid : Prop := Claim7.holds Tryd.pinned (.plain (OpenSpec.ofChange fnExactFormatFloatSpec)) fnExactFormatFloatCard

/-- THE TIED CARD OF 'laws.FnExactParseFloat'. -/
def fnExactParseFloatCard : Claim7 := { stood := { row := fnExactParseFloatRow, standIns := [], harness := (true, "ff09c18da3a080093bc7b3c5af6ba99f573eba53db162938997c5e40e8792a70"), looks := true }, kinds := [], alts := [], laidByText := true, laidKinds := [.data, .data, .data, .sentinel, .sentinel], laidTests := true, laidLooks := .later }
def FnExactParseFloatCardSaid : Prop := Claim7.holds Tryd.pinned (.plain (OpenSpec.ofChange fnExactParseFloatSpec)) fnExactParseFloatCard

/-- THE SECOND FORM's CARD OF 'laws.FnExactFormatFloat'. -/
def fnExactFormatFloatUptoCard : Claim7 := { stood := { row := fnExactFormatFloatUptoRow, standIns := [], harness := (true, "ff09c18da3a080093bc7b3c5af6ba99f573eba53db162938997c5e40e8792a70"), looks := true }, kinds := [], alts := [], laidByText := true, laidKinds := [.data, .data, .data], laidTests := true, laidLooks := .later }
def FnExactFormatFloatUptoCardSaid : Prop := Claim7.holds Tryd.pinned (.plain (OpenSpec.upto fnExactFormatFloatSpec)) fnExactFormatFloatUptoCard

/-- THE SECOND FORM's CARD OF 'laws.FnExactParseFloat'. -/
def fnExactParseFloatUptoCard : Claim7 := { stood := { row := fnExactParseFloatUptoRow, standIns := [], harness := (true, "ff09c18da3a080093bc7b3c5af6ba99f573eba53db162938997c5e40e8792a70"), looks := true }, kinds := [], alts := [], laidByText := true, laidKinds := [.data, .data, .data, .sentinel, .sentinel], laidTests := true, laidLooks := .later }
def FnExactParseFloatUptoCardSaid : Prop := Claim7.holds Tryd.pinned (.plain (OpenSpec.upto fnExactParseFloatSpec)) fnExactParseFloatUptoCard
end Rows
end Go.Proofs.YtkphbnejnilehaaDoor

/-
  DERIVED. GIVEN WITH THE SEED: THE CARDS: each row of YtmlmiclgledcpaaDoorRows.lean that lists a variable, with what it lists TIED to the program's text (the seventh form; the later family's looks); each row that meets fmt, with fmt's text TOLD by the authors' own Lean function (tested against real Go, not proved from fmt's source: count such statements apart). THE CARD IS WHAT COUNTS. Prove the row's statement (the work); the ties are given (YtmlmiclgledcpaaDoorTie.lean); close each card by the builder's one call (the guide's Derived/Test/ToyasCard.lean, 'card_holds'). Laid BY PROGRAM, IN A SANDBOX (cutbox-door.mjs). By AI agents, Wed Nov 11 2026. No macro, syntax, notation, axiom, sorry.
-/
import Derived.Test.YtmlmiclgledcpaaDoorRows
import GoSem.ClaimSeven
namespace Go.Proofs.YtmlmiclgledcpaaDoor
namespace Rows

/-- THE TIED CARD OF 'laws.FnExactParseSheet'. -/
def fnExactParseSheetCard : Claim7 := { stood := { row := fnExactParseSheetRow, standIns := [], harness := (true, "63c2db751236701ceedaeb403111fa171f21d747c30f28faca61d86448e5a8b2"), looks := true }, kinds := [], alts := [], laidByText := true, laidKinds := [.data, .data, .data, .data, .sentinel, .sentinel, .pinned], laidTests := true, laidLooks := .later }
def FnExactParseSheetCardSaid : Prop := Claim7.holds Tryd.pinned (.plain (OpenSpec.ofChange fnExactParseSheetSpec)) fnExactParseSheetCard

/-- THE TIED CARD OF 'laws.FnExactFormatSheet'. -/
def fnExactFormatSheetCard : Claim7 := { stood := { row := fnExactFormatSheetRow, standIns := [], harness := (true, "63c2db751236701ceedaeb403111fa171f21d747c30f28faca61d86448e5a8b2"), looks := true }, kinds := [], alts := [], laidByText := true, laidKinds := [.data, .data, .data], laidTests := true, laidLooks := .later }
def FnExactFormatSheetCardSaid : Prop := Claim7.holds Tryd.pinned (.plain (OpenSpec.ofChange fnExactFormatSheetSpec)) fnExactFormatSheetCard

/-- THE SECOND FORM's CARD OF 'laws.FnExactParseSheet'. -/
def fnExactParseSheetUptoCard : Claim7 := { stood := { row := fnExactParseSheetUptoRow, standIns := [], harness := (true, "63c2db751236701ceedaeb403111fa171f21d747c30f28faca61d86448e5a8b2"), looks := true }, kinds := [], alts := [], laidByText := true, laidKinds := [.data, .data, .data, .data, .sentinel, .sentinel, .pinned], laidTests := true, laidLooks := .later }
def FnExactParseSheetUptoCardSaid : Prop := Claim7.holds Tryd.pinned (.plain (OpenSpec.upto fnExactParseSheetSpec)) fnExactParseSheetUptoCard

/-- THE SECOND FORM's CARD OF 'laws.FnExactFormatSheet'. -/
def fnExactFormatSheetUptoCard : Claim7 := { stood := { row := fnExactFormatSheetUptoRow, standIns := [], harness := (true, "63c2db751236701ceedaeb403111fa171f21d747c30f28faca61d86448e5a8b2"), looks := true }, kinds := [], alts := [], laidByText := true, laidKinds := [.data, .data, .data], laidTests := true, laidLooks := .later }
def FnExactFormatSheetUptoCardSaid : Prop := Claim7.holds Tryd.pinned (.plain (OpenSpec.upto fnExactFormatSheetSpec)) fnExactFormatSheetUptoCard
end Rows
end Go.Proofs.YtmlmiclgledcpaaDoor

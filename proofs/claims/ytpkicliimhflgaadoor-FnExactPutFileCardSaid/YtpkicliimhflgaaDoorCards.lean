/-
  DERIVED. GIVEN WITH THE SEED: THE CARDS: each row of YtpkicliimhflgaaDoorRows.lean that lists a variable, with what it lists TIED to the program's text (the seventh form; the later family's looks); each row that meets fmt, with fmt's text TOLD by the authors' own Lean function (tested against real Go, not proved from fmt's source: count such statements apart). THE CARD IS WHAT COUNTS. Prove the row's statement (the work); the ties are given (YtpkicliimhflgaaDoorTie.lean); close each card by the builder's one call (the guide's Derived/Test/ToyasCard.lean, 'card_holds'). Laid BY PROGRAM, IN A SANDBOX (cutbox-door.mjs). By AI agents, Wed Nov 11 2026. No macro, syntax, notation, axiom, sorry.
-/
import Derived.Test.YtpkicliimhflgaaDoorRows
import GoSem.ClaimSeven
namespace Go.Proofs.YtpkicliimhflgaaDoor
namespace Rows

/-- THE TIED CARD OF 'laws.FnExactIsServer'. -/
def fnExactIsServerCard : Claim7 := { stood := { row := fnExactIsServerRow, standIns := [], harness := (true, "e7b71e5c38eda5e7db3f5d809c755f6251bba876e5952713ab607052cef7950d"), looks := false }, kinds := [], alts := [], laidByText := true, laidKinds := [.data, .pinned], laidTests := true, laidLooks := .later }
def FnExactIsServerCardSaid : Prop := Claim7.holds Tryd.pinned (.plain (OpenSpec.ofChange fnExactIsServerSpec)) fnExactIsServerCard

/-- THE TIED CARD OF 'laws.FnExactPutFile'. -/
def fnExactPutFileCard : Claim7 := { stood := { row := fnExactPutFileRow, standIns := [], harness := (true, "e7b71e5c38eda5e7db3f5d809c755f6251bba876e5952713ab607052cef7950d"), looks := false }, kinds := [], alts := [], laidByText := true, laidKinds := [.data, .pinned], laidTests := true, laidLooks := .later }
def FnExactPutFileCardSaid : Prop := Claim7.holds Tryd.pinned (.plain (OpenSpec.ofChange fnExactPutFileSpec)) fnExactPutFileCard

/-- THE TIED CARD OF 'laws.FnExactAreServers'. -/
def fnExactAreServersCard : Claim7 := { stood := { row := fnExactAreServersRow, standIns := [], harness := (true, "e7b71e5c38eda5e7db3f5d809c755f6251bba876e5952713ab607052cef7950d"), looks := false }, kinds := [], alts := [], laidByText := true, laidKinds := [.data, .pinned], laidTests := true, laidLooks := .later }
def FnExactAreServersCardSaid : Prop := Claim7.holds Tryd.pinned (.plain (OpenSpec.ofChange fnExactAreServersSpec)) fnExactAreServersCard

/-- THE SECOND FORM's CARD OF 'laws.FnExactIsServer'. -/
def fnExactIsServerUptoCard : Claim7 := { stood := { row := fnExactIsServerUptoRow, standIns := [], harness := (true, "e7b71e5c38eda5e7db3f5d809c755f6251bba876e5952713ab607052cef7950d"), looks := false }, kinds := [], alts := [], laidByText := true, laidKinds := [.data, .pinned], laidTests := true, laidLooks := .later }
def FnExactIsServerUptoCardSaid : Prop := Claim7.holds Tryd.pinned (.plain (OpenSpec.upto fnExactIsServerSpec)) fnExactIsServerUptoCard

/-- THE SECOND FORM's CARD OF 'laws.FnExactPutFile'. -/
def fnExactPutFileUptoCard : Claim7 := { stood := { row := fnExactPutFileUptoRow, standIns := [], harness := (true, "e7b71e5c38eda5e7db3f5d809c755f6251bba876e5952713ab607052cef7950d"), looks := false }, kinds := [], alts := [], laidByText := true, laidKinds := [.data, .pinned], laidTests := true, laidLooks := .later }
def FnExactPutFileUptoCardSaid : Prop := Claim7.holds Tryd.pinned (.plain (OpenSpec.upto fnExactPutFileSpec)) fnExactPutFileUptoCard

/-- THE SECOND FORM's CARD OF 'laws.FnExactAreServers'. -/
def fnExactAreServersUptoCard : Claim7 := { stood := { row := fnExactAreServersUptoRow, standIns := [], harness := (true, "e7b71e5c38eda5e7db3f5d809c755f6251bba876e5952713ab607052cef7950d"), looks := false }, kinds := [], alts := [], laidByText := true, laidKinds := [.data, .pinned], laidTests := true, laidLooks := .later }
def FnExactAreServersUptoCardSaid : Prop := Claim7.holds Tryd.pinned (.plain (OpenSpec.upto fnExactAreServersSpec)) fnExactAreServersUptoCard
end Rows
end Go.Proofs.YtpkicliimhflgaaDoor

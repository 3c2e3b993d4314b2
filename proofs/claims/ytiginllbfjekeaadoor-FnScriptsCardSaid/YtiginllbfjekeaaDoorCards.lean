/-
  DERIVED. GIVEN WITH THE SEED: THE CARDS: each row of YtiginllbfjekeaaDoorRows.lean that lists a variable, with what it lists TIED to the program's text (the seventh form; the later family's looks); each row that meets fmt, with fmt's text TOLD by the authors' own Lean function (tested against real Go, not proved from fmt's source: count such statements apart). THE CARD IS WHAT COUNTS. Prove the row's statement (the work); the ties are given (YtiginllbfjekeaaDoorTie.lean); close each card by the builder's one call (the guide's Derived/Test/ToyasCard.lean, 'card_holds'). Laid BY PROGRAM, IN A SANDBOX (cutbox-door.mjs). By AI agents, Wed Nov 11 2026. No macro, syntax, notation, axiom, sorry.
-/
import Derived.Test.YtiginllbfjekeaaDoorRows
import GoSem.ClaimSeven
namespace Go.Proofs.YtiginllbfjekeaaDoor
namespace Rows

/-- THE TIED CARD OF 'laws.FnScripts'. -/
def fnScriptsCard : Claim7 := { stood := { row := fnScriptsRow, standIns := [], harness := (true, "2514c3f7f6f92f89f1a57197e8af70daa759a4b22e02ef75927c735affddc587"), looks := false }, kinds := [], alts := [], laidByText := true, laidKinds := [.data, .data, .data, .data, .pinned], laidTests := true, laidLooks := .later }
def FnScriptsCardSaid : Prop := Claim7.holds Tryd.pinned (.plain (OpenSpec.ofChange fnScriptsSpec)) fnScriptsCard

/-- THE TIED CARD OF 'laws.FnExactParseScript'. -/
def fnExactParseScriptCard : Claim7 := { stood := { row := fnExactParseScriptRow, standIns := [], harness := (true, "2514c3f7f6f92f89f1a57197e8af70daa759a4b22e02ef75927c735affddc587"), looks := false }, kinds := [], alts := [], laidByText := true, laidKinds := [.data, .data, .data, .data, .pinned], laidTests := true, laidLooks := .later }
def FnExactParseScriptCardSaid : Prop := Claim7.holds Tryd.pinned (.plain (OpenSpec.ofChange fnExactParseScriptSpec)) fnExactParseScriptCard

/-- THE TIED CARD OF 'laws.FnExactFormatScript'. -/
def fnExactFormatScriptCard : Claim7 := { stood := { row := fnExactFormatScriptRow, standIns := [], harness := (true, "2514c3f7f6f92f89f1a57197e8af70daa759a4b22e02ef75927c735affddc587"), looks := false }, kinds := [], alts := [], laidByText := true, laidKinds := [.data, .data, .data, .data, .pinned], laidTests := true, laidLooks := .later }
def FnExactFormatScriptCardSaid : Prop := Claim7.holds Tryd.pinned (.plain (OpenSpec.ofChange fnExactFormatScriptSpec)) fnExactFormatScriptCard

/-- THE TIED CARD OF 'laws.FnExactMarkupOf'. -/
def fnExactMarkupOfCard : Claim7 := { stood := { row := fnExactMarkupOfRow, standIns := [], harness := (true, "2514c3f7f6f92f89f1a57197e8af70daa759a4b22e02ef75927c735affddc587"), looks := false }, kinds := [], alts := [], laidByText := true, laidKinds := [.data, .pinned], laidTests := true, laidLooks := .later }
def FnExactMarkupOfCardSaid : Prop := Claim7.holds Tryd.pinned (.plain (OpenSpec.ofChange fnExactMarkupOfSpec)) fnExactMarkupOfCard

/-- THE SECOND FORM's CARD OF 'laws.FnScripts'. -/
def fnScriptsUptoCard : Claim7 := { stood := { row := fnScriptsUptoRow, standIns := [], harness := (true, "2514c3f7f6f92f89f1a57197e8af70daa759a4b22e02ef75927c735affddc587"), looks := false }, kinds := [], alts := [], laidByText := true, laidKinds := [.data, .data, .data, .data, .pinned], laidTests := true, laidLooks := .later }
def FnScriptsUptoCardSaid : Prop := Claim7.holds Tryd.pinned (.plain (OpenSpec.upto fnScriptsSpec)) fnScriptsUptoCard

/-- THE SECOND FORM's CARD OF 'laws.FnExactParseScript'. -/
def fnExactParseScriptUptoCard : Claim7 := { stood := { row := fnExactParseScriptUptoRow, standIns := [], harness := (true, "2514c3f7f6f92f89f1a57197e8af70daa759a4b22e02ef75927c735affddc587"), looks := false }, kinds := [], alts := [], laidByText := true, laidKinds := [.data, .data, .data, .data, .pinned], laidTests := true, laidLooks := .later }
def FnExactParseScriptUptoCardSaid : Prop := Claim7.holds Tryd.pinned (.plain (OpenSpec.upto fnExactParseScriptSpec)) fnExactParseScriptUptoCard

/-- THE SECOND FORM's CARD OF 'laws.FnExactFormatScript'. -/
def fnExactFormatScriptUptoCard : Claim7 := { stood := { row := fnExactFormatScriptUptoRow, standIns := [], harness := (true, "2514c3f7f6f92f89f1a57197e8af70daa759a4b22e02ef75927c735affddc587"), looks := false }, kinds := [], alts := [], laidByText := true, laidKinds := [.data, .data, .data, .data, .pinned], laidTests := true, laidLooks := .later }
def FnExactFormatScriptUptoCardSaid : Prop := Claim7.holds Tryd.pinned (.plain (OpenSpec.upto fnExactFormatScriptSpec)) fnExactFormatScriptUptoCard

/-- THE SECOND FORM's CARD OF 'laws.FnExactMarkupOf'. -/
def fnExactMarkupOfUptoCard : Claim7 := { stood := { row := fnExactMarkupOfUptoRow, standIns := [], harness := (true, "2514c3f7f6f92f89f1a57197e8af70daa759a4b22e02ef75927c735affddc587"), looks := false }, kinds := [], alts := [], laidByText := true, laidKinds := [.data, .pinned], laidTests := true, laidLooks := .later }
def FnExactMarkupOfUptoCardSaid : Prop := Claim7.holds Tryd.pinned (.plain (OpenSpec.upto fnExactMarkupOfSpec)) fnExactMarkupOfUptoCard
end Rows
end Go.Proofs.YtiginllbfjekeaaDoor

/-
  DERIVED. GIVEN WITH THE SEED: THE CARDS: each row of YtgcdfkpidcdicaaDoorRows.lean that lists a variable, with what it lists TIED to the program's text (the seventh form; the later family's looks); each row that meets fmt, with fmt's text TOLD by the authors' own Lean function (tested against real Go, not proved from fmt's source: count such statements apart). THE CARD IS WHAT COUNTS. Prove the row's statement (the work); the ties are given (YtgcdfkpidcdicaaDoorTie.lean); close each card by the builder's one call (the guide's Derived/Test/ToyasCard.lean, 'card_holds'). Laid BY PROGRAM, IN A SANDBOX (cutbox-door.mjs). By AI agents, Wed Nov 11 2026. No macro, syntax, notation, axiom, sorry.
-/
import Derived.Test.YtgcdfkpidcdicaaDoorRows
import GoSem.ClaimSeven
namespace Go.Proofs.YtgcdfkpidcdicaaDoor
namespace Rows

/-- THE TIED CARD OF 'laws.FnPolicies'. -/
def fnPoliciesCard : Claim7 := { stood := { row := fnPoliciesRow, standIns := [], harness := (true, "1d0f5396542068a4b3274c7d71da7591e492cff89538e87778439c47614b8983"), looks := false }, kinds := [], alts := [], laidByText := true, laidKinds := [.data, .pinned], laidTests := true, laidLooks := .later }
def FnPoliciesCardSaid : Prop := Claim7.holds Tryd.pinned (.plain (OpenSpec.ofChange fnPoliciesSpec)) fnPoliciesCard

/-- THE TIED CARD OF 'laws.FnExactParsePolicy'. -/
def fnExactParsePolicyCard : Claim7 := { stood := { row := fnExactParsePolicyRow, standIns := [], harness := (true, "1d0f5396542068a4b3274c7d71da7591e492cff89538e87778439c47614b8983"), looks := false }, kinds := [], alts := [], laidByText := true, laidKinds := [.data, .pinned], laidTests := true, laidLooks := .later }
def FnExactParsePolicyCardSaid : Prop := Claim7.holds Tryd.pinned (.plain (OpenSpec.ofChange fnExactParsePolicySpec)) fnExactParsePolicyCard

/-- THE TIED CARD OF 'laws.FnExactIsResponse'. -/
def fnExactIsResponseCard : Claim7 := { stood := { row := fnExactIsResponseRow, standIns := [], harness := (true, "1d0f5396542068a4b3274c7d71da7591e492cff89538e87778439c47614b8983"), looks := false }, kinds := [], alts := [], laidByText := true, laidKinds := [.data, .pinned], laidTests := true, laidLooks := .later }
def FnExactIsResponseCardSaid : Prop := Claim7.holds Tryd.pinned (.plain (OpenSpec.ofChange fnExactIsResponseSpec)) fnExactIsResponseCard

/-- THE TIED CARD OF 'laws.FnExactCheckDigest'. -/
def fnExactCheckDigestCard : Claim7 := { stood := { row := fnExactCheckDigestRow, standIns := [], harness := (true, "1d0f5396542068a4b3274c7d71da7591e492cff89538e87778439c47614b8983"), looks := false }, kinds := [], alts := [], laidByText := true, laidKinds := [.data, .data, .data], laidTests := true, laidLooks := .later }
def FnExactCheckDigestCardSaid : Prop := Claim7.holds Tryd.pinned (.plain (OpenSpec.ofChange fnExactCheckDigestSpec)) fnExactCheckDigestCard

/-- THE SECOND FORM's CARD OF 'laws.FnPolicies'. -/
def fnPoliciesUptoCard : Claim7 := { stood := { row := fnPoliciesUptoRow, standIns := [], harness := (true, "1d0f5396542068a4b3274c7d71da7591e492cff89538e87778439c47614b8983"), looks := false }, kinds := [], alts := [], laidByText := true, laidKinds := [.data, .pinned], laidTests := true, laidLooks := .later }
def FnPoliciesUptoCardSaid : Prop := Claim7.holds Tryd.pinned (.plain (OpenSpec.upto fnPoliciesSpec)) fnPoliciesUptoCard

/-- THE SECOND FORM's CARD OF 'laws.FnExactParsePolicy'. -/
def fnExactParsePolicyUptoCard : Claim7 := { stood := { row := fnExactParsePolicyUptoRow, standIns := [], harness := (true, "1d0f5396542068a4b3274c7d71da7591e492cff89538e87778439c47614b8983"), looks := false }, kinds := [], alts := [], laidByText := true, laidKinds := [.data, .pinned], laidTests := true, laidLooks := .later }
def FnExactParsePolicyUptoCardSaid : Prop := Claim7.holds Tryd.pinned (.plain (OpenSpec.upto fnExactParsePolicySpec)) fnExactParsePolicyUptoCard

/-- THE SECOND FORM's CARD OF 'laws.FnExactIsResponse'. -/
def fnExactIsResponseUptoCard : Claim7 := { stood := { row := fnExactIsResponseUptoRow, standIns := [], harness := (true, "1d0f5396542068a4b3274c7d71da7591e492cff89538e87778439c47614b8983"), looks := false }, kinds := [], alts := [], laidByText := true, laidKinds := [.data, .pinned], laidTests := true, laidLooks := .later }
def FnExactIsResponseUptoCardSaid : Prop := Claim7.holds Tryd.pinned (.plain (OpenSpec.upto fnExactIsResponseSpec)) fnExactIsResponseUptoCard

/-- THE SECOND FORM's CARD OF 'laws.FnExactCheckDigest'. -/
def fnExactCheckDigestUptoCard : Claim7 := { stood := { row := fnExactCheckDigestUptoRow, standIns := [], harness := (true, "1d0f5396542068a4b3274c7d71da7591e492cff89538e87778439c47614b8983"), looks := false }, kinds := [], alts := [], laidByText := true, laidKinds := [.data, .data, .data], laidTests := true, laidLooks := .later }
def FnExactCheckDigestUptoCardSaid : Prop := Claim7.holds Tryd.pinned (.plain (OpenSpec.upto fnExactCheckDigestSpec)) fnExactCheckDigestUptoCard
end Rows
end Go.Proofs.YtgcdfkpidcdicaaDoor

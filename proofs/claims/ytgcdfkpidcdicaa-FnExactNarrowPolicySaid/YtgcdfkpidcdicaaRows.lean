/-
  No cell of these rows narrows 'for every input' (looked for: loops, veiled, ifaces, maps, wideKeys, modest, calm, conditions, laid).
  DERIVED. THE GIVEN ROWS OF THIS SEAT. 6 by the template 'for every input the law returns true; each argument reads behind the call as it read before'; 0 by the template 'total and deterministic' (their statements: YtgcdfkpidcdicaaTotals.lean).
  GIVEN WITH THE SEED: the statements are not yours to turn. If you find one false, say at which input.
  Laid BY PROGRAM, IN A SANDBOX (cutbox-rows.mjs): the forced cells as the released guide's own fill.sh prints them over the translation 3b0cc6eafa3855a0… (all of the seat's roots in one cut). By AI agents, Wed Nov 11 2026. No macro, syntax, notation, axiom, sorry.
-/
import Derived.Test.YtgcdfkpidcdicaaChecked
import GoSem.Claim
import GoSem.ClaimJoined
import GoSem.ClaimMapViews
import Derived.JoinedTies
import Derived.KernelRfl
namespace Go.Proofs.Ytgcdfkpidcdicaa
/- THE CELL 'sum', in the pinned program and in every row, IS THE sha256 OF THE DUMP (.gsa) THAT YtgcdfkpidcdicaaProg.lean LOADS. Nothing in Lean hashes anything: it is a label: what it is worth is what the hold of that sum in a sandbox is worth. -/
noncomputable def Try.pinned : Pinned := { name := "ytgcdfkpidcdicaa", sum := "3b0cc6eafa3855a0824cbcb66871856c4dc53a0bd6ca316c44b265718801ff38", checked := Try.checked }
namespace Rows
def none {H : Type} : Left H := { results := [], args := [] }

/-- 'laws.FnExactNarrowPolicy': WHATEVER THE INPUT: true; the input reads as it did. -/
def fnExactNarrowPolicySpec : ChangeSpec := { name := "fnExactNarrowPolicy", fn := fun _ => fun
  | [d1, d2] => { results := [.lit (.bool true)], args := [d1, d2] }
  | _ => none }
def fnExactNarrowPolicyRow : OpenClaim := { program := "ytgcdfkpidcdicaa", sum := "3b0cc6eafa3855a0824cbcb66871856c4dc53a0bd6ca316c44b265718801ff38", func := "loop.example/g00586/laws.FnExactNarrowPolicy", spec := "fnExactNarrowPolicy", apart := false }
def FnExactNarrowPolicySaid : Prop := fnExactNarrowPolicyRow.holds Try.pinned (OpenSpec.ofChange fnExactNarrowPolicySpec)

/-- ITS FALSE NEIGHBOUR: 'it returns false'. Refute it at one input. -/
def fnExactNarrowPolicyWrong : ChangeSpec := { name := "fnExactNarrowPolicy", fn := fun _ => fun
  | [d1, d2] => { results := [.lit (.bool false)], args := [d1, d2] }
  | _ => none }
def FnExactNarrowPolicyWrongFalsely : Prop := fnExactNarrowPolicyRow.holds Try.pinned (OpenSpec.ofChange fnExactNarrowPolicyWrong)

/-- 'laws.FnExactNotFound': WHATEVER THE INPUT: true; the input reads as it did. -/
def fnExactNotFoundSpec : ChangeSpec := { name := "fnExactNotFound", fn := fun _ => fun
  | [] => { results := [.lit (.bool true)], args := [] }
  | _ => none }
def fnExactNotFoundRow : OpenClaim := { program := "ytgcdfkpidcdicaa", sum := "3b0cc6eafa3855a0824cbcb66871856c4dc53a0bd6ca316c44b265718801ff38", func := "loop.example/g00586/laws.FnExactNotFound", spec := "fnExactNotFound", apart := false }
def FnExactNotFoundSaid : Prop := fnExactNotFoundRow.holds Try.pinned (OpenSpec.ofChange fnExactNotFoundSpec)

/-- ITS FALSE NEIGHBOUR: 'it returns false'. Refute it at one input. -/
def fnExactNotFoundWrong : ChangeSpec := { name := "fnExactNotFound", fn := fun _ => fun
  | [] => { results := [.lit (.bool false)], args := [] }
  | _ => none }
def FnExactNotFoundWrongFalsely : Prop := fnExactNotFoundRow.holds Try.pinned (OpenSpec.ofChange fnExactNotFoundWrong)

/-- 'laws.FnExactDigestOf': WHATEVER THE INPUT: true; the input reads as it did. -/
def fnExactDigestOfSpec : ChangeSpec := { name := "fnExactDigestOf", fn := fun _ => fun
  | [d] => { results := [.lit (.bool true)], args := [d] }
  | _ => none }
def fnExactDigestOfRow : OpenClaim := { program := "ytgcdfkpidcdicaa", sum := "3b0cc6eafa3855a0824cbcb66871856c4dc53a0bd6ca316c44b265718801ff38", func := "loop.example/g00586/laws.FnExactDigestOf", spec := "fnExactDigestOf", apart := false }
def FnExactDigestOfSaid : Prop := fnExactDigestOfRow.holds Try.pinned (OpenSpec.ofChange fnExactDigestOfSpec)

/-- ITS FALSE NEIGHBOUR: 'it returns false'. Refute it at one input. -/
def fnExactDigestOfWrong : ChangeSpec := { name := "fnExactDigestOf", fn := fun _ => fun
  | [d] => { results := [.lit (.bool false)], args := [d] }
  | _ => none }
def FnExactDigestOfWrongFalsely : Prop := fnExactDigestOfRow.holds Try.pinned (OpenSpec.ofChange fnExactDigestOfWrong)

/-- 'laws.FnExactFitsKind': WHATEVER THE INPUT: true; the input reads as it did. -/
def fnExactFitsKindSpec : ChangeSpec := { name := "fnExactFitsKind", fn := fun _ => fun
  | [d1, d2] => { results := [.lit (.bool true)], args := [d1, d2] }
  | _ => none }
def fnExactFitsKindRow : OpenClaim := { program := "ytgcdfkpidcdicaa", sum := "3b0cc6eafa3855a0824cbcb66871856c4dc53a0bd6ca316c44b265718801ff38", func := "loop.example/g00586/laws.FnExactFitsKind", spec := "fnExactFitsKind", apart := false }
def FnExactFitsKindSaid : Prop := fnExactFitsKindRow.holds Try.pinned (OpenSpec.ofChange fnExactFitsKindSpec)

/-- ITS FALSE NEIGHBOUR: 'it returns false'. Refute it at one input. -/
def fnExactFitsKindWrong : ChangeSpec := { name := "fnExactFitsKind", fn := fun _ => fun
  | [d1, d2] => { results := [.lit (.bool false)], args := [d1, d2] }
  | _ => none }
def FnExactFitsKindWrongFalsely : Prop := fnExactFitsKindRow.holds Try.pinned (OpenSpec.ofChange fnExactFitsKindWrong)

/-- 'laws.FnExactSizeResponse': WHATEVER THE INPUT: true; the input reads as it did. -/
def fnExactSizeResponseSpec : ChangeSpec := { name := "fnExactSizeResponse", fn := fun _ => fun
  | [d] => { results := [.lit (.bool true)], args := [d] }
  | _ => none }
def fnExactSizeResponseRow : OpenClaim := { program := "ytgcdfkpidcdicaa", sum := "3b0cc6eafa3855a0824cbcb66871856c4dc53a0bd6ca316c44b265718801ff38", func := "loop.example/g00586/laws.FnExactSizeResponse", spec := "fnExactSizeResponse", apart := false }
def FnExactSizeResponseSaid : Prop := fnExactSizeResponseRow.holds Try.pinned (OpenSpec.ofChange fnExactSizeResponseSpec)

/-- ITS FALSE NEIGHBOUR: 'it returns false'. Refute it at one input. -/
def fnExactSizeResponseWrong : ChangeSpec := { name := "fnExactSizeResponse", fn := fun _ => fun
  | [d] => { results := [.lit (.bool false)], args := [d] }
  | _ => none }
def FnExactSizeResponseWrongFalsely : Prop := fnExactSizeResponseRow.holds Try.pinned (OpenSpec.ofChange fnExactSizeResponseWrong)

/-- 'laws.FnExactEqualResponses': WHATEVER THE INPUT: true; the input reads as it did. -/
def fnExactEqualResponsesSpec : ChangeSpec := { name := "fnExactEqualResponses", fn := fun _ => fun
  | [d1, d2] => { results := [.lit (.bool true)], args := [d1, d2] }
  | _ => none }
def fnExactEqualResponsesRow : OpenClaim := { program := "ytgcdfkpidcdicaa", sum := "3b0cc6eafa3855a0824cbcb66871856c4dc53a0bd6ca316c44b265718801ff38", func := "loop.example/g00586/laws.FnExactEqualResponses", spec := "fnExactEqualResponses", apart := false }
def FnExactEqualResponsesSaid : Prop := fnExactEqualResponsesRow.holds Try.pinned (OpenSpec.ofChange fnExactEqualResponsesSpec)

/-- ITS FALSE NEIGHBOUR: 'it returns false'. Refute it at one input. -/
def fnExactEqualResponsesWrong : ChangeSpec := { name := "fnExactEqualResponses", fn := fun _ => fun
  | [d1, d2] => { results := [.lit (.bool false)], args := [d1, d2] }
  | _ => none }
def FnExactEqualResponsesWrongFalsely : Prop := fnExactEqualResponsesRow.holds Try.pinned (OpenSpec.ofChange fnExactEqualResponsesWrong)

/- THE SECOND FORM. 'bulk': how many values and letters a reading holds, each counted each time it is reached (what is shared counts as often as it is met; a slice's spare places count too). A statement '..UptoSaid' is the law's where the arguments, and the package variables that the reading takes, are together of bulk at most 1048576: NARROWER than '..Said'. Prove '..Said' where nothing that the law and all that it calls make is longer than what came in: it says more and counts as full. Else prove '..UptoSaid'. A law counts once. -/
mutual
def uptoBulk {H : Type} : DataW H → Nat
  | .lit (.string bytes) => bytes.length + 1
  | .lit _ => 1
  | .nil => 1
  | .ptr d => uptoBulk d + 1
  | .slice elems spare => uptoBulkAll elems + uptoBulkAll spare + 1
  | .agg parts => uptoBulkAll parts + 1
  | .iface _ d => uptoBulk d + 1
  | .map entries => uptoBulkEntries entries + 1
  | .held _ => 1
def uptoBulkAll {H : Type} : List (DataW H) → Nat
  | [] => 0
  | d :: r => uptoBulk d + uptoBulkAll r
def uptoBulkEntries {H : Type} : List (Lit × DataW H) → Nat
  | [] => 0
  | x :: r => uptoBulkEntry x + uptoBulkEntries r
def uptoBulkEntry {H : Type} : Lit × DataW H → Nat
  | (.string bytes, d) => bytes.length + uptoBulk d + 1
  | (_, d) => uptoBulk d + 1
 end
def uptoSmall : (H : Type) → List (DataW H) → Bool := fun _ ds => decide (uptoBulkAll ds ≤ 1048576)
def OpenSpec.upto (s : _root_.Go.ChangeSpec) : _root_.Go.OpenSpec := { _root_.Go.OpenSpec.ofChange s with cond := some uptoSmall }

/-- 'laws.FnExactNarrowPolicy', WHERE WHAT IT READS IS OF BULK AT MOST 1048576: true; the input reads as it did. -/
def fnExactNarrowPolicyUptoRow : OpenClaim := { program := "ytgcdfkpidcdicaa", sum := "3b0cc6eafa3855a0824cbcb66871856c4dc53a0bd6ca316c44b265718801ff38", func := "loop.example/g00586/laws.FnExactNarrowPolicy", spec := "fnExactNarrowPolicy", apart := false, narrowed := true }
def FnExactNarrowPolicyUptoSaid : Prop := fnExactNarrowPolicyUptoRow.holds Try.pinned (OpenSpec.upto fnExactNarrowPolicySpec)

/-- 'laws.FnExactNotFound', WHERE WHAT IT READS IS OF BULK AT MOST 1048576: true; the input reads as it did. -/
def fnExactNotFoundUptoRow : OpenClaim := { program := "ytgcdfkpidcdicaa", sum := "3b0cc6eafa3855a0824cbcb66871856c4dc53a0bd6ca316c44b265718801ff38", func := "loop.example/g00586/laws.FnExactNotFound", spec := "fnExactNotFound", apart := false, narrowed := true }
def FnExactNotFoundUptoSaid : Prop := fnExactNotFoundUptoRow.holds Try.pinned (OpenSpec.upto fnExactNotFoundSpec)

/-- 'laws.FnExactDigestOf', WHERE WHAT IT READS IS OF BULK AT MOST 1048576: true; the input reads as it did. -/
def fnExactDigestOfUptoRow : OpenClaim := { program := "ytgcdfkpidcdicaa", sum := "3b0cc6eafa3855a0824cbcb66871856c4dc53a0bd6ca316c44b265718801ff38", func := "loop.example/g00586/laws.FnExactDigestOf", spec := "fnExactDigestOf", apart := false, narrowed := true }
def FnExactDigestOfUptoSaid : Prop := fnExactDigestOfUptoRow.holds Try.pinned (OpenSpec.upto fnExactDigestOfSpec)

/-- 'laws.FnExactFitsKind', WHERE WHAT IT READS IS OF BULK AT MOST 1048576: true; the input reads as it did. -/
def fnExactFitsKindUptoRow : OpenClaim := { program := "ytgcdfkpidcdicaa", sum := "3b0cc6eafa3855a0824cbcb66871856c4dc53a0bd6ca316c44b265718801ff38", func := "loop.example/g00586/laws.FnExactFitsKind", spec := "fnExactFitsKind", apart := false, narrowed := true }
def FnExactFitsKindUptoSaid : Prop := fnExactFitsKindUptoRow.holds Try.pinned (OpenSpec.upto fnExactFitsKindSpec)

/-- 'laws.FnExactSizeResponse', WHERE WHAT IT READS IS OF BULK AT MOST 1048576: true; the input reads as it did. -/
def fnExactSizeResponseUptoRow : OpenClaim := { program := "ytgcdfkpidcdicaa", sum := "3b0cc6eafa3855a0824cbcb66871856c4dc53a0bd6ca316c44b265718801ff38", func := "loop.example/g00586/laws.FnExactSizeResponse", spec := "fnExactSizeResponse", apart := false, narrowed := true }
def FnExactSizeResponseUptoSaid : Prop := fnExactSizeResponseUptoRow.holds Try.pinned (OpenSpec.upto fnExactSizeResponseSpec)

/-- 'laws.FnExactEqualResponses', WHERE WHAT IT READS IS OF BULK AT MOST 1048576: true; the input reads as it did. -/
def fnExactEqualResponsesUptoRow : OpenClaim := { program := "ytgcdfkpidcdicaa", sum := "3b0cc6eafa3855a0824cbcb66871856c4dc53a0bd6ca316c44b265718801ff38", func := "loop.example/g00586/laws.FnExactEqualResponses", spec := "fnExactEqualResponses", apart := false, narrowed := true }
def FnExactEqualResponsesUptoSaid : Prop := fnExactEqualResponsesUptoRow.holds Try.pinned (OpenSpec.upto fnExactEqualResponsesSpec)

end Rows
end Go.Proofs.Ytgcdfkpidcdicaa

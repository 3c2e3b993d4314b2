/-
  No cell of these rows narrows 'for every input' (looked for: loops, veiled, ifaces, maps, wideKeys, modest, calm, conditions, laid).
  DERIVED. THE GIVEN ROWS OF THIS SEAT. 6 by the template 'for every input the law returns true; each argument reads behind the call as it read before'; 0 by the template 'total and deterministic' (their statements: YtddfkcghhnkkmaaTotals.lean).
  GIVEN WITH THE SEED: the statements are not yours to turn. If you find one false, say at which input.
  Laid BY PROGRAM, IN A SANDBOX (cutbox-rows.mjs): the forced cells as the released guide's own fill.sh prints them over the translation 8417b4212c13ea55… (all of the seat's roots in one cut). By AI agents, Wed Nov 11 2026. No macro, syntax, notation, axiom, sorry.
-/
import Derived.Test.YtddfkcghhnkkmaaChecked
import GoSem.Claim
import GoSem.ClaimJoined
import GoSem.ClaimMapViews
import Derived.JoinedTies
import Derived.KernelRfl
namespace Go.Proofs.Ytddfkcghhnkkmaa
/- THE CELL 'sum', in the pinned program and in every row, IS THE sha256 OF THE DUMP (.gsa) THAT YtddfkcghhnkkmaaProg.lean LOADS. Nothing in Lean hashes anything: it is a label: what it is worth is what the hold of that sum in a sandbox is worth. -/
noncomputable def Try.pinned : Pinned := { name := "ytddfkcghhnkkmaa", sum := "8417b4212c13ea555e8e0dfad20b826129e484487004eccd399bd3eb3efed001", checked := Try.checked }
namespace Rows
def none {H : Type} : Left H := { results := [], args := [] }

/-- 'laws.FnExactIsPolicy': WHATEVER THE INPUT: true; the input reads as it did. -/
def fnExactIsPolicySpec : ChangeSpec := { name := "fnExactIsPolicy", fn := fun _ => fun
  | [d] => { results := [.lit (.bool true)], args := [d] }
  | _ => none }
def fnExactIsPolicyRow : OpenClaim := { program := "ytddfkcghhnkkmaa", sum := "8417b4212c13ea555e8e0dfad20b826129e484487004eccd399bd3eb3efed001", func := "loop.example/g00586/laws.FnExactIsPolicy", spec := "fnExactIsPolicy", apart := false }
def FnExactIsPolicySaid : Prop := fnExactIsPolicyRow.holds Try.pinned (OpenSpec.ofChange fnExactIsPolicySpec)

/-- ITS FALSE NEIGHBOUR: 'it returns false'. Refute it at one input. -/
def fnExactIsPolicyWrong : ChangeSpec := { name := "fnExactIsPolicy", fn := fun _ => fun
  | [d] => { results := [.lit (.bool false)], args := [d] }
  | _ => none }
def FnExactIsPolicyWrongFalsely : Prop := fnExactIsPolicyRow.holds Try.pinned (OpenSpec.ofChange fnExactIsPolicyWrong)

/-- 'laws.FnExactKindName': WHATEVER THE INPUT: true; the input reads as it did. -/
def fnExactKindNameSpec : ChangeSpec := { name := "fnExactKindName", fn := fun _ => fun
  | [d] => { results := [.lit (.bool true)], args := [d] }
  | _ => none }
def fnExactKindNameRow : OpenClaim := { program := "ytddfkcghhnkkmaa", sum := "8417b4212c13ea555e8e0dfad20b826129e484487004eccd399bd3eb3efed001", func := "loop.example/g00586/laws.FnExactKindName", spec := "fnExactKindName", apart := false }
def FnExactKindNameSaid : Prop := fnExactKindNameRow.holds Try.pinned (OpenSpec.ofChange fnExactKindNameSpec)

/-- ITS FALSE NEIGHBOUR: 'it returns false'. Refute it at one input. -/
def fnExactKindNameWrong : ChangeSpec := { name := "fnExactKindName", fn := fun _ => fun
  | [d] => { results := [.lit (.bool false)], args := [d] }
  | _ => none }
def FnExactKindNameWrongFalsely : Prop := fnExactKindNameRow.holds Try.pinned (OpenSpec.ofChange fnExactKindNameWrong)

/-- 'laws.FnExactAllows': WHATEVER THE INPUT: true; the input reads as it did. -/
def fnExactAllowsSpec : ChangeSpec := { name := "fnExactAllows", fn := fun _ => fun
  | [d1, d2, d3] => { results := [.lit (.bool true)], args := [d1, d2, d3] }
  | _ => none }
def fnExactAllowsRow : OpenClaim := { program := "ytddfkcghhnkkmaa", sum := "8417b4212c13ea555e8e0dfad20b826129e484487004eccd399bd3eb3efed001", func := "loop.example/g00586/laws.FnExactAllows", spec := "fnExactAllows", apart := false }
def FnExactAllowsSaid : Prop := fnExactAllowsRow.holds Try.pinned (OpenSpec.ofChange fnExactAllowsSpec)

/-- ITS FALSE NEIGHBOUR: 'it returns false'. Refute it at one input. -/
def fnExactAllowsWrong : ChangeSpec := { name := "fnExactAllows", fn := fun _ => fun
  | [d1, d2, d3] => { results := [.lit (.bool false)], args := [d1, d2, d3] }
  | _ => none }
def FnExactAllowsWrongFalsely : Prop := fnExactAllowsRow.holds Try.pinned (OpenSpec.ofChange fnExactAllowsWrong)

/-- 'laws.FnExactAllowsInline': WHATEVER THE INPUT: true; the input reads as it did. -/
def fnExactAllowsInlineSpec : ChangeSpec := { name := "fnExactAllowsInline", fn := fun _ => fun
  | [d1, d2] => { results := [.lit (.bool true)], args := [d1, d2] }
  | _ => none }
def fnExactAllowsInlineRow : OpenClaim := { program := "ytddfkcghhnkkmaa", sum := "8417b4212c13ea555e8e0dfad20b826129e484487004eccd399bd3eb3efed001", func := "loop.example/g00586/laws.FnExactAllowsInline", spec := "fnExactAllowsInline", apart := false }
def FnExactAllowsInlineSaid : Prop := fnExactAllowsInlineRow.holds Try.pinned (OpenSpec.ofChange fnExactAllowsInlineSpec)

/-- ITS FALSE NEIGHBOUR: 'it returns false'. Refute it at one input. -/
def fnExactAllowsInlineWrong : ChangeSpec := { name := "fnExactAllowsInline", fn := fun _ => fun
  | [d1, d2] => { results := [.lit (.bool false)], args := [d1, d2] }
  | _ => none }
def FnExactAllowsInlineWrongFalsely : Prop := fnExactAllowsInlineRow.holds Try.pinned (OpenSpec.ofChange fnExactAllowsInlineWrong)

/-- 'laws.FnExactFormatPolicy': WHATEVER THE INPUT: true; the input reads as it did. -/
def fnExactFormatPolicySpec : ChangeSpec := { name := "fnExactFormatPolicy", fn := fun _ => fun
  | [d] => { results := [.lit (.bool true)], args := [d] }
  | _ => none }
def fnExactFormatPolicyRow : OpenClaim := { program := "ytddfkcghhnkkmaa", sum := "8417b4212c13ea555e8e0dfad20b826129e484487004eccd399bd3eb3efed001", func := "loop.example/g00586/laws.FnExactFormatPolicy", spec := "fnExactFormatPolicy", inPlace := ["internal/abi.NoEscape", "internal/bytealg.MakeNoZero"], apart := false }
def FnExactFormatPolicySaid : Prop := fnExactFormatPolicyRow.holds Try.pinned (OpenSpec.ofChange fnExactFormatPolicySpec)

/-- ITS FALSE NEIGHBOUR: 'it returns false'. Refute it at one input. -/
def fnExactFormatPolicyWrong : ChangeSpec := { name := "fnExactFormatPolicy", fn := fun _ => fun
  | [d] => { results := [.lit (.bool false)], args := [d] }
  | _ => none }
def FnExactFormatPolicyWrongFalsely : Prop := fnExactFormatPolicyRow.holds Try.pinned (OpenSpec.ofChange fnExactFormatPolicyWrong)

/-- 'laws.FnExactNarrowPolicy': WHATEVER THE INPUT: true; the input reads as it did. -/
def fnExactNarrowPolicySpec : ChangeSpec := { name := "fnExactNarrowPolicy", fn := fun _ => fun
  | [d1, d2] => { results := [.lit (.bool true)], args := [d1, d2] }
  | _ => none }
def fnExactNarrowPolicyRow : OpenClaim := { program := "ytddfkcghhnkkmaa", sum := "8417b4212c13ea555e8e0dfad20b826129e484487004eccd399bd3eb3efed001", func := "loop.example/g00586/laws.FnExactNarrowPolicy", spec := "fnExactNarrowPolicy", apart := false }
def FnExactNarrowPolicySaid : Prop := fnExactNarrowPolicyRow.holds Try.pinned (OpenSpec.ofChange fnExactNarrowPolicySpec)

/-- ITS FALSE NEIGHBOUR: 'it returns false'. Refute it at one input. -/
def fnExactNarrowPolicyWrong : ChangeSpec := { name := "fnExactNarrowPolicy", fn := fun _ => fun
  | [d1, d2] => { results := [.lit (.bool false)], args := [d1, d2] }
  | _ => none }
def FnExactNarrowPolicyWrongFalsely : Prop := fnExactNarrowPolicyRow.holds Try.pinned (OpenSpec.ofChange fnExactNarrowPolicyWrong)

/- THE SECOND FORM. 'bulk': how many values and letters a reading holds, each counted each time it is reached (what is shared counts as often as it is met; a slice's spare places count too). A statement '..UptoSaid' is the law's where the arguments, and the package variables that the reading takes, are together of bulk at most 1048576: NARROWER than '..Said'. Prove '..Said' where nothing that the law and all that it calls make is longer than what came in: it says more and counts as full. Else prove '..UptoSaid'. A law counts once. -/
mutual
def uptoBulk {H : Type} : DataW H → Nat
  | .lit (.string bytes) => bytes.length + 1
  | .lit _ => 1
  | .nil => 1
  | .ptr d => uptoBulk d + 1
  | .slice elems spare => uptoBulkAll elems + uptoBulkAll spare + 1
  | .agg parts => uptoBulkAll parts + 1
  | .iface _ d => uptoBulk d + 1
  | .map entries => uptoBulkEntries entries + 1
  | .held _ => 1
def uptoBulkAll {H : Type} : List (DataW H) → Nat
  | [] => 0
  | d :: r => uptoBulk d + uptoBulkAll r
def uptoBulkEntries {H : Type} : List (Lit × DataW H) → Nat
  | [] => 0
  | x :: r => uptoBulkEntry x + uptoBulkEntries r
def uptoBulkEntry {H : Type} : Lit × DataW H → Nat
  | (.string bytes, d) => bytes.length + uptoBulk d + 1
  | (_, d) => uptoBulk d + 1
 end
def uptoSmall : (H : Type) → List (DataW H) → Bool := fun _ ds => decide (uptoBulkAll ds ≤ 1048576)
def OpenSpec.upto (s : _root_.Go.ChangeSpec) : _root_.Go.OpenSpec := { _root_.Go.OpenSpec.ofChange s with cond := some uptoSmall }

/-- 'laws.FnExactIsPolicy', WHERE WHAT IT READS IS OF BULK AT MOST 1048576: true; the input reads as it did. -/
def fnExactIsPolicyUptoRow : OpenClaim := { program := "ytddfkcghhnkkmaa", sum := "8417b4212c13ea555e8e0dfad20b826129e484487004eccd399bd3eb3efed001", func := "loop.example/g00586/laws.FnExactIsPolicy", spec := "fnExactIsPolicy", apart := false, narrowed := true }
def FnExactIsPolicyUptoSaid : Prop := fnExactIsPolicyUptoRow.holds Try.pinned (OpenSpec.upto fnExactIsPolicySpec)

/-- 'laws.FnExactKindName', WHERE WHAT IT READS IS OF BULK AT MOST 1048576: true; the input reads as it did. -/
def fnExactKindNameUptoRow : OpenClaim := { program := "ytddfkcghhnkkmaa", sum := "8417b4212c13ea555e8e0dfad20b826129e484487004eccd399bd3eb3efed001", func := "loop.example/g00586/laws.FnExactKindName", spec := "fnExactKindName", apart := false, narrowed := true }
def FnExactKindNameUptoSaid : Prop := fnExactKindNameUptoRow.holds Try.pinned (OpenSpec.upto fnExactKindNameSpec)

/-- 'laws.FnExactAllows', WHERE WHAT IT READS IS OF BULK AT MOST 1048576: true; the input reads as it did. -/
def fnExactAllowsUptoRow : OpenClaim := { program := "ytddfkcghhnkkmaa", sum := "8417b4212c13ea555e8e0dfad20b826129e484487004eccd399bd3eb3efed001", func := "loop.example/g00586/laws.FnExactAllows", spec := "fnExactAllows", apart := false, narrowed := true }
def FnExactAllowsUptoSaid : Prop := fnExactAllowsUptoRow.holds Try.pinned (OpenSpec.upto fnExactAllowsSpec)

/-- 'laws.FnExactAllowsInline', WHERE WHAT IT READS IS OF BULK AT MOST 1048576: true; the input reads as it did. -/
def fnExactAllowsInlineUptoRow : OpenClaim := { program := "ytddfkcghhnkkmaa", sum := "8417b4212c13ea555e8e0dfad20b826129e484487004eccd399bd3eb3efed001", func := "loop.example/g00586/laws.FnExactAllowsInline", spec := "fnExactAllowsInline", apart := false, narrowed := true }
def FnExactAllowsInlineUptoSaid : Prop := fnExactAllowsInlineUptoRow.holds Try.pinned (OpenSpec.upto fnExactAllowsInlineSpec)

/-- 'laws.FnExactFormatPolicy', WHERE WHAT IT READS IS OF BULK AT MOST 1048576: true; the input reads as it did. -/
def fnExactFormatPolicyUptoRow : OpenClaim := { program := "ytddfkcghhnkkmaa", sum := "8417b4212c13ea555e8e0dfad20b826129e484487004eccd399bd3eb3efed001", func := "loop.example/g00586/laws.FnExactFormatPolicy", spec := "fnExactFormatPolicy", inPlace := ["internal/abi.NoEscape", "internal/bytealg.MakeNoZero"], apart := false, narrowed := true }
def FnExactFormatPolicyUptoSaid : Prop := fnExactFormatPolicyUptoRow.holds Try.pinned (OpenSpec.upto fnExactFormatPolicySpec)

/-- 'laws.FnExactNarrowPolicy', WHERE WHAT IT READS IS OF BULK AT MOST 1048576: true; the input reads as it did. -/
def fnExactNarrowPolicyUptoRow : OpenClaim := { program := "ytddfkcghhnkkmaa", sum := "8417b4212c13ea555e8e0dfad20b826129e484487004eccd399bd3eb3efed001", func := "loop.example/g00586/laws.FnExactNarrowPolicy", spec := "fnExactNarrowPolicy", apart := false, narrowed := true }
def FnExactNarrowPolicyUptoSaid : Prop := fnExactNarrowPolicyUptoRow.holds Try.pinned (OpenSpec.upto fnExactNarrowPolicySpec)

end Rows
end Go.Proofs.Ytddfkcghhnkkmaa

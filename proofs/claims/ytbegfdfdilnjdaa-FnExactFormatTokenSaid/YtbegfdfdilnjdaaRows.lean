/-
  No cell of these rows narrows 'for every input' (looked for: loops, veiled, ifaces, maps, wideKeys, modest, calm, conditions, laid).
  DERIVED. THE GIVEN ROWS OF THIS SEAT. 4 by the template 'for every input the law returns true; each argument reads behind the call as it read before'; 0 by the template 'total and deterministic' (their statements: YtbegfdfdilnjdaaTotals.lean).
  GIVEN WITH THE SEED: the statements are not yours to turn. If you find one false, say at which input.
  Laid BY PROGRAM, IN A SANDBOX (cutbox-rows.mjs): the forced cells as the released guide's own fill.sh prints them over the translation 34318e9eeaf07b9b… (all of the seat's roots in one cut). By AI agents, Wed Nov 11 2026. No macro, syntax, notation, axiom, sorry.
-/
import Derived.Test.YtbegfdfdilnjdaaChecked
import GoSem.Claim
import GoSem.ClaimJoined
import GoSem.ClaimMapViews
import Derived.JoinedTies
import Derived.KernelRfl
namespace Go.Proofs.Ytbegfdfdilnjdaa
/- THE CELL 'sum', in the pinned program and in every row, IS THE sha256 OF THE DUMP (.gsa) THAT YtbegfdfdilnjdaaProg.lean LOADS. Nothing in Lean hashes anything: it is a label: what it is worth is what the hold of that sum in a sandbox is worth. -/
noncomputable def Try.pinned : Pinned := { name := "ytbegfdfdilnjdaa", sum := "34318e9eeaf07b9bcd01830121d31fd8840fee73963ee37a995aa13c17889f9d", checked := Try.checked }
namespace Rows
def none {H : Type} : Left H := { results := [], args := [] }

/-- 'laws.FnExactIsValue': WHATEVER THE INPUT: true; the input reads as it did. -/
def fnExactIsValueSpec : ChangeSpec := { name := "fnExactIsValue", fn := fun _ => fun
  | [d] => { results := [.lit (.bool true)], args := [d] }
  | _ => none }
def fnExactIsValueRow : OpenClaim := { program := "ytbegfdfdilnjdaa", sum := "34318e9eeaf07b9bcd01830121d31fd8840fee73963ee37a995aa13c17889f9d", func := "loop.example/g00586/laws.FnExactIsValue", spec := "fnExactIsValue", apart := false }
def FnExactIsValueSaid : Prop := fnExactIsValueRow.holds Try.pinned (OpenSpec.ofChange fnExactIsValueSpec)

/-- ITS FALSE NEIGHBOUR: 'it returns false'. Refute it at one input. -/
def fnExactIsValueWrong : ChangeSpec := { name := "fnExactIsValue", fn := fun _ => fun
  | [d] => { results := [.lit (.bool false)], args := [d] }
  | _ => none }
def FnExactIsValueWrongFalsely : Prop := fnExactIsValueRow.holds Try.pinned (OpenSpec.ofChange fnExactIsValueWrong)

/-- 'laws.FnExactFormatToken': WHATEVER THE INPUT: true; the input reads as it did. -/
def fnExactFormatTokenSpec : ChangeSpec := { name := "fnExactFormatToken", fn := fun _ => fun
  | [d] => { results := [.lit (.bool true)], args := [d] }
  | _ => none }
def fnExactFormatTokenRow : OpenClaim := { program := "ytbegfdfdilnjdaa", sum := "34318e9eeaf07b9bcd01830121d31fd8840fee73963ee37a995aa13c17889f9d", func := "loop.example/g00586/laws.FnExactFormatToken", spec := "fnExactFormatToken", inPlace := ["internal/abi.NoEscape", "internal/bytealg.MakeNoZero"], apart := false }
def FnExactFormatTokenSaid : Prop := fnExactFormatTokenRow.holds Try.pinned (OpenSpec.ofChange fnExactFormatTokenSpec)

/-- ITS FALSE NEIGHBOUR: 'it returns false'. Refute it at one input. -/
def fnExactFormatTokenWrong : ChangeSpec := { name := "fnExactFormatToken", fn := fun _ => fun
  | [d] => { results := [.lit (.bool false)], args := [d] }
  | _ => none }
def FnExactFormatTokenWrongFalsely : Prop := fnExactFormatTokenRow.holds Try.pinned (OpenSpec.ofChange fnExactFormatTokenWrong)

/-- 'laws.FnExactEndText': WHATEVER THE INPUT: true; the input reads as it did. -/
def fnExactEndTextSpec : ChangeSpec := { name := "fnExactEndText", fn := fun _ => fun
  | [d] => { results := [.lit (.bool true)], args := [d] }
  | _ => none }
def fnExactEndTextRow : OpenClaim := { program := "ytbegfdfdilnjdaa", sum := "34318e9eeaf07b9bcd01830121d31fd8840fee73963ee37a995aa13c17889f9d", func := "loop.example/g00586/laws.FnExactEndText", spec := "fnExactEndText", apart := false }
def FnExactEndTextSaid : Prop := fnExactEndTextRow.holds Try.pinned (OpenSpec.ofChange fnExactEndTextSpec)

/-- ITS FALSE NEIGHBOUR: 'it returns false'. Refute it at one input. -/
def fnExactEndTextWrong : ChangeSpec := { name := "fnExactEndText", fn := fun _ => fun
  | [d] => { results := [.lit (.bool false)], args := [d] }
  | _ => none }
def FnExactEndTextWrongFalsely : Prop := fnExactEndTextRow.holds Try.pinned (OpenSpec.ofChange fnExactEndTextWrong)

/-- 'laws.FnExactFindAttr': WHATEVER THE INPUT: true; the input reads as it did. -/
def fnExactFindAttrSpec : ChangeSpec := { name := "fnExactFindAttr", fn := fun _ => fun
  | [d1, d2] => { results := [.lit (.bool true)], args := [d1, d2] }
  | _ => none }
def fnExactFindAttrRow : OpenClaim := { program := "ytbegfdfdilnjdaa", sum := "34318e9eeaf07b9bcd01830121d31fd8840fee73963ee37a995aa13c17889f9d", func := "loop.example/g00586/laws.FnExactFindAttr", spec := "fnExactFindAttr", apart := false }
def FnExactFindAttrSaid : Prop := fnExactFindAttrRow.holds Try.pinned (OpenSpec.ofChange fnExactFindAttrSpec)

/-- ITS FALSE NEIGHBOUR: 'it returns false'. Refute it at one input. -/
def fnExactFindAttrWrong : ChangeSpec := { name := "fnExactFindAttr", fn := fun _ => fun
  | [d1, d2] => { results := [.lit (.bool false)], args := [d1, d2] }
  | _ => none }
def FnExactFindAttrWrongFalsely : Prop := fnExactFindAttrRow.holds Try.pinned (OpenSpec.ofChange fnExactFindAttrWrong)

/- THE SECOND FORM. 'bulk': how many values and letters a reading holds, each counted each time it is reached (what is shared counts as often as it is met; a slice's spare places count too). A statement '..UptoSaid' is the law's where the arguments, and the package variables that the reading takes, are together of bulk at most 1048576: NARROWER than '..Said'. Prove '..Said' where nothing that the law and all that it calls make is longer than what came in: it says more and counts as full. Else prove '..UptoSaid'. A law counts once. -/
mutual
def uptoBulk {H : Type} : DataW H → Nat
  | .lit (.string bytes) => bytes.length + 1
  | .lit _ => 1
  | .nil => 1
  | .ptr d => uptoBulk d + 1
  | .slice elems spare => uptoBulkAll elems + uptoBulkAll spare + 1
  | .agg parts => uptoBulkAll parts + 1
  | .iface _ d => uptoBulk d + 1
  | .map entries => uptoBulkEntries entries + 1
  | .held _ => 1
def uptoBulkAll {H : Type} : List (DataW H) → Nat
  | [] => 0
  | d :: r => uptoBulk d + uptoBulkAll r
def uptoBulkEntries {H : Type} : List (Lit × DataW H) → Nat
  | [] => 0
  | x :: r => uptoBulkEntry x + uptoBulkEntries r
def uptoBulkEntry {H : Type} : Lit × DataW H → Nat
  | (.string bytes, d) => bytes.length + uptoBulk d + 1
  | (_, d) => uptoBulk d + 1
 end
def uptoSmall : (H : Type) → List (DataW H) → Bool := fun _ ds => decide (uptoBulkAll ds ≤ 1048576)
def OpenSpec.upto (s : _root_.Go.ChangeSpec) : _root_.Go.OpenSpec := { _root_.Go.OpenSpec.ofChange s with cond := some uptoSmall }

/-- 'laws.FnExactIsValue', WHERE WHAT IT READS IS OF BULK AT MOST 1048576: true; the input reads as it did. -/
def fnExactIsValueUptoRow : OpenClaim := { program := "ytbegfdfdilnjdaa", sum := "34318e9eeaf07b9bcd01830121d31fd8840fee73963ee37a995aa13c17889f9d", func := "loop.example/g00586/laws.FnExactIsValue", spec := "fnExactIsValue", apart := false, narrowed := true }
def FnExactIsValueUptoSaid : Prop := fnExactIsValueUptoRow.holds Try.pinned (OpenSpec.upto fnExactIsValueSpec)

/-- 'laws.FnExactFormatToken', WHERE WHAT IT READS IS OF BULK AT MOST 1048576: true; the input reads as it did. -/
def fnExactFormatTokenUptoRow : OpenClaim := { program := "ytbegfdfdilnjdaa", sum := "34318e9eeaf07b9bcd01830121d31fd8840fee73963ee37a995aa13c17889f9d", func := "loop.example/g00586/laws.FnExactFormatToken", spec := "fnExactFormatToken", inPlace := ["internal/abi.NoEscape", "internal/bytealg.MakeNoZero"], apart := false, narrowed := true }
def FnExactFormatTokenUptoSaid : Prop := fnExactFormatTokenUptoRow.holds Try.pinned (OpenSpec.upto fnExactFormatTokenSpec)

/-- 'laws.FnExactEndText', WHERE WHAT IT READS IS OF BULK AT MOST 1048576: true; the input reads as it did. -/
def fnExactEndTextUptoRow : OpenClaim := { program := "ytbegfdfdilnjdaa", sum := "34318e9eeaf07b9bcd01830121d31fd8840fee73963ee37a995aa13c17889f9d", func := "loop.example/g00586/laws.FnExactEndText", spec := "fnExactEndText", apart := false, narrowed := true }
def FnExactEndTextUptoSaid : Prop := fnExactEndTextUptoRow.holds Try.pinned (OpenSpec.upto fnExactEndTextSpec)

/-- 'laws.FnExactFindAttr', WHERE WHAT IT READS IS OF BULK AT MOST 1048576: true; the input reads as it did. -/
def fnExactFindAttrUptoRow : OpenClaim := { program := "ytbegfdfdilnjdaa", sum := "34318e9eeaf07b9bcd01830121d31fd8840fee73963ee37a995aa13c17889f9d", func := "loop.example/g00586/laws.FnExactFindAttr", spec := "fnExactFindAttr", apart := false, narrowed := true }
def FnExactFindAttrUptoSaid : Prop := fnExactFindAttrUptoRow.holds Try.pinned (OpenSpec.upto fnExactFindAttrSpec)

end Rows
end Go.Proofs.Ytbegfdfdilnjdaa

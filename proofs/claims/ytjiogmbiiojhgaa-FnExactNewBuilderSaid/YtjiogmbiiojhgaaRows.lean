/-
  No cell of these rows narrows 'for every input' (looked for: loops, veiled, ifaces, maps, wideKeys, modest, calm, conditions, laid).
  DERIVED. THE GIVEN ROWS OF THIS SEAT. 10 by the template 'for every input the law returns true; each argument reads behind the call as it read before'; 0 by the template 'total and deterministic' (their statements: YtjiogmbiiojhgaaTotals.lean).
  GIVEN WITH THE SEED: the statements are not yours to turn. If you find one false, say at which input.
  Laid BY PROGRAM, IN A SANDBOX (cutbox-rows.mjs): the forced cells as the released guide's own fill.sh prints them over the translation d8e9065390819b71… (all of the seat's roots in one cut). By AI agents, Wed Nov 11 2026. No macro, syntax, notation, axiom, sorry.
-/
import Derived.Test.YtjiogmbiiojhgaaChecked
import GoSem.Claim
import GoSem.ClaimJoined
import GoSem.ClaimMapViews
import Derived.JoinedTies
import Derived.KernelRfl
namespace Go.Proofs.Ytjiogmbiiojhgaa
/- THE CELL 'sum', in the pinned program and in every row, IS THE sha256 OF THE DUMP (.gsa) THAT YtjiogmbiiojhgaaProg.lean LOADS. Nothing in Lean hashes anything: it is a label: what it is worth is what the hold of that sum in a sandbox is worth. -/
noncomputable def Try.pinned : Pinned := { name := "ytjiogmbiiojhgaa", sum := "d8e9065390819b7106f46aa48561ca2f11f1068b212f53f8077b91fb64534c9d", checked := Try.checked }
namespace Rows
def none {H : Type} : Left H := { results := [], args := [] }

/-- 'laws.FnTrees': WHATEVER THE INPUT: true; the input reads as it did. -/
def fnTreesSpec : ChangeSpec := { name := "fnTrees", fn := fun _ => fun
  | [d] => { results := [.lit (.bool true)], args := [d] }
  | _ => none }
def fnTreesRow : OpenClaim := { program := "ytjiogmbiiojhgaa", sum := "d8e9065390819b7106f46aa48561ca2f11f1068b212f53f8077b91fb64534c9d", func := "loop.example/g00586/laws.FnTrees", spec := "fnTrees", apart := false }
def FnTreesSaid : Prop := fnTreesRow.holds Try.pinned (OpenSpec.ofChange fnTreesSpec)

/-- ITS FALSE NEIGHBOUR: 'it returns false'. Refute it at one input. -/
def fnTreesWrong : ChangeSpec := { name := "fnTrees", fn := fun _ => fun
  | [d] => { results := [.lit (.bool false)], args := [d] }
  | _ => none }
def FnTreesWrongFalsely : Prop := fnTreesRow.holds Try.pinned (OpenSpec.ofChange fnTreesWrong)

/-- 'laws.FnTexts': WHATEVER THE INPUT: true; the input reads as it did. -/
def fnTextsSpec : ChangeSpec := { name := "fnTexts", fn := fun _ => fun
  | [d] => { results := [.lit (.bool true)], args := [d] }
  | _ => none }
def fnTextsRow : OpenClaim := { program := "ytjiogmbiiojhgaa", sum := "d8e9065390819b7106f46aa48561ca2f11f1068b212f53f8077b91fb64534c9d", func := "loop.example/g00586/laws.FnTexts", spec := "fnTexts", inPlace := ["internal/abi.NoEscape", "internal/bytealg.MakeNoZero"], apart := false }
def FnTextsSaid : Prop := fnTextsRow.holds Try.pinned (OpenSpec.ofChange fnTextsSpec)

/-- ITS FALSE NEIGHBOUR: 'it returns false'. Refute it at one input. -/
def fnTextsWrong : ChangeSpec := { name := "fnTexts", fn := fun _ => fun
  | [d] => { results := [.lit (.bool false)], args := [d] }
  | _ => none }
def FnTextsWrongFalsely : Prop := fnTextsRow.holds Try.pinned (OpenSpec.ofChange fnTextsWrong)

/-- 'laws.FnExactNewBuilder': WHATEVER THE INPUT: true; the input reads as it did. -/
def fnExactNewBuilderSpec : ChangeSpec := { name := "fnExactNewBuilder", fn := fun _ => fun
  | [] => { results := [.lit (.bool true)], args := [] }
  | _ => none }
def fnExactNewBuilderRow : OpenClaim := { program := "ytjiogmbiiojhgaa", sum := "d8e9065390819b7106f46aa48561ca2f11f1068b212f53f8077b91fb64534c9d", func := "loop.example/g00586/laws.FnExactNewBuilder", spec := "fnExactNewBuilder", apart := false }
def FnExactNewBuilderSaid : Prop := fnExactNewBuilderRow.holds Try.pinned (OpenSpec.ofChange fnExactNewBuilderSpec)

/-- ITS FALSE NEIGHBOUR: 'it returns false'. Refute it at one input. -/
def fnExactNewBuilderWrong : ChangeSpec := { name := "fnExactNewBuilder", fn := fun _ => fun
  | [] => { results := [.lit (.bool false)], args := [] }
  | _ => none }
def FnExactNewBuilderWrongFalsely : Prop := fnExactNewBuilderRow.holds Try.pinned (OpenSpec.ofChange fnExactNewBuilderWrong)

/-- 'laws.FnExactIsVoid': WHATEVER THE INPUT: true; the input reads as it did. -/
def fnExactIsVoidSpec : ChangeSpec := { name := "fnExactIsVoid", fn := fun _ => fun
  | [d] => { results := [.lit (.bool true)], args := [d] }
  | _ => none }
def fnExactIsVoidRow : OpenClaim := { program := "ytjiogmbiiojhgaa", sum := "d8e9065390819b7106f46aa48561ca2f11f1068b212f53f8077b91fb64534c9d", func := "loop.example/g00586/laws.FnExactIsVoid", spec := "fnExactIsVoid", apart := false }
def FnExactIsVoidSaid : Prop := fnExactIsVoidRow.holds Try.pinned (OpenSpec.ofChange fnExactIsVoidSpec)

/-- ITS FALSE NEIGHBOUR: 'it returns false'. Refute it at one input. -/
def fnExactIsVoidWrong : ChangeSpec := { name := "fnExactIsVoid", fn := fun _ => fun
  | [d] => { results := [.lit (.bool false)], args := [d] }
  | _ => none }
def FnExactIsVoidWrongFalsely : Prop := fnExactIsVoidRow.holds Try.pinned (OpenSpec.ofChange fnExactIsVoidWrong)

/-- 'laws.FnExactIsBuilder': WHATEVER THE INPUT: true; the input reads as it did. -/
def fnExactIsBuilderSpec : ChangeSpec := { name := "fnExactIsBuilder", fn := fun _ => fun
  | [d] => { results := [.lit (.bool true)], args := [d] }
  | _ => none }
def fnExactIsBuilderRow : OpenClaim := { program := "ytjiogmbiiojhgaa", sum := "d8e9065390819b7106f46aa48561ca2f11f1068b212f53f8077b91fb64534c9d", func := "loop.example/g00586/laws.FnExactIsBuilder", spec := "fnExactIsBuilder", apart := false }
def FnExactIsBuilderSaid : Prop := fnExactIsBuilderRow.holds Try.pinned (OpenSpec.ofChange fnExactIsBuilderSpec)

/-- ITS FALSE NEIGHBOUR: 'it returns false'. Refute it at one input. -/
def fnExactIsBuilderWrong : ChangeSpec := { name := "fnExactIsBuilder", fn := fun _ => fun
  | [d] => { results := [.lit (.bool false)], args := [d] }
  | _ => none }
def FnExactIsBuilderWrongFalsely : Prop := fnExactIsBuilderRow.holds Try.pinned (OpenSpec.ofChange fnExactIsBuilderWrong)

/-- 'laws.FnExactAddToken': WHATEVER THE INPUT: true; the input reads as it did. -/
def fnExactAddTokenSpec : ChangeSpec := { name := "fnExactAddToken", fn := fun _ => fun
  | [d1, d2] => { results := [.lit (.bool true)], args := [d1, d2] }
  | _ => none }
def fnExactAddTokenRow : OpenClaim := { program := "ytjiogmbiiojhgaa", sum := "d8e9065390819b7106f46aa48561ca2f11f1068b212f53f8077b91fb64534c9d", func := "loop.example/g00586/laws.FnExactAddToken", spec := "fnExactAddToken", apart := false }
def FnExactAddTokenSaid : Prop := fnExactAddTokenRow.holds Try.pinned (OpenSpec.ofChange fnExactAddTokenSpec)

/-- ITS FALSE NEIGHBOUR: 'it returns false'. Refute it at one input. -/
def fnExactAddTokenWrong : ChangeSpec := { name := "fnExactAddToken", fn := fun _ => fun
  | [d1, d2] => { results := [.lit (.bool false)], args := [d1, d2] }
  | _ => none }
def FnExactAddTokenWrongFalsely : Prop := fnExactAddTokenRow.holds Try.pinned (OpenSpec.ofChange fnExactAddTokenWrong)

/-- 'laws.FnExactAddTokens': WHATEVER THE INPUT: true; the input reads as it did. -/
def fnExactAddTokensSpec : ChangeSpec := { name := "fnExactAddTokens", fn := fun _ => fun
  | [d1, d2] => { results := [.lit (.bool true)], args := [d1, d2] }
  | _ => none }
def fnExactAddTokensRow : OpenClaim := { program := "ytjiogmbiiojhgaa", sum := "d8e9065390819b7106f46aa48561ca2f11f1068b212f53f8077b91fb64534c9d", func := "loop.example/g00586/laws.FnExactAddTokens", spec := "fnExactAddTokens", apart := false }
def FnExactAddTokensSaid : Prop := fnExactAddTokensRow.holds Try.pinned (OpenSpec.ofChange fnExactAddTokensSpec)

/-- ITS FALSE NEIGHBOUR: 'it returns false'. Refute it at one input. -/
def fnExactAddTokensWrong : ChangeSpec := { name := "fnExactAddTokens", fn := fun _ => fun
  | [d1, d2] => { results := [.lit (.bool false)], args := [d1, d2] }
  | _ => none }
def FnExactAddTokensWrongFalsely : Prop := fnExactAddTokensRow.holds Try.pinned (OpenSpec.ofChange fnExactAddTokensWrong)

/-- 'laws.FnExactTextOf': WHATEVER THE INPUT: true; the input reads as it did. -/
def fnExactTextOfSpec : ChangeSpec := { name := "fnExactTextOf", fn := fun _ => fun
  | [d1, d2] => { results := [.lit (.bool true)], args := [d1, d2] }
  | _ => none }
def fnExactTextOfRow : OpenClaim := { program := "ytjiogmbiiojhgaa", sum := "d8e9065390819b7106f46aa48561ca2f11f1068b212f53f8077b91fb64534c9d", func := "loop.example/g00586/laws.FnExactTextOf", spec := "fnExactTextOf", inPlace := ["internal/abi.NoEscape", "internal/bytealg.MakeNoZero"], apart := false }
def FnExactTextOfSaid : Prop := fnExactTextOfRow.holds Try.pinned (OpenSpec.ofChange fnExactTextOfSpec)

/-- ITS FALSE NEIGHBOUR: 'it returns false'. Refute it at one input. -/
def fnExactTextOfWrong : ChangeSpec := { name := "fnExactTextOf", fn := fun _ => fun
  | [d1, d2] => { results := [.lit (.bool false)], args := [d1, d2] }
  | _ => none }
def FnExactTextOfWrongFalsely : Prop := fnExactTextOfRow.holds Try.pinned (OpenSpec.ofChange fnExactTextOfWrong)

/-- 'laws.FnExactCountName': WHATEVER THE INPUT: true; the input reads as it did. -/
def fnExactCountNameSpec : ChangeSpec := { name := "fnExactCountName", fn := fun _ => fun
  | [d1, d2] => { results := [.lit (.bool true)], args := [d1, d2] }
  | _ => none }
def fnExactCountNameRow : OpenClaim := { program := "ytjiogmbiiojhgaa", sum := "d8e9065390819b7106f46aa48561ca2f11f1068b212f53f8077b91fb64534c9d", func := "loop.example/g00586/laws.FnExactCountName", spec := "fnExactCountName", apart := false }
def FnExactCountNameSaid : Prop := fnExactCountNameRow.holds Try.pinned (OpenSpec.ofChange fnExactCountNameSpec)

/-- ITS FALSE NEIGHBOUR: 'it returns false'. Refute it at one input. -/
def fnExactCountNameWrong : ChangeSpec := { name := "fnExactCountName", fn := fun _ => fun
  | [d1, d2] => { results := [.lit (.bool false)], args := [d1, d2] }
  | _ => none }
def FnExactCountNameWrongFalsely : Prop := fnExactCountNameRow.holds Try.pinned (OpenSpec.ofChange fnExactCountNameWrong)

/-- 'laws.FnExactEqualBuilders': WHATEVER THE INPUT: true; the input reads as it did. -/
def fnExactEqualBuildersSpec : ChangeSpec := { name := "fnExactEqualBuilders", fn := fun _ => fun
  | [d1, d2] => { results := [.lit (.bool true)], args := [d1, d2] }
  | _ => none }
def fnExactEqualBuildersRow : OpenClaim := { program := "ytjiogmbiiojhgaa", sum := "d8e9065390819b7106f46aa48561ca2f11f1068b212f53f8077b91fb64534c9d", func := "loop.example/g00586/laws.FnExactEqualBuilders", spec := "fnExactEqualBuilders", apart := false }
def FnExactEqualBuildersSaid : Prop := fnExactEqualBuildersRow.holds Try.pinned (OpenSpec.ofChange fnExactEqualBuildersSpec)

/-- ITS FALSE NEIGHBOUR: 'it returns false'. Refute it at one input. -/
def fnExactEqualBuildersWrong : ChangeSpec := { name := "fnExactEqualBuilders", fn := fun _ => fun
  | [d1, d2] => { results := [.lit (.bool false)], args := [d1, d2] }
  | _ => none }
def FnExactEqualBuildersWrongFalsely : Prop := fnExactEqualBuildersRow.holds Try.pinned (OpenSpec.ofChange fnExactEqualBuildersWrong)

/- THE SECOND FORM. 'bulk': how many values and letters a reading holds, each counted each time it is reached (what is shared counts as often as it is met; a slice's spare places count too). A statement '..UptoSaid' is the law's where the arguments, and the package variables that the reading takes, are together of bulk at most 1048576: NARROWER than '..Said'. Prove '..Said' where nothing that the law and all that it calls make is longer than what came in: it says more and counts as full. Else prove '..UptoSaid'. A law counts once. -/
mutual
def uptoBulk {H : Type} : DataW H → Nat
  | .lit (.string bytes) => bytes.length + 1
  | .lit _ => 1
  | .nil => 1
  | .ptr d => uptoBulk d + 1
  | .slice elems spare => uptoBulkAll elems + uptoBulkAll spare + 1
  | .agg parts => uptoBulkAll parts + 1
  | .iface _ d => uptoBulk d + 1
  | .map entries => uptoBulkEntries entries + 1
  | .held _ => 1
def uptoBulkAll {H : Type} : List (DataW H) → Nat
  | [] => 0
  | d :: r => uptoBulk d + uptoBulkAll r
def uptoBulkEntries {H : Type} : List (Lit × DataW H) → Nat
  | [] => 0
  | x :: r => uptoBulkEntry x + uptoBulkEntries r
def uptoBulkEntry {H : Type} : Lit × DataW H → Nat
  | (.string bytes, d) => bytes.length + uptoBulk d + 1
  | (_, d) => uptoBulk d + 1
 end
def uptoSmall : (H : Type) → List (DataW H) → Bool := fun _ ds => decide (uptoBulkAll ds ≤ 1048576)
def OpenSpec.upto (s : _root_.Go.ChangeSpec) : _root_.Go.OpenSpec := { _root_.Go.OpenSpec.ofChange s with cond := some uptoSmall }

/-- 'laws.FnTrees', WHERE WHAT IT READS IS OF BULK AT MOST 1048576: true; the input reads as it did. -/
def fnTreesUptoRow : OpenClaim := { program := "ytjiogmbiiojhgaa", sum := "d8e9065390819b7106f46aa48561ca2f11f1068b212f53f8077b91fb64534c9d", func := "loop.example/g00586/laws.FnTrees", spec := "fnTrees", apart := false, narrowed := true }
def FnTreesUptoSaid : Prop := fnTreesUptoRow.holds Try.pinned (OpenSpec.upto fnTreesSpec)

/-- 'laws.FnTexts', WHERE WHAT IT READS IS OF BULK AT MOST 1048576: true; the input reads as it did. -/
def fnTextsUptoRow : OpenClaim := { program := "ytjiogmbiiojhgaa", sum := "d8e9065390819b7106f46aa48561ca2f11f1068b212f53f8077b91fb64534c9d", func := "loop.example/g00586/laws.FnTexts", spec := "fnTexts", inPlace := ["internal/abi.NoEscape", "internal/bytealg.MakeNoZero"], apart := false, narrowed := true }
def FnTextsUptoSaid : Prop := fnTextsUptoRow.holds Try.pinned (OpenSpec.upto fnTextsSpec)

/-- 'laws.FnExactNewBuilder', WHERE WHAT IT READS IS OF BULK AT MOST 1048576: true; the input reads as it did. -/
def fnExactNewBuilderUptoRow : OpenClaim := { program := "ytjiogmbiiojhgaa", sum := "d8e9065390819b7106f46aa48561ca2f11f1068b212f53f8077b91fb64534c9d", func := "loop.example/g00586/laws.FnExactNewBuilder", spec := "fnExactNewBuilder", apart := false, narrowed := true }
def FnExactNewBuilderUptoSaid : Prop := fnExactNewBuilderUptoRow.holds Try.pinned (OpenSpec.upto fnExactNewBuilderSpec)

/-- 'laws.FnExactIsVoid', WHERE WHAT IT READS IS OF BULK AT MOST 1048576: true; the input reads as it did. -/
def fnExactIsVoidUptoRow : OpenClaim := { program := "ytjiogmbiiojhgaa", sum := "d8e9065390819b7106f46aa48561ca2f11f1068b212f53f8077b91fb64534c9d", func := "loop.example/g00586/laws.FnExactIsVoid", spec := "fnExactIsVoid", apart := false, narrowed := true }
def FnExactIsVoidUptoSaid : Prop := fnExactIsVoidUptoRow.holds Try.pinned (OpenSpec.upto fnExactIsVoidSpec)

/-- 'laws.FnExactIsBuilder', WHERE WHAT IT READS IS OF BULK AT MOST 1048576: true; the input reads as it did. -/
def fnExactIsBuilderUptoRow : OpenClaim := { program := "ytjiogmbiiojhgaa", sum := "d8e9065390819b7106f46aa48561ca2f11f1068b212f53f8077b91fb64534c9d", func := "loop.example/g00586/laws.FnExactIsBuilder", spec := "fnExactIsBuilder", apart := false, narrowed := true }
def FnExactIsBuilderUptoSaid : Prop := fnExactIsBuilderUptoRow.holds Try.pinned (OpenSpec.upto fnExactIsBuilderSpec)

/-- 'laws.FnExactAddToken', WHERE WHAT IT READS IS OF BULK AT MOST 1048576: true; the input reads as it did. -/
def fnExactAddTokenUptoRow : OpenClaim := { program := "ytjiogmbiiojhgaa", sum := "d8e9065390819b7106f46aa48561ca2f11f1068b212f53f8077b91fb64534c9d", func := "loop.example/g00586/laws.FnExactAddToken", spec := "fnExactAddToken", apart := false, narrowed := true }
def FnExactAddTokenUptoSaid : Prop := fnExactAddTokenUptoRow.holds Try.pinned (OpenSpec.upto fnExactAddTokenSpec)

/-- 'laws.FnExactAddTokens', WHERE WHAT IT READS IS OF BULK AT MOST 1048576: true; the input reads as it did. -/
def fnExactAddTokensUptoRow : OpenClaim := { program := "ytjiogmbiiojhgaa", sum := "d8e9065390819b7106f46aa48561ca2f11f1068b212f53f8077b91fb64534c9d", func := "loop.example/g00586/laws.FnExactAddTokens", spec := "fnExactAddTokens", apart := false, narrowed := true }
def FnExactAddTokensUptoSaid : Prop := fnExactAddTokensUptoRow.holds Try.pinned (OpenSpec.upto fnExactAddTokensSpec)

/-- 'laws.FnExactTextOf', WHERE WHAT IT READS IS OF BULK AT MOST 1048576: true; the input reads as it did. -/
def fnExactTextOfUptoRow : OpenClaim := { program := "ytjiogmbiiojhgaa", sum := "d8e9065390819b7106f46aa48561ca2f11f1068b212f53f8077b91fb64534c9d", func := "loop.example/g00586/laws.FnExactTextOf", spec := "fnExactTextOf", inPlace := ["internal/abi.NoEscape", "internal/bytealg.MakeNoZero"], apart := false, narrowed := true }
def FnExactTextOfUptoSaid : Prop := fnExactTextOfUptoRow.holds Try.pinned (OpenSpec.upto fnExactTextOfSpec)

/-- 'laws.FnExactCountName', WHERE WHAT IT READS IS OF BULK AT MOST 1048576: true; the input reads as it did. -/
def fnExactCountNameUptoRow : OpenClaim := { program := "ytjiogmbiiojhgaa", sum := "d8e9065390819b7106f46aa48561ca2f11f1068b212f53f8077b91fb64534c9d", func := "loop.example/g00586/laws.FnExactCountName", spec := "fnExactCountName", apart := false, narrowed := true }
def FnExactCountNameUptoSaid : Prop := fnExactCountNameUptoRow.holds Try.pinned (OpenSpec.upto fnExactCountNameSpec)

/-- 'laws.FnExactEqualBuilders', WHERE WHAT IT READS IS OF BULK AT MOST 1048576: true; the input reads as it did. -/
def fnExactEqualBuildersUptoRow : OpenClaim := { program := "ytjiogmbiiojhgaa", sum := "d8e9065390819b7106f46aa48561ca2f11f1068b212f53f8077b91fb64534c9d", func := "loop.example/g00586/laws.FnExactEqualBuilders", spec := "fnExactEqualBuilders", apart := false, narrowed := true }
def FnExactEqualBuildersUptoSaid : Prop := fnExactEqualBuildersUptoRow.holds Try.pinned (OpenSpec.upto fnExactEqualBuildersSpec)

end Rows
end Go.Proofs.Ytjiogmbiiojhgaa

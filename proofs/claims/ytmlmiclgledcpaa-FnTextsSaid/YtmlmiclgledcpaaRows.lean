/-
  No cell of these rows narrows 'for every input' (looked for: loops, veiled, ifaces, maps, wideKeys, modest, calm, conditions, laid).
  DERIVED. THE GIVEN ROWS OF THIS SEAT. 6 by the template 'for every input the law returns true; each argument reads behind the call as it read before'; 0 by the template 'total and deterministic' (their statements: YtmlmiclgledcpaaTotals.lean).
  GIVEN WITH THE SEED: the statements are not yours to turn. If you find one false, say at which input.
  Laid BY PROGRAM, IN A SANDBOX (cutbox-rows.mjs): the forced cells as the released guide's own fill.sh prints them over the translation b745fdffe56e2ea4… (all of the seat's roots in one cut). By AI agents, Wed Nov 11 2026. No macro, syntax, notation, axiom, sorry.
-/
import Derived.Test.YtmlmiclgledcpaaChecked
import GoSem.Claim
import GoSem.ClaimJoined
import GoSem.ClaimMapViews
import Derived.JoinedTies
import Derived.KernelRfl
namespace Go.Proofs.Ytmlmiclgledcpaa
/- THE CELL 'sum', in the pinned program and in every row, IS THE sha256 OF THE DUMP (.gsa) THAT YtmlmiclgledcpaaProg.lean LOADS. Nothing in Lean hashes anything: it is a label: what it is worth is what the hold of that sum in a sandbox is worth. -/
noncomputable def Try.pinned : Pinned := { name := "ytmlmiclgledcpaa", sum := "b745fdffe56e2ea4d2c5ca3a597740d39a0dce9b796d1e3df8f51d4e89247e29", checked := Try.checked }
namespace Rows
def none {H : Type} : Left H := { results := [], args := [] }

/-- 'laws.FnTrees': WHATEVER THE INPUT: true; the input reads as it did. -/
def fnTreesSpec : ChangeSpec := { name := "fnTrees", fn := fun _ => fun
  | [d] => { results := [.lit (.bool true)], args := [d] }
  | _ => none }
def fnTreesRow : OpenClaim := { program := "ytmlmiclgledcpaa", sum := "b745fdffe56e2ea4d2c5ca3a597740d39a0dce9b796d1e3df8f51d4e89247e29", func := "loop.example/g00586/laws.FnTrees", spec := "fnTrees", apart := false }
def FnTreesSaid : Prop := fnTreesRow.holds Try.pinned (OpenSpec.ofChange fnTreesSpec)

/-- ITS FALSE NEIGHBOUR: 'it returns false'. Refute it at one input. -/
def fnTreesWrong : ChangeSpec := { name := "fnTrees", fn := fun _ => fun
  | [d] => { results := [.lit (.bool false)], args := [d] }
  | _ => none }
def FnTreesWrongFalsely : Prop := fnTreesRow.holds Try.pinned (OpenSpec.ofChange fnTreesWrong)

/-- 'laws.FnTexts': WHATEVER THE INPUT: true; the input reads as it did. -/
def fnTextsSpec : ChangeSpec := { name := "fnTexts", fn := fun _ => fun
  | [d] => { results := [.lit (.bool true)], args := [d] }
  | _ => none }
def fnTextsRow : OpenClaim := { program := "ytmlmiclgledcpaa", sum := "b745fdffe56e2ea4d2c5ca3a597740d39a0dce9b796d1e3df8f51d4e89247e29", func := "loop.example/g00586/laws.FnTexts", spec := "fnTexts", inPlace := ["internal/abi.NoEscape", "internal/bytealg.MakeNoZero"], apart := false }
def FnTextsSaid : Prop := fnTextsRow.holds Try.pinned (OpenSpec.ofChange fnTextsSpec)

/-- ITS FALSE NEIGHBOUR: 'it returns false'. Refute it at one input. -/
def fnTextsWrong : ChangeSpec := { name := "fnTexts", fn := fun _ => fun
  | [d] => { results := [.lit (.bool false)], args := [d] }
  | _ => none }
def FnTextsWrongFalsely : Prop := fnTextsRow.holds Try.pinned (OpenSpec.ofChange fnTextsWrong)

/-- 'laws.FnExactColorOf': WHATEVER THE INPUT: true; the input reads as it did. -/
def fnExactColorOfSpec : ChangeSpec := { name := "fnExactColorOf", fn := fun _ => fun
  | [d1, d2] => { results := [.lit (.bool true)], args := [d1, d2] }
  | _ => none }
def fnExactColorOfRow : OpenClaim := { program := "ytmlmiclgledcpaa", sum := "b745fdffe56e2ea4d2c5ca3a597740d39a0dce9b796d1e3df8f51d4e89247e29", func := "loop.example/g00586/laws.FnExactColorOf", spec := "fnExactColorOf", apart := false }
def FnExactColorOfSaid : Prop := fnExactColorOfRow.holds Try.pinned (OpenSpec.ofChange fnExactColorOfSpec)

/-- ITS FALSE NEIGHBOUR: 'it returns false'. Refute it at one input. -/
def fnExactColorOfWrong : ChangeSpec := { name := "fnExactColorOf", fn := fun _ => fun
  | [d1, d2] => { results := [.lit (.bool false)], args := [d1, d2] }
  | _ => none }
def FnExactColorOfWrongFalsely : Prop := fnExactColorOfRow.holds Try.pinned (OpenSpec.ofChange fnExactColorOfWrong)

/-- 'laws.FnExactColorAt': WHATEVER THE INPUT: true; the input reads as it did. -/
def fnExactColorAtSpec : ChangeSpec := { name := "fnExactColorAt", fn := fun _ => fun
  | [d1, d2, d3] => { results := [.lit (.bool true)], args := [d1, d2, d3] }
  | _ => none }
def fnExactColorAtRow : OpenClaim := { program := "ytmlmiclgledcpaa", sum := "b745fdffe56e2ea4d2c5ca3a597740d39a0dce9b796d1e3df8f51d4e89247e29", func := "loop.example/g00586/laws.FnExactColorAt", spec := "fnExactColorAt", apart := false }
def FnExactColorAtSaid : Prop := fnExactColorAtRow.holds Try.pinned (OpenSpec.ofChange fnExactColorAtSpec)

/-- ITS FALSE NEIGHBOUR: 'it returns false'. Refute it at one input. -/
def fnExactColorAtWrong : ChangeSpec := { name := "fnExactColorAt", fn := fun _ => fun
  | [d1, d2, d3] => { results := [.lit (.bool false)], args := [d1, d2, d3] }
  | _ => none }
def FnExactColorAtWrongFalsely : Prop := fnExactColorAtRow.holds Try.pinned (OpenSpec.ofChange fnExactColorAtWrong)

/-- 'laws.FnExactJoinSheets': WHATEVER THE INPUT: true; the input reads as it did. -/
def fnExactJoinSheetsSpec : ChangeSpec := { name := "fnExactJoinSheets", fn := fun _ => fun
  | [d] => { results := [.lit (.bool true)], args := [d] }
  | _ => none }
def fnExactJoinSheetsRow : OpenClaim := { program := "ytmlmiclgledcpaa", sum := "b745fdffe56e2ea4d2c5ca3a597740d39a0dce9b796d1e3df8f51d4e89247e29", func := "loop.example/g00586/laws.FnExactJoinSheets", spec := "fnExactJoinSheets", unfollowed := true, recurses := true, apart := false }
def FnExactJoinSheetsSaid : Prop := fnExactJoinSheetsRow.holds Try.pinned (OpenSpec.ofChange fnExactJoinSheetsSpec)

/-- ITS FALSE NEIGHBOUR: 'it returns false'. Refute it at one input. -/
def fnExactJoinSheetsWrong : ChangeSpec := { name := "fnExactJoinSheets", fn := fun _ => fun
  | [d] => { results := [.lit (.bool false)], args := [d] }
  | _ => none }
def FnExactJoinSheetsWrongFalsely : Prop := fnExactJoinSheetsRow.holds Try.pinned (OpenSpec.ofChange fnExactJoinSheetsWrong)

/-- 'laws.FnExactEqualSheets': WHATEVER THE INPUT: true; the input reads as it did. -/
def fnExactEqualSheetsSpec : ChangeSpec := { name := "fnExactEqualSheets", fn := fun _ => fun
  | [d1, d2] => { results := [.lit (.bool true)], args := [d1, d2] }
  | _ => none }
def fnExactEqualSheetsRow : OpenClaim := { program := "ytmlmiclgledcpaa", sum := "b745fdffe56e2ea4d2c5ca3a597740d39a0dce9b796d1e3df8f51d4e89247e29", func := "loop.example/g00586/laws.FnExactEqualSheets", spec := "fnExactEqualSheets", unfollowed := true, recurses := true, apart := false }
def FnExactEqualSheetsSaid : Prop := fnExactEqualSheetsRow.holds Try.pinned (OpenSpec.ofChange fnExactEqualSheetsSpec)

/-- ITS FALSE NEIGHBOUR: 'it returns false'. Refute it at one input. -/
def fnExactEqualSheetsWrong : ChangeSpec := { name := "fnExactEqualSheets", fn := fun _ => fun
  | [d1, d2] => { results := [.lit (.bool false)], args := [d1, d2] }
  | _ => none }
def FnExactEqualSheetsWrongFalsely : Prop := fnExactEqualSheetsRow.holds Try.pinned (OpenSpec.ofChange fnExactEqualSheetsWrong)

/- THE SECOND FORM. 'bulk': how many values and letters a reading holds, each counted each time it is reached (what is shared counts as often as it is met; a slice's spare places count too). A statement '..UptoSaid' is the law's where the arguments, and the package variables that the reading takes, are together of bulk at most 1048576: NARROWER than '..Said'. Prove '..Said' where nothing that the law and all that it calls make is longer than what came in: it says more and counts as full. Else prove '..UptoSaid'. A law counts once. -/
mutual
def uptoBulk {H : Type} : DataW H → Nat
  | .lit (.string bytes) => bytes.length + 1
  | .lit _ => 1
  | .nil => 1
  | .ptr d => uptoBulk d + 1
  | .slice elems spare => uptoBulkAll elems + uptoBulkAll spare + 1
  | .agg parts => uptoBulkAll parts + 1
  | .iface _ d => uptoBulk d + 1
  | .map entries => uptoBulkEntries entries + 1
  | .held _ => 1
def uptoBulkAll {H : Type} : List (DataW H) → Nat
  | [] => 0
  | d :: r => uptoBulk d + uptoBulkAll r
def uptoBulkEntries {H : Type} : List (Lit × DataW H) → Nat
  | [] => 0
  | x :: r => uptoBulkEntry x + uptoBulkEntries r
def uptoBulkEntry {H : Type} : Lit × DataW H → Nat
  | (.string bytes, d) => bytes.length + uptoBulk d + 1
  | (_, d) => uptoBulk d + 1
 end
def uptoSmall : (H : Type) → List (DataW H) → Bool := fun _ ds => decide (uptoBulkAll ds ≤ 1048576)
def OpenSpec.upto (s : _root_.Go.ChangeSpec) : _root_.Go.OpenSpec := { _root_.Go.OpenSpec.ofChange s with cond := some uptoSmall }

/-- 'laws.FnTrees', WHERE WHAT IT READS IS OF BULK AT MOST 1048576: true; the input reads as it did. -/
def fnTreesUptoRow : OpenClaim := { program := "ytmlmiclgledcpaa", sum := "b745fdffe56e2ea4d2c5ca3a597740d39a0dce9b796d1e3df8f51d4e89247e29", func := "loop.example/g00586/laws.FnTrees", spec := "fnTrees", apart := false, narrowed := true }
def FnTreesUptoSaid : Prop := fnTreesUptoRow.holds Try.pinned (OpenSpec.upto fnTreesSpec)

/-- 'laws.FnTexts', WHERE WHAT IT READS IS OF BULK AT MOST 1048576: true; the input reads as it did. -/
def fnTextsUptoRow : OpenClaim := { program := "ytmlmiclgledcpaa", sum := "b745fdffe56e2ea4d2c5ca3a597740d39a0dce9b796d1e3df8f51d4e89247e29", func := "loop.example/g00586/laws.FnTexts", spec := "fnTexts", inPlace := ["internal/abi.NoEscape", "internal/bytealg.MakeNoZero"], apart := false, narrowed := true }
def FnTextsUptoSaid : Prop := fnTextsUptoRow.holds Try.pinned (OpenSpec.upto fnTextsSpec)

/-- 'laws.FnExactColorOf', WHERE WHAT IT READS IS OF BULK AT MOST 1048576: true; the input reads as it did. -/
def fnExactColorOfUptoRow : OpenClaim := { program := "ytmlmiclgledcpaa", sum := "b745fdffe56e2ea4d2c5ca3a597740d39a0dce9b796d1e3df8f51d4e89247e29", func := "loop.example/g00586/laws.FnExactColorOf", spec := "fnExactColorOf", apart := false, narrowed := true }
def FnExactColorOfUptoSaid : Prop := fnExactColorOfUptoRow.holds Try.pinned (OpenSpec.upto fnExactColorOfSpec)

/-- 'laws.FnExactColorAt', WHERE WHAT IT READS IS OF BULK AT MOST 1048576: true; the input reads as it did. -/
def fnExactColorAtUptoRow : OpenClaim := { program := "ytmlmiclgledcpaa", sum := "b745fdffe56e2ea4d2c5ca3a597740d39a0dce9b796d1e3df8f51d4e89247e29", func := "loop.example/g00586/laws.FnExactColorAt", spec := "fnExactColorAt", apart := false, narrowed := true }
def FnExactColorAtUptoSaid : Prop := fnExactColorAtUptoRow.holds Try.pinned (OpenSpec.upto fnExactColorAtSpec)

/-- 'laws.FnExactJoinSheets', WHERE WHAT IT READS IS OF BULK AT MOST 1048576: true; the input reads as it did. -/
def fnExactJoinSheetsUptoRow : OpenClaim := { program := "ytmlmiclgledcpaa", sum := "b745fdffe56e2ea4d2c5ca3a597740d39a0dce9b796d1e3df8f51d4e89247e29", func := "loop.example/g00586/laws.FnExactJoinSheets", spec := "fnExactJoinSheets", unfollowed := true, recurses := true, apart := false, narrowed := true }
def FnExactJoinSheetsUptoSaid : Prop := fnExactJoinSheetsUptoRow.holds Try.pinned (OpenSpec.upto fnExactJoinSheetsSpec)

/-- 'laws.FnExactEqualSheets', WHERE WHAT IT READS IS OF BULK AT MOST 1048576: true; the input reads as it did. -/
def fnExactEqualSheetsUptoRow : OpenClaim := { program := "ytmlmiclgledcpaa", sum := "b745fdffe56e2ea4d2c5ca3a597740d39a0dce9b796d1e3df8f51d4e89247e29", func := "loop.example/g00586/laws.FnExactEqualSheets", spec := "fnExactEqualSheets", unfollowed := true, recurses := true, apart := false, narrowed := true }
def FnExactEqualSheetsUptoSaid : Prop := fnExactEqualSheetsUptoRow.holds Try.pinned (OpenSpec.upto fnExactEqualSheetsSpec)

end Rows
end Go.Proofs.Ytmlmiclgledcpaa

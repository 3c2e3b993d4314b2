/-
  No cell of these rows narrows 'for every input' (looked for: loops, veiled, ifaces, maps, wideKeys, modest, calm, conditions, laid).
  DERIVED. THE GIVEN ROWS OF THIS SEAT. 8 by the template 'for every input the law returns true; each argument reads behind the call as it read before'; 0 by the template 'total and deterministic' (their statements: YtojpbdhkcpfeaaaTotals.lean).
  GIVEN WITH THE SEED: the statements are not yours to turn. If you find one false, say at which input.
  Laid BY PROGRAM, IN A SANDBOX (cutbox-rows.mjs): the forced cells as the released guide's own fill.sh prints them over the translation 4164334c721f9a7e… (all of the seat's roots in one cut). By AI agents, Wed Nov 11 2026. No macro, syntax, notation, axiom, sorry.
-/
import Derived.Test.YtojpbdhkcpfeaaaChecked
import GoSem.Claim
import GoSem.ClaimJoined
import GoSem.ClaimMapViews
import Derived.JoinedTies
import Derived.KernelRfl
namespace Go.Proofs.Ytojpbdhkcpfeaaa
/- THE CELL 'sum', in the pinned program and in every row, IS THE sha256 OF THE DUMP (.gsa) THAT YtojpbdhkcpfeaaaProg.lean LOADS. Nothing in Lean hashes anything: it is a label: what it is worth is what the hold of that sum in a sandbox is worth. -/
noncomputable def Try.pinned : Pinned := { name := "ytojpbdhkcpfeaaa", sum := "4164334c721f9a7ee0e2df4ccd68e9518f02f5d303c3f4fa75f7ce891da24281", checked := Try.checked }
namespace Rows
def none {H : Type} : Left H := { results := [], args := [] }

/-- 'laws.FnAddrs': WHATEVER THE INPUT: true; the input reads as it did. -/
def fnAddrsSpec : ChangeSpec := { name := "fnAddrs", fn := fun _ => fun
  | [d] => { results := [.lit (.bool true)], args := [d] }
  | _ => none }
def fnAddrsRow : OpenClaim := { program := "ytojpbdhkcpfeaaa", sum := "4164334c721f9a7ee0e2df4ccd68e9518f02f5d303c3f4fa75f7ce891da24281", func := "loop.example/g00586/laws.FnAddrs", spec := "fnAddrs", inPlace := ["internal/bytealg.IndexByteString", "internal/bytealg.IndexString", "internal/bytealg.abigen_runtime_cmpstring"], unfollowed := true, recurses := true, named := ["internal/bytealg.MaxLen"], apart := false }
def FnAddrsSaid : Prop := fnAddrsRow.holds Try.pinned (OpenSpec.ofChange fnAddrsSpec)

/-- ITS FALSE NEIGHBOUR: 'it returns false'. Refute it at one input. -/
def fnAddrsWrong : ChangeSpec := { name := "fnAddrs", fn := fun _ => fun
  | [d] => { results := [.lit (.bool false)], args := [d] }
  | _ => none }
def FnAddrsWrongFalsely : Prop := fnAddrsRow.holds Try.pinned (OpenSpec.ofChange fnAddrsWrong)

/-- 'laws.FnExactIsName': WHATEVER THE INPUT: true; the input reads as it did. -/
def fnExactIsNameSpec : ChangeSpec := { name := "fnExactIsName", fn := fun _ => fun
  | [d] => { results := [.lit (.bool true)], args := [d] }
  | _ => none }
def fnExactIsNameRow : OpenClaim := { program := "ytojpbdhkcpfeaaa", sum := "4164334c721f9a7ee0e2df4ccd68e9518f02f5d303c3f4fa75f7ce891da24281", func := "loop.example/g00586/laws.FnExactIsName", spec := "fnExactIsName", apart := false }
def FnExactIsNameSaid : Prop := fnExactIsNameRow.holds Try.pinned (OpenSpec.ofChange fnExactIsNameSpec)

/-- ITS FALSE NEIGHBOUR: 'it returns false'. Refute it at one input. -/
def fnExactIsNameWrong : ChangeSpec := { name := "fnExactIsName", fn := fun _ => fun
  | [d] => { results := [.lit (.bool false)], args := [d] }
  | _ => none }
def FnExactIsNameWrongFalsely : Prop := fnExactIsNameRow.holds Try.pinned (OpenSpec.ofChange fnExactIsNameWrong)

/-- 'laws.FnExactIsAddr': WHATEVER THE INPUT: true; the input reads as it did. -/
def fnExactIsAddrSpec : ChangeSpec := { name := "fnExactIsAddr", fn := fun _ => fun
  | [d] => { results := [.lit (.bool true)], args := [d] }
  | _ => none }
def fnExactIsAddrRow : OpenClaim := { program := "ytojpbdhkcpfeaaa", sum := "4164334c721f9a7ee0e2df4ccd68e9518f02f5d303c3f4fa75f7ce891da24281", func := "loop.example/g00586/laws.FnExactIsAddr", spec := "fnExactIsAddr", apart := false }
def FnExactIsAddrSaid : Prop := fnExactIsAddrRow.holds Try.pinned (OpenSpec.ofChange fnExactIsAddrSpec)

/-- ITS FALSE NEIGHBOUR: 'it returns false'. Refute it at one input. -/
def fnExactIsAddrWrong : ChangeSpec := { name := "fnExactIsAddr", fn := fun _ => fun
  | [d] => { results := [.lit (.bool false)], args := [d] }
  | _ => none }
def FnExactIsAddrWrongFalsely : Prop := fnExactIsAddrRow.holds Try.pinned (OpenSpec.ofChange fnExactIsAddrWrong)

/-- 'laws.FnExactFormatAddr': WHATEVER THE INPUT: true; the input reads as it did. -/
def fnExactFormatAddrSpec : ChangeSpec := { name := "fnExactFormatAddr", fn := fun _ => fun
  | [d] => { results := [.lit (.bool true)], args := [d] }
  | _ => none }
def fnExactFormatAddrRow : OpenClaim := { program := "ytojpbdhkcpfeaaa", sum := "4164334c721f9a7ee0e2df4ccd68e9518f02f5d303c3f4fa75f7ce891da24281", func := "loop.example/g00586/laws.FnExactFormatAddr", spec := "fnExactFormatAddr", apart := false }
def FnExactFormatAddrSaid : Prop := fnExactFormatAddrRow.holds Try.pinned (OpenSpec.ofChange fnExactFormatAddrSpec)

/-- ITS FALSE NEIGHBOUR: 'it returns false'. Refute it at one input. -/
def fnExactFormatAddrWrong : ChangeSpec := { name := "fnExactFormatAddr", fn := fun _ => fun
  | [d] => { results := [.lit (.bool false)], args := [d] }
  | _ => none }
def FnExactFormatAddrWrongFalsely : Prop := fnExactFormatAddrRow.holds Try.pinned (OpenSpec.ofChange fnExactFormatAddrWrong)

/-- 'laws.FnExactParseAddr': WHATEVER THE INPUT: true; the input reads as it did. -/
def fnExactParseAddrSpec : ChangeSpec := { name := "fnExactParseAddr", fn := fun _ => fun
  | [d1, d2] => { results := [.lit (.bool true)], args := [d1, d2] }
  | _ => none }
def fnExactParseAddrRow : OpenClaim := { program := "ytojpbdhkcpfeaaa", sum := "4164334c721f9a7ee0e2df4ccd68e9518f02f5d303c3f4fa75f7ce891da24281", func := "loop.example/g00586/laws.FnExactParseAddr", spec := "fnExactParseAddr", inPlace := ["internal/bytealg.IndexByteString", "internal/bytealg.IndexString"], named := ["internal/bytealg.MaxLen"], apart := false }
def FnExactParseAddrSaid : Prop := fnExactParseAddrRow.holds Try.pinned (OpenSpec.ofChange fnExactParseAddrSpec)

/-- ITS FALSE NEIGHBOUR: 'it returns false'. Refute it at one input. -/
def fnExactParseAddrWrong : ChangeSpec := { name := "fnExactParseAddr", fn := fun _ => fun
  | [d1, d2] => { results := [.lit (.bool false)], args := [d1, d2] }
  | _ => none }
def FnExactParseAddrWrongFalsely : Prop := fnExactParseAddrRow.holds Try.pinned (OpenSpec.ofChange fnExactParseAddrWrong)

/-- 'laws.FnExactCompareAddrs': WHATEVER THE INPUT: true; the input reads as it did. -/
def fnExactCompareAddrsSpec : ChangeSpec := { name := "fnExactCompareAddrs", fn := fun _ => fun
  | [d1, d2] => { results := [.lit (.bool true)], args := [d1, d2] }
  | _ => none }
def fnExactCompareAddrsRow : OpenClaim := { program := "ytojpbdhkcpfeaaa", sum := "4164334c721f9a7ee0e2df4ccd68e9518f02f5d303c3f4fa75f7ce891da24281", func := "loop.example/g00586/laws.FnExactCompareAddrs", spec := "fnExactCompareAddrs", inPlace := ["internal/bytealg.abigen_runtime_cmpstring"], apart := false }
def FnExactCompareAddrsSaid : Prop := fnExactCompareAddrsRow.holds Try.pinned (OpenSpec.ofChange fnExactCompareAddrsSpec)

/-- ITS FALSE NEIGHBOUR: 'it returns false'. Refute it at one input. -/
def fnExactCompareAddrsWrong : ChangeSpec := { name := "fnExactCompareAddrs", fn := fun _ => fun
  | [d1, d2] => { results := [.lit (.bool false)], args := [d1, d2] }
  | _ => none }
def FnExactCompareAddrsWrongFalsely : Prop := fnExactCompareAddrsRow.holds Try.pinned (OpenSpec.ofChange fnExactCompareAddrsWrong)

/-- 'laws.FnExactSortAddrs': WHATEVER THE INPUT: true; the input reads as it did. -/
def fnExactSortAddrsSpec : ChangeSpec := { name := "fnExactSortAddrs", fn := fun _ => fun
  | [d] => { results := [.lit (.bool true)], args := [d] }
  | _ => none }
def fnExactSortAddrsRow : OpenClaim := { program := "ytojpbdhkcpfeaaa", sum := "4164334c721f9a7ee0e2df4ccd68e9518f02f5d303c3f4fa75f7ce891da24281", func := "loop.example/g00586/laws.FnExactSortAddrs", spec := "fnExactSortAddrs", inPlace := ["internal/bytealg.abigen_runtime_cmpstring"], unfollowed := true, recurses := true, apart := false }
def FnExactSortAddrsSaid : Prop := fnExactSortAddrsRow.holds Try.pinned (OpenSpec.ofChange fnExactSortAddrsSpec)

/-- ITS FALSE NEIGHBOUR: 'it returns false'. Refute it at one input. -/
def fnExactSortAddrsWrong : ChangeSpec := { name := "fnExactSortAddrs", fn := fun _ => fun
  | [d] => { results := [.lit (.bool false)], args := [d] }
  | _ => none }
def FnExactSortAddrsWrongFalsely : Prop := fnExactSortAddrsRow.holds Try.pinned (OpenSpec.ofChange fnExactSortAddrsWrong)

/-- 'laws.FnExactHasAddr': WHATEVER THE INPUT: true; the input reads as it did. -/
def fnExactHasAddrSpec : ChangeSpec := { name := "fnExactHasAddr", fn := fun _ => fun
  | [d1, d2] => { results := [.lit (.bool true)], args := [d1, d2] }
  | _ => none }
def fnExactHasAddrRow : OpenClaim := { program := "ytojpbdhkcpfeaaa", sum := "4164334c721f9a7ee0e2df4ccd68e9518f02f5d303c3f4fa75f7ce891da24281", func := "loop.example/g00586/laws.FnExactHasAddr", spec := "fnExactHasAddr", apart := false }
def FnExactHasAddrSaid : Prop := fnExactHasAddrRow.holds Try.pinned (OpenSpec.ofChange fnExactHasAddrSpec)

/-- ITS FALSE NEIGHBOUR: 'it returns false'. Refute it at one input. -/
def fnExactHasAddrWrong : ChangeSpec := { name := "fnExactHasAddr", fn := fun _ => fun
  | [d1, d2] => { results := [.lit (.bool false)], args := [d1, d2] }
  | _ => none }
def FnExactHasAddrWrongFalsely : Prop := fnExactHasAddrRow.holds Try.pinned (OpenSpec.ofChange fnExactHasAddrWrong)

/- THE SECOND FORM. 'bulk': how many values and letters a reading holds, each counted each time it is reached (what is shared counts as often as it is met; a slice's spare places count too). A statement '..UptoSaid' is the law's where the arguments, and the package variables that the reading takes, are together of bulk at most 1048576: NARROWER than '..Said'. Prove '..Said' where nothing that the law and all that it calls make is longer than what came in: it says more and counts as full. Else prove '..UptoSaid'. A law counts once. -/
mutual
def uptoBulk {H : Type} : DataW H → Nat
  | .lit (.string bytes) => bytes.length + 1
  | .lit _ => 1
  | .nil => 1
  | .ptr d => uptoBulk d + 1
  | .slice elems spare => uptoBulkAll elems + uptoBulkAll spare + 1
  | .agg parts => uptoBulkAll parts + 1
  | .iface _ d => uptoBulk d + 1
  | .map entries => uptoBulkEntries entries + 1
  | .held _ => 1
def uptoBulkAll {H : Type} : List (DataW H) → Nat
  | [] => 0
  | d :: r => uptoBulk d + uptoBulkAll r
def uptoBulkEntries {H : Type} : List (Lit × DataW H) → Nat
  | [] => 0
  | x :: r => uptoBulkEntry x + uptoBulkEntries r
def uptoBulkEntry {H : Type} : Lit × DataW H → Nat
  | (.string bytes, d) => bytes.length + uptoBulk d + 1
  | (_, d) => uptoBulk d + 1
 end
def uptoSmall : (H : Type) → List (DataW H) → Bool := fun _ ds => decide (uptoBulkAll ds ≤ 1048576)
def OpenSpec.upto (s : _root_.Go.ChangeSpec) : _root_.Go.OpenSpec := { _root_.Go.OpenSpec.ofChange s with cond := some uptoSmall }

/-- 'laws.FnAddrs', WHERE WHAT IT READS IS OF BULK AT MOST 1048576: true; the input reads as it did. -/
def fnAddrsUptoRow : OpenClaim := { program := "ytojpbdhkcpfeaaa", sum := "4164334c721f9a7ee0e2df4ccd68e9518f02f5d303c3f4fa75f7ce891da24281", func := "loop.example/g00586/laws.FnAddrs", spec := "fnAddrs", inPlace := ["internal/bytealg.IndexByteString", "internal/bytealg.IndexString", "internal/bytealg.abigen_runtime_cmpstring"], unfollowed := true, recurses := true, named := ["internal/bytealg.MaxLen"], apart := false, narrowed := true }
def FnAddrsUptoSaid : Prop := fnAddrsUptoRow.holds Try.pinned (OpenSpec.upto fnAddrsSpec)

/-- 'laws.FnExactIsName', WHERE WHAT IT READS IS OF BULK AT MOST 1048576: true; the input reads as it did. -/
def fnExactIsNameUptoRow : OpenClaim := { program := "ytojpbdhkcpfeaaa", sum := "4164334c721f9a7ee0e2df4ccd68e9518f02f5d303c3f4fa75f7ce891da24281", func := "loop.example/g00586/laws.FnExactIsName", spec := "fnExactIsName", apart := false, narrowed := true }
def FnExactIsNameUptoSaid : Prop := fnExactIsNameUptoRow.holds Try.pinned (OpenSpec.upto fnExactIsNameSpec)

/-- 'laws.FnExactIsAddr', WHERE WHAT IT READS IS OF BULK AT MOST 1048576: true; the input reads as it did. -/
def fnExactIsAddrUptoRow : OpenClaim := { program := "ytojpbdhkcpfeaaa", sum := "4164334c721f9a7ee0e2df4ccd68e9518f02f5d303c3f4fa75f7ce891da24281", func := "loop.example/g00586/laws.FnExactIsAddr", spec := "fnExactIsAddr", apart := false, narrowed := true }
def FnExactIsAddrUptoSaid : Prop := fnExactIsAddrUptoRow.holds Try.pinned (OpenSpec.upto fnExactIsAddrSpec)

/-- 'laws.FnExactFormatAddr', WHERE WHAT IT READS IS OF BULK AT MOST 1048576: true; the input reads as it did. -/
def fnExactFormatAddrUptoRow : OpenClaim := { program := "ytojpbdhkcpfeaaa", sum := "4164334c721f9a7ee0e2df4ccd68e9518f02f5d303c3f4fa75f7ce891da24281", func := "loop.example/g00586/laws.FnExactFormatAddr", spec := "fnExactFormatAddr", apart := false, narrowed := true }
def FnExactFormatAddrUptoSaid : Prop := fnExactFormatAddrUptoRow.holds Try.pinned (OpenSpec.upto fnExactFormatAddrSpec)

/-- 'laws.FnExactParseAddr', WHERE WHAT IT READS IS OF BULK AT MOST 1048576: true; the input reads as it did. -/
def fnExactParseAddrUptoRow : OpenClaim := { program := "ytojpbdhkcpfeaaa", sum := "4164334c721f9a7ee0e2df4ccd68e9518f02f5d303c3f4fa75f7ce891da24281", func := "loop.example/g00586/laws.FnExactParseAddr", spec := "fnExactParseAddr", inPlace := ["internal/bytealg.IndexByteString", "internal/bytealg.IndexString"], named := ["internal/bytealg.MaxLen"], apart := false, narrowed := true }
def FnExactParseAddrUptoSaid : Prop := fnExactParseAddrUptoRow.holds Try.pinned (OpenSpec.upto fnExactParseAddrSpec)

/-- 'laws.FnExactCompareAddrs', WHERE WHAT IT READS IS OF BULK AT MOST 1048576: true; the input reads as it did. -/
def fnExactCompareAddrsUptoRow : OpenClaim := { program := "ytojpbdhkcpfeaaa", sum := "4164334c721f9a7ee0e2df4ccd68e9518f02f5d303c3f4fa75f7ce891da24281", func := "loop.example/g00586/laws.FnExactCompareAddrs", spec := "fnExactCompareAddrs", inPlace := ["internal/bytealg.abigen_runtime_cmpstring"], apart := false, narrowed := true }
def FnExactCompareAddrsUptoSaid : Prop := fnExactCompareAddrsUptoRow.holds Try.pinned (OpenSpec.upto fnExactCompareAddrsSpec)

/-- 'laws.FnExactSortAddrs', WHERE WHAT IT READS IS OF BULK AT MOST 1048576: true; the input reads as it did. -/
def fnExactSortAddrsUptoRow : OpenClaim := { program := "ytojpbdhkcpfeaaa", sum := "4164334c721f9a7ee0e2df4ccd68e9518f02f5d303c3f4fa75f7ce891da24281", func := "loop.example/g00586/laws.FnExactSortAddrs", spec := "fnExactSortAddrs", inPlace := ["internal/bytealg.abigen_runtime_cmpstring"], unfollowed := true, recurses := true, apart := false, narrowed := true }
def FnExactSortAddrsUptoSaid : Prop := fnExactSortAddrsUptoRow.holds Try.pinned (OpenSpec.upto fnExactSortAddrsSpec)

/-- 'laws.FnExactHasAddr', WHERE WHAT IT READS IS OF BULK AT MOST 1048576: true; the input reads as it did. -/
def fnExactHasAddrUptoRow : OpenClaim := { program := "ytojpbdhkcpfeaaa", sum := "4164334c721f9a7ee0e2df4ccd68e9518f02f5d303c3f4fa75f7ce891da24281", func := "loop.example/g00586/laws.FnExactHasAddr", spec := "fnExactHasAddr", apart := false, narrowed := true }
def FnExactHasAddrUptoSaid : Prop := fnExactHasAddrUptoRow.holds Try.pinned (OpenSpec.upto fnExactHasAddrSpec)

end Rows
end Go.Proofs.Ytojpbdhkcpfeaaa

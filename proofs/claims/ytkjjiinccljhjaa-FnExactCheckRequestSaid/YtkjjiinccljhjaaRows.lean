/-
  No cell of these rows narrows 'for every input' (looked for: loops, veiled, ifaces, maps, wideKeys, modest, calm, conditions, laid).
  DERIVED. THE GIVEN ROWS OF THIS SEAT. 5 by the template 'for every input the law returns true; each argument reads behind the call as it read before'; 0 by the template 'total and deterministic' (their statements: YtkjjiinccljhjaaTotals.lean).
  GIVEN WITH THE SEED: the statements are not yours to turn. If you find one false, say at which input.
  Laid BY PROGRAM, IN A SANDBOX (cutbox-rows.mjs): the forced cells as the released guide's own fill.sh prints them over the translation 6cb6d103e56189b2… (all of the seat's roots in one cut). By AI agents, Wed Nov 11 2026. No macro, syntax, notation, axiom, sorry.
-/
import Derived.Test.YtkjjiinccljhjaaChecked
import GoSem.Claim
import GoSem.ClaimJoined
import GoSem.ClaimMapViews
import Derived.JoinedTies
import Derived.KernelRfl
namespace Go.Proofs.Ytkjjiinccljhjaa
/- THE CELL 'sum', in the pinned program and in every row, IS THE sha256 OF THE DUMP (.gsa) THAT YtkjjiinccljhjaaProg.lean LOADS. Nothing in Lean hashes anything: it is a label: what it is worth is what the hold of that sum in a sandbox is worth. -/
noncomputable def Try.pinned : Pinned := { name := "ytkjjiinccljhjaa", sum := "6cb6d103e56189b25ed510b3755f4cf3a56158b247b7e1ef0e070ca4e2166ee0", checked := Try.checked }
namespace Rows
def none {H : Type} : Left H := { results := [], args := [] }

/-- 'laws.FnExactIsRequest': WHATEVER THE INPUT: true; the input reads as it did. -/
def fnExactIsRequestSpec : ChangeSpec := { name := "fnExactIsRequest", fn := fun _ => fun
  | [d] => { results := [.lit (.bool true)], args := [d] }
  | _ => none }
def fnExactIsRequestRow : OpenClaim := { program := "ytkjjiinccljhjaa", sum := "6cb6d103e56189b25ed510b3755f4cf3a56158b247b7e1ef0e070ca4e2166ee0", func := "loop.example/g00586/laws.FnExactIsRequest", spec := "fnExactIsRequest", apart := false }
def FnExactIsRequestSaid : Prop := fnExactIsRequestRow.holds Try.pinned (OpenSpec.ofChange fnExactIsRequestSpec)

/-- ITS FALSE NEIGHBOUR: 'it returns false'. Refute it at one input. -/
def fnExactIsRequestWrong : ChangeSpec := { name := "fnExactIsRequest", fn := fun _ => fun
  | [d] => { results := [.lit (.bool false)], args := [d] }
  | _ => none }
def FnExactIsRequestWrongFalsely : Prop := fnExactIsRequestRow.holds Try.pinned (OpenSpec.ofChange fnExactIsRequestWrong)

/-- 'laws.FnExactCheckRequest': WHATEVER THE INPUT: true; the input reads as it did. -/
def fnExactCheckRequestSpec : ChangeSpec := { name := "fnExactCheckRequest", fn := fun _ => fun
  | [d1, d2] => { results := [.lit (.bool true)], args := [d1, d2] }
  | _ => none }
def fnExactCheckRequestRow : OpenClaim := { program := "ytkjjiinccljhjaa", sum := "6cb6d103e56189b25ed510b3755f4cf3a56158b247b7e1ef0e070ca4e2166ee0", func := "loop.example/g00586/laws.FnExactCheckRequest", spec := "fnExactCheckRequest", apart := false }
def FnExactCheckRequestSaid : Prop := fnExactCheckRequestRow.holds Try.pinned (OpenSpec.ofChange fnExactCheckRequestSpec)

/-- ITS FALSE NEIGHBOUR: 'it returns false'. Refute it at one input. -/
def fnExactCheckRequestWrong : ChangeSpec := { name := "fnExactCheckRequest", fn := fun _ => fun
  | [d1, d2] => { results := [.lit (.bool false)], args := [d1, d2] }
  | _ => none }
def FnExactCheckRequestWrongFalsely : Prop := fnExactCheckRequestRow.holds Try.pinned (OpenSpec.ofChange fnExactCheckRequestWrong)

/-- 'laws.FnExactVerdictName': WHATEVER THE INPUT: true; the input reads as it did. -/
def fnExactVerdictNameSpec : ChangeSpec := { name := "fnExactVerdictName", fn := fun _ => fun
  | [d] => { results := [.lit (.bool true)], args := [d] }
  | _ => none }
def fnExactVerdictNameRow : OpenClaim := { program := "ytkjjiinccljhjaa", sum := "6cb6d103e56189b25ed510b3755f4cf3a56158b247b7e1ef0e070ca4e2166ee0", func := "loop.example/g00586/laws.FnExactVerdictName", spec := "fnExactVerdictName", apart := false }
def FnExactVerdictNameSaid : Prop := fnExactVerdictNameRow.holds Try.pinned (OpenSpec.ofChange fnExactVerdictNameSpec)

/-- ITS FALSE NEIGHBOUR: 'it returns false'. Refute it at one input. -/
def fnExactVerdictNameWrong : ChangeSpec := { name := "fnExactVerdictName", fn := fun _ => fun
  | [d] => { results := [.lit (.bool false)], args := [d] }
  | _ => none }
def FnExactVerdictNameWrongFalsely : Prop := fnExactVerdictNameRow.holds Try.pinned (OpenSpec.ofChange fnExactVerdictNameWrong)

/-- 'laws.FnExactSameRequest': WHATEVER THE INPUT: true; the input reads as it did. -/
def fnExactSameRequestSpec : ChangeSpec := { name := "fnExactSameRequest", fn := fun _ => fun
  | [d1, d2] => { results := [.lit (.bool true)], args := [d1, d2] }
  | _ => none }
def fnExactSameRequestRow : OpenClaim := { program := "ytkjjiinccljhjaa", sum := "6cb6d103e56189b25ed510b3755f4cf3a56158b247b7e1ef0e070ca4e2166ee0", func := "loop.example/g00586/laws.FnExactSameRequest", spec := "fnExactSameRequest", apart := false }
def FnExactSameRequestSaid : Prop := fnExactSameRequestRow.holds Try.pinned (OpenSpec.ofChange fnExactSameRequestSpec)

/-- ITS FALSE NEIGHBOUR: 'it returns false'. Refute it at one input. -/
def fnExactSameRequestWrong : ChangeSpec := { name := "fnExactSameRequest", fn := fun _ => fun
  | [d1, d2] => { results := [.lit (.bool false)], args := [d1, d2] }
  | _ => none }
def FnExactSameRequestWrongFalsely : Prop := fnExactSameRequestRow.holds Try.pinned (OpenSpec.ofChange fnExactSameRequestWrong)

/-- 'laws.FnExactCanGuess': WHATEVER THE INPUT: true; the input reads as it did. -/
def fnExactCanGuessSpec : ChangeSpec := { name := "fnExactCanGuess", fn := fun _ => fun
  | [d] => { results := [.lit (.bool true)], args := [d] }
  | _ => none }
def fnExactCanGuessRow : OpenClaim := { program := "ytkjjiinccljhjaa", sum := "6cb6d103e56189b25ed510b3755f4cf3a56158b247b7e1ef0e070ca4e2166ee0", func := "loop.example/g00586/laws.FnExactCanGuess", spec := "fnExactCanGuess", apart := false }
def FnExactCanGuessSaid : Prop := fnExactCanGuessRow.holds Try.pinned (OpenSpec.ofChange fnExactCanGuessSpec)

/-- ITS FALSE NEIGHBOUR: 'it returns false'. Refute it at one input. -/
def fnExactCanGuessWrong : ChangeSpec := { name := "fnExactCanGuess", fn := fun _ => fun
  | [d] => { results := [.lit (.bool false)], args := [d] }
  | _ => none }
def FnExactCanGuessWrongFalsely : Prop := fnExactCanGuessRow.holds Try.pinned (OpenSpec.ofChange fnExactCanGuessWrong)

/- THE SECOND FORM. 'bulk': how many values and letters a reading holds, each counted each time it is reached (what is shared counts as often as it is met; a slice's spare places count too). A statement '..UptoSaid' is the law's where the arguments, and the package variables that the reading takes, are together of bulk at most 1048576: NARROWER than '..Said'. Prove '..Said' where nothing that the law and all that it calls make is longer than what came in: it says more and counts as full. Else prove '..UptoSaid'. A law counts once. -/
mutual
def uptoBulk {H : Type} : DataW H → Nat
  | .lit (.string bytes) => bytes.length + 1
  | .lit _ => 1
  | .nil => 1
  | .ptr d => uptoBulk d + 1
  | .slice elems spare => uptoBulkAll elems + uptoBulkAll spare + 1
  | .agg parts => uptoBulkAll parts + 1
  | .iface _ d => uptoBulk d + 1
  | .map entries => uptoBulkEntries entries + 1
  | .held _ => 1
def uptoBulkAll {H : Type} : List (DataW H) → Nat
  | [] => 0
  | d :: r => uptoBulk d + uptoBulkAll r
def uptoBulkEntries {H : Type} : List (Lit × DataW H) → Nat
  | [] => 0
  | x :: r => uptoBulkEntry x + uptoBulkEntries r
def uptoBulkEntry {H : Type} : Lit × DataW H → Nat
  | (.string bytes, d) => bytes.length + uptoBulk d + 1
  | (_, d) => uptoBulk d + 1
 end
def uptoSmall : (H : Type) → List (DataW H) → Bool := fun _ ds => decide (uptoBulkAll ds ≤ 1048576)
def OpenSpec.upto (s : _root_.Go.ChangeSpec) : _root_.Go.OpenSpec := { _root_.Go.OpenSpec.ofChange s with cond := some uptoSmall }

/-- 'laws.FnExactIsRequest', WHERE WHAT IT READS IS OF BULK AT MOST 1048576: true; the input reads as it did. -/
def fnExactIsRequestUptoRow : OpenClaim := { program := "ytkjjiinccljhjaa", sum := "6cb6d103e56189b25ed510b3755f4cf3a56158b247b7e1ef0e070ca4e2166ee0", func := "loop.example/g00586/laws.FnExactIsRequest", spec := "fnExactIsRequest", apart := false, narrowed := true }
def FnExactIsRequestUptoSaid : Prop := fnExactIsRequestUptoRow.holds Try.pinned (OpenSpec.upto fnExactIsRequestSpec)

/-- 'laws.FnExactCheckRequest', WHERE WHAT IT READS IS OF BULK AT MOST 1048576: true; the input reads as it did. -/
def fnExactCheckRequestUptoRow : OpenClaim := { program := "ytkjjiinccljhjaa", sum := "6cb6d103e56189b25ed510b3755f4cf3a56158b247b7e1ef0e070ca4e2166ee0", func := "loop.example/g00586/laws.FnExactCheckRequest", spec := "fnExactCheckRequest", apart := false, narrowed := true }
def FnExactCheckRequestUptoSaid : Prop := fnExactCheckRequestUptoRow.holds Try.pinned (OpenSpec.upto fnExactCheckRequestSpec)

/-- 'laws.FnExactVerdictName', WHERE WHAT IT READS IS OF BULK AT MOST 1048576: true; the input reads as it did. -/
def fnExactVerdictNameUptoRow : OpenClaim := { program := "ytkjjiinccljhjaa", sum := "6cb6d103e56189b25ed510b3755f4cf3a56158b247b7e1ef0e070ca4e2166ee0", func := "loop.example/g00586/laws.FnExactVerdictName", spec := "fnExactVerdictName", apart := false, narrowed := true }
def FnExactVerdictNameUptoSaid : Prop := fnExactVerdictNameUptoRow.holds Try.pinned (OpenSpec.upto fnExactVerdictNameSpec)

/-- 'laws.FnExactSameRequest', WHERE WHAT IT READS IS OF BULK AT MOST 1048576: true; the input reads as it did. -/
def fnExactSameRequestUptoRow : OpenClaim := { program := "ytkjjiinccljhjaa", sum := "6cb6d103e56189b25ed510b3755f4cf3a56158b247b7e1ef0e070ca4e2166ee0", func := "loop.example/g00586/laws.FnExactSameRequest", spec := "fnExactSameRequest", apart := false, narrowed := true }
def FnExactSameRequestUptoSaid : Prop := fnExactSameRequestUptoRow.holds Try.pinned (OpenSpec.upto fnExactSameRequestSpec)

/-- 'laws.FnExactCanGuess', WHERE WHAT IT READS IS OF BULK AT MOST 1048576: true; the input reads as it did. -/
def fnExactCanGuessUptoRow : OpenClaim := { program := "ytkjjiinccljhjaa", sum := "6cb6d103e56189b25ed510b3755f4cf3a56158b247b7e1ef0e070ca4e2166ee0", func := "loop.example/g00586/laws.FnExactCanGuess", spec := "fnExactCanGuess", apart := false, narrowed := true }
def FnExactCanGuessUptoSaid : Prop := fnExactCanGuessUptoRow.holds Try.pinned (OpenSpec.upto fnExactCanGuessSpec)

end Rows
end Go.Proofs.Ytkjjiinccljhjaa

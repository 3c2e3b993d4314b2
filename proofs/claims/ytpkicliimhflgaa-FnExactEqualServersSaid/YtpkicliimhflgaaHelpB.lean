/- Helper contracts over the functions with which the laws copy, compare, mark and look again at slices of bytes. Asked: the slices read as the lists named. -/
import Derived.Test.YtpkicliimhflgaaOwn
namespace Go.Proofs.Ytpkicliimhflgaa
open Go.ChangeShapes Go.WideShapes Go.ChangeAt Go.RowKit

/-- A new slice of these numbers, the call's own; of what lay in memory nothing is written. -/
def New (k : IntKind) (e : TypeId) (zs : List Int) (w : World) (en : Ending) (w' : World) : Prop :=
  ∃ v, en = .returned v ∧ Own k e w.heap.size w'.heap.size w' v zs ∧ Below w.heap.size w w'

/-- The marks that a law writes: byte(k), byte(k+1), .. -/
def marks (k n : Nat) : List Int := (List.range n).map (fun i => (((k + i) % 256 : Nat) : Int))
theorem marks_len (k n : Nat) : (marks k n).length = n := by simp [marks]
theorem marks_at {k n j : Nat} (h : j < n) : (marks k n).getD j 0 = ((k : Int) + (j : Int)) % 256 := by
  rw [List.getD_eq_getElem?_getD]
  simp [marks, h]

def Marked (k : IntKind) (e : TypeId) (lo hi : Nat) (v : Value) (ms : List Int) (m : Int) (w : World) (en : Ending) (w' : World) : Prop :=
  en = .returned (.int .i64 m) ∧ Own k e lo hi w' v ms ∧ w.grownBy w' v.ownBlock

end Go.Proofs.Ytpkicliimhflgaa

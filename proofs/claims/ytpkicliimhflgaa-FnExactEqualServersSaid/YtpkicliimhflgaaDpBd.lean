/- Helper contracts over the functions with which the laws copy, compare, measure and mark slices, by program (deep.py). Asked: what lies in memory is as named. -/
import Derived.Test.YtpkicliimhflgaaDpNodeL
import Derived.Shelf.SlSortCmp.QuietGrown
namespace Go.Proofs.Ytpkicliimhflgaa
open Go.ChangeShapes Go.WideShapes Go.ChangeAt Go.RowKit

def SzBuilder (a0 : Rw) (a1 : Rw) (left : Int) (w : World) (e : Ending) (w' : World) : Prop :=
  ∃ r : Int, e = .returned (.int .i64 r) ∧ -1 ≤ r ∧ (0 ≤ r → r + (a0.weight : Nat) + (a1.weight : Nat) = left) ∧ Grw w w'
end Go.Proofs.Ytpkicliimhflgaa

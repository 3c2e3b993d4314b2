/- Helper contracts over the functions with which the laws copy, compare, measure and mark slices, by program (deep.py). Asked: what lies in memory is as named. -/
import Derived.Test.YtkjjiinccljhjaaDoorDpStr
import Derived.Test.YtkjjiinccljhjaaDoorRawL
import Derived.Shelf.SlSortCmp.QuietGrown
namespace Go.Proofs.YtkjjiinccljhjaaDoor
open Go.ChangeShapes Go.WideShapes Go.ChangeAt Go.RowKit

def SzPolicy (a1 : Rw) (a2 : Rw) (a3 : Rw) (a4 : ByteArray) (left : Int) (w : World) (e : Ending) (w' : World) : Prop :=
  ∃ r : Int, e = .returned (.int .i64 r) ∧ -1 ≤ r ∧ (0 ≤ r → r + (a1.weight : Nat) + (a2.weight : Nat) + (a3.weight : Nat) + (a4.size : Nat) = left) ∧ Grw w w'
end Go.Proofs.YtkjjiinccljhjaaDoor

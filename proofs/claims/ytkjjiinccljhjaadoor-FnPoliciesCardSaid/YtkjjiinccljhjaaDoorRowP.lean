/- Policies: as plain values, and what a policy that came in is. Helper facts, no claim of its own. -/
import Derived.Test.YtkjjiinccljhjaaDoorSs
import Derived.Test.YtkjjiinccljhjaaDoorDpPol
namespace Go.Proofs.YtkjjiinccljhjaaDoor
open Go.ChangeShapes Go.WideShapes Go.ChangeAt Go.RowKit Go.Joins Go.Deep

/-- A policy as a plain value. -/
structure Pol where
  set : Bool
  scr : List ByteArray
  sty : List ByteArray
  img : List ByteArray
  non : ByteArray
/-- A policy in memory: its three slices read so. -/
def ReadP (hi : Nat) (w : World) (v1 v2 v3 : Value) (p : Pol) : Prop := ReadsK encS 1 hi w v1 p.scr ∧ ReadsK encS 1 hi w v2 p.sty ∧ ReadsK encS 1 hi w v3 p.img
/-- A policy that came in. -/
def IsPo (w : World) (v1 v2 v3 : Value) (p : Pol) : Prop := IsSts w v1 p.scr ∧ IsSts w v2 p.sty ∧ IsSts w v3 p.img ∧ p.non.size ≤ 9223372036854775807
theorem ReadP.below {hi B : Nat} {w w' : World} {v1 v2 v3 : Value} {p : Pol} (h : ReadP hi w v1 v2 v3 p) (hb : Below B w w') (hB : hi ≤ B) : ReadP hi w' v1 v2 v3 p := ⟨h.1.below hb hB, h.2.1.below hb hB, h.2.2.below hb hB⟩
theorem ReadP.mono {hi hi' : Nat} {w : World} {v1 v2 v3 : Value} {p : Pol} (h : ReadP hi w v1 v2 v3 p) (hh : hi ≤ hi') : ReadP hi' w v1 v2 v3 p := ⟨h.1.mono hh, h.2.1.mono hh, h.2.2.mono hh⟩

end Go.Proofs.YtkjjiinccljhjaaDoor

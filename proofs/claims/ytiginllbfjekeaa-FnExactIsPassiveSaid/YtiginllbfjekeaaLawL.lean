/- Copies, comparisons, marks of lines in the laws. Helper facts, no claim of its own. -/
import Derived.Test.YtiginllbfjekeaaRowL
import Derived.Test.YtiginllbfjekeaaRawL
import Derived.Test.YtiginllbfjekeaaLawT
namespace Go.Proofs.Ytiginllbfjekeaa
open Go.ChangeShapes Go.WideShapes Go.ChangeAt Go.RowKit

theorem toLn_one (v : Value) (rs : List Lnv) (w : World) (r : (rwLn v rs).ReadR w.heap.size w) (h : (rwLn v rs).weight ≤ 1048576) :
    Calls Try.prog 18 #[v] w fun e w' => ∃ y : Rw, e = .returned y.cell ∧ IsLineS y ∧ y.data = (rwLn v rs).data ∧ OwnRL w.heap.size w'.heap.size w' [y] ∧ (blocksL [y]).Nodup ∧ Below w.heap.size w w' := by
  refine (to_LineS (rwLn v rs) (rwLn_is v rs) w r (Nat.le_trans h (by decide))).mono ?_
  rintro e w' ⟨y, rfl, h1, h2, h3, h4, h5⟩
  exact ⟨y, rfl, h1, h2, ownL_one.2 h4, by rw [blocksL, blocksL, List.append_nil]; exact h3, h5⟩
end Go.Proofs.Ytiginllbfjekeaa

/- Helper contracts over the functions with which the laws copy, compare, measure and mark slices, by program (deep.py). Asked: what lies in memory is as named. -/
import Derived.Test.YtkjjiinccljhjaaDoorDpAttr
import Derived.Shelf.SlSortCmp.QuietGrown
namespace Go.Proofs.YtkjjiinccljhjaaDoor
open Go.ChangeShapes Go.WideShapes Go.ChangeAt Go.RowKit

/-- What a slice of this type holds. -/
def IsStringS (x : Rw) : Prop := ∃ v n e cs, x = .sl v n 1 e cs ∧ ∀ j, j < n → ∃ (a0 : ByteArray), cs[j]? = some (.leaf (.string a0))
theorem is_sl_StringS {x : Rw} (h : IsStringS x) : ∃ v n k e cs, x = .sl v n k e cs := by
  obtain ⟨v, n, e, cs, rfl, _⟩ := h
  exact ⟨v, n, _, e, cs, rfl⟩

theorem info_StringS : (Tryd.prog.info? 9).map (fun i => (i.zero, i.size, i.bytes)) = some (some (.string ⟨#[]⟩), 1, 16) := by kernel_rfl

end Go.Proofs.YtkjjiinccljhjaaDoor

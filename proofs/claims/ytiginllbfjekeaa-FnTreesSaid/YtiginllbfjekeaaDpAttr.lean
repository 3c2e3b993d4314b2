/- Helper contracts over the functions with which the laws copy, compare, measure and mark slices, by program (deep.py). Asked: what lies in memory is as named. -/
import Derived.Test.YtiginllbfjekeaaRaw
import Derived.Test.YtiginllbfjekeaaStr
import Derived.Shelf.SlSortCmp.QuietGrown
namespace Go.Proofs.Ytiginllbfjekeaa
open Go.ChangeShapes Go.WideShapes Go.ChangeAt Go.RowKit

/-- What a slice of this type holds. -/
def IsAttrS (x : Rw) : Prop := ∃ v n e cs, x = .sl v n 2 e cs ∧ ∀ j, j < n → ∃ (a0 : ByteArray) (a1 : ByteArray), cs[j * 2]? = some (.leaf (.string a0)) ∧ cs[j * 2 + 1]? = some (.leaf (.string a1))
theorem is_sl_AttrS {x : Rw} (h : IsAttrS x) : ∃ v n k e cs, x = .sl v n k e cs := by
  obtain ⟨v, n, e, cs, rfl, _⟩ := h
  exact ⟨v, n, _, e, cs, rfl⟩
end Go.Proofs.Ytiginllbfjekeaa

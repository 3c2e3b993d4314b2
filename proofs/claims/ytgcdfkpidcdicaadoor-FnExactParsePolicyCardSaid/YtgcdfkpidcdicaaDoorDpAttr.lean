/- Helper contracts over the functions with which the laws copy, compare, measure and mark slices, by program (deep.py). Asked: what lies in memory is as named. -/
import Derived.Test.YtgcdfkpidcdicaaDoorRaw
import Derived.Test.YtgcdfkpidcdicaaDoorStr
import Derived.Shelf.SlSortCmp.QuietGrown
namespace Go.Proofs.YtgcdfkpidcdicaaDoor
open Go.ChangeShapes Go.WideShapes Go.ChangeAt Go.RowKit

theorem mark_anyI (k : Nat) (q : Int) (hq : q = k) (hk : k ≤ 4611686018427387904) (w : World) :
    Calls Tryd.prog 68 #[.int .i64 q] w fun e w' => e = .returned (.string (mt k)) ∧ Grw w w' := by
  subst hq; exact mark_any k hk w

/-- What a slice of this type holds. -/
def IsAttrS (x : Rw) : Prop := ∃ v n e cs, x = .sl v n 2 e cs ∧ ∀ j, j < n → ∃ (a0 : ByteArray) (a1 : ByteArray), cs[j * 2]? = some (.leaf (.string a0)) ∧ cs[j * 2 + 1]? = some (.leaf (.string a1))
theorem is_sl_AttrS {x : Rw} (h : IsAttrS x) : ∃ v n k e cs, x = .sl v n k e cs := by
  obtain ⟨v, n, e, cs, rfl, _⟩ := h
  exact ⟨v, n, _, e, cs, rfl⟩

def SzAttr (a0 : ByteArray) (a1 : ByteArray) (left : Int) (w : World) (e : Ending) (w' : World) : Prop :=
  ∃ r : Int, e = .returned (.int .i64 r) ∧ -1 ≤ r ∧ (0 ≤ r → r + (a0.size : Nat) + (a1.size : Nat) = left) ∧ Grw w w'
end Go.Proofs.YtgcdfkpidcdicaaDoor

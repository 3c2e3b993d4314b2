/- Helper contracts over the library's slices.Grow and slices.Concat at bytes: a new slice that holds the given ones behind each other. Asked: the slices read as the lists named, and together they are no longer than 2^44. -/
import Derived.Test.YtgcdfkpidcdicaaDoorOwn
import Derived.Test.YtgcdfkpidcdicaaDoorHelpB
namespace Go.Proofs.YtgcdfkpidcdicaaDoor
open Go.ChangeShapes Go.WideShapes Go.ChangeAt Go.RowKit

def Making (k : IntKind) (e : TypeId) (zs : List Int) (w : World) (en : Ending) (w' : World) : Prop := ∃ v, en = .returned v ∧ Mine k e w.heap.size w w' v zs
theorem Mine.new {k : IntKind} {e : TypeId} {w w' : World} {v : Value} {zs : List Int} (h : Mine k e w.heap.size w w' v zs) : New k e zs w (.returned v) w' := ⟨v, rfl, h.own, h.below⟩

def cat (zs : Nat → List Int) : Nat → List Int
  | 0 => []
  | j + 1 => cat zs j ++ zs j
theorem cat_le (zs : Nat → List Int) (m : Nat) : ∀ j, j ≤ m → (cat zs j).length ≤ (cat zs m).length := by
  induction m with
  | zero => intro j h; have : j = 0 := by omega
            subst this; exact Nat.le_refl _
  | succ m ih =>
    intro j h
    by_cases e : j = m + 1
    · subst e; exact Nat.le_refl _
    · have := ih j (by omega); simp only [cat, List.length_append]; omega

end Go.Proofs.YtgcdfkpidcdicaaDoor

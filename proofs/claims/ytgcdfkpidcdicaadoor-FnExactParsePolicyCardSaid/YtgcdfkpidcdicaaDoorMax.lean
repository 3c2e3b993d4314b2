/- A bound on lengths out of the world's own shape: the library's MaxLen holds a number. Helper facts, no claim of their own. -/
import Derived.Test.YtgcdfkpidcdicaaDoorOwn
namespace Go.Proofs.YtgcdfkpidcdicaaDoor
open Go.ChangeShapes Go.WideShapes Go.ChangeAt Go.RowKit

/-- The library's MaxLen holds a number. -/
def Max0 (w : World) : Prop := ∃ m, w.cell? ⟨0, 0, none⟩ = some (.int .i64 m)
theorem Max0.on {w w' : World} (h : Max0 w) (hb : Below w.heap.size w w') : Max0 w' := by
  obtain ⟨m, hm⟩ := h
  exact ⟨m, (hb.cell (World.block_lt_of_cell? _ _ hm)).trans hm⟩
end Go.Proofs.YtgcdfkpidcdicaaDoor

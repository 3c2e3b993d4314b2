/- What stays below, in small steps. Helper facts, no claim of its own. -/
import Derived.Test.YtkjjiinccljhjaaRawL
namespace Go.Proofs.Ytkjjiinccljhjaa
open Go.ChangeShapes Go.WideShapes Go.ChangeAt Go.RowKit

theorem bl_tr {w X w' : World} (h : Below w.heap.size w X) (k : Below X.heap.size X w') : Below w.heap.size w w' := h.trans (k.mono h.size)
theorem bl_via {B : Nat} {w0 w X : World} (h : Below B w0 w) (hB : B ≤ w.heap.size) (k : Below w.heap.size w X) : Below B w0 X := h.trans (k.mono hB)
theorem bl_dw {B : Nat} {w w' : World} (h : Below B w w') : Below B w w'.drew := h.drew
theorem bl_aw {w w' : World} (h : Below w.heap.size w w') (o : Obj) : Below w.heap.size w (w'.alloc o) := h.alloc h.size o
theorem hq_dr {w : World} {g : Nat} {o : Obj} (h : w.heap[g]? = some o) : w.drew.heap[g]? = some o := h
theorem hq_nw {w : World} {g : Nat} {o : Obj} (h : w.heap.size = g) : (w.alloc o).heap[g]? = some o := by subst h; exact (MapKept.heap_alloc w o).1
end Go.Proofs.Ytkjjiinccljhjaa

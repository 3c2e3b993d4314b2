/- What stays below, in small steps. Helper facts, no claim of its own. -/
import Derived.Test.YtkjjiinccljhjaaDoorRawL
namespace Go.Proofs.YtkjjiinccljhjaaDoor
open Go.ChangeShapes Go.WideShapes Go.ChangeAt Go.RowKit

theorem bl_tr {w X w' : World} (h : Below w.heap.size w X) (k : Below X.heap.size X w') : Below w.heap.size w w' := h.trans (k.mono h.size)
theorem bl_via {B : Nat} {w0 w X : World} (h : Below B w0 w) (hB : B ≤ w.heap.size) (k : Below w.heap.size w X) : Below B w0 X := h.trans (k.mono hB)
theorem bl_dw {B : Nat} {w w' : World} (h : Below B w w') : Below B w w'.drew := h.drew
theorem bl_aw {w w' : World} (h : Below w.heap.size w w') (o : Obj) : Below w.heap.size w (w'.alloc o) := h.alloc h.size o
theorem hq_dr {w : World} {g : Nat} {o : Obj} (h : w.heap[g]? = some o) : w.drew.heap[g]? = some o := h
theorem hq_nw {w : World} {g : Nat} {o : Obj} (h : w.heap.size = g) : (w.alloc o).heap[g]? = some o := by subst h; exact (MapKept.heap_alloc w o).1
theorem box_ca {w : World} {o o' : Obj} {g : Nat} (h : w.heap[g]? = some o) : (w.alloc o').heap[g]? = some o := by
  rw [Below.heap_alloc _ _ _ (heap_lt h)]; exact h
theorem box3_0 (w : World) (o1 o2 o3 : Obj) : (((w.alloc o1).alloc o2).alloc o3).heap[w.heap.size]? = some o1 := box_ca (box_ca (heap_alloc_new _ _))
theorem box3_1 (w : World) (o1 o2 o3 : Obj) : (((w.alloc o1).alloc o2).alloc o3).heap[w.heap.size + 1]? = some o2 := box_ca (by rw [← World.size_alloc]; exact heap_alloc_new _ _)
theorem box3_2 (w : World) (o1 o2 o3 : Obj) : (((w.alloc o1).alloc o2).alloc o3).heap[w.heap.size + 1 + 1]? = some o3 := by
  have h := heap_alloc_new ((w.alloc o1).alloc o2) o3
  rw [World.size_alloc, World.size_alloc] at h; exact h
/-- One cell of a box is stored. -/
theorem box_set {w : World} {b o : Nat} {cs : Array Value} {T : TypeId} (h : w.heap[b]? = some (.cells cs T (0, 0))) (u : Value) : (w.setCell ⟨b, o, none⟩ u).heap[b]? = some (.cells (cs.setIfInBounds o u) T (0, 0)) := by
  show (w.heap.modify b _)[b]? = _
  rw [Array.getElem?_modify, if_pos rfl, h]; rfl
theorem box_off {w : World} {b r o : Nat} {x : Obj} (h : w.heap[b]? = some x) (hne : b ≠ r) (u : Value) : (w.setCell ⟨r, o, none⟩ u).heap[b]? = some x := by
  rw [Below.heap_setCell _ _ _ _ hne]; exact h
end Go.Proofs.YtkjjiinccljhjaaDoor

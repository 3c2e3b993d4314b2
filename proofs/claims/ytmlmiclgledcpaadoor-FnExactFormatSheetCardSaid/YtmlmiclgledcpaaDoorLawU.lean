/- How many marks rules take. Helper facts, no claim of its own. -/
import Derived.Test.YtmlmiclgledcpaaDoorSh
import Derived.Test.YtmlmiclgledcpaaDoorLawT
namespace Go.Proofs.YtmlmiclgledcpaaDoor
open Go.ChangeShapes Go.WideShapes Go.ChangeAt Go.RowKit

theorem ruCells_count : ∀ rs : List Ru, countL (ruCells rs) = 2 * rs.length
  | [] => rfl
  | r :: rs => by rw [ruCells, countL, countL, Rw.count, Rw.count, ruCells_count rs, List.length_cons]; omega
theorem rwU_count (v : Value) (rs : List Ru) : (rwU v rs).count = 2 * rs.length := by rw [rwU, Rw.count, ruCells_count]
theorem optL_nodup2 (v : Value) (rs : List Ru) : (blocksL [rwU v rs]).Nodup := by rw [blocksL, blocksL, List.append_nil, rwU_blocks]; exact optL_nodup _
end Go.Proofs.YtmlmiclgledcpaaDoor

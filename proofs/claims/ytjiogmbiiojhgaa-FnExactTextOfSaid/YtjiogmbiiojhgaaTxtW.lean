/- The texts of nodes are no longer than what the law counts. No claim of its own. -/
import Derived.Test.YtjiogmbiiojhgaaTxt
namespace Go.Proofs.Ytjiogmbiiojhgaa
open Go.ChangeShapes Go.WideShapes Go.ChangeAt Go.RowKit

theorem sumT_cells : ∀ ns : List Nv, sumT (ns.map Prod.fst) ≤ weightL (ndCells ns)
  | [] => Nat.le_refl _
  | p :: ns => by
    have := sumT_cells ns
    rw [ndCells, weightL, weightL, weightL, weightL, rwA, Rw.weight, Rw.weight, Rw.weight, Rw.weight, List.map_cons, sumT]
    simp only [weightV]
    omega
theorem sumT_rw {v : Value} {ns : List Nv} : sumT (ns.map Prod.fst) ≤ (rwN v ns).weight := by
  have := sumT_cells ns
  rw [rwN, Rw.weight]; omega
end Go.Proofs.Ytjiogmbiiojhgaa

/- The helper contracts of chapter 12 over copies that a law makes of its servers. Helper facts, no claim of its own. -/
import Derived.Test.YtpkicliimhflgaaSvP
import Derived.Test.YtpkicliimhflgaaRowV
import Derived.Test.YtpkicliimhflgaaLawT
namespace Go.Proofs.Ytpkicliimhflgaa
open Go.ChangeShapes Go.WideShapes Go.ChangeAt Go.RowKit

theorem toV_one (v : Value) (ss : List Se) (w : World) (r : (rwV v ss).ReadR w.heap.size w) (h : (rwV v ss).weight ≤ 1048576) :
    Calls Try.prog 8 #[v] w fun e w' => ∃ y : Rw, e = .returned y.cell ∧ IsServerS y ∧ y.data = (rwV v ss).data ∧ OwnRL w.heap.size w'.heap.size w' [y] ∧ (blocksL [y]).Nodup ∧ Below w.heap.size w w' := by
  refine (to_ServerS (rwV v ss) (rwV_is v ss) w r (Nat.le_trans h (by decide))).mono ?_
  rintro e w' ⟨y, rfl, h1, h2, h3, h4, h5⟩
  exact ⟨y, rfl, h1, h2, ownL_one.2 h4, by rw [blocksL, blocksL, List.append_nil]; exact h3, h5⟩
end Go.Proofs.Ytpkicliimhflgaa

/- The walk of the law FnExactIsVoid: it returns true, and writes nothing that was there. -/
import Derived.Test.YtjiogmbiiojhgaaCnt
import Derived.Test.YtjiogmbiiojhgaaLawT
import Derived.Deep.RegionWith
import Derived.Deep.CutRange
namespace Go.Proofs.Ytjiogmbiiojhgaa
open Go.ChangeShapes Go.WideShapes Go.ChangeAt Go.RowKit

set_option maxRecDepth 100000 in
set_option maxHeartbeats 4000000 in
theorem walkIsVoid (a_s : ByteArray) (w : World) (r_s : a_s.size ≤ 9223372036854775807) :
    Calls Try.prog 6 #[.string a_s] w fun e w' => e = .returned (.bool true) ∧ Below w.heap.size w w' := by
  have hrs := r_s; clear hrs
  by_cases big_s : (1048576 : Int) < (a_s.size : Int)
  · go_enter Try.func6, Try.ntmps6
    go_wp2_with fail
    go_ret
    exact ⟨rfl, by first | exact Below.refl _ _ | exact (Below.refl _ _).alloc (Nat.le_refl _) _⟩
  go_enter Try.func6, Try.ntmps6
  have HB := Lib.hid (Below.refl w.heap.size w)
  go_wp2_with fail
  refine (void_spec a_s _).mono ?_
  rintro e w1 ⟨rfl, rfl⟩
  go_wp2_with fail
  refine (void_impl a_s _).mono ?_
  rintro e w1 ⟨rfl, rfl⟩
  go_wp2_with fail
  go_ret
  exact ⟨rfl, HB.out⟩
end Go.Proofs.Ytjiogmbiiojhgaa

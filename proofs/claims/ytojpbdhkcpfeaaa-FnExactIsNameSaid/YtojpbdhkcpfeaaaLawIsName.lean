/- The walk of the law FnExactIsName: it returns true, and writes nothing that was there. -/
import Derived.Test.YtojpbdhkcpfeaaaPrs
import Derived.Test.YtojpbdhkcpfeaaaHas
import Derived.Test.YtojpbdhkcpfeaaaMark
import Derived.Test.YtojpbdhkcpfeaaaRowA
namespace Go.Proofs.Ytojpbdhkcpfeaaa
open Go.ChangeShapes Go.WideShapes Go.ChangeAt Go.RowKit

set_option maxHeartbeats 1000000 in
theorem walkIsName (s : ByteArray) (w : World) (hs : s.size ≤ 9223372036854775807) :
    Calls Try.prog 4 #[.string s] w fun e w' => e = .returned (.bool true) ∧ Below w.heap.size w w' := by
  by_cases big : (1048576 : Int) < (s.size : Int)
  · go_enter Try.func4, Try.ntmps4
    go_wp2_with fail
    go_ret
    exact ⟨rfl, Below.refl _ _⟩
  · go_enter Try.func4, Try.ntmps4
    go_wp2_with fail
    refine (nm_spec s hs _).mono ?_
    rintro e w' ⟨rfl, rfl⟩
    go_wp2_with fail
    refine (nm_impl s hs _).mono ?_
    rintro e w' ⟨rfl, rfl⟩
    go_wp2_with fail
    go_ret
    exact ⟨rfl, Below.refl _ _⟩

end Go.Proofs.Ytojpbdhkcpfeaaa

/- The walk of the law FnExactIsValidKey: it returns true, and writes nothing that was there. -/
import Derived.Test.YtlehahpgdafnoaaKeyed
import Derived.Test.YtlehahpgdafnoaaRowReads
namespace Go.Proofs.Ytlehahpgdafnoaa
open Go.ChangeShapes Go.WideShapes Go.ChangeAt Go.RowKit

set_option maxRecDepth 100000 in
set_option maxHeartbeats 4000000 in
theorem walkIsValidKey (a_k : Int) (w : World) (r_k : (Lit.int .i64 a_k).wf = true) :
    Calls Try.prog 7 #[.int .i64 a_k] w fun e w' => e = .returned (.bool true) ∧ Below w.heap.size w w' := by
  obtain ⟨lo_k, hi_k⟩ := int_range r_k
  clear r_k
  have HB := Lib.hid (Below.refl w.heap.size w)
  go_enter Try.func7, Try.ntmps7
  go_wp2_with fail
  refine (specVK_any _ _).mono ?_
  rintro e wq ⟨rfl, rfl⟩
  go_wp2_with fail
  refine (implVK_any _ _).mono ?_
  rintro e wq ⟨rfl, rfl⟩
  go_wp2_with fail
  go_ret
  exact ⟨rfl, HB.out⟩
end Go.Proofs.Ytlehahpgdafnoaa

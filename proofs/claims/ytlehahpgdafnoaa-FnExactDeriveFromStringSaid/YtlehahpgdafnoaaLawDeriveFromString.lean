/- The walk of the law FnExactDeriveFromString: it returns true, and writes nothing that was there. -/
import Derived.Test.YtlehahpgdafnoaaDerive
import Derived.Test.YtlehahpgdafnoaaRowReads
namespace Go.Proofs.Ytlehahpgdafnoaa
open Go.ChangeShapes Go.WideShapes Go.ChangeAt Go.RowKit

set_option maxRecDepth 100000 in
set_option maxHeartbeats 4000000 in
theorem walkDeriveFromString (a_k : Int) (a_s : ByteArray) (w : World) (r_k : (Lit.int .i64 a_k).wf = true) (r_s : a_s.size ≤ maxLen) :
    Calls Try.prog 11 #[.int .i64 a_k, .string a_s] w fun e w' => e = .returned (.bool true) ∧ Below w.heap.size w w' := by
  unfold maxLen at r_s
  by_cases big_s : (1048576 : Int) < (a_s.size : Int)
  · go_enter Try.func11, Try.ntmps11
    go_wp2_with fail
    go_ret
    exact ⟨rfl, Below.refl _ _⟩
  obtain ⟨lo_k, hi_k⟩ := int_range r_k
  clear r_k
  have HB := Lib.hid (Below.refl w.heap.size w)
  go_enter Try.func11, Try.ntmps11
  go_wp2_with fail
  refine (specDer_any _ _ _ (by omega)).mono ?_
  rintro e w_1 ⟨rfl, hb⟩
  have HS1 := Lib.hid (hb.size)
  replace HB := Lib.hid (HB.out.trans (hb.mono HB.out.size))
  clear hb
  go_wp2_with fail
  refine (implDer_any _ _ _ (by omega)).mono ?_
  rintro e w_2 ⟨rfl, hb⟩
  have HS2 := Lib.hid (hb.size)
  replace HB := Lib.hid (HB.out.trans (hb.mono HB.out.size))
  clear hb
  go_wp2_with fail
  go_ret
  exact ⟨rfl, HB.out⟩
end Go.Proofs.Ytlehahpgdafnoaa

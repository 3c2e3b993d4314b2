/- The walk of the law FnExactVerdictName: it returns true, and writes nothing that was there. -/
import Derived.Test.YtkjjiinccljhjaaRqB
namespace Go.Proofs.Ytkjjiinccljhjaa
open Go.ChangeShapes Go.WideShapes Go.ChangeAt Go.RowKit

set_option maxRecDepth 100000 in
set_option maxHeartbeats 4000000 in
theorem walkVerdictName (a_k : Int) (w : World) (r_k : (Lit.int .i64 a_k).wf = true) :
    Calls Try.prog 5 #[.int .i64 a_k] w fun e w' => e = .returned (.bool true) ∧ Below w.heap.size w w' := by
  have hrk := r_k; clear hrk
  go_enter Try.func5, Try.ntmps5
  have HB := Lib.hid (Below.refl w.heap.size w)
  obtain ⟨M, hM⟩ : ∃ M, vnB a_k = M := ⟨_, rfl⟩
  have HM := Lib.hid hM; clear hM
  have hMM : (M.toList == M.toList) = true := beq_self_eq_true _
  go_wp2_with fail
  refine ((HM.out ▸ vn_spec a_k _)).mono ?_
  rintro e w_1 ⟨rfl, hg⟩
  have hB := Grw.below hg
  have HS1 := Lib.hid hB.size
  replace HB := Lib.hid (HB.out.trans (hB.mono HB.out.size))
  clear hB
  go_wp2_with fail
  refine ((HM.out ▸ vn_impl a_k _)).mono ?_
  rintro e w_2 ⟨rfl, hg⟩
  have hB := Grw.below hg
  have HS2 := Lib.hid hB.size
  replace HB := Lib.hid (HB.out.trans (hB.mono HB.out.size))
  clear hB
  go_wp2_with fail
  go_ret
  exact ⟨rfl, HB.out⟩
end Go.Proofs.Ytkjjiinccljhjaa

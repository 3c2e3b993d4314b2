/- The walk of the law FnExactDigestOf: it returns true, and writes nothing that was there. -/
import Derived.Test.YtgcdfkpidcdicaaDig
namespace Go.Proofs.Ytgcdfkpidcdicaa
open Go.ChangeShapes Go.WideShapes Go.ChangeAt Go.RowKit

set_option maxRecDepth 100000 in
set_option maxHeartbeats 4000000 in
theorem walkDigestOf (a_s : ByteArray) (w : World) (r_s : a_s.size ≤ 9223372036854775807) :
    Calls Try.prog 5 #[.string a_s] w fun e w' => e = .returned (.bool true) ∧ Below w.heap.size w w' := by
  by_cases big_s : (1048576 : Int) < (a_s.size : Int)
  · go_enter Try.func5, Try.ntmps5
    go_wp2_with fail
    go_ret
    exact ⟨rfl, Below.refl _ _⟩
  go_enter Try.func5, Try.ntmps5
  have HB := Lib.hid (Below.refl w.heap.size w)
  have hz : a_s.size ≤ 1048576 := by omega
  obtain ⟨M, hM⟩ : ∃ M, digN a_s = M := ⟨_, rfl⟩
  have HM := Lib.hid hM; clear hM
  have hMM : (M == M) = true := beq_self_eq_true _; have hMN : (M != M) = false := bne_self_eq_false _
  go_wp2_with fail
  refine ((HM.out ▸ dig_spec a_s _ hz)).mono ?_
  rintro e w_1 ⟨rfl, hb⟩
  have hB := hb
  have HS1 := Lib.hid hB.size
  replace HB := Lib.hid (HB.out.trans (hB.mono HB.out.size))
  clear hB
  go_wp2_with fail
  refine ((HM.out ▸ dig_impl a_s _ hz)).mono ?_
  rintro e w_2 ⟨rfl, hb⟩
  have hB := hb
  have HS2 := Lib.hid hB.size
  replace HB := Lib.hid (HB.out.trans (hB.mono HB.out.size))
  clear hB
  go_wp2_with fail
  go_ret
  exact ⟨rfl, HB.out⟩
end Go.Proofs.Ytgcdfkpidcdicaa

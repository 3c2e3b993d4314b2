/- The walk of the law FnExactMarkupOf: it returns true, and writes nothing that was there. -/
import Derived.Test.YtiginllbfjekeaaDoorMkI
import Derived.Deep.RegionWith
import Derived.Deep.CutRange
namespace Go.Proofs.YtiginllbfjekeaaDoor
open Go.ChangeShapes Go.WideShapes Go.ChangeAt Go.RowKit

set_option maxRecDepth 100000 in
set_option maxHeartbeats 4000000 in
theorem walkMarkupOf (a_s : ByteArray) (w : World) (hmx : Max0 w) (r_s : a_s.size ≤ 9223372036854775807) :
    Calls Tryd.prog 6 #[.string a_s] w fun e w' => e = .returned (.bool true) ∧ Below w.heap.size w w' := by
  have hrs := r_s; clear hrs
  by_cases big_s : (1048576 : Int) < (a_s.size : Int)
  · go_enter Tryd.func6, Tryd.ntmps6
    go_wp2_with fail
    go_ret
    exact ⟨rfl, by first | exact Below.refl _ _ | exact (Below.refl _ _).alloc (Nat.le_refl _) _⟩
  go_enter Tryd.func6, Tryd.ntmps6
  have HB := Lib.hid (Below.refl w.heap.size w)
  have HMX := Lib.hid hmx; clear hmx
  obtain ⟨M, hM⟩ : ∃ M, mkU a_s = M := ⟨_, rfl⟩
  have HM := Lib.hid hM; clear hM
  have hMM : (M.toList == M.toList) = true := beq_self_eq_true _
  go_wp2_with fail
  refine ((HM.out ▸ markup_spec a_s (by omega) _)).mono ?_
  rintro e w_1 ⟨rfl, hb⟩
  have hB := hb
  have HS1 := Lib.hid hB.size
  replace HB := Lib.hid (HB.out.trans (hB.mono HB.out.size))
  clear hB hb
  go_wp2_with fail
  refine ((HM.out ▸ markup_impl a_s (by omega) _ (HMX.out.on HB.out))).mono ?_
  rintro e w_2 ⟨rfl, hb⟩
  have hB := hb
  have HS2 := Lib.hid hB.size
  replace HB := Lib.hid (HB.out.trans (hB.mono HB.out.size))
  clear hB hb
  go_wp2_with fail
  go_ret
  exact ⟨rfl, HB.out⟩
end Go.Proofs.YtiginllbfjekeaaDoor

/- The walk of the law FnExactCheckDigest: it returns true, and writes nothing that was there. -/
import Derived.Test.YtgcdfkpidcdicaaDoorDgs
import Derived.Test.YtgcdfkpidcdicaaDoorLaidT3
namespace Go.Proofs.YtgcdfkpidcdicaaDoor
open Go.ChangeShapes Go.WideShapes Go.ChangeAt Go.RowKit

set_option maxRecDepth 100000 in
set_option maxHeartbeats 4000000 in
theorem walkCheckDigest (a_s : ByteArray) (a_v : ByteArray) (w : World) (htab : Lib.TabIs Tryd.prog w "internal/strconv.uint64pow10" .u64 Lib.pow10Tab) (r_s : a_s.size ≤ 9223372036854775807) (r_v : a_v.size ≤ 9223372036854775807) :
    Calls Tryd.prog 6 #[.string a_s, .string a_v] w fun e w' => e = .returned (.bool true) ∧ Below w.heap.size w w' := by
  have hrs := r_s; have hrv := r_v; clear hrs hrv
  by_cases big_s : (1048576 : Int) < (a_s.size : Int)
  · go_enter Tryd.func6, Tryd.ntmps6
    go_wp2_with fail
    go_ret
    exact ⟨rfl, Below.refl _ _⟩
  by_cases big_v : (1048576 : Int) < (a_v.size : Int)
  · go_enter Tryd.func6, Tryd.ntmps6
    go_wp2_with fail
    go_ret
    exact ⟨rfl, Below.refl _ _⟩
  have HT := Lib.hid (Lib.tabBelow_of_tabIs htab); clear htab
  go_enter Tryd.func6, Tryd.ntmps6
  have HB := Lib.hid (Below.refl w.heap.size w)
  have hz : a_s.size ≤ 1048576 := by omega
  obtain ⟨M, hM⟩ : ∃ M, chB a_s a_v = M := ⟨_, rfl⟩
  have HM := Lib.hid hM; clear hM
  have hMM : (M == M) = true := beq_self_eq_true _; have hMN : (M != M) = false := bne_self_eq_false _
  go_wp2_with fail
  refine ((HM.out ▸ chk_spec a_s a_v _ hz)).mono ?_
  rintro e w_1 ⟨rfl, hb⟩
  have hB := hb
  have HS1 := Lib.hid hB.size
  replace HB := Lib.hid (HB.out.trans (hB.mono HB.out.size))
  clear hB
  go_wp2_with fail
  refine ((HM.out ▸ chk_impl a_s a_v _ hz (HT.out _ HB.out))).mono ?_
  rintro e w_2 ⟨rfl, hb⟩
  have hB := hb
  have HS2 := Lib.hid hB.size
  replace HB := Lib.hid (HB.out.trans (hB.mono HB.out.size))
  clear hB
  go_wp2_with fail
  go_ret
  exact ⟨rfl, HB.out⟩
end Go.Proofs.YtgcdfkpidcdicaaDoor

/- The walk of the law FnExactTokensOf: it returns true, and writes nothing that was there. -/
import Derived.Test.YtbegfdfdilnjdaaDoorToks
import Derived.Test.YtbegfdfdilnjdaaDoorLawT
namespace Go.Proofs.YtbegfdfdilnjdaaDoor
open Go.ChangeShapes Go.WideShapes Go.ChangeAt Go.RowKit

set_option maxRecDepth 100000 in
set_option maxHeartbeats 4000000 in
theorem walkTokensOf (s : ByteArray) (w : World) :
    Calls Tryd.prog 7 #[.string s] w fun e w' => e = .returned (.bool true) ∧ Below w.heap.size w w' := by
  by_cases big : (1048576 : Int) < (s.size : Int)
  · go_enter Tryd.func7, Tryd.ntmps7
    go_wp2_with fail
    go_ret
    exact ⟨rfl, Below.refl _ _⟩
  · have hs : s.size ≤ 536870912 := by omega
    have HLEN := Lib.hid (show 11 * (tokensB s.data.toList).length ≤ 11534347 by have := tokens_size s.data.toList; rw [size_list] at this; omega)
    have HATT := Lib.hid (tokens_attrs s.data.toList)
    have HSP := Lib.hid (fun W => toks_spec s hs W); have HIM := Lib.hid (fun W => toks_impl s hs W)
    obtain ⟨T, hT⟩ : ∃ T, tokensB s.data.toList = T := ⟨_, rfl⟩
    rw [hT] at HLEN HATT HSP HIM
    clear hT hs
    go_enter Tryd.func7, Tryd.ntmps7
    go_wp2_with fail
    refine (HSP.out _).mono ?_
    rintro e w1 ⟨vs, tss, rfl, hts, hM1⟩
    have HW1 := Lib.hid hM1.row.below.size; have HS := Lib.hid hM1.own; have HB := Lib.hid hM1.row.below; have HTS := Lib.hid hts
    clear hM1 hts
    go_wp2_with fail
    refine (HIM.out _).mono ?_
    rintro e w2 ⟨vg, tsg, rfl, htg, hM2⟩
    have HG := Lib.hid hM2.own; have HGN := Lib.hid hM2.nodup; have HTG := Lib.hid htg
    have HB12 := Lib.hid hM2.row.below
    replace HS := Lib.hid (HS.out.later HB12.out)
    replace HB := Lib.hid (HB.out.trans (HB12.out.mono HB.out.size))
    have HCT := Lib.hid (show 1 + (rwT vg tsg).count ≤ 4611686018427387904 by have := rwT_small (v := vg) htg HATT.out; have := HLEN.out; omega)
    clear hM2 htg
    go_wp2_with fail
    refine (eq_TokenS (rwT vg tsg) (rwT vs tss) (rwT_is _ _) (rwT_is _ _) (rwT_data _ _ (HTG.out.trans HTS.out.symm)) _ (own_read HG.out (Nat.le_refl _)) (own_read HS.out HB12.out.size)).mono ?_
    rintro e w3 ⟨rfl, hg3⟩
    replace HS := Lib.hid (HS.out.later hg3.below)
    replace HG := Lib.hid (HG.out.later hg3.below)
    have HB23 := Lib.hid hg3.below
    replace HB := Lib.hid (HB.out.trans (HB23.out.mono HB.out.size))
    clear hg3
    go_wp2_with fail
    refine (mk_TokenS (rwT vg tsg) (rwT_is _ _) w1.heap.size w2.heap.size 1 _ rfl _ HG.out HGN.out HCT.out).mono ?_
    rintro e w4 ⟨rfl, hmk, hon⟩
    have hS4 := own_apart HS.out HG.out (Nat.le_refl _) hon
    have hB4 := own_back (lo := w.heap.size) HB.out (own_mono HG.out (lo' := w.heap.size) (hi' := w2.heap.size) HW1.out (Nat.le_refl _)) HB.out.size hon
    have HMK := Lib.hid hmk
    replace HS := Lib.hid hS4
    replace HB := Lib.hid hB4
    have HB34 := Lib.hid hon.size
    obtain ⟨m, hm⟩ : ∃ m, 1 + (rwT vg tsg).count = m := ⟨_, rfl⟩
    rw [hm]
    have HM := Lib.hid hm
    have hmq : ((m : Int) == (m : Int)) = true := beq_self_eq_true _
    have hm0 : ¬ ((m : Int) < 0) := by omega
    clear hmk hon hS4 hB4 hm HG HGN
    go_wp2_with fail
    refine (hd_TokenS (rwT vg tsg) (rwT_is _ _) w2.heap.size 1 _ rfl _ (mark_is_read HMK.out (Nat.le_refl _)) (Nat.le_trans HB23.out.size HB34.out) HCT.out).mono ?_
    rintro e w5 ⟨rfl, hg5⟩
    rw [HM.out]
    have HB45 := Lib.hid hg5.below
    replace HS := Lib.hid (HS.out.later HB45.out)
    replace HMK := Lib.hid (HMK.out.later HB45.out)
    replace HB := Lib.hid (HB.out.trans (HB45.out.mono HB.out.size))
    clear hg5
    go_wp2_with fail
    refine (HIM.out _).mono ?_
    rintro e w6 ⟨vh, tsh, rfl, hth, hM6⟩
    have HH := Lib.hid hM6.own; have HTH := Lib.hid hth
    have HB56 := Lib.hid hM6.row.below
    replace HS := Lib.hid (HS.out.later HB56.out)
    replace HMK := Lib.hid (HMK.out.later HB56.out)
    replace HB := Lib.hid (HB.out.trans (HB56.out.mono HB.out.size))
    clear hM6 hth
    go_wp2_with fail
    refine (eq_TokenS (rwT vh tsh) (rwT vs tss) (rwT_is _ _) (rwT_is _ _) (rwT_data _ _ (HTH.out.trans HTS.out.symm)) _ (own_read HH.out (Nat.le_refl _)) (own_read HS.out (by have := HB12.out.size; have := HB23.out.size; have := HB34.out; have := HB45.out.size; have := HB56.out.size; omega))).mono ?_
    rintro e w7 ⟨rfl, hg7⟩
    have HB67 := Lib.hid hg7.below
    replace HMK := Lib.hid (HMK.out.later HB67.out)
    replace HB := Lib.hid (HB.out.trans (HB67.out.mono HB.out.size))
    clear hg7 HH HS
    go_wp2_with fail
    refine (hd_TokenS (rwT vg tsg) (rwT_is _ _) w2.heap.size 1 _ rfl _ (mark_is_read HMK.out (Nat.le_refl _)) (by have := HB12.out.size; have := HB23.out.size; have := HB34.out; have := HB45.out.size; have := HB56.out.size; have := HB67.out.size; omega) HCT.out).mono ?_
    rintro e w8 ⟨rfl, hg8⟩
    rw [HM.out]
    replace HB := Lib.hid (HB.out.trans (hg8.below.mono HB.out.size))
    clear hg8
    go_wp2_with fail
    go_ret
    exact ⟨rfl, HB.out⟩
end Go.Proofs.YtbegfdfdilnjdaaDoor

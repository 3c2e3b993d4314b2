/- The walk of the law FnExactFormatScript: it returns true, and writes nothing that was there. -/
import Derived.Test.YtiginllbfjekeaaDoorLawL
import Derived.Test.YtiginllbfjekeaaDoorFsM
import Derived.Deep.RegionWith
import Derived.Deep.CutRange
namespace Go.Proofs.YtiginllbfjekeaaDoor
open Go.ChangeShapes Go.WideShapes Go.ChangeAt Go.RowKit

set_option maxRecDepth 100000 in
set_option maxHeartbeats 4000000 in
theorem walkFormatScript (ha_l : Option Addr) (hn_l hc_l : Nat) (ls_l : List Lnv) (w : World) (r_l : IsLns w (.slice ha_l hn_l hc_l) ls_l) :
    Calls Tryd.prog 5 #[.slice ha_l hn_l hc_l] w fun e w' => e = .returned (.bool true) ∧ Below w.heap.size w w' := by
  obtain ⟨hrl_l, hol_l⟩ := r_l
  have HRL_l := Lib.hid hrl_l; have HOL_l := Lib.hid hol_l; have HSM_l := Lib.hid (rwLn_small (v := .slice ha_l hn_l hc_l) hol_l); clear hrl_l hol_l
  go_enter Tryd.func5, Tryd.ntmps5
  have HB := Lib.hid (Below.refl w.heap.size w)
  go_wp2_with fail
  refine (sz_LineS (rwLn (.slice ha_l hn_l hc_l) ls_l) (rwLn_is _ _) 1048576 (by omega) (by omega) _ (rwLn_reads ((HRL_l.out.below HB.out (Nat.le_refl _)).mono HB.out.size)) HSM_l.out).mono ?_
  rintro e w_1 ⟨r, rfl, lo_r, hi_r, hg⟩
  have hB := hg.below
  have HS1 := Lib.hid hB.size
  replace HB := Lib.hid (HB.out.trans (hB.mono HB.out.size))
  clear hB hg
  by_cases neg_r : r < 0
  · go_wp2_with fail
    go_ret
    exact ⟨rfl, HB.out⟩
  replace hi_r := hi_r (by omega)
  have hu_r : r ≤ 1048576 := by omega
  have HWL_l := Lib.hid (show (rwLn (.slice ha_l hn_l hc_l) ls_l).weight ≤ 1048576 by omega); clear hi_r
  have HSL_l := Lib.hid (show ls_l.length ≤ 1048576 ∧ sumL ls_l ≤ 1048576 by have h := HWL_l.out; rw [rwLn_weight] at h; omega)
  obtain ⟨FS, hFS⟩ : ∃ FS, fmtSc ls_l = FS := ⟨_, rfl⟩
  have HFS := Lib.hid hFS; clear hFS
  have hRR : (FS.toList == FS.toList) = true := beq_self_eq_true _
  go_wp2_with fail
  refine (toLn_one _ ls_l _ (rwLn_reads ((HRL_l.out.below HB.out (Nat.le_refl _)).mono HB.out.size)) HWL_l.out).mono ?_
  rintro e w_2 ⟨y_x, rfl, i_x, d_x, ho, hn, hb⟩
  have hB := hb
  have Hx := Lib.hid (ho)
  have HS2 := Lib.hid hB.size
  replace HB := Lib.hid (HB.out.trans (hB.mono HB.out.size))
  have HI_x := Lib.hid i_x; have HD_x := Lib.hid d_x; have HN_x := Lib.hid hn
  obtain ⟨c_x, hc_x⟩ : ∃ c, y_x.cell = c := ⟨_, rfl⟩
  rw [hc_x]
  have HC_x := Lib.hid hc_x
  clear hB ho hn hb i_x d_x hc_x
  go_wp2_with fail
  refine ((HC_x.out ▸ HFS.out ▸ fscript_spec _ ls_l _ (lines_of_data HD_x.out (rd_of (ownL_one.1 Hx.out))) HSL_l.out.1 HSL_l.out.2)).mono ?_
  rintro e w_3 ⟨rfl, hb⟩
  have hB := hb
  replace Hx := Lib.hid (ownL_later Hx.out hB)
  have HS3 := Lib.hid hB.size
  replace HB := Lib.hid (HB.out.trans (hB.mono HB.out.size))
  clear hB hb
  go_wp2_with fail
  refine (toLn_one _ ls_l _ (rwLn_reads ((HRL_l.out.below HB.out (Nat.le_refl _)).mono HB.out.size)) HWL_l.out).mono ?_
  rintro e w_4 ⟨y_y, rfl, i_y, d_y, ho, hn, hb⟩
  have hB := hb
  replace Hx := Lib.hid (ownL_later Hx.out hB)
  have Hy := Lib.hid (ho)
  have HS4 := Lib.hid hB.size
  replace HB := Lib.hid (HB.out.trans (hB.mono HB.out.size))
  have HI_y := Lib.hid i_y; have HD_y := Lib.hid d_y; have HN_y := Lib.hid hn
  obtain ⟨c_y, hc_y⟩ : ∃ c, y_y.cell = c := ⟨_, rfl⟩
  rw [hc_y]
  have HC_y := Lib.hid hc_y
  clear hB ho hn hb i_y d_y hc_y
  go_wp2_with fail
  refine ((HC_y.out ▸ HFS.out ▸ fscript_impl _ ls_l _ (lines_of_data HD_y.out (rd_of (ownL_one.1 Hy.out))) HSL_l.out.1 HSL_l.out.2)).mono ?_
  rintro e w_5 ⟨rfl, hb⟩
  have hB := hb
  replace Hx := Lib.hid (ownL_later Hx.out hB)
  replace Hy := Lib.hid (ownL_later Hy.out hB)
  have HS5 := Lib.hid hB.size
  replace HB := Lib.hid (HB.out.trans (hB.mono HB.out.size))
  clear hB hb
  go_wp2_with fail
  refine (toLn_one _ ls_l _ (rwLn_reads ((HRL_l.out.below HB.out (Nat.le_refl _)).mono HB.out.size)) HWL_l.out).mono ?_
  rintro e w_6 ⟨y_z, rfl, i_z, d_z, ho, hn, hb⟩
  have hB := hb
  replace Hx := Lib.hid (ownL_later Hx.out hB)
  replace Hy := Lib.hid (ownL_later Hy.out hB)
  have Hz := Lib.hid (ho)
  have HS6 := Lib.hid hB.size
  replace HB := Lib.hid (HB.out.trans (hB.mono HB.out.size))
  have HI_z := Lib.hid i_z; have HD_z := Lib.hid d_z; have HN_z := Lib.hid hn
  obtain ⟨c_z, hc_z⟩ : ∃ c, y_z.cell = c := ⟨_, rfl⟩
  rw [hc_z]
  have HC_z := Lib.hid hc_z
  clear hB ho hn hb i_z d_z hc_z
  go_wp2_with fail
  refine ((HC_y.out ▸ HC_z.out ▸ eq_LineS y_y y_z HI_y.out HI_z.out (HD_y.out.trans HD_z.out.symm) _ (rd_of (ownL_one.1 Hy.out)) (rd_of (ownL_one.1 Hz.out)))).mono ?_
  rintro e w_7 ⟨rfl, hg⟩
  have hB := hg.below
  replace Hx := Lib.hid (ownL_later Hx.out hB)
  replace Hy := Lib.hid (ownL_later Hy.out hB)
  replace Hz := Lib.hid (ownL_later Hz.out hB)
  have HS7 := Lib.hid hB.size
  replace HB := Lib.hid (HB.out.trans (hB.mono HB.out.size))
  clear hB hg
  go_wp2_with fail
  go_ret
  exact ⟨rfl, HB.out⟩
end Go.Proofs.YtiginllbfjekeaaDoor

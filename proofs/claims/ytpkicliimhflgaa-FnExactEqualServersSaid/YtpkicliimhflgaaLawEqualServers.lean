/- The walk of the law FnExactEqualServers: it returns true, and writes nothing that was there. -/
import Derived.Test.YtpkicliimhflgaaLawVE
import Derived.Deep.RegionWith
import Derived.Deep.CutRange
namespace Go.Proofs.Ytpkicliimhflgaa
open Go.ChangeShapes Go.WideShapes Go.ChangeAt Go.RowKit

set_option maxRecDepth 100000 in
set_option maxHeartbeats 4000000 in
theorem walkEqualServers (va_l : Option Addr) (vn_l vc_l : Nat) (sv_l : List Se) (va_m : Option Addr) (vn_m vc_m : Nat) (sv_m : List Se) (w : World) (r_l : IsSvs w (.slice va_l vn_l vc_l) sv_l) (r_m : IsSvs w (.slice va_m vn_m vc_m) sv_m) :
    Calls Try.prog 4 #[.slice va_l vn_l vc_l, .slice va_m vn_m vc_m] w fun e w' => e = .returned (.bool true) ∧ Below w.heap.size w w' := by
  obtain ⟨hrh_l, hoh_l⟩ := r_l
  have HRH_l := Lib.hid hrh_l; have HOH_l := Lib.hid hoh_l; have HSM_l := Lib.hid (rwV_small (v := .slice va_l vn_l vc_l) hoh_l); clear hrh_l hoh_l
  obtain ⟨hrh_m, hoh_m⟩ := r_m
  have HRH_m := Lib.hid hrh_m; have HOH_m := Lib.hid hoh_m; have HSM_m := Lib.hid (rwV_small (v := .slice va_m vn_m vc_m) hoh_m); clear hrh_m hoh_m
  go_enter Try.func4, Try.ntmps4
  have HB := Lib.hid (Below.refl w.heap.size w)
  go_wp2_with fail
  refine (sz_ServerS (rwV (.slice va_l vn_l vc_l) sv_l) (rwV_is _ _) 1048576 (by omega) (by omega) _ (rwV_reads ((HRH_l.out.below HB.out (Nat.le_refl _)).mono HB.out.size)) HSM_l.out).mono ?_
  rintro e w_1 ⟨r, rfl, lo_r, hi_r, hg⟩
  have hB := hg.below
  have HS1 := Lib.hid hB.size
  replace HB := Lib.hid (HB.out.trans (hB.mono HB.out.size))
  clear hB hg
  by_cases neg_r : r < 0
  · go_wp2_with fail
    go_ret
    exact ⟨rfl, HB.out⟩
  replace hi_r := hi_r (by omega)
  have hu_r : r ≤ 1048576 := by omega
  have HWH_l := Lib.hid (show (rwV (.slice va_l vn_l vc_l) sv_l).weight ≤ 1048576 by omega); clear hi_r
  have HSO_l := Lib.hid (ssOk_of HWH_l.out)
  go_wp2_with fail
  refine (sz_ServerS (rwV (.slice va_m vn_m vc_m) sv_m) (rwV_is _ _) r (by omega) (by omega) _ (rwV_reads ((HRH_m.out.below HB.out (Nat.le_refl _)).mono HB.out.size)) HSM_m.out).mono ?_
  rintro e w_2 ⟨r2, rfl, lo_r2, hi_r2, hg⟩
  have hB := hg.below
  have HS2 := Lib.hid hB.size
  replace HB := Lib.hid (HB.out.trans (hB.mono HB.out.size))
  clear hB hg
  by_cases neg_r2 : r2 < 0
  · go_wp2_with fail
    go_ret
    exact ⟨rfl, HB.out⟩
  replace hi_r2 := hi_r2 (by omega)
  have hu_r2 : r2 ≤ 1048576 := by omega
  have HWH_m := Lib.hid (show (rwV (.slice va_m vn_m vc_m) sv_m).weight ≤ 1048576 by omega); clear hi_r2
  have HSO_m := Lib.hid (ssOk_of HWH_m.out)
  obtain ⟨D, hD⟩ : ∃ D, decide (sv_l.map Prod.fst = sv_m.map Prod.fst) = D := ⟨_, rfl⟩
  have HD := Lib.hid hD; clear hD
  have hDD : (D == D) = true := beq_self_eq_true _; have hDN : (D != D) = false := by rw [bne, hDD]; rfl
  go_wp2_with fail
  refine (toV_one _ sv_l _ (rwV_reads ((HRH_l.out.below HB.out (Nat.le_refl _)).mono HB.out.size)) HWH_l.out).mono ?_
  rintro e w_3 ⟨y_x, rfl, i_x, d_x, ho, hn, hb⟩
  have hB := hb
  have Hx := Lib.hid (ho)
  have HS3 := Lib.hid hB.size
  replace HB := Lib.hid (HB.out.trans (hB.mono HB.out.size))
  have HI_x := Lib.hid i_x; have HD_x := Lib.hid d_x; have HN_x := Lib.hid hn
  obtain ⟨c_x, hc_x⟩ : ∃ c, y_x.cell = c := ⟨_, rfl⟩
  rw [hc_x]
  have HC_x := Lib.hid hc_x
  clear hB ho hn hb i_x d_x hc_x
  go_wp2_with fail
  refine (toV_one _ sv_m _ (rwV_reads ((HRH_m.out.below HB.out (Nat.le_refl _)).mono HB.out.size)) HWH_m.out).mono ?_
  rintro e w_4 ⟨y_y, rfl, i_y, d_y, ho, hn, hb⟩
  have hB := hb
  replace Hx := Lib.hid (ownL_later Hx.out hB)
  have Hy := Lib.hid (ho)
  have HS4 := Lib.hid hB.size
  replace HB := Lib.hid (HB.out.trans (hB.mono HB.out.size))
  have HI_y := Lib.hid i_y; have HD_y := Lib.hid d_y; have HN_y := Lib.hid hn
  obtain ⟨c_y, hc_y⟩ : ∃ c, y_y.cell = c := ⟨_, rfl⟩
  rw [hc_y]
  have HC_y := Lib.hid hc_y
  clear hB ho hn hb i_y d_y hc_y
  go_wp2_with fail
  refine ((HC_x.out ▸ HC_y.out ▸ HD.out ▸ eqvS_data HD_x.out (ownL_one.1 Hx.out) HD_y.out (ownL_one.1 Hy.out))).mono ?_
  rintro e w_5 ⟨rfl, hg⟩
  have hB := hg.below
  replace Hx := Lib.hid (ownL_later Hx.out hB)
  replace Hy := Lib.hid (ownL_later Hy.out hB)
  have HS5 := Lib.hid hB.size
  replace HB := Lib.hid (HB.out.trans (hB.mono HB.out.size))
  clear hB hg
  go_wp2_with fail
  refine (toV_one _ sv_l _ (rwV_reads ((HRH_l.out.below HB.out (Nat.le_refl _)).mono HB.out.size)) HWH_l.out).mono ?_
  rintro e w_6 ⟨y_u, rfl, i_u, d_u, ho, hn, hb⟩
  have hB := hb
  replace Hx := Lib.hid (ownL_later Hx.out hB)
  replace Hy := Lib.hid (ownL_later Hy.out hB)
  have Hu := Lib.hid (ho)
  have HS6 := Lib.hid hB.size
  replace HB := Lib.hid (HB.out.trans (hB.mono HB.out.size))
  have HI_u := Lib.hid i_u; have HD_u := Lib.hid d_u; have HN_u := Lib.hid hn
  obtain ⟨c_u, hc_u⟩ : ∃ c, y_u.cell = c := ⟨_, rfl⟩
  rw [hc_u]
  have HC_u := Lib.hid hc_u
  clear hB ho hn hb i_u d_u hc_u
  go_wp2_with fail
  refine (toV_one _ sv_m _ (rwV_reads ((HRH_m.out.below HB.out (Nat.le_refl _)).mono HB.out.size)) HWH_m.out).mono ?_
  rintro e w_7 ⟨y_v, rfl, i_v, d_v, ho, hn, hb⟩
  have hB := hb
  replace Hx := Lib.hid (ownL_later Hx.out hB)
  replace Hy := Lib.hid (ownL_later Hy.out hB)
  replace Hu := Lib.hid (ownL_later Hu.out hB)
  have Hv := Lib.hid (ho)
  have HS7 := Lib.hid hB.size
  replace HB := Lib.hid (HB.out.trans (hB.mono HB.out.size))
  have HI_v := Lib.hid i_v; have HD_v := Lib.hid d_v; have HN_v := Lib.hid hn
  obtain ⟨c_v, hc_v⟩ : ∃ c, y_v.cell = c := ⟨_, rfl⟩
  rw [hc_v]
  have HC_v := Lib.hid hc_v
  clear hB ho hn hb i_v d_v hc_v
  go_wp2_with fail
  refine ((HC_u.out ▸ HC_v.out ▸ HD.out ▸ eqvI_data HD_u.out (ownL_one.1 Hu.out) HD_v.out (ownL_one.1 Hv.out))).mono ?_
  rintro e w_8 ⟨rfl, hg⟩
  have hB := hg.below
  replace Hx := Lib.hid (ownL_later Hx.out hB)
  replace Hy := Lib.hid (ownL_later Hy.out hB)
  replace Hu := Lib.hid (ownL_later Hu.out hB)
  replace Hv := Lib.hid (ownL_later Hv.out hB)
  have HS8 := Lib.hid hB.size
  replace HB := Lib.hid (HB.out.trans (hB.mono HB.out.size))
  clear hB hg
  go_wp2_with fail
  refine (toV_one _ sv_l _ (rwV_reads ((HRH_l.out.below HB.out (Nat.le_refl _)).mono HB.out.size)) HWH_l.out).mono ?_
  rintro e w_9 ⟨y_z, rfl, i_z, d_z, ho, hn, hb⟩
  have hB := hb
  replace Hx := Lib.hid (ownL_later Hx.out hB)
  replace Hy := Lib.hid (ownL_later Hy.out hB)
  replace Hu := Lib.hid (ownL_later Hu.out hB)
  replace Hv := Lib.hid (ownL_later Hv.out hB)
  have Hz := Lib.hid (ho)
  have HS9 := Lib.hid hB.size
  replace HB := Lib.hid (HB.out.trans (hB.mono HB.out.size))
  have HI_z := Lib.hid i_z; have HD_z := Lib.hid d_z; have HN_z := Lib.hid hn
  obtain ⟨c_z, hc_z⟩ : ∃ c, y_z.cell = c := ⟨_, rfl⟩
  rw [hc_z]
  have HC_z := Lib.hid hc_z
  clear hB ho hn hb i_z d_z hc_z
  go_wp2_with fail
  refine ((HC_u.out ▸ HC_z.out ▸ eq_ServerS y_u y_z HI_u.out HI_z.out (HD_u.out.trans HD_z.out.symm) _ (rd_of (ownL_one.1 Hu.out)) (rd_of (ownL_one.1 Hz.out)))).mono ?_
  rintro e w_10 ⟨rfl, hg⟩
  have hB := hg.below
  replace Hx := Lib.hid (ownL_later Hx.out hB)
  replace Hy := Lib.hid (ownL_later Hy.out hB)
  replace Hu := Lib.hid (ownL_later Hu.out hB)
  replace Hv := Lib.hid (ownL_later Hv.out hB)
  replace Hz := Lib.hid (ownL_later Hz.out hB)
  have HS10 := Lib.hid hB.size
  replace HB := Lib.hid (HB.out.trans (hB.mono HB.out.size))
  clear hB hg
  go_wp2_with fail
  refine (toV_one _ sv_m _ (rwV_reads ((HRH_m.out.below HB.out (Nat.le_refl _)).mono HB.out.size)) HWH_m.out).mono ?_
  rintro e w_11 ⟨y_q, rfl, i_q, d_q, ho, hn, hb⟩
  have hB := hb
  replace Hx := Lib.hid (ownL_later Hx.out hB)
  replace Hy := Lib.hid (ownL_later Hy.out hB)
  replace Hu := Lib.hid (ownL_later Hu.out hB)
  replace Hv := Lib.hid (ownL_later Hv.out hB)
  replace Hz := Lib.hid (ownL_later Hz.out hB)
  have Hq := Lib.hid (ho)
  have HS11 := Lib.hid hB.size
  replace HB := Lib.hid (HB.out.trans (hB.mono HB.out.size))
  have HI_q := Lib.hid i_q; have HD_q := Lib.hid d_q; have HN_q := Lib.hid hn
  obtain ⟨c_q, hc_q⟩ : ∃ c, y_q.cell = c := ⟨_, rfl⟩
  rw [hc_q]
  have HC_q := Lib.hid hc_q
  clear hB ho hn hb i_q d_q hc_q
  go_wp2_with fail
  refine ((HC_v.out ▸ HC_q.out ▸ eq_ServerS y_v y_q HI_v.out HI_q.out (HD_v.out.trans HD_q.out.symm) _ (rd_of (ownL_one.1 Hv.out)) (rd_of (ownL_one.1 Hq.out)))).mono ?_
  rintro e w_12 ⟨rfl, hg⟩
  have hB := hg.below
  replace Hx := Lib.hid (ownL_later Hx.out hB)
  replace Hy := Lib.hid (ownL_later Hy.out hB)
  replace Hu := Lib.hid (ownL_later Hu.out hB)
  replace Hv := Lib.hid (ownL_later Hv.out hB)
  replace Hz := Lib.hid (ownL_later Hz.out hB)
  replace Hq := Lib.hid (ownL_later Hq.out hB)
  have HS12 := Lib.hid hB.size
  replace HB := Lib.hid (HB.out.trans (hB.mono HB.out.size))
  clear hB hg
  go_wp2_with fail
  go_ret
  exact ⟨rfl, HB.out⟩
end Go.Proofs.Ytpkicliimhflgaa

/- The walk of the law FnExactJoinSheets: it returns true, and writes nothing that was there. -/
import Derived.Test.YtmlmiclgledcpaaLawSJ
import Derived.Deep.RegionWith
import Derived.Deep.CutRange
namespace Go.Proofs.Ytmlmiclgledcpaa
open Go.ChangeShapes Go.WideShapes Go.ChangeAt Go.RowKit

set_option maxRecDepth 100000 in
set_option maxHeartbeats 4000000 in
theorem walkJoinSheets (ha_l : Option Addr) (hn_l hc_l : Nat) (ss_l : List Shv) (w : World) (r_l : IsShs w (.slice ha_l hn_l hc_l) ss_l) :
    Calls Try.prog 7 #[.slice ha_l hn_l hc_l] w fun e w' => e = .returned (.bool true) ∧ Below w.heap.size w w' := by
  obtain ⟨hrh_l, hoh_l⟩ := r_l
  have HRH_l := Lib.hid hrh_l; have HOH_l := Lib.hid hoh_l; have HSM_l := Lib.hid (rwH_small (v := .slice ha_l hn_l hc_l) hoh_l); clear hrh_l hoh_l
  go_enter Try.func7, Try.ntmps7
  have HB := Lib.hid (Below.refl w.heap.size w)
  go_wp2_with fail
  refine (sz_SheetS (rwH (.slice ha_l hn_l hc_l) ss_l) (rwH_is _ _) 1048576 (by omega) (by omega) _ (rwH_reads ((HRH_l.out.below HB.out (Nat.le_refl _)).mono HB.out.size)) HSM_l.out).mono ?_
  rintro e w_1 ⟨r, rfl, lo_r, hi_r, hg⟩
  have hB := hg.below
  have HS1 := Lib.hid hB.size
  replace HB := Lib.hid (HB.out.trans (hB.mono HB.out.size))
  clear hB hg
  by_cases neg_r : r < 0
  · go_wp2_with fail
    go_ret
    exact ⟨rfl, HB.out⟩
  replace hi_r := hi_r (by omega)
  have hu_r : r ≤ 1048576 := by omega
  have HWH_l := Lib.hid (show (rwH (.slice ha_l hn_l hc_l) ss_l).weight ≤ 1048576 by omega); clear hi_r
  have HSO_l := Lib.hid (shsOk_of HWH_l.out HOH_l.out)
  go_wp2_with fail
  refine (toH_one _ ss_l _ (rwH_reads ((HRH_l.out.below HB.out (Nat.le_refl _)).mono HB.out.size)) HWH_l.out).mono ?_
  rintro e w_2 ⟨y_x, rfl, i_x, d_x, ho, hn, hb⟩
  have hB := hb
  have Hx := Lib.hid (ho)
  have HS2 := Lib.hid hB.size
  replace HB := Lib.hid (HB.out.trans (hB.mono HB.out.size))
  have HI_x := Lib.hid i_x; have HD_x := Lib.hid d_x; have HN_x := Lib.hid hn
  obtain ⟨c_x, hc_x⟩ : ∃ c, y_x.cell = c := ⟨_, rfl⟩
  rw [hc_x]
  have HC_x := Lib.hid hc_x
  clear hB ho hn hb i_x d_x hc_x
  go_wp2_with fail
  refine (HC_x.out ▸ jS_data HD_x.out (ownL_one.1 Hx.out) HSO_l.out).mono ?_
  rintro e w_3 ⟨sa_p, sn_p, sc_p, N, rfl, hjn, hm⟩
  have HJN := Lib.hid hjn
  obtain ⟨RS, hRS⟩ : ∃ RS, withCol (flatR ss_l) N = RS := ⟨_, rfl⟩
  have HRS := Lib.hid hRS
  rw [hRS] at hm
  have hB := hm.below
  replace Hx := Lib.hid (ownL_later Hx.out hB)
  have Hp := Lib.hid (ownL_one.2 (rwU_own hm.own))
  have HS3 := Lib.hid hB.size
  replace HB := Lib.hid (HB.out.trans (hB.mono HB.out.size))
  have HN_p := Lib.hid (optL_nodup2 (.slice sa_p sn_p sc_p) RS)
  clear hB hm hjn hRS
  go_wp2_with fail
  obtain ⟨w_4, hw⟩ : ∃ x, w_3.alloc (.cells #[.slice sa_p sn_p sc_p] 66) = x := ⟨_, rfl⟩
  rw [hw]
  have hB : Below w_3.heap.size w_3 w_4 := by rw [← hw]; exact (Below.refl _ _).alloc (Nat.le_refl _) _
  have q_p0 : w_4.cell? ⟨w_3.heap.size, 0, none⟩ = some (.slice sa_p sn_p sc_p) := by rw [← hw]; simp
  have b_p : w_3.heap.size < w_4.heap.size := World.block_lt_of_cell? _ _ q_p0
  replace Hx := Lib.hid (ownL_later Hx.out hB)
  replace Hp := Lib.hid (ownL_later Hp.out hB)
  have HS4 := Lib.hid hB.size
  replace HB := Lib.hid (HB.out.trans (hB.mono HB.out.size))
  clear hB hw
  have HSb_p := Lib.hid b_p
  go_wp2_with fail
  refine (toH_one _ ss_l _ (rwH_reads ((HRH_l.out.below HB.out (Nat.le_refl _)).mono HB.out.size)) HWH_l.out).mono ?_
  rintro e w_5 ⟨y_y, rfl, i_y, d_y, ho, hn, hb⟩
  have hB := hb
  replace q_p0 := (hB.cell (show (⟨w_3.heap.size, 0, none⟩ : Addr).block < _ from World.block_lt_of_cell? _ _ q_p0)).trans q_p0
  replace b_p : w_3.heap.size < w_5.heap.size := World.block_lt_of_cell? _ _ q_p0
  replace Hx := Lib.hid (ownL_later Hx.out hB)
  replace Hp := Lib.hid (ownL_later Hp.out hB)
  have Hy := Lib.hid (ho)
  have HS5 := Lib.hid hB.size
  replace HB := Lib.hid (HB.out.trans (hB.mono HB.out.size))
  have HI_y := Lib.hid i_y; have HD_y := Lib.hid d_y; have HN_y := Lib.hid hn
  obtain ⟨c_y, hc_y⟩ : ∃ c, y_y.cell = c := ⟨_, rfl⟩
  rw [hc_y]
  have HC_y := Lib.hid hc_y
  clear hB ho hn hb i_y d_y hc_y
  go_wp2_with fail
  refine (HC_y.out ▸ jI_data HD_y.out (ownL_one.1 Hy.out) HSO_l.out).mono ?_
  rintro e w_6 ⟨sa_g, sn_g, sc_g, N_g, rfl, hjn, hm⟩
  have hNN := HJN.out.unique hjn; rw [← hNN] at hm; clear hNN
  rw [HRS.out] at hm
  have hB := hm.below
  replace q_p0 := (hB.cell (show (⟨w_3.heap.size, 0, none⟩ : Addr).block < _ from World.block_lt_of_cell? _ _ q_p0)).trans q_p0
  replace b_p : w_3.heap.size < w_6.heap.size := World.block_lt_of_cell? _ _ q_p0
  replace Hx := Lib.hid (ownL_later Hx.out hB)
  replace Hp := Lib.hid (ownL_later Hp.out hB)
  replace Hy := Lib.hid (ownL_later Hy.out hB)
  have Hg := Lib.hid (ownL_one.2 (rwU_own hm.own))
  have HS6 := Lib.hid hB.size
  replace HB := Lib.hid (HB.out.trans (hB.mono HB.out.size))
  have HN_g := Lib.hid (optL_nodup2 (.slice sa_g sn_g sc_g) RS)
  clear hB hm hjn
  go_wp2_with fail
  obtain ⟨w_7, hw⟩ : ∃ x, w_6.alloc (.cells #[.slice sa_g sn_g sc_g] 66) = x := ⟨_, rfl⟩
  rw [hw]
  have hB : Below w_6.heap.size w_6 w_7 := by rw [← hw]; exact (Below.refl _ _).alloc (Nat.le_refl _) _
  have q_g0 : w_7.cell? ⟨w_6.heap.size, 0, none⟩ = some (.slice sa_g sn_g sc_g) := by rw [← hw]; simp
  have b_g : w_6.heap.size < w_7.heap.size := World.block_lt_of_cell? _ _ q_g0
  replace q_p0 := (hB.cell (show (⟨w_3.heap.size, 0, none⟩ : Addr).block < _ from World.block_lt_of_cell? _ _ q_p0)).trans q_p0
  replace b_p : w_3.heap.size < w_7.heap.size := World.block_lt_of_cell? _ _ q_p0
  replace Hx := Lib.hid (ownL_later Hx.out hB)
  replace Hp := Lib.hid (ownL_later Hp.out hB)
  replace Hy := Lib.hid (ownL_later Hy.out hB)
  replace Hg := Lib.hid (ownL_later Hg.out hB)
  have HS7 := Lib.hid hB.size
  replace HB := Lib.hid (HB.out.trans (hB.mono HB.out.size))
  clear hB hw
  have HSb_g := Lib.hid b_g
  have HRL := Lib.hid (show RS.length ≤ 1048576 by rw [← HRS.out, withCol_len]; exact Nat.le_trans HJN.out.len HSO_l.out.tot)
  go_wp2_with fail
  refine (eqV_Sheet (rwU (.slice sa_g sn_g sc_g) RS) (rwU (.slice sa_p sn_p sc_p) RS) _ _ rfl rfl _ (rwU_is _ _) (rwU_is _ _) (rwU_data _ _ _) (rd_of (ownL_one.1 Hg.out)) (rd_of (ownL_one.1 Hp.out))).mono ?_
  rintro e w_8 ⟨rfl, hg⟩
  have hB := hg.below
  replace q_p0 := (hB.cell (show (⟨w_3.heap.size, 0, none⟩ : Addr).block < _ from World.block_lt_of_cell? _ _ q_p0)).trans q_p0
  replace b_p : w_3.heap.size < w_8.heap.size := World.block_lt_of_cell? _ _ q_p0
  replace q_g0 := (hB.cell (show (⟨w_6.heap.size, 0, none⟩ : Addr).block < _ from World.block_lt_of_cell? _ _ q_g0)).trans q_g0
  replace b_g : w_6.heap.size < w_8.heap.size := World.block_lt_of_cell? _ _ q_g0
  replace Hx := Lib.hid (ownL_later Hx.out hB)
  replace Hp := Lib.hid (ownL_later Hp.out hB)
  replace Hy := Lib.hid (ownL_later Hy.out hB)
  replace Hg := Lib.hid (ownL_later Hg.out hB)
  have HS8 := Lib.hid hB.size
  replace HB := Lib.hid (HB.out.trans (hB.mono HB.out.size))
  clear hB hg
  go_wp2_with fail
  refine (toH_one _ ss_l _ (rwH_reads ((HRH_l.out.below HB.out (Nat.le_refl _)).mono HB.out.size)) HWH_l.out).mono ?_
  rintro e w_9 ⟨y_z, rfl, i_z, d_z, ho, hn, hb⟩
  have hB := hb
  replace q_p0 := (hB.cell (show (⟨w_3.heap.size, 0, none⟩ : Addr).block < _ from World.block_lt_of_cell? _ _ q_p0)).trans q_p0
  replace b_p : w_3.heap.size < w_9.heap.size := World.block_lt_of_cell? _ _ q_p0
  replace q_g0 := (hB.cell (show (⟨w_6.heap.size, 0, none⟩ : Addr).block < _ from World.block_lt_of_cell? _ _ q_g0)).trans q_g0
  replace b_g : w_6.heap.size < w_9.heap.size := World.block_lt_of_cell? _ _ q_g0
  replace Hx := Lib.hid (ownL_later Hx.out hB)
  replace Hp := Lib.hid (ownL_later Hp.out hB)
  replace Hy := Lib.hid (ownL_later Hy.out hB)
  replace Hg := Lib.hid (ownL_later Hg.out hB)
  have Hz := Lib.hid (ho)
  have HS9 := Lib.hid hB.size
  replace HB := Lib.hid (HB.out.trans (hB.mono HB.out.size))
  have HI_z := Lib.hid i_z; have HD_z := Lib.hid d_z; have HN_z := Lib.hid hn
  obtain ⟨c_z, hc_z⟩ : ∃ c, y_z.cell = c := ⟨_, rfl⟩
  rw [hc_z]
  have HC_z := Lib.hid hc_z
  clear hB ho hn hb i_z d_z hc_z
  go_wp2_with fail
  refine ((HC_y.out ▸ HC_z.out ▸ eq_SheetS y_y y_z HI_y.out HI_z.out (HD_y.out.trans HD_z.out.symm) _ (rd_of (ownL_one.1 Hy.out)) (rd_of (ownL_one.1 Hz.out)))).mono ?_
  rintro e w_10 ⟨rfl, hg⟩
  have hB := hg.below
  replace q_p0 := (hB.cell (show (⟨w_3.heap.size, 0, none⟩ : Addr).block < _ from World.block_lt_of_cell? _ _ q_p0)).trans q_p0
  replace b_p : w_3.heap.size < w_10.heap.size := World.block_lt_of_cell? _ _ q_p0
  replace q_g0 := (hB.cell (show (⟨w_6.heap.size, 0, none⟩ : Addr).block < _ from World.block_lt_of_cell? _ _ q_g0)).trans q_g0
  replace b_g : w_6.heap.size < w_10.heap.size := World.block_lt_of_cell? _ _ q_g0
  replace Hx := Lib.hid (ownL_later Hx.out hB)
  replace Hp := Lib.hid (ownL_later Hp.out hB)
  replace Hy := Lib.hid (ownL_later Hy.out hB)
  replace Hg := Lib.hid (ownL_later Hg.out hB)
  replace Hz := Lib.hid (ownL_later Hz.out hB)
  have HS10 := Lib.hid hB.size
  replace HB := Lib.hid (HB.out.trans (hB.mono HB.out.size))
  clear hB hg
  have HCT_y := Lib.hid (show 1 + countL [y_y] ≤ 4611686018427387904 by have h1 := count_data _ _ HD_y.out; have h2 := HSO_l.out.tot; rw [rwH_count] at h1; rw [countL, countL]; omega)
  have NOB_p_y := Lib.hid (show w_3.heap.size ∉ _ from fun hb => by have hh := ownL_lt Hy.out _ hb; have := HS1.out; have := HS2.out; have := HS3.out; have := HS4.out; have := HSb_p.out; have := HS5.out; have := HS6.out; have := HS7.out; have := HSb_g.out; have := HS8.out; have := HS9.out; have := HS10.out; omega)
  have NOB_g_y := Lib.hid (show w_6.heap.size ∉ _ from fun hb => by have hh := ownL_lt Hy.out _ hb; have := HS1.out; have := HS2.out; have := HS3.out; have := HS4.out; have := HSb_p.out; have := HS5.out; have := HS6.out; have := HS7.out; have := HSb_g.out; have := HS8.out; have := HS9.out; have := HS10.out; omega)
  go_wp2_with fail
  refine ((HC_y.out ▸ mkH_one y_y HI_y.out _ _ 1 _ rfl _ Hy.out HN_y.out HCT_y.out)).mono ?_
  rintro e w_11 ⟨rfl, hmk, hon⟩
  replace q_p0 := (cell_only (a := ⟨w_3.heap.size, 0, none⟩) hon (show w_3.heap.size ∉ _ from fun hb => NOB_p_y.out hb) (World.block_lt_of_cell? _ _ q_p0)).trans q_p0
  replace b_p : w_3.heap.size < w_11.heap.size := World.block_lt_of_cell? _ _ q_p0
  replace q_g0 := (cell_only (a := ⟨w_6.heap.size, 0, none⟩) hon (show w_6.heap.size ∉ _ from fun hb => NOB_g_y.out hb) (World.block_lt_of_cell? _ _ q_g0)).trans q_g0
  replace b_g : w_6.heap.size < w_11.heap.size := World.block_lt_of_cell? _ _ q_g0
  have hbk := ownL_back (lo := w.heap.size) HB.out (ownL_mono Hy.out (lo' := w.heap.size) (by have := HS1.out; have := HS2.out; have := HS3.out; have := HS4.out; have := HSb_p.out; have := HS5.out; have := HS6.out; have := HS7.out; have := HSb_g.out; have := HS8.out; have := HS9.out; have := HS10.out; omega) (Nat.le_refl _)) HB.out.size hon
  replace Hx := Lib.hid (ownL_apart Hx.out Hy.out (by have := HS1.out; have := HS2.out; have := HS3.out; have := HS4.out; have := HSb_p.out; have := HS5.out; have := HS6.out; have := HS7.out; have := HSb_g.out; have := HS8.out; have := HS9.out; have := HS10.out; omega) hon)
  replace Hp := Lib.hid (ownL_apart Hp.out Hy.out (by have := HS1.out; have := HS2.out; have := HS3.out; have := HS4.out; have := HSb_p.out; have := HS5.out; have := HS6.out; have := HS7.out; have := HSb_g.out; have := HS8.out; have := HS9.out; have := HS10.out; omega) hon)
  replace Hg := Lib.hid (ownL_apart Hg.out Hy.out (by have := HS1.out; have := HS2.out; have := HS3.out; have := HS4.out; have := HSb_p.out; have := HS5.out; have := HS6.out; have := HS7.out; have := HSb_g.out; have := HS8.out; have := HS9.out; have := HS10.out; omega) hon)
  replace Hz := Lib.hid (ownL_apart Hz.out Hy.out (by have := HS1.out; have := HS2.out; have := HS3.out; have := HS4.out; have := HSb_p.out; have := HS5.out; have := HS6.out; have := HS7.out; have := HSb_g.out; have := HS8.out; have := HS9.out; have := HS10.out; omega) hon)
  replace Hy := Lib.hid hmk
  have HS11 := Lib.hid hon.size
  replace HB := Lib.hid hbk
  clear hbk hmk hon
  obtain ⟨m2, hm2⟩ : ∃ m, 1 + countL [y_y] = m := ⟨_, rfl⟩
  rw [hm2]; have hm20 : ¬ ((m2 : Int) < 0) := by omega
  clear hm2
  have hm2d : decide ((m2 : Int) < 0) = false := decide_eq_false hm20
  go_wp2_with fail
  refine (eqV_Sheet (rwU (.slice sa_g sn_g sc_g) RS) (rwU (.slice sa_p sn_p sc_p) RS) _ _ rfl rfl _ (rwU_is _ _) (rwU_is _ _) (rwU_data _ _ _) (rd_of (ownL_one.1 Hg.out)) (rd_of (ownL_one.1 Hp.out))).mono ?_
  rintro e w_12 ⟨rfl, hg⟩
  have hB := hg.below
  replace q_p0 := (hB.cell (show (⟨w_3.heap.size, 0, none⟩ : Addr).block < _ from World.block_lt_of_cell? _ _ q_p0)).trans q_p0
  replace b_p : w_3.heap.size < w_12.heap.size := World.block_lt_of_cell? _ _ q_p0
  replace q_g0 := (hB.cell (show (⟨w_6.heap.size, 0, none⟩ : Addr).block < _ from World.block_lt_of_cell? _ _ q_g0)).trans q_g0
  replace b_g : w_6.heap.size < w_12.heap.size := World.block_lt_of_cell? _ _ q_g0
  replace Hx := Lib.hid (ownL_later Hx.out hB)
  replace Hp := Lib.hid (ownL_later Hp.out hB)
  replace Hy := Lib.hid (ownL_later Hy.out hB)
  replace Hg := Lib.hid (ownL_later Hg.out hB)
  replace Hz := Lib.hid (ownL_later Hz.out hB)
  have HS12 := Lib.hid hB.size
  replace HB := Lib.hid (HB.out.trans (hB.mono HB.out.size))
  clear hB hg
  have HCT_g := Lib.hid (show 1 + countL [(rwU (.slice sa_g sn_g sc_g) RS)] ≤ 4611686018427387904 by have h1 := HRL.out; rw [countL, countL, rwU_count]; omega)
  have NOB_p_g := Lib.hid (show w_3.heap.size ∉ _ from fun hb => by have hh := ownL_lt Hg.out _ hb; have := HS1.out; have := HS2.out; have := HS3.out; have := HS4.out; have := HSb_p.out; have := HS5.out; have := HS6.out; have := HS7.out; have := HSb_g.out; have := HS8.out; have := HS9.out; have := HS10.out; have := HS11.out; have := HS12.out; omega)
  have NOB_g_g := Lib.hid (show w_6.heap.size ∉ _ from fun hb => by have hh := ownL_lt Hg.out _ hb; have := HS1.out; have := HS2.out; have := HS3.out; have := HS4.out; have := HSb_p.out; have := HS5.out; have := HS6.out; have := HS7.out; have := HSb_g.out; have := HS8.out; have := HS9.out; have := HS10.out; have := HS11.out; have := HS12.out; omega)
  go_wp2_with fail
  refine (mkV_Sheet (rwU (.slice sa_g sn_g sc_g) RS) _ rfl (rwU_is _ _) _ _ 1 _ rfl _ Hg.out HN_g.out HCT_g.out).mono ?_
  rintro e w_13 ⟨rfl, hmk, hon⟩
  replace q_p0 := (cell_only (a := ⟨w_3.heap.size, 0, none⟩) hon (show w_3.heap.size ∉ _ from fun hb => NOB_p_g.out hb) (World.block_lt_of_cell? _ _ q_p0)).trans q_p0
  replace b_p : w_3.heap.size < w_13.heap.size := World.block_lt_of_cell? _ _ q_p0
  replace q_g0 := (cell_only (a := ⟨w_6.heap.size, 0, none⟩) hon (show w_6.heap.size ∉ _ from fun hb => NOB_g_g.out hb) (World.block_lt_of_cell? _ _ q_g0)).trans q_g0
  replace b_g : w_6.heap.size < w_13.heap.size := World.block_lt_of_cell? _ _ q_g0
  have hbk := ownL_back (lo := w.heap.size) HB.out (ownL_mono Hg.out (lo' := w.heap.size) (by have := HS1.out; have := HS2.out; have := HS3.out; have := HS4.out; have := HSb_p.out; have := HS5.out; have := HS6.out; have := HS7.out; have := HSb_g.out; have := HS8.out; have := HS9.out; have := HS10.out; have := HS11.out; have := HS12.out; omega) (Nat.le_refl _)) HB.out.size hon
  replace Hx := Lib.hid (ownL_apart Hx.out Hg.out (by have := HS1.out; have := HS2.out; have := HS3.out; have := HS4.out; have := HSb_p.out; have := HS5.out; have := HS6.out; have := HS7.out; have := HSb_g.out; have := HS8.out; have := HS9.out; have := HS10.out; have := HS11.out; have := HS12.out; omega) hon)
  replace Hp := Lib.hid (ownL_apart Hp.out Hg.out (by have := HS1.out; have := HS2.out; have := HS3.out; have := HS4.out; have := HSb_p.out; have := HS5.out; have := HS6.out; have := HS7.out; have := HSb_g.out; have := HS8.out; have := HS9.out; have := HS10.out; have := HS11.out; have := HS12.out; omega) hon)
  replace Hy := Lib.hid (ownL_apart Hy.out Hg.out (by have := HS1.out; have := HS2.out; have := HS3.out; have := HS4.out; have := HSb_p.out; have := HS5.out; have := HS6.out; have := HS7.out; have := HSb_g.out; have := HS8.out; have := HS9.out; have := HS10.out; have := HS11.out; have := HS12.out; omega) hon)
  replace Hz := Lib.hid (ownL_apart Hz.out Hg.out (by have := HS1.out; have := HS2.out; have := HS3.out; have := HS4.out; have := HSb_p.out; have := HS5.out; have := HS6.out; have := HS7.out; have := HSb_g.out; have := HS8.out; have := HS9.out; have := HS10.out; have := HS11.out; have := HS12.out; omega) hon)
  replace Hg := Lib.hid hmk
  have HS13 := Lib.hid hon.size
  replace HB := Lib.hid hbk
  clear hbk hmk hon
  obtain ⟨m, hm⟩ : ∃ m, 1 + countL [(rwU (.slice sa_g sn_g sc_g) RS)] = m := ⟨_, rfl⟩
  rw [hm]; have HM := Lib.hid hm
  have hmq : ((m : Int) == (m : Int)) = true := beq_self_eq_true _
  have hm0 : ¬ ((m : Int) < 0) := by omega
  clear hm
  go_wp2_with fail
  refine (hdV_Sheet (rwU (.slice sa_g sn_g sc_g) RS) _ rfl (rwU_is _ _) _ 1 _ rfl _ (ownL_read Hg.out (by have := HS1.out; have := HS2.out; have := HS3.out; have := HS4.out; have := HSb_p.out; have := HS5.out; have := HS6.out; have := HS7.out; have := HSb_g.out; have := HS8.out; have := HS9.out; have := HS10.out; have := HS11.out; have := HS12.out; have := HS13.out; omega)) (Nat.le_refl _) HCT_g.out).mono ?_
  rintro e w_14 ⟨rfl, hg⟩
  have hB := hg.below
  replace q_p0 := (hB.cell (show (⟨w_3.heap.size, 0, none⟩ : Addr).block < _ from World.block_lt_of_cell? _ _ q_p0)).trans q_p0
  replace b_p : w_3.heap.size < w_14.heap.size := World.block_lt_of_cell? _ _ q_p0
  replace q_g0 := (hB.cell (show (⟨w_6.heap.size, 0, none⟩ : Addr).block < _ from World.block_lt_of_cell? _ _ q_g0)).trans q_g0
  replace b_g : w_6.heap.size < w_14.heap.size := World.block_lt_of_cell? _ _ q_g0
  replace Hx := Lib.hid (ownL_later Hx.out hB)
  replace Hp := Lib.hid (ownL_later Hp.out hB)
  replace Hy := Lib.hid (ownL_later Hy.out hB)
  replace Hg := Lib.hid (ownL_later Hg.out hB)
  replace Hz := Lib.hid (ownL_later Hz.out hB)
  have HS14 := Lib.hid hB.size
  replace HB := Lib.hid (HB.out.trans (hB.mono HB.out.size))
  rw [HM.out]
  clear hB hg
  go_wp2_with fail
  refine (toH_one _ ss_l _ (rwH_reads ((HRH_l.out.below HB.out (Nat.le_refl _)).mono HB.out.size)) HWH_l.out).mono ?_
  rintro e w_15 ⟨y_v, rfl, i_v, d_v, ho, hn, hb⟩
  have hB := hb
  replace q_p0 := (hB.cell (show (⟨w_3.heap.size, 0, none⟩ : Addr).block < _ from World.block_lt_of_cell? _ _ q_p0)).trans q_p0
  replace b_p : w_3.heap.size < w_15.heap.size := World.block_lt_of_cell? _ _ q_p0
  replace q_g0 := (hB.cell (show (⟨w_6.heap.size, 0, none⟩ : Addr).block < _ from World.block_lt_of_cell? _ _ q_g0)).trans q_g0
  replace b_g : w_6.heap.size < w_15.heap.size := World.block_lt_of_cell? _ _ q_g0
  replace Hx := Lib.hid (ownL_later Hx.out hB)
  replace Hp := Lib.hid (ownL_later Hp.out hB)
  replace Hy := Lib.hid (ownL_later Hy.out hB)
  replace Hg := Lib.hid (ownL_later Hg.out hB)
  replace Hz := Lib.hid (ownL_later Hz.out hB)
  have Hv := Lib.hid (ho)
  have HS15 := Lib.hid hB.size
  replace HB := Lib.hid (HB.out.trans (hB.mono HB.out.size))
  have HI_v := Lib.hid i_v; have HD_v := Lib.hid d_v; have HN_v := Lib.hid hn
  obtain ⟨c_v, hc_v⟩ : ∃ c, y_v.cell = c := ⟨_, rfl⟩
  rw [hc_v]
  have HC_v := Lib.hid hc_v
  clear hB ho hn hb i_v d_v hc_v
  go_wp2_with fail
  refine (HC_v.out ▸ jI_data HD_v.out (ownL_one.1 Hv.out) HSO_l.out).mono ?_
  rintro e w_16 ⟨sa_h, sn_h, sc_h, N_h, rfl, hjn, hm⟩
  have hNN := HJN.out.unique hjn; rw [← hNN] at hm; clear hNN
  rw [HRS.out] at hm
  have hB := hm.below
  replace q_p0 := (hB.cell (show (⟨w_3.heap.size, 0, none⟩ : Addr).block < _ from World.block_lt_of_cell? _ _ q_p0)).trans q_p0
  replace b_p : w_3.heap.size < w_16.heap.size := World.block_lt_of_cell? _ _ q_p0
  replace q_g0 := (hB.cell (show (⟨w_6.heap.size, 0, none⟩ : Addr).block < _ from World.block_lt_of_cell? _ _ q_g0)).trans q_g0
  replace b_g : w_6.heap.size < w_16.heap.size := World.block_lt_of_cell? _ _ q_g0
  replace Hx := Lib.hid (ownL_later Hx.out hB)
  replace Hp := Lib.hid (ownL_later Hp.out hB)
  replace Hy := Lib.hid (ownL_later Hy.out hB)
  replace Hg := Lib.hid (ownL_later Hg.out hB)
  replace Hz := Lib.hid (ownL_later Hz.out hB)
  replace Hv := Lib.hid (ownL_later Hv.out hB)
  have Hh := Lib.hid (ownL_one.2 (rwU_own hm.own))
  have HS16 := Lib.hid hB.size
  replace HB := Lib.hid (HB.out.trans (hB.mono HB.out.size))
  have HN_h := Lib.hid (optL_nodup2 (.slice sa_h sn_h sc_h) RS)
  clear hB hm hjn
  go_wp2_with fail
  obtain ⟨w_17, hw⟩ : ∃ x, w_16.alloc (.cells #[.slice sa_h sn_h sc_h] 66) = x := ⟨_, rfl⟩
  rw [hw]
  have hB : Below w_16.heap.size w_16 w_17 := by rw [← hw]; exact (Below.refl _ _).alloc (Nat.le_refl _) _
  have q_h0 : w_17.cell? ⟨w_16.heap.size, 0, none⟩ = some (.slice sa_h sn_h sc_h) := by rw [← hw]; simp
  have b_h : w_16.heap.size < w_17.heap.size := World.block_lt_of_cell? _ _ q_h0
  replace q_p0 := (hB.cell (show (⟨w_3.heap.size, 0, none⟩ : Addr).block < _ from World.block_lt_of_cell? _ _ q_p0)).trans q_p0
  replace b_p : w_3.heap.size < w_17.heap.size := World.block_lt_of_cell? _ _ q_p0
  replace q_g0 := (hB.cell (show (⟨w_6.heap.size, 0, none⟩ : Addr).block < _ from World.block_lt_of_cell? _ _ q_g0)).trans q_g0
  replace b_g : w_6.heap.size < w_17.heap.size := World.block_lt_of_cell? _ _ q_g0
  replace Hx := Lib.hid (ownL_later Hx.out hB)
  replace Hp := Lib.hid (ownL_later Hp.out hB)
  replace Hy := Lib.hid (ownL_later Hy.out hB)
  replace Hg := Lib.hid (ownL_later Hg.out hB)
  replace Hz := Lib.hid (ownL_later Hz.out hB)
  replace Hv := Lib.hid (ownL_later Hv.out hB)
  replace Hh := Lib.hid (ownL_later Hh.out hB)
  have HS17 := Lib.hid hB.size
  replace HB := Lib.hid (HB.out.trans (hB.mono HB.out.size))
  clear hB hw
  have HSb_h := Lib.hid b_h
  go_wp2_with fail
  refine (eqV_Sheet (rwU (.slice sa_h sn_h sc_h) RS) (rwU (.slice sa_p sn_p sc_p) RS) _ _ rfl rfl _ (rwU_is _ _) (rwU_is _ _) (rwU_data _ _ _) (rd_of (ownL_one.1 Hh.out)) (rd_of (ownL_one.1 Hp.out))).mono ?_
  rintro e w_18 ⟨rfl, hg⟩
  have hB := hg.below
  replace q_p0 := (hB.cell (show (⟨w_3.heap.size, 0, none⟩ : Addr).block < _ from World.block_lt_of_cell? _ _ q_p0)).trans q_p0
  replace b_p : w_3.heap.size < w_18.heap.size := World.block_lt_of_cell? _ _ q_p0
  replace q_g0 := (hB.cell (show (⟨w_6.heap.size, 0, none⟩ : Addr).block < _ from World.block_lt_of_cell? _ _ q_g0)).trans q_g0
  replace b_g : w_6.heap.size < w_18.heap.size := World.block_lt_of_cell? _ _ q_g0
  replace q_h0 := (hB.cell (show (⟨w_16.heap.size, 0, none⟩ : Addr).block < _ from World.block_lt_of_cell? _ _ q_h0)).trans q_h0
  replace b_h : w_16.heap.size < w_18.heap.size := World.block_lt_of_cell? _ _ q_h0
  replace Hx := Lib.hid (ownL_later Hx.out hB)
  replace Hp := Lib.hid (ownL_later Hp.out hB)
  replace Hy := Lib.hid (ownL_later Hy.out hB)
  replace Hg := Lib.hid (ownL_later Hg.out hB)
  replace Hz := Lib.hid (ownL_later Hz.out hB)
  replace Hv := Lib.hid (ownL_later Hv.out hB)
  replace Hh := Lib.hid (ownL_later Hh.out hB)
  have HS18 := Lib.hid hB.size
  replace HB := Lib.hid (HB.out.trans (hB.mono HB.out.size))
  clear hB hg
  go_wp2_with fail
  refine (hdV_Sheet (rwU (.slice sa_g sn_g sc_g) RS) _ rfl (rwU_is _ _) _ 1 _ rfl _ (ownL_read Hg.out (by have := HS1.out; have := HS2.out; have := HS3.out; have := HS4.out; have := HSb_p.out; have := HS5.out; have := HS6.out; have := HS7.out; have := HSb_g.out; have := HS8.out; have := HS9.out; have := HS10.out; have := HS11.out; have := HS12.out; have := HS13.out; have := HS14.out; have := HS15.out; have := HS16.out; have := HS17.out; have := HSb_h.out; have := HS18.out; omega)) (Nat.le_refl _) HCT_g.out).mono ?_
  rintro e w_19 ⟨rfl, hg⟩
  have hB := hg.below
  replace q_p0 := (hB.cell (show (⟨w_3.heap.size, 0, none⟩ : Addr).block < _ from World.block_lt_of_cell? _ _ q_p0)).trans q_p0
  replace b_p : w_3.heap.size < w_19.heap.size := World.block_lt_of_cell? _ _ q_p0
  replace q_g0 := (hB.cell (show (⟨w_6.heap.size, 0, none⟩ : Addr).block < _ from World.block_lt_of_cell? _ _ q_g0)).trans q_g0
  replace b_g : w_6.heap.size < w_19.heap.size := World.block_lt_of_cell? _ _ q_g0
  replace q_h0 := (hB.cell (show (⟨w_16.heap.size, 0, none⟩ : Addr).block < _ from World.block_lt_of_cell? _ _ q_h0)).trans q_h0
  replace b_h : w_16.heap.size < w_19.heap.size := World.block_lt_of_cell? _ _ q_h0
  replace Hx := Lib.hid (ownL_later Hx.out hB)
  replace Hp := Lib.hid (ownL_later Hp.out hB)
  replace Hy := Lib.hid (ownL_later Hy.out hB)
  replace Hg := Lib.hid (ownL_later Hg.out hB)
  replace Hz := Lib.hid (ownL_later Hz.out hB)
  replace Hv := Lib.hid (ownL_later Hv.out hB)
  replace Hh := Lib.hid (ownL_later Hh.out hB)
  have HS19 := Lib.hid hB.size
  replace HB := Lib.hid (HB.out.trans (hB.mono HB.out.size))
  rw [HM.out]
  clear hB hg
  go_wp2_with fail
  go_ret
  exact ⟨rfl, HB.out⟩
end Go.Proofs.Ytmlmiclgledcpaa

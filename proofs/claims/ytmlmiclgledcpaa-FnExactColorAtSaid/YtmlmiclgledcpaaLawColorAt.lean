/- The walk of the law FnExactColorAt: it returns true, and writes nothing that was there. -/
import Derived.Test.YtmlmiclgledcpaaLawSA
import Derived.Deep.RegionHeld3
import Derived.Deep.RegionWith
import Derived.Deep.CutRange
namespace Go.Proofs.Ytmlmiclgledcpaa
open Go.ChangeShapes Go.WideShapes Go.ChangeAt Go.RowKit

set_option maxRecDepth 100000 in
set_option maxHeartbeats 4000000 in
theorem walkColorAt (ha_l : Option Addr) (hn_l hc_l : Nat) (ss_l : List Shv) (na_b : Option Addr) (nn_b nc_b : Nat) (oa_b : Option Addr) (on_b oc_b : Nat) (ns_b : List Nv) (zs_b : List Int) (a_n : Int) (w : World) (r_l : IsShs w (.slice ha_l hn_l hc_l) ss_l) (r_b : IsBd w (.slice na_b nn_b nc_b) (.slice oa_b on_b oc_b) ns_b zs_b) (r_n : (Lit.int .i64 a_n).wf = true) :
    Calls Try.prog 6 #[.slice ha_l hn_l hc_l, .agg #[.slice na_b nn_b nc_b, .slice oa_b on_b oc_b], .int .i64 a_n] w fun e w' => e = .returned (.bool true) ∧ Below w.heap.size w w' := by
  have hrn := r_n; clear hrn
  have HNMB := Lib.hid (show ∀ x ∈ ns_b.map Prod.fst, x.name.size ≤ 9223372036854775807 from fun x hx => by obtain ⟨p, hp, rfl⟩ := List.mem_map.1 hx; exact (r_b.1.2 p hp).1)
  obtain ⟨hrh_l, hoh_l⟩ := r_l
  have HRH_l := Lib.hid hrh_l; have HOH_l := Lib.hid hoh_l; have HSM_l := Lib.hid (rwH_small (v := .slice ha_l hn_l hc_l) hoh_l); clear hrh_l hoh_l
  obtain ⟨⟨hr_b, hok_b⟩, hri_b, _, _, _⟩ := r_b
  have HRN_b := Lib.hid hr_b; have HRI_b := Lib.hid hri_b; have HOK_b := Lib.hid (rwN_small (v := .slice na_b nn_b nc_b) hok_b)
  clear hr_b hok_b hri_b
  go_enter Try.func6, Try.ntmps6
  go_wp2_with fail
  obtain ⟨w_0, hw_0⟩ : ∃ x, (w.alloc (.cells #[.slice na_b nn_b nc_b, .slice oa_b on_b oc_b] 59)) = x := ⟨_, rfl⟩
  rw [hw_0]
  have HB := Lib.hid (show Below w.heap.size w w_0 by rw [← hw_0]; exact ((Below.refl w.heap.size w).alloc (by first | (simp; done) | (simp; omega)) _))
  have q_b0 : w_0.cell? ⟨w.heap.size, 0, none⟩ = some (.slice na_b nn_b nc_b) := by rw [← hw_0]; simp
  have q_b1 : w_0.cell? ⟨w.heap.size, 1, none⟩ = some (.slice oa_b on_b oc_b) := by rw [← hw_0]; simp
  have b_b : w.heap.size < w_0.heap.size := World.block_lt_of_cell? _ _ q_b0
  have HS0 := Lib.hid (show w.heap.size + 1 ≤ w_0.heap.size by rw [← hw_0]; simp)
  clear hw_0
  go_wp2_with fail
  refine (sz_SheetS (rwH (.slice ha_l hn_l hc_l) ss_l) (rwH_is _ _) 1048576 (by omega) (by omega) _ (rwH_reads ((HRH_l.out.below HB.out (Nat.le_refl _)).mono HB.out.size)) HSM_l.out).mono ?_
  rintro e w_1 ⟨r, rfl, lo_r, hi_r, hg⟩
  have hB := hg.below
  replace q_b0 := (hB.cell (show (⟨w.heap.size, 0, none⟩ : Addr).block < _ from World.block_lt_of_cell? _ _ q_b0)).trans q_b0
  replace q_b1 := (hB.cell (show (⟨w.heap.size, 1, none⟩ : Addr).block < _ from World.block_lt_of_cell? _ _ q_b1)).trans q_b1
  replace b_b : w.heap.size < w_1.heap.size := World.block_lt_of_cell? _ _ q_b0
  have HS1 := Lib.hid hB.size
  replace HB := Lib.hid (HB.out.trans (hB.mono HB.out.size))
  clear hB hg
  by_cases neg_r : r < 0
  · go_wp2_with fail
    go_ret
    exact ⟨rfl, HB.out⟩
  replace hi_r := hi_r (by omega)
  have hu_r : r ≤ 1048576 := by omega
  have HWH_l := Lib.hid (show (rwH (.slice ha_l hn_l hc_l) ss_l).weight ≤ 1048576 by omega); clear hi_r
  have HSO_l := Lib.hid (shsOk_of HWH_l.out HOH_l.out)
  go_wp2_with fail
  refine (sz_Builder (rwN (.slice na_b nn_b nc_b) ns_b) (rwI (.slice oa_b on_b oc_b) zs_b) r (by omega) (by omega) _ (rwN_is _ _) (rwN_reads ((HRN_b.out.below HB.out (Nat.le_refl _)).mono HB.out.size)) HOK_b.out (rwI_is _ _) (rwI_reads.2 ((HRI_b.out.below HB.out (Nat.le_refl _)).mono HB.out.size)) (rwI_small _ _)).mono ?_
  rintro e w_2 ⟨r2, rfl, lo_r2, hi_r2, hg⟩
  have hB := hg.below
  replace q_b0 := (hB.cell (show (⟨w.heap.size, 0, none⟩ : Addr).block < _ from World.block_lt_of_cell? _ _ q_b0)).trans q_b0
  replace q_b1 := (hB.cell (show (⟨w.heap.size, 1, none⟩ : Addr).block < _ from World.block_lt_of_cell? _ _ q_b1)).trans q_b1
  replace b_b : w.heap.size < w_2.heap.size := World.block_lt_of_cell? _ _ q_b0
  have HS2 := Lib.hid hB.size
  replace HB := Lib.hid (HB.out.trans (hB.mono HB.out.size))
  clear hB hg
  by_cases neg_r2 : r2 < 0
  · go_wp2_with fail
    go_ret
    exact ⟨rfl, HB.out⟩
  replace hi_r2 := hi_r2 (by omega)
  have hu_r2 : r2 ≤ 1048576 := by omega
  have HWN_b := Lib.hid (show (rwN (.slice na_b nn_b nc_b) ns_b).weight ≤ 1048576 by omega); have HWI_b := Lib.hid (show (rwI (.slice oa_b on_b oc_b) zs_b).weight ≤ 1048576 by omega)
  clear hi_r2
  obtain ⟨C, hC⟩ : ∃ C, colAt (flatR ss_l) (⟨ns_b.map Prod.fst, zs_b⟩ : Bd).nodes 40 a_n = C := ⟨_, rfl⟩
  have HC := Lib.hid hC; clear hC
  have hCC : (C == C) = true := beq_self_eq_true _; have hCN : (C != C) = false := by rw [bne, hCC]; rfl
  go_upto_region 8 with (fail)
  go_cut [8] from 22 to 27 (fun c wx => c = .int .i64 C ∧ Below w_2.heap.size w_2 wx)
  case first =>
    have KEEP := Lib.hid (fun (w' : World) (h : Below w_2.heap.size w_2 w') => show Below w_2.heap.size w_2 w' ∧ w'.cell? ⟨w.heap.size, 0, none⟩ = some (.slice na_b nn_b nc_b) ∧ w'.cell? ⟨w.heap.size, 1, none⟩ = some (.slice oa_b on_b oc_b) from ⟨h, (h.cell (show (⟨w.heap.size, 0, none⟩ : Addr).block < _ from World.block_lt_of_cell? _ _ q_b0)).trans q_b0, (h.cell (show (⟨w.heap.size, 1, none⟩ : Addr).block < _ from World.block_lt_of_cell? _ _ q_b1)).trans q_b1⟩)
    have HCA := Lib.hid (fun (v nv ov : Value) (us : List Shv) (X : World) (he : us.map Prod.fst = ss_l.map Prod.fst) (h : ReadH X.heap.size X v us) (h' : BdIn X.heap.size X nv ov ⟨ns_b.map Prod.fst, zs_b⟩) => show Calls Try.prog 33 #[v, .agg #[nv, ov], .int .i64 a_n] X fun e w' => e = .returned (.int .i64 C) ∧ Below X.heap.size X w' from by rw [← HC.out, ← flatR_of he]; exact colorAt_spec v nv ov us ⟨ns_b.map Prod.fst, zs_b⟩ a_n X h (HSO_l.out.of he) h')
    go_region_held3 (fun w' => Below w_2.heap.size w_2 w' ∧ w'.cell? ⟨w.heap.size, 0, none⟩ = some (.slice na_b nn_b nc_b) ∧ w'.cell? ⟨w.heap.size, 1, none⟩ = some (.slice oa_b on_b oc_b)) (exact KEEP.out _ (by repeat' (first | (with_reducible exact Below.refl _ _) | (with_reducible exact hPE) | (with_reducible exact hPB) | (with_reducible exact hPS) | (with_reducible refine bl_dw ?_) | (with_reducible refine bl_aw ?_ _)))) (first | (go_at_call 29; with_reducible refine (th_any HRH_l.out HWH_l.out (bl_via HB.out HB.out.size (by repeat' (first | (with_reducible exact Below.refl _ _) | (with_reducible exact hPE) | (with_reducible exact hPB) | (with_reducible exact hPS) | (with_reducible refine bl_dw ?_) | (with_reducible refine bl_aw ?_ _))))).mono ?_; rintro e wS ⟨haS, hnS, hcS, ssS, rfl, heS, hrS, hbS⟩; have hPS := bl_tr (show Below w_2.heap.size w_2 _ from (by repeat' (first | (with_reducible exact Below.refl _ _) | (with_reducible exact hPE) | (with_reducible exact hPB) | (with_reducible exact hPS) | (with_reducible refine bl_dw ?_) | (with_reducible refine bl_aw ?_ _)))) hbS) | (go_at_call 34; with_reducible refine (tb_any HRN_b.out HRI_b.out HWN_b.out HWI_b.out (bl_via HB.out HB.out.size (by repeat' (first | (with_reducible exact Below.refl _ _) | (with_reducible exact hPE) | (with_reducible exact hPB) | (with_reducible exact hPS) | (with_reducible refine bl_dw ?_) | (with_reducible refine bl_aw ?_ _))))).mono ?_; rintro e wB ⟨naB, nnB, ncB, oaB, onB, ocB, rfl, hiB, hbB⟩; have hPB := bl_tr (show Below w_2.heap.size w_2 _ from (by repeat' (first | (with_reducible exact Below.refl _ _) | (with_reducible exact hPE) | (with_reducible exact hPB) | (with_reducible exact hPS) | (with_reducible refine bl_dw ?_) | (with_reducible refine bl_aw ?_ _)))) hbB; have hSB := bl_tr (show Below wS.heap.size wS _ from (by repeat' (first | (with_reducible exact Below.refl _ _) | (with_reducible refine bl_dw ?_) | (with_reducible refine bl_aw ?_ _)))) hbB) | (go_at_call 33; refine (HCA.out _ _ _ _ _ heS (hrS.up (by repeat' (first | (with_reducible exact Below.refl _ _) | (with_reducible exact hSB) | (with_reducible refine bl_dw ?_) | (with_reducible refine bl_aw ?_ _)))) (hiB.up (by repeat' (first | (with_reducible exact Below.refl _ _) | (with_reducible refine bl_dw ?_) | (with_reducible refine bl_aw ?_ _))))).mono ?_; rintro e wE ⟨rfl, hgE⟩; have hPE := bl_tr (show Below w_2.heap.size w_2 _ from (by repeat' (first | (with_reducible exact Below.refl _ _) | (with_reducible exact hPE) | (with_reducible exact hPB) | (with_reducible exact hPS) | (with_reducible refine bl_dw ?_) | (with_reducible refine bl_aw ?_ _)))) hgE))
    all_goals
      go_wp2_with fail
      go_meet
      exact ⟨rfl, by repeat' (first | (with_reducible exact Below.refl _ _) | (with_reducible exact hPE) | (with_reducible exact hPB) | (with_reducible exact hPS) | (with_reducible refine bl_dw ?_) | (with_reducible refine bl_aw ?_ _))⟩
  obtain ⟨rfl, hB⟩ := hcut
  rename World => w_3
  replace q_b0 := (hB.cell (show (⟨w.heap.size, 0, none⟩ : Addr).block < _ from World.block_lt_of_cell? _ _ q_b0)).trans q_b0
  replace q_b1 := (hB.cell (show (⟨w.heap.size, 1, none⟩ : Addr).block < _ from World.block_lt_of_cell? _ _ q_b1)).trans q_b1
  replace b_b : w.heap.size < w_3.heap.size := World.block_lt_of_cell? _ _ q_b0
  have HS3 := Lib.hid hB.size
  replace HB := Lib.hid (HB.out.trans (hB.mono HB.out.size))
  clear hB
  go_wp2_with fail
  refine (toH_one _ ss_l _ (rwH_reads ((HRH_l.out.below HB.out (Nat.le_refl _)).mono HB.out.size)) HWH_l.out).mono ?_
  rintro e w_4 ⟨y_x, rfl, i_x, d_x, ho, hn, hb⟩
  have hB := hb
  replace q_b0 := (hB.cell (show (⟨w.heap.size, 0, none⟩ : Addr).block < _ from World.block_lt_of_cell? _ _ q_b0)).trans q_b0
  replace q_b1 := (hB.cell (show (⟨w.heap.size, 1, none⟩ : Addr).block < _ from World.block_lt_of_cell? _ _ q_b1)).trans q_b1
  replace b_b : w.heap.size < w_4.heap.size := World.block_lt_of_cell? _ _ q_b0
  have Hx := Lib.hid (ho)
  have HS4 := Lib.hid hB.size
  replace HB := Lib.hid (HB.out.trans (hB.mono HB.out.size))
  have HI_x := Lib.hid i_x; have HD_x := Lib.hid d_x; have HN_x := Lib.hid hn
  obtain ⟨c_x, hc_x⟩ : ∃ c, y_x.cell = c := ⟨_, rfl⟩
  rw [hc_x]
  have HC_x := Lib.hid hc_x
  clear hB ho hn hb i_x d_x hc_x
  go_wp2_with fail
  refine (toL_Builder (rwN (.slice na_b nn_b nc_b) ns_b) (rwI (.slice oa_b on_b oc_b) zs_b) _ (rwN_is _ _) (rwN_reads ((HRN_b.out.below HB.out (Nat.le_refl _)).mono HB.out.size)) (by have := HWN_b.out; omega) (rwI_is _ _) (rwI_reads.2 ((HRI_b.out.below HB.out (Nat.le_refl _)).mono HB.out.size)) (by have := HWI_b.out; omega)).mono ?_
  rintro e w_5 ⟨y0_y, y1_y, rfl, i0_y, d0_y, i1_y, d1_y, ho, hn, hb⟩
  have hB := hb
  replace q_b0 := (hB.cell (show (⟨w.heap.size, 0, none⟩ : Addr).block < _ from World.block_lt_of_cell? _ _ q_b0)).trans q_b0
  replace q_b1 := (hB.cell (show (⟨w.heap.size, 1, none⟩ : Addr).block < _ from World.block_lt_of_cell? _ _ q_b1)).trans q_b1
  replace b_b : w.heap.size < w_5.heap.size := World.block_lt_of_cell? _ _ q_b0
  replace Hx := Lib.hid (ownL_later Hx.out hB)
  have Hy := Lib.hid (ho)
  have HS5 := Lib.hid hB.size
  replace HB := Lib.hid (HB.out.trans (hB.mono HB.out.size))
  have HI0_y := Lib.hid i0_y; have HI1_y := Lib.hid i1_y; have HD0_y := Lib.hid d0_y; have HD1_y := Lib.hid d1_y; have HN_y := Lib.hid hn
  have hbi := bdIn_of d0_y i1_y d1_y ho
  obtain ⟨na_y, nn_y, nc_y, e0_y⟩ := sl_form (is_sl_NodeS i0_y) (Rw.OwnR.reads _ (ownL_two.1 ho).1)
  obtain ⟨oa_y, on_y, oc_y, e1_y⟩ := sl_form (is_sl_IntS i1_y) (Rw.OwnR.reads _ (ownL_two.1 ho).2)
  rw [e0_y, e1_y] at hbi; rw [e0_y, e1_y]
  have HBD_y := Lib.hid hbi; have HE0_y := Lib.hid e0_y; have HE1_y := Lib.hid e1_y
  clear hB ho hn hb hbi i0_y i1_y d0_y d1_y e0_y e1_y
  go_wp2_with fail
  obtain ⟨w_6, hw⟩ : ∃ x, w_5.alloc (.cells #[.slice na_y nn_y nc_y, .slice oa_y on_y oc_y] 27) = x := ⟨_, rfl⟩
  rw [hw]
  have hB : Below w_5.heap.size w_5 w_6 := by rw [← hw]; exact (Below.refl _ _).alloc (Nat.le_refl _) _
  have q_y0 : w_6.cell? ⟨w_5.heap.size, 0, none⟩ = some (.slice na_y nn_y nc_y) := by rw [← hw]; simp
  have q_y1 : w_6.cell? ⟨w_5.heap.size, 1, none⟩ = some (.slice oa_y on_y oc_y) := by rw [← hw]; simp
  have b_y : w_5.heap.size < w_6.heap.size := World.block_lt_of_cell? _ _ q_y0
  replace q_b0 := (hB.cell (show (⟨w.heap.size, 0, none⟩ : Addr).block < _ from World.block_lt_of_cell? _ _ q_b0)).trans q_b0
  replace q_b1 := (hB.cell (show (⟨w.heap.size, 1, none⟩ : Addr).block < _ from World.block_lt_of_cell? _ _ q_b1)).trans q_b1
  replace b_b : w.heap.size < w_6.heap.size := World.block_lt_of_cell? _ _ q_b0
  replace Hx := Lib.hid (ownL_later Hx.out hB)
  replace Hy := Lib.hid (ownL_later Hy.out hB)
  have HS6 := Lib.hid hB.size
  replace HB := Lib.hid (HB.out.trans (hB.mono HB.out.size))
  clear hB hw
  have HSb_y := Lib.hid b_y
  go_wp2_with fail
  refine ((HC_x.out ▸ HC.out ▸ caI_data HD_x.out (ownL_one.1 Hx.out) HSO_l.out (ownBd HD0_y.out HI1_y.out HD1_y.out HE0_y.out HE1_y.out Hy.out) HNMB.out a_n)).mono ?_
  rintro e w_7 ⟨rfl, hb⟩
  have hB := hb
  replace q_b0 := (hB.cell (show (⟨w.heap.size, 0, none⟩ : Addr).block < _ from World.block_lt_of_cell? _ _ q_b0)).trans q_b0
  replace q_b1 := (hB.cell (show (⟨w.heap.size, 1, none⟩ : Addr).block < _ from World.block_lt_of_cell? _ _ q_b1)).trans q_b1
  replace b_b : w.heap.size < w_7.heap.size := World.block_lt_of_cell? _ _ q_b0
  replace q_y0 := (hB.cell (show (⟨w_5.heap.size, 0, none⟩ : Addr).block < _ from World.block_lt_of_cell? _ _ q_y0)).trans q_y0
  replace q_y1 := (hB.cell (show (⟨w_5.heap.size, 1, none⟩ : Addr).block < _ from World.block_lt_of_cell? _ _ q_y1)).trans q_y1
  replace b_y : w_5.heap.size < w_7.heap.size := World.block_lt_of_cell? _ _ q_y0
  replace Hx := Lib.hid (ownL_later Hx.out hB)
  replace Hy := Lib.hid (ownL_later Hy.out hB)
  have HS7 := Lib.hid hB.size
  replace HB := Lib.hid (HB.out.trans (hB.mono HB.out.size))
  clear hB hb
  go_wp2_with fail
  refine (toH_one _ ss_l _ (rwH_reads ((HRH_l.out.below HB.out (Nat.le_refl _)).mono HB.out.size)) HWH_l.out).mono ?_
  rintro e w_8 ⟨y_z, rfl, i_z, d_z, ho, hn, hb⟩
  have hB := hb
  replace q_b0 := (hB.cell (show (⟨w.heap.size, 0, none⟩ : Addr).block < _ from World.block_lt_of_cell? _ _ q_b0)).trans q_b0
  replace q_b1 := (hB.cell (show (⟨w.heap.size, 1, none⟩ : Addr).block < _ from World.block_lt_of_cell? _ _ q_b1)).trans q_b1
  replace b_b : w.heap.size < w_8.heap.size := World.block_lt_of_cell? _ _ q_b0
  replace q_y0 := (hB.cell (show (⟨w_5.heap.size, 0, none⟩ : Addr).block < _ from World.block_lt_of_cell? _ _ q_y0)).trans q_y0
  replace q_y1 := (hB.cell (show (⟨w_5.heap.size, 1, none⟩ : Addr).block < _ from World.block_lt_of_cell? _ _ q_y1)).trans q_y1
  replace b_y : w_5.heap.size < w_8.heap.size := World.block_lt_of_cell? _ _ q_y0
  replace Hx := Lib.hid (ownL_later Hx.out hB)
  replace Hy := Lib.hid (ownL_later Hy.out hB)
  have Hz := Lib.hid (ho)
  have HS8 := Lib.hid hB.size
  replace HB := Lib.hid (HB.out.trans (hB.mono HB.out.size))
  have HI_z := Lib.hid i_z; have HD_z := Lib.hid d_z; have HN_z := Lib.hid hn
  obtain ⟨c_z, hc_z⟩ : ∃ c, y_z.cell = c := ⟨_, rfl⟩
  rw [hc_z]
  have HC_z := Lib.hid hc_z
  clear hB ho hn hb i_z d_z hc_z
  go_wp2_with fail
  refine ((HC_x.out ▸ HC_z.out ▸ eq_SheetS y_x y_z HI_x.out HI_z.out (HD_x.out.trans HD_z.out.symm) _ (rd_of (ownL_one.1 Hx.out)) (rd_of (ownL_one.1 Hz.out)))).mono ?_
  rintro e w_9 ⟨rfl, hg⟩
  have hB := hg.below
  replace q_b0 := (hB.cell (show (⟨w.heap.size, 0, none⟩ : Addr).block < _ from World.block_lt_of_cell? _ _ q_b0)).trans q_b0
  replace q_b1 := (hB.cell (show (⟨w.heap.size, 1, none⟩ : Addr).block < _ from World.block_lt_of_cell? _ _ q_b1)).trans q_b1
  replace b_b : w.heap.size < w_9.heap.size := World.block_lt_of_cell? _ _ q_b0
  replace q_y0 := (hB.cell (show (⟨w_5.heap.size, 0, none⟩ : Addr).block < _ from World.block_lt_of_cell? _ _ q_y0)).trans q_y0
  replace q_y1 := (hB.cell (show (⟨w_5.heap.size, 1, none⟩ : Addr).block < _ from World.block_lt_of_cell? _ _ q_y1)).trans q_y1
  replace b_y : w_5.heap.size < w_9.heap.size := World.block_lt_of_cell? _ _ q_y0
  replace Hx := Lib.hid (ownL_later Hx.out hB)
  replace Hy := Lib.hid (ownL_later Hy.out hB)
  replace Hz := Lib.hid (ownL_later Hz.out hB)
  have HS9 := Lib.hid hB.size
  replace HB := Lib.hid (HB.out.trans (hB.mono HB.out.size))
  clear hB hg
  go_upto_region 16 with (fail)
  go_cut [48] from 44 to 48 (fun c wx => c = .bool false ∧ Below w_9.heap.size w_9 wx)
  case first =>
    have hreadN := (rwN_reads ((HRN_b.out.below HB.out (Nat.le_refl _)).mono HB.out.size)).up (Grw.refl _).drew; have hreadI := (rwI_reads.2 ((HRI_b.out.below HB.out (Nat.le_refl _)).mono HB.out.size)).up (Grw.refl _).drew
    go_region_with (first | (go_at_call 34; refine (toL_Builder (rwN (.slice na_b nn_b nc_b) ns_b) (rwI (.slice oa_b on_b oc_b) zs_b) _ (rwN_is _ _) ?_ (by have := HWN_b.out; omega) (rwI_is _ _) ?_ (by have := HWI_b.out; omega)).mono ?_; (exact hreadN); (exact hreadI); rintro e w_A ⟨y0_w, y1_w, rfl, i0_w, d0_w, i1_w, d1_w, ho_w, hn_w, hb_w⟩; obtain ⟨na_w, nn_w, nc_w, e0_w⟩ := sl_form (is_sl_NodeS i0_w) (Rw.OwnR.reads _ (ownL_two.1 ho_w).1); obtain ⟨oa_w, on_w, oc_w, e1_w⟩ := sl_form (is_sl_IntS i1_w) (Rw.OwnR.reads _ (ownL_two.1 ho_w).2); rw [e0_w, e1_w]; have hO := ownL_later Hy.out (below_undrew hb_w); have hsA := (below_undrew hb_w).size; (first | have qA_b0 := (hb_w.cell (p := ⟨w.heap.size, 0, none⟩) b_b).trans q_b0 | skip); (first | have qA_b1 := (hb_w.cell (p := ⟨w.heap.size, 1, none⟩) b_b).trans q_b1 | skip); (first | have qA_y0 := (hb_w.cell (p := ⟨w_5.heap.size, 0, none⟩) b_y).trans q_y0 | skip); (first | have qA_y1 := (hb_w.cell (p := ⟨w_5.heap.size, 1, none⟩) b_y).trans q_y1 | skip)) | (go_at_call 36; refine (eqV_Builder y0_y y0_w y1_y y1_w _ _ _ _ HE0_y.out e0_w HE1_y.out e1_w _ HI0_y.out i0_w (HD0_y.out.trans d0_w.symm) (rdL1 hO) (rdL1 ho_w) HI1_y.out i1_w (HD1_y.out.trans d1_w.symm) (rdL2 hO) (rdL2 ho_w)).mono ?_; rintro e w_C ⟨rfl, hgC⟩))
    all_goals
      have hB := (below_undrew hb_w).trans (hgC.below.mono hsA)
      go_wp2_with fail
      go_meet
      exact ⟨rfl, hB⟩
  obtain ⟨rfl, hB⟩ := hcut
  rename World => w_10
  replace q_b0 := (hB.cell (show (⟨w.heap.size, 0, none⟩ : Addr).block < _ from World.block_lt_of_cell? _ _ q_b0)).trans q_b0
  replace q_b1 := (hB.cell (show (⟨w.heap.size, 1, none⟩ : Addr).block < _ from World.block_lt_of_cell? _ _ q_b1)).trans q_b1
  replace b_b : w.heap.size < w_10.heap.size := World.block_lt_of_cell? _ _ q_b0
  replace q_y0 := (hB.cell (show (⟨w_5.heap.size, 0, none⟩ : Addr).block < _ from World.block_lt_of_cell? _ _ q_y0)).trans q_y0
  replace q_y1 := (hB.cell (show (⟨w_5.heap.size, 1, none⟩ : Addr).block < _ from World.block_lt_of_cell? _ _ q_y1)).trans q_y1
  replace b_y : w_5.heap.size < w_10.heap.size := World.block_lt_of_cell? _ _ q_y0
  replace Hx := Lib.hid (ownL_later Hx.out hB)
  replace Hy := Lib.hid (ownL_later Hy.out hB)
  replace Hz := Lib.hid (ownL_later Hz.out hB)
  have HS10 := Lib.hid hB.size
  replace HB := Lib.hid (HB.out.trans (hB.mono HB.out.size))
  clear hB
  go_wp2_with fail
  go_ret
  exact ⟨rfl, HB.out⟩
end Go.Proofs.Ytmlmiclgledcpaa

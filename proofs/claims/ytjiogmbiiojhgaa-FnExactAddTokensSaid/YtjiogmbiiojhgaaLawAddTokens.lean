/- The walk of the law FnExactAddTokens: it returns true, and writes nothing that was there. -/
import Derived.Test.YtjiogmbiiojhgaaLawB
import Derived.Deep.RegionWith
import Derived.Deep.CutRange
namespace Go.Proofs.Ytjiogmbiiojhgaa
open Go.ChangeShapes Go.WideShapes Go.ChangeAt Go.RowKit

set_option maxRecDepth 100000 in
set_option maxHeartbeats 4000000 in
theorem walkAddTokens (na_b : Option Addr) (nn_b nc_b : Nat) (oa_b : Option Addr) (on_b oc_b : Nat) (ns_b : List Nv) (zs_b : List Int) (ta_l : Option Addr) (tn_l tc_l : Nat) (ts_l : List Tv) (w : World) (r_b : IsBd w (.slice na_b nn_b nc_b) (.slice oa_b on_b oc_b) ns_b zs_b) (r_l : IsTks w (.slice ta_l tn_l tc_l) ts_l) :
    Calls Try.prog 9 #[.agg #[.slice na_b nn_b nc_b, .slice oa_b on_b oc_b], .slice ta_l tn_l tc_l] w fun e w' => e = .returned (.bool true) ∧ Below w.heap.size w w' := by
  obtain ⟨⟨hr_b, hok_b⟩, hri_b, _, _, _⟩ := r_b
  have HRN_b := Lib.hid hr_b; have HRI_b := Lib.hid hri_b; have HOK_b := Lib.hid (rwN_small (v := .slice na_b nn_b nc_b) hok_b)
  clear hr_b hok_b hri_b
  obtain ⟨hrt_l, hokt_l⟩ := r_l
  have HRT_l := Lib.hid hrt_l; have HOT_l := Lib.hid (rwT_smallS (v := .slice ta_l tn_l tc_l) hokt_l)
  clear hrt_l hokt_l
  go_enter Try.func9, Try.ntmps9
  go_wp2_with fail
  obtain ⟨w_0, hw_0⟩ : ∃ x, (w.alloc (.cells #[.slice na_b nn_b nc_b, .slice oa_b on_b oc_b] 55)) = x := ⟨_, rfl⟩
  rw [hw_0]
  have HB := Lib.hid (show Below w.heap.size w w_0 by rw [← hw_0]; exact ((Below.refl w.heap.size w).alloc (by first | (simp; done) | (simp; omega)) _))
  have q_b0 : w_0.cell? ⟨w.heap.size, 0, none⟩ = some (.slice na_b nn_b nc_b) := by rw [← hw_0]; simp
  have q_b1 : w_0.cell? ⟨w.heap.size, 1, none⟩ = some (.slice oa_b on_b oc_b) := by rw [← hw_0]; simp
  have b_b : w.heap.size < w_0.heap.size := World.block_lt_of_cell? _ _ q_b0
  have HS0 := Lib.hid (show w.heap.size + 1 ≤ w_0.heap.size by rw [← hw_0]; simp)
  clear hw_0
  go_wp2_with fail
  refine (sz_Builder (rwN (.slice na_b nn_b nc_b) ns_b) (rwI (.slice oa_b on_b oc_b) zs_b) 1048576 (by omega) (by omega) _ (rwN_is _ _) (rwN_reads ((HRN_b.out.below HB.out (Nat.le_refl _)).mono HB.out.size)) HOK_b.out (rwI_is _ _) (rwI_reads.2 ((HRI_b.out.below HB.out (Nat.le_refl _)).mono HB.out.size)) (rwI_small _ _)).mono ?_
  rintro e w_1 ⟨r, rfl, lo_r, hi_r, hg⟩
  have hB := hg.below
  replace q_b0 := (hB.cell (show (⟨w.heap.size, 0, none⟩ : Addr).block < _ from World.block_lt_of_cell? _ _ q_b0)).trans q_b0
  replace q_b1 := (hB.cell (show (⟨w.heap.size, 1, none⟩ : Addr).block < _ from World.block_lt_of_cell? _ _ q_b1)).trans q_b1
  replace b_b : w.heap.size < w_1.heap.size := World.block_lt_of_cell? _ _ q_b0
  have HS1 := Lib.hid hB.size
  replace HB := Lib.hid (HB.out.trans (hB.mono HB.out.size))
  clear hB hg
  by_cases neg_r : r < 0
  · go_wp2_with fail
    go_ret
    exact ⟨rfl, HB.out⟩
  replace hi_r := hi_r (by omega)
  have hu_r : r ≤ 1048576 := by omega
  have HWN_b := Lib.hid (show (rwN (.slice na_b nn_b nc_b) ns_b).weight ≤ 1048576 by omega); have HWI_b := Lib.hid (show (rwI (.slice oa_b on_b oc_b) zs_b).weight ≤ 1048576 by omega)
  clear hi_r
  go_wp2_with fail
  refine (sz_TokenS (rwT (.slice ta_l tn_l tc_l) ts_l) (rwT_is _ _) r (by omega) (by omega) _ (rwT_reads ((HRT_l.out.below HB.out (Nat.le_refl _)).mono HB.out.size)) HOT_l.out).mono ?_
  rintro e w_2 ⟨r2, rfl, lo_r2, hi_r2, hg⟩
  have hB := hg.below
  replace q_b0 := (hB.cell (show (⟨w.heap.size, 0, none⟩ : Addr).block < _ from World.block_lt_of_cell? _ _ q_b0)).trans q_b0
  replace q_b1 := (hB.cell (show (⟨w.heap.size, 1, none⟩ : Addr).block < _ from World.block_lt_of_cell? _ _ q_b1)).trans q_b1
  replace b_b : w.heap.size < w_2.heap.size := World.block_lt_of_cell? _ _ q_b0
  have HS2 := Lib.hid hB.size
  replace HB := Lib.hid (HB.out.trans (hB.mono HB.out.size))
  clear hB hg
  by_cases neg_r2 : r2 < 0
  · go_wp2_with fail
    go_ret
    exact ⟨rfl, HB.out⟩
  replace hi_r2 := hi_r2 (by omega)
  have HWT_l := Lib.hid (show (rwT (.slice ta_l tn_l tc_l) ts_l).weight ≤ 1048576 by omega)
  clear hi_r2
  have HCB := Lib.hid (show ndW (ns_b.map Prod.fst) ≤ 3145728 ∧ zs_b.length ≤ 1048576 ∧ tkW (ts_l.map Prod.fst) ≤ 3145728 by
    have h2 := (rwN_weight (.slice na_b nn_b nc_b) ns_b).1; have h3 := HWN_b.out; have h4 := HWI_b.out; have h5 := rwT_w (.slice ta_l tn_l tc_l) ts_l; have h6 := HWT_l.out
    rw [rwI_weight] at h4; omega)
  have HFT := Lib.hid (show ndW (⟨ns_b.map Prod.fst, zs_b⟩ : Bd).nodes + tkW (ts_l.map Prod.fst) ≤ 68719476736 by have := HCB.out; dsimp only; omega); have HFO := Lib.hid (show (⟨ns_b.map Prod.fst, zs_b⟩ : Bd).opn.length ≤ 68719476736 by have := HCB.out; dsimp only; omega)
  have HWC := Lib.hid (show ndW (addToks ⟨ns_b.map Prod.fst, zs_b⟩ (ts_l.map Prod.fst)).nodes ≤ 6291456 ∧ (addToks ⟨ns_b.map Prod.fst, zs_b⟩ (ts_l.map Prod.fst)).opn.length ≤ 2097152 by
    have h1 := addToks_W (ts_l.map Prod.fst) ⟨ns_b.map Prod.fst, zs_b⟩; have h2 := (addToks_len (ts_l.map Prod.fst) ⟨ns_b.map Prod.fst, zs_b⟩).2; have h3 := HCB.out; dsimp only at h1 h2; omega)
  obtain ⟨NOD, hnod⟩ : ∃ x, (addToks ⟨ns_b.map Prod.fst, zs_b⟩ (ts_l.map Prod.fst)).nodes = x := ⟨_, rfl⟩; obtain ⟨OPN, hopn⟩ : ∃ x, (addToks ⟨ns_b.map Prod.fst, zs_b⟩ (ts_l.map Prod.fst)).opn = x := ⟨_, rfl⟩
  rw [hnod, hopn] at HWC
  have HNOD := Lib.hid hnod; have HOPN := Lib.hid hopn; clear hnod hopn
  go_wp2_with fail
  refine (toL_Builder (rwN (.slice na_b nn_b nc_b) ns_b) (rwI (.slice oa_b on_b oc_b) zs_b) _ (rwN_is _ _) (rwN_reads ((HRN_b.out.below HB.out (Nat.le_refl _)).mono HB.out.size)) (by have := HWN_b.out; omega) (rwI_is _ _) (rwI_reads.2 ((HRI_b.out.below HB.out (Nat.le_refl _)).mono HB.out.size)) (by have := HWI_b.out; omega)).mono ?_
  rintro e w_3 ⟨y0_p, y1_p, rfl, i0_p, d0_p, i1_p, d1_p, ho, hn, hb⟩
  have hB := hb
  replace q_b0 := (hB.cell (show (⟨w.heap.size, 0, none⟩ : Addr).block < _ from World.block_lt_of_cell? _ _ q_b0)).trans q_b0
  replace q_b1 := (hB.cell (show (⟨w.heap.size, 1, none⟩ : Addr).block < _ from World.block_lt_of_cell? _ _ q_b1)).trans q_b1
  replace b_b : w.heap.size < w_3.heap.size := World.block_lt_of_cell? _ _ q_b0
  have Hp := Lib.hid (ho)
  have HS3 := Lib.hid hB.size
  replace HB := Lib.hid (HB.out.trans (hB.mono HB.out.size))
  have HI0_p := Lib.hid i0_p; have HI1_p := Lib.hid i1_p; have HD0_p := Lib.hid d0_p; have HD1_p := Lib.hid d1_p; have HN_p := Lib.hid hn
  have hbi := bdIn_of d0_p i1_p d1_p ho
  obtain ⟨na_p, nn_p, nc_p, e0_p⟩ := sl_form (is_sl_NodeS i0_p) (Rw.OwnR.reads _ (ownL_two.1 ho).1)
  obtain ⟨oa_p, on_p, oc_p, e1_p⟩ := sl_form (is_sl_IntS i1_p) (Rw.OwnR.reads _ (ownL_two.1 ho).2)
  rw [e0_p, e1_p] at hbi; rw [e0_p, e1_p]
  have HBD_p := Lib.hid hbi; have HE0_p := Lib.hid e0_p; have HE1_p := Lib.hid e1_p
  clear hB ho hn hb hbi i0_p i1_p d0_p d1_p e0_p e1_p
  go_wp2_with fail
  refine (toS_one _ ts_l _ (rwT_reads ((HRT_l.out.below HB.out (Nat.le_refl _)).mono HB.out.size)) HWT_l.out).mono ?_
  rintro e w_4 ⟨y_q, rfl, i_q, d_q, ho, hn, hb⟩
  have hB := hb
  replace q_b0 := (hB.cell (show (⟨w.heap.size, 0, none⟩ : Addr).block < _ from World.block_lt_of_cell? _ _ q_b0)).trans q_b0
  replace q_b1 := (hB.cell (show (⟨w.heap.size, 1, none⟩ : Addr).block < _ from World.block_lt_of_cell? _ _ q_b1)).trans q_b1
  replace b_b : w.heap.size < w_4.heap.size := World.block_lt_of_cell? _ _ q_b0
  replace Hp := Lib.hid (ownL_later Hp.out hB)
  have Hq := Lib.hid (ho)
  have HS4 := Lib.hid hB.size
  replace HB := Lib.hid (HB.out.trans (hB.mono HB.out.size))
  have HI_q := Lib.hid i_q; have HD_q := Lib.hid d_q; have HN_q := Lib.hid hn
  obtain ⟨c_q, hc_q⟩ : ∃ c, y_q.cell = c := ⟨_, rfl⟩
  rw [hc_q]
  have HC_q := Lib.hid hc_q
  clear hB ho hn hb i_q d_q hc_q
  go_wp2_with fail
  refine (addsS_any (ts := ts_l.map Prod.fst) (ownBd HD0_p.out HI1_p.out HD1_p.out HE0_p.out HE1_p.out Hp.out) (HC_q.out ▸ ownTs HD_q.out Hq.out) HFT.out HFO.out).mono ?_
  rintro e w_5 ⟨na_x, nn_x, nc_x, oa_x, on_x, oc_x, ns_x, rfl, hns, hbd⟩
  have hB := hbd.n.row.below
  replace q_b0 := (hB.cell (show (⟨w.heap.size, 0, none⟩ : Addr).block < _ from World.block_lt_of_cell? _ _ q_b0)).trans q_b0
  replace q_b1 := (hB.cell (show (⟨w.heap.size, 1, none⟩ : Addr).block < _ from World.block_lt_of_cell? _ _ q_b1)).trans q_b1
  replace b_b : w.heap.size < w_5.heap.size := World.block_lt_of_cell? _ _ q_b0
  replace Hp := Lib.hid (ownL_later Hp.out hB)
  replace Hq := Lib.hid (ownL_later Hq.out hB)
  have Hx := Lib.hid (show OwnRL w_4.heap.size w_5.heap.size w_5 [rwN (.slice na_x nn_x nc_x) ns_x, rwI (.slice oa_x on_x oc_x) OPN] from by rw [← HOPN.out]; exact (bdAt_own hbd.n hbd.o).1)
  have HS5 := Lib.hid hB.size
  replace HB := Lib.hid (HB.out.trans (hB.mono HB.out.size))
  have HN_x := Lib.hid (show (blocksL [rwN (.slice na_x nn_x nc_x) ns_x, rwI (.slice oa_x on_x oc_x) OPN]).Nodup by rw [← HOPN.out]; exact (bdAt_own hbd.n hbd.o).2)
  have HNS_x := Lib.hid (show ns_x.map Prod.fst = NOD by rw [← HNOD.out]; exact hns)
  clear hB hns hbd
  go_wp2_with fail
  obtain ⟨w_6, hw⟩ : ∃ x, w_5.alloc (.cells #[.slice na_x nn_x nc_x, .slice oa_x on_x oc_x] 27) = x := ⟨_, rfl⟩
  rw [hw]
  have hB : Below w_5.heap.size w_5 w_6 := by rw [← hw]; exact (Below.refl _ _).alloc (Nat.le_refl _) _
  have q_x0 : w_6.cell? ⟨w_5.heap.size, 0, none⟩ = some (.slice na_x nn_x nc_x) := by rw [← hw]; simp
  have q_x1 : w_6.cell? ⟨w_5.heap.size, 1, none⟩ = some (.slice oa_x on_x oc_x) := by rw [← hw]; simp
  have b_x : w_5.heap.size < w_6.heap.size := World.block_lt_of_cell? _ _ q_x0
  replace q_b0 := (hB.cell (show (⟨w.heap.size, 0, none⟩ : Addr).block < _ from World.block_lt_of_cell? _ _ q_b0)).trans q_b0
  replace q_b1 := (hB.cell (show (⟨w.heap.size, 1, none⟩ : Addr).block < _ from World.block_lt_of_cell? _ _ q_b1)).trans q_b1
  replace b_b : w.heap.size < w_6.heap.size := World.block_lt_of_cell? _ _ q_b0
  replace Hp := Lib.hid (ownL_later Hp.out hB)
  replace Hq := Lib.hid (ownL_later Hq.out hB)
  replace Hx := Lib.hid (ownL_later Hx.out hB)
  have HS6 := Lib.hid hB.size
  replace HB := Lib.hid (HB.out.trans (hB.mono HB.out.size))
  clear hB hw
  have HSb_x := Lib.hid b_x
  go_wp2_with fail
  refine (toL_Builder (rwN (.slice na_b nn_b nc_b) ns_b) (rwI (.slice oa_b on_b oc_b) zs_b) _ (rwN_is _ _) (rwN_reads ((HRN_b.out.below HB.out (Nat.le_refl _)).mono HB.out.size)) (by have := HWN_b.out; omega) (rwI_is _ _) (rwI_reads.2 ((HRI_b.out.below HB.out (Nat.le_refl _)).mono HB.out.size)) (by have := HWI_b.out; omega)).mono ?_
  rintro e w_7 ⟨y0_y, y1_y, rfl, i0_y, d0_y, i1_y, d1_y, ho, hn, hb⟩
  have hB := hb
  replace q_b0 := (hB.cell (show (⟨w.heap.size, 0, none⟩ : Addr).block < _ from World.block_lt_of_cell? _ _ q_b0)).trans q_b0
  replace q_b1 := (hB.cell (show (⟨w.heap.size, 1, none⟩ : Addr).block < _ from World.block_lt_of_cell? _ _ q_b1)).trans q_b1
  replace b_b : w.heap.size < w_7.heap.size := World.block_lt_of_cell? _ _ q_b0
  replace q_x0 := (hB.cell (show (⟨w_5.heap.size, 0, none⟩ : Addr).block < _ from World.block_lt_of_cell? _ _ q_x0)).trans q_x0
  replace q_x1 := (hB.cell (show (⟨w_5.heap.size, 1, none⟩ : Addr).block < _ from World.block_lt_of_cell? _ _ q_x1)).trans q_x1
  replace b_x : w_5.heap.size < w_7.heap.size := World.block_lt_of_cell? _ _ q_x0
  replace Hp := Lib.hid (ownL_later Hp.out hB)
  replace Hq := Lib.hid (ownL_later Hq.out hB)
  replace Hx := Lib.hid (ownL_later Hx.out hB)
  have Hy := Lib.hid (ho)
  have HS7 := Lib.hid hB.size
  replace HB := Lib.hid (HB.out.trans (hB.mono HB.out.size))
  have HI0_y := Lib.hid i0_y; have HI1_y := Lib.hid i1_y; have HD0_y := Lib.hid d0_y; have HD1_y := Lib.hid d1_y; have HN_y := Lib.hid hn
  have hbi := bdIn_of d0_y i1_y d1_y ho
  obtain ⟨na_y, nn_y, nc_y, e0_y⟩ := sl_form (is_sl_NodeS i0_y) (Rw.OwnR.reads _ (ownL_two.1 ho).1)
  obtain ⟨oa_y, on_y, oc_y, e1_y⟩ := sl_form (is_sl_IntS i1_y) (Rw.OwnR.reads _ (ownL_two.1 ho).2)
  rw [e0_y, e1_y] at hbi; rw [e0_y, e1_y]
  have HBD_y := Lib.hid hbi; have HE0_y := Lib.hid e0_y; have HE1_y := Lib.hid e1_y
  clear hB ho hn hb hbi i0_y i1_y d0_y d1_y e0_y e1_y
  go_wp2_with fail
  obtain ⟨w_8, hw⟩ : ∃ x, w_7.alloc (.cells #[.slice na_y nn_y nc_y, .slice oa_y on_y oc_y] 27) = x := ⟨_, rfl⟩
  rw [hw]
  have hB : Below w_7.heap.size w_7 w_8 := by rw [← hw]; exact (Below.refl _ _).alloc (Nat.le_refl _) _
  have q_y0 : w_8.cell? ⟨w_7.heap.size, 0, none⟩ = some (.slice na_y nn_y nc_y) := by rw [← hw]; simp
  have q_y1 : w_8.cell? ⟨w_7.heap.size, 1, none⟩ = some (.slice oa_y on_y oc_y) := by rw [← hw]; simp
  have b_y : w_7.heap.size < w_8.heap.size := World.block_lt_of_cell? _ _ q_y0
  replace q_b0 := (hB.cell (show (⟨w.heap.size, 0, none⟩ : Addr).block < _ from World.block_lt_of_cell? _ _ q_b0)).trans q_b0
  replace q_b1 := (hB.cell (show (⟨w.heap.size, 1, none⟩ : Addr).block < _ from World.block_lt_of_cell? _ _ q_b1)).trans q_b1
  replace b_b : w.heap.size < w_8.heap.size := World.block_lt_of_cell? _ _ q_b0
  replace q_x0 := (hB.cell (show (⟨w_5.heap.size, 0, none⟩ : Addr).block < _ from World.block_lt_of_cell? _ _ q_x0)).trans q_x0
  replace q_x1 := (hB.cell (show (⟨w_5.heap.size, 1, none⟩ : Addr).block < _ from World.block_lt_of_cell? _ _ q_x1)).trans q_x1
  replace b_x : w_5.heap.size < w_8.heap.size := World.block_lt_of_cell? _ _ q_x0
  replace Hp := Lib.hid (ownL_later Hp.out hB)
  replace Hq := Lib.hid (ownL_later Hq.out hB)
  replace Hx := Lib.hid (ownL_later Hx.out hB)
  replace Hy := Lib.hid (ownL_later Hy.out hB)
  have HS8 := Lib.hid hB.size
  replace HB := Lib.hid (HB.out.trans (hB.mono HB.out.size))
  clear hB hw
  have HSb_y := Lib.hid b_y
  go_wp2_with fail
  refine (toS_one _ ts_l _ (rwT_reads ((HRT_l.out.below HB.out (Nat.le_refl _)).mono HB.out.size)) HWT_l.out).mono ?_
  rintro e w_9 ⟨y_u, rfl, i_u, d_u, ho, hn, hb⟩
  have hB := hb
  replace q_b0 := (hB.cell (show (⟨w.heap.size, 0, none⟩ : Addr).block < _ from World.block_lt_of_cell? _ _ q_b0)).trans q_b0
  replace q_b1 := (hB.cell (show (⟨w.heap.size, 1, none⟩ : Addr).block < _ from World.block_lt_of_cell? _ _ q_b1)).trans q_b1
  replace b_b : w.heap.size < w_9.heap.size := World.block_lt_of_cell? _ _ q_b0
  replace q_x0 := (hB.cell (show (⟨w_5.heap.size, 0, none⟩ : Addr).block < _ from World.block_lt_of_cell? _ _ q_x0)).trans q_x0
  replace q_x1 := (hB.cell (show (⟨w_5.heap.size, 1, none⟩ : Addr).block < _ from World.block_lt_of_cell? _ _ q_x1)).trans q_x1
  replace b_x : w_5.heap.size < w_9.heap.size := World.block_lt_of_cell? _ _ q_x0
  replace q_y0 := (hB.cell (show (⟨w_7.heap.size, 0, none⟩ : Addr).block < _ from World.block_lt_of_cell? _ _ q_y0)).trans q_y0
  replace q_y1 := (hB.cell (show (⟨w_7.heap.size, 1, none⟩ : Addr).block < _ from World.block_lt_of_cell? _ _ q_y1)).trans q_y1
  replace b_y : w_7.heap.size < w_9.heap.size := World.block_lt_of_cell? _ _ q_y0
  replace Hp := Lib.hid (ownL_later Hp.out hB)
  replace Hq := Lib.hid (ownL_later Hq.out hB)
  replace Hx := Lib.hid (ownL_later Hx.out hB)
  replace Hy := Lib.hid (ownL_later Hy.out hB)
  have Hu := Lib.hid (ho)
  have HS9 := Lib.hid hB.size
  replace HB := Lib.hid (HB.out.trans (hB.mono HB.out.size))
  have HI_u := Lib.hid i_u; have HD_u := Lib.hid d_u; have HN_u := Lib.hid hn
  obtain ⟨c_u, hc_u⟩ : ∃ c, y_u.cell = c := ⟨_, rfl⟩
  rw [hc_u]
  have HC_u := Lib.hid hc_u
  clear hB ho hn hb i_u d_u hc_u
  go_wp2_with fail
  refine (addsI_any (ts := ts_l.map Prod.fst) (ownBd HD0_y.out HI1_y.out HD1_y.out HE0_y.out HE1_y.out Hy.out) (HC_u.out ▸ ownTs HD_u.out Hu.out) HFT.out HFO.out).mono ?_
  rintro e w_10 ⟨na_g, nn_g, nc_g, oa_g, on_g, oc_g, ns_g, rfl, hns, hbd⟩
  have hB := hbd.n.row.below
  replace q_b0 := (hB.cell (show (⟨w.heap.size, 0, none⟩ : Addr).block < _ from World.block_lt_of_cell? _ _ q_b0)).trans q_b0
  replace q_b1 := (hB.cell (show (⟨w.heap.size, 1, none⟩ : Addr).block < _ from World.block_lt_of_cell? _ _ q_b1)).trans q_b1
  replace b_b : w.heap.size < w_10.heap.size := World.block_lt_of_cell? _ _ q_b0
  replace q_x0 := (hB.cell (show (⟨w_5.heap.size, 0, none⟩ : Addr).block < _ from World.block_lt_of_cell? _ _ q_x0)).trans q_x0
  replace q_x1 := (hB.cell (show (⟨w_5.heap.size, 1, none⟩ : Addr).block < _ from World.block_lt_of_cell? _ _ q_x1)).trans q_x1
  replace b_x : w_5.heap.size < w_10.heap.size := World.block_lt_of_cell? _ _ q_x0
  replace q_y0 := (hB.cell (show (⟨w_7.heap.size, 0, none⟩ : Addr).block < _ from World.block_lt_of_cell? _ _ q_y0)).trans q_y0
  replace q_y1 := (hB.cell (show (⟨w_7.heap.size, 1, none⟩ : Addr).block < _ from World.block_lt_of_cell? _ _ q_y1)).trans q_y1
  replace b_y : w_7.heap.size < w_10.heap.size := World.block_lt_of_cell? _ _ q_y0
  replace Hp := Lib.hid (ownL_later Hp.out hB)
  replace Hq := Lib.hid (ownL_later Hq.out hB)
  replace Hx := Lib.hid (ownL_later Hx.out hB)
  replace Hy := Lib.hid (ownL_later Hy.out hB)
  replace Hu := Lib.hid (ownL_later Hu.out hB)
  have Hg := Lib.hid (show OwnRL w_9.heap.size w_10.heap.size w_10 [rwN (.slice na_g nn_g nc_g) ns_g, rwI (.slice oa_g on_g oc_g) OPN] from by rw [← HOPN.out]; exact (bdAt_own hbd.n hbd.o).1)
  have HS10 := Lib.hid hB.size
  replace HB := Lib.hid (HB.out.trans (hB.mono HB.out.size))
  have HN_g := Lib.hid (show (blocksL [rwN (.slice na_g nn_g nc_g) ns_g, rwI (.slice oa_g on_g oc_g) OPN]).Nodup by rw [← HOPN.out]; exact (bdAt_own hbd.n hbd.o).2)
  have HNS_g := Lib.hid (show ns_g.map Prod.fst = NOD by rw [← HNOD.out]; exact hns)
  clear hB hns hbd
  go_wp2_with fail
  obtain ⟨w_11, hw⟩ : ∃ x, w_10.alloc (.cells #[.slice na_g nn_g nc_g, .slice oa_g on_g oc_g] 27) = x := ⟨_, rfl⟩
  rw [hw]
  have hB : Below w_10.heap.size w_10 w_11 := by rw [← hw]; exact (Below.refl _ _).alloc (Nat.le_refl _) _
  have q_g0 : w_11.cell? ⟨w_10.heap.size, 0, none⟩ = some (.slice na_g nn_g nc_g) := by rw [← hw]; simp
  have q_g1 : w_11.cell? ⟨w_10.heap.size, 1, none⟩ = some (.slice oa_g on_g oc_g) := by rw [← hw]; simp
  have b_g : w_10.heap.size < w_11.heap.size := World.block_lt_of_cell? _ _ q_g0
  replace q_b0 := (hB.cell (show (⟨w.heap.size, 0, none⟩ : Addr).block < _ from World.block_lt_of_cell? _ _ q_b0)).trans q_b0
  replace q_b1 := (hB.cell (show (⟨w.heap.size, 1, none⟩ : Addr).block < _ from World.block_lt_of_cell? _ _ q_b1)).trans q_b1
  replace b_b : w.heap.size < w_11.heap.size := World.block_lt_of_cell? _ _ q_b0
  replace q_x0 := (hB.cell (show (⟨w_5.heap.size, 0, none⟩ : Addr).block < _ from World.block_lt_of_cell? _ _ q_x0)).trans q_x0
  replace q_x1 := (hB.cell (show (⟨w_5.heap.size, 1, none⟩ : Addr).block < _ from World.block_lt_of_cell? _ _ q_x1)).trans q_x1
  replace b_x : w_5.heap.size < w_11.heap.size := World.block_lt_of_cell? _ _ q_x0
  replace q_y0 := (hB.cell (show (⟨w_7.heap.size, 0, none⟩ : Addr).block < _ from World.block_lt_of_cell? _ _ q_y0)).trans q_y0
  replace q_y1 := (hB.cell (show (⟨w_7.heap.size, 1, none⟩ : Addr).block < _ from World.block_lt_of_cell? _ _ q_y1)).trans q_y1
  replace b_y : w_7.heap.size < w_11.heap.size := World.block_lt_of_cell? _ _ q_y0
  replace Hp := Lib.hid (ownL_later Hp.out hB)
  replace Hq := Lib.hid (ownL_later Hq.out hB)
  replace Hx := Lib.hid (ownL_later Hx.out hB)
  replace Hy := Lib.hid (ownL_later Hy.out hB)
  replace Hu := Lib.hid (ownL_later Hu.out hB)
  replace Hg := Lib.hid (ownL_later Hg.out hB)
  have HS11 := Lib.hid hB.size
  replace HB := Lib.hid (HB.out.trans (hB.mono HB.out.size))
  clear hB hw
  have HSb_g := Lib.hid b_g
  go_wp2_with fail
  refine (eqV_Builder (rwN (.slice na_g nn_g nc_g) ns_g) (rwN (.slice na_x nn_x nc_x) ns_x) (rwI (.slice oa_g on_g oc_g) OPN) (rwI (.slice oa_x on_x oc_x) OPN) _ _ _ _ rfl rfl rfl rfl _ (rwN_is _ _) (rwN_is _ _) (rwN_data _ _ (HNS_g.out.trans HNS_x.out.symm)) (rdL1 Hg.out) (rdL1 Hx.out) (rwI_is _ _) (rwI_is _ _) (rwI_data.2 rfl) (rdL2 Hg.out) (rdL2 Hx.out)).mono ?_
  rintro e w_12 ⟨rfl, hg⟩
  have hB := hg.below
  replace q_b0 := (hB.cell (show (⟨w.heap.size, 0, none⟩ : Addr).block < _ from World.block_lt_of_cell? _ _ q_b0)).trans q_b0
  replace q_b1 := (hB.cell (show (⟨w.heap.size, 1, none⟩ : Addr).block < _ from World.block_lt_of_cell? _ _ q_b1)).trans q_b1
  replace b_b : w.heap.size < w_12.heap.size := World.block_lt_of_cell? _ _ q_b0
  replace q_x0 := (hB.cell (show (⟨w_5.heap.size, 0, none⟩ : Addr).block < _ from World.block_lt_of_cell? _ _ q_x0)).trans q_x0
  replace q_x1 := (hB.cell (show (⟨w_5.heap.size, 1, none⟩ : Addr).block < _ from World.block_lt_of_cell? _ _ q_x1)).trans q_x1
  replace b_x : w_5.heap.size < w_12.heap.size := World.block_lt_of_cell? _ _ q_x0
  replace q_y0 := (hB.cell (show (⟨w_7.heap.size, 0, none⟩ : Addr).block < _ from World.block_lt_of_cell? _ _ q_y0)).trans q_y0
  replace q_y1 := (hB.cell (show (⟨w_7.heap.size, 1, none⟩ : Addr).block < _ from World.block_lt_of_cell? _ _ q_y1)).trans q_y1
  replace b_y : w_7.heap.size < w_12.heap.size := World.block_lt_of_cell? _ _ q_y0
  replace q_g0 := (hB.cell (show (⟨w_10.heap.size, 0, none⟩ : Addr).block < _ from World.block_lt_of_cell? _ _ q_g0)).trans q_g0
  replace q_g1 := (hB.cell (show (⟨w_10.heap.size, 1, none⟩ : Addr).block < _ from World.block_lt_of_cell? _ _ q_g1)).trans q_g1
  replace b_g : w_10.heap.size < w_12.heap.size := World.block_lt_of_cell? _ _ q_g0
  replace Hp := Lib.hid (ownL_later Hp.out hB)
  replace Hq := Lib.hid (ownL_later Hq.out hB)
  replace Hx := Lib.hid (ownL_later Hx.out hB)
  replace Hy := Lib.hid (ownL_later Hy.out hB)
  replace Hu := Lib.hid (ownL_later Hu.out hB)
  replace Hg := Lib.hid (ownL_later Hg.out hB)
  have HS12 := Lib.hid hB.size
  replace HB := Lib.hid (HB.out.trans (hB.mono HB.out.size))
  clear hB hg
  go_upto_region 14 with (fail)
  go_cut [44] from 40 to 44 (fun c wx => c = .bool false ∧ Below w_12.heap.size w_12 wx)
  case first =>
    have hreadN := (rwN_reads ((HRN_b.out.below HB.out (Nat.le_refl _)).mono HB.out.size)).up (Grw.refl _).drew; have hreadI := (rwI_reads.2 ((HRI_b.out.below HB.out (Nat.le_refl _)).mono HB.out.size)).up (Grw.refl _).drew
    go_region_with (first | (go_at_call 38; refine (toL_Builder (rwN (.slice na_b nn_b nc_b) ns_b) (rwI (.slice oa_b on_b oc_b) zs_b) _ (rwN_is _ _) ?_ (by have := HWN_b.out; omega) (rwI_is _ _) ?_ (by have := HWI_b.out; omega)).mono ?_; (exact hreadN); (exact hreadI); rintro e w_A ⟨y0_w, y1_w, rfl, i0_w, d0_w, i1_w, d1_w, ho_w, hn_w, hb_w⟩; obtain ⟨na_w, nn_w, nc_w, e0_w⟩ := sl_form (is_sl_NodeS i0_w) (Rw.OwnR.reads _ (ownL_two.1 ho_w).1); obtain ⟨oa_w, on_w, oc_w, e1_w⟩ := sl_form (is_sl_IntS i1_w) (Rw.OwnR.reads _ (ownL_two.1 ho_w).2); rw [e0_w, e1_w]; have hO := ownL_later Hy.out (below_undrew hb_w); have hsA := (below_undrew hb_w).size; (first | have qA_b0 := (hb_w.cell (p := ⟨w.heap.size, 0, none⟩) b_b).trans q_b0 | skip); (first | have qA_b1 := (hb_w.cell (p := ⟨w.heap.size, 1, none⟩) b_b).trans q_b1 | skip); (first | have qA_x0 := (hb_w.cell (p := ⟨w_5.heap.size, 0, none⟩) b_x).trans q_x0 | skip); (first | have qA_x1 := (hb_w.cell (p := ⟨w_5.heap.size, 1, none⟩) b_x).trans q_x1 | skip); (first | have qA_y0 := (hb_w.cell (p := ⟨w_7.heap.size, 0, none⟩) b_y).trans q_y0 | skip); (first | have qA_y1 := (hb_w.cell (p := ⟨w_7.heap.size, 1, none⟩) b_y).trans q_y1 | skip); (first | have qA_g0 := (hb_w.cell (p := ⟨w_10.heap.size, 0, none⟩) b_g).trans q_g0 | skip); (first | have qA_g1 := (hb_w.cell (p := ⟨w_10.heap.size, 1, none⟩) b_g).trans q_g1 | skip)) | (go_at_call 33; refine (eqV_Builder y0_y y0_w y1_y y1_w _ _ _ _ HE0_y.out e0_w HE1_y.out e1_w _ HI0_y.out i0_w (HD0_y.out.trans d0_w.symm) (rdL1 hO) (rdL1 ho_w) HI1_y.out i1_w (HD1_y.out.trans d1_w.symm) (rdL2 hO) (rdL2 ho_w)).mono ?_; rintro e w_C ⟨rfl, hgC⟩))
    all_goals
      have hB := (below_undrew hb_w).trans (hgC.below.mono hsA)
      go_wp2_with fail
      go_meet
      exact ⟨rfl, hB⟩
  obtain ⟨rfl, hB⟩ := hcut
  rename World => w_13
  replace q_b0 := (hB.cell (show (⟨w.heap.size, 0, none⟩ : Addr).block < _ from World.block_lt_of_cell? _ _ q_b0)).trans q_b0
  replace q_b1 := (hB.cell (show (⟨w.heap.size, 1, none⟩ : Addr).block < _ from World.block_lt_of_cell? _ _ q_b1)).trans q_b1
  replace b_b : w.heap.size < w_13.heap.size := World.block_lt_of_cell? _ _ q_b0
  replace q_x0 := (hB.cell (show (⟨w_5.heap.size, 0, none⟩ : Addr).block < _ from World.block_lt_of_cell? _ _ q_x0)).trans q_x0
  replace q_x1 := (hB.cell (show (⟨w_5.heap.size, 1, none⟩ : Addr).block < _ from World.block_lt_of_cell? _ _ q_x1)).trans q_x1
  replace b_x : w_5.heap.size < w_13.heap.size := World.block_lt_of_cell? _ _ q_x0
  replace q_y0 := (hB.cell (show (⟨w_7.heap.size, 0, none⟩ : Addr).block < _ from World.block_lt_of_cell? _ _ q_y0)).trans q_y0
  replace q_y1 := (hB.cell (show (⟨w_7.heap.size, 1, none⟩ : Addr).block < _ from World.block_lt_of_cell? _ _ q_y1)).trans q_y1
  replace b_y : w_7.heap.size < w_13.heap.size := World.block_lt_of_cell? _ _ q_y0
  replace q_g0 := (hB.cell (show (⟨w_10.heap.size, 0, none⟩ : Addr).block < _ from World.block_lt_of_cell? _ _ q_g0)).trans q_g0
  replace q_g1 := (hB.cell (show (⟨w_10.heap.size, 1, none⟩ : Addr).block < _ from World.block_lt_of_cell? _ _ q_g1)).trans q_g1
  replace b_g : w_10.heap.size < w_13.heap.size := World.block_lt_of_cell? _ _ q_g0
  replace Hp := Lib.hid (ownL_later Hp.out hB)
  replace Hq := Lib.hid (ownL_later Hq.out hB)
  replace Hx := Lib.hid (ownL_later Hx.out hB)
  replace Hy := Lib.hid (ownL_later Hy.out hB)
  replace Hu := Lib.hid (ownL_later Hu.out hB)
  replace Hg := Lib.hid (ownL_later Hg.out hB)
  have HS13 := Lib.hid hB.size
  replace HB := Lib.hid (HB.out.trans (hB.mono HB.out.size))
  clear hB
  go_wp2_with fail
  refine (toS_one _ ts_l _ (rwT_reads ((HRT_l.out.below HB.out (Nat.le_refl _)).mono HB.out.size)) HWT_l.out).mono ?_
  rintro e w_14 ⟨y_z, rfl, i_z, d_z, ho, hn, hb⟩
  have hB := hb
  replace q_b0 := (hB.cell (show (⟨w.heap.size, 0, none⟩ : Addr).block < _ from World.block_lt_of_cell? _ _ q_b0)).trans q_b0
  replace q_b1 := (hB.cell (show (⟨w.heap.size, 1, none⟩ : Addr).block < _ from World.block_lt_of_cell? _ _ q_b1)).trans q_b1
  replace b_b : w.heap.size < w_14.heap.size := World.block_lt_of_cell? _ _ q_b0
  replace q_x0 := (hB.cell (show (⟨w_5.heap.size, 0, none⟩ : Addr).block < _ from World.block_lt_of_cell? _ _ q_x0)).trans q_x0
  replace q_x1 := (hB.cell (show (⟨w_5.heap.size, 1, none⟩ : Addr).block < _ from World.block_lt_of_cell? _ _ q_x1)).trans q_x1
  replace b_x : w_5.heap.size < w_14.heap.size := World.block_lt_of_cell? _ _ q_x0
  replace q_y0 := (hB.cell (show (⟨w_7.heap.size, 0, none⟩ : Addr).block < _ from World.block_lt_of_cell? _ _ q_y0)).trans q_y0
  replace q_y1 := (hB.cell (show (⟨w_7.heap.size, 1, none⟩ : Addr).block < _ from World.block_lt_of_cell? _ _ q_y1)).trans q_y1
  replace b_y : w_7.heap.size < w_14.heap.size := World.block_lt_of_cell? _ _ q_y0
  replace q_g0 := (hB.cell (show (⟨w_10.heap.size, 0, none⟩ : Addr).block < _ from World.block_lt_of_cell? _ _ q_g0)).trans q_g0
  replace q_g1 := (hB.cell (show (⟨w_10.heap.size, 1, none⟩ : Addr).block < _ from World.block_lt_of_cell? _ _ q_g1)).trans q_g1
  replace b_g : w_10.heap.size < w_14.heap.size := World.block_lt_of_cell? _ _ q_g0
  replace Hp := Lib.hid (ownL_later Hp.out hB)
  replace Hq := Lib.hid (ownL_later Hq.out hB)
  replace Hx := Lib.hid (ownL_later Hx.out hB)
  replace Hy := Lib.hid (ownL_later Hy.out hB)
  replace Hu := Lib.hid (ownL_later Hu.out hB)
  replace Hg := Lib.hid (ownL_later Hg.out hB)
  have Hz := Lib.hid (ho)
  have HS14 := Lib.hid hB.size
  replace HB := Lib.hid (HB.out.trans (hB.mono HB.out.size))
  have HI_z := Lib.hid i_z; have HD_z := Lib.hid d_z; have HN_z := Lib.hid hn
  obtain ⟨c_z, hc_z⟩ : ∃ c, y_z.cell = c := ⟨_, rfl⟩
  rw [hc_z]
  have HC_z := Lib.hid hc_z
  clear hB ho hn hb i_z d_z hc_z
  go_wp2_with fail
  refine ((HC_u.out ▸ HC_z.out ▸ eq_TokenS y_u y_z HI_u.out HI_z.out (HD_u.out.trans HD_z.out.symm) _ (rd_of (ownL_one.1 Hu.out)) (rd_of (ownL_one.1 Hz.out)))).mono ?_
  rintro e w_15 ⟨rfl, hg⟩
  have hB := hg.below
  replace q_b0 := (hB.cell (show (⟨w.heap.size, 0, none⟩ : Addr).block < _ from World.block_lt_of_cell? _ _ q_b0)).trans q_b0
  replace q_b1 := (hB.cell (show (⟨w.heap.size, 1, none⟩ : Addr).block < _ from World.block_lt_of_cell? _ _ q_b1)).trans q_b1
  replace b_b : w.heap.size < w_15.heap.size := World.block_lt_of_cell? _ _ q_b0
  replace q_x0 := (hB.cell (show (⟨w_5.heap.size, 0, none⟩ : Addr).block < _ from World.block_lt_of_cell? _ _ q_x0)).trans q_x0
  replace q_x1 := (hB.cell (show (⟨w_5.heap.size, 1, none⟩ : Addr).block < _ from World.block_lt_of_cell? _ _ q_x1)).trans q_x1
  replace b_x : w_5.heap.size < w_15.heap.size := World.block_lt_of_cell? _ _ q_x0
  replace q_y0 := (hB.cell (show (⟨w_7.heap.size, 0, none⟩ : Addr).block < _ from World.block_lt_of_cell? _ _ q_y0)).trans q_y0
  replace q_y1 := (hB.cell (show (⟨w_7.heap.size, 1, none⟩ : Addr).block < _ from World.block_lt_of_cell? _ _ q_y1)).trans q_y1
  replace b_y : w_7.heap.size < w_15.heap.size := World.block_lt_of_cell? _ _ q_y0
  replace q_g0 := (hB.cell (show (⟨w_10.heap.size, 0, none⟩ : Addr).block < _ from World.block_lt_of_cell? _ _ q_g0)).trans q_g0
  replace q_g1 := (hB.cell (show (⟨w_10.heap.size, 1, none⟩ : Addr).block < _ from World.block_lt_of_cell? _ _ q_g1)).trans q_g1
  replace b_g : w_10.heap.size < w_15.heap.size := World.block_lt_of_cell? _ _ q_g0
  replace Hp := Lib.hid (ownL_later Hp.out hB)
  replace Hq := Lib.hid (ownL_later Hq.out hB)
  replace Hx := Lib.hid (ownL_later Hx.out hB)
  replace Hy := Lib.hid (ownL_later Hy.out hB)
  replace Hu := Lib.hid (ownL_later Hu.out hB)
  replace Hg := Lib.hid (ownL_later Hg.out hB)
  replace Hz := Lib.hid (ownL_later Hz.out hB)
  have HS15 := Lib.hid hB.size
  replace HB := Lib.hid (HB.out.trans (hB.mono HB.out.size))
  clear hB hg
  have HCT_y := Lib.hid (show 1 + countL [y0_y, y1_y] ≤ 4611686018427387904 by
    have h1 := count_data _ _ HD0_y.out; have h2 := count_data _ _ HD1_y.out; have h3 := HCB.out
    rw [rwN_cnt] at h1; rw [rwI_count] at h2; rw [countL, countL, countL]; omega)
  have NOB_b_y := Lib.hid (show w.heap.size ∉ _ from fun hb => by have hh := ownL_lt Hy.out _ hb; have := HS0.out; have := HS1.out; have := HS2.out; have := HS3.out; have := HS4.out; have := HS5.out; have := HS6.out; have := HSb_x.out; have := HS7.out; have := HS8.out; have := HSb_y.out; have := HS9.out; have := HS10.out; have := HS11.out; have := HSb_g.out; have := HS12.out; have := HS13.out; have := HS14.out; have := HS15.out; omega)
  have NOB_x_y := Lib.hid (show w_5.heap.size ∉ _ from fun hb => by have hh := ownL_lt Hy.out _ hb; have := HS0.out; have := HS1.out; have := HS2.out; have := HS3.out; have := HS4.out; have := HS5.out; have := HS6.out; have := HSb_x.out; have := HS7.out; have := HS8.out; have := HSb_y.out; have := HS9.out; have := HS10.out; have := HS11.out; have := HSb_g.out; have := HS12.out; have := HS13.out; have := HS14.out; have := HS15.out; omega)
  have NOB_y_y := Lib.hid (show w_7.heap.size ∉ _ from fun hb => by have hh := ownL_lt Hy.out _ hb; have := HS0.out; have := HS1.out; have := HS2.out; have := HS3.out; have := HS4.out; have := HS5.out; have := HS6.out; have := HSb_x.out; have := HS7.out; have := HS8.out; have := HSb_y.out; have := HS9.out; have := HS10.out; have := HS11.out; have := HSb_g.out; have := HS12.out; have := HS13.out; have := HS14.out; have := HS15.out; omega)
  have NOB_g_y := Lib.hid (show w_10.heap.size ∉ _ from fun hb => by have hh := ownL_lt Hy.out _ hb; have := HS0.out; have := HS1.out; have := HS2.out; have := HS3.out; have := HS4.out; have := HS5.out; have := HS6.out; have := HSb_x.out; have := HS7.out; have := HS8.out; have := HSb_y.out; have := HS9.out; have := HS10.out; have := HS11.out; have := HSb_g.out; have := HS12.out; have := HS13.out; have := HS14.out; have := HS15.out; omega)
  go_wp2_with fail
  refine (mkV_Builder y0_y y1_y _ _ HE0_y.out HE1_y.out HI0_y.out HI1_y.out _ _ 1 _ rfl _ Hy.out HN_y.out HCT_y.out).mono ?_
  rintro e w_16 ⟨rfl, hmk, hon⟩
  replace q_b0 := (cell_only (a := ⟨w.heap.size, 0, none⟩) hon (show w.heap.size ∉ _ from fun hb => NOB_b_y.out hb) (World.block_lt_of_cell? _ _ q_b0)).trans q_b0
  replace q_b1 := (cell_only (a := ⟨w.heap.size, 1, none⟩) hon (show w.heap.size ∉ _ from fun hb => NOB_b_y.out hb) (World.block_lt_of_cell? _ _ q_b1)).trans q_b1
  replace b_b : w.heap.size < w_16.heap.size := World.block_lt_of_cell? _ _ q_b0
  replace q_x0 := (cell_only (a := ⟨w_5.heap.size, 0, none⟩) hon (show w_5.heap.size ∉ _ from fun hb => NOB_x_y.out hb) (World.block_lt_of_cell? _ _ q_x0)).trans q_x0
  replace q_x1 := (cell_only (a := ⟨w_5.heap.size, 1, none⟩) hon (show w_5.heap.size ∉ _ from fun hb => NOB_x_y.out hb) (World.block_lt_of_cell? _ _ q_x1)).trans q_x1
  replace b_x : w_5.heap.size < w_16.heap.size := World.block_lt_of_cell? _ _ q_x0
  replace q_y0 := (cell_only (a := ⟨w_7.heap.size, 0, none⟩) hon (show w_7.heap.size ∉ _ from fun hb => NOB_y_y.out hb) (World.block_lt_of_cell? _ _ q_y0)).trans q_y0
  replace q_y1 := (cell_only (a := ⟨w_7.heap.size, 1, none⟩) hon (show w_7.heap.size ∉ _ from fun hb => NOB_y_y.out hb) (World.block_lt_of_cell? _ _ q_y1)).trans q_y1
  replace b_y : w_7.heap.size < w_16.heap.size := World.block_lt_of_cell? _ _ q_y0
  replace q_g0 := (cell_only (a := ⟨w_10.heap.size, 0, none⟩) hon (show w_10.heap.size ∉ _ from fun hb => NOB_g_y.out hb) (World.block_lt_of_cell? _ _ q_g0)).trans q_g0
  replace q_g1 := (cell_only (a := ⟨w_10.heap.size, 1, none⟩) hon (show w_10.heap.size ∉ _ from fun hb => NOB_g_y.out hb) (World.block_lt_of_cell? _ _ q_g1)).trans q_g1
  replace b_g : w_10.heap.size < w_16.heap.size := World.block_lt_of_cell? _ _ q_g0
  have hbk := ownL_back (lo := w.heap.size) HB.out (ownL_mono Hy.out (lo' := w.heap.size) (by have := HS0.out; have := HS1.out; have := HS2.out; have := HS3.out; have := HS4.out; have := HS5.out; have := HS6.out; have := HSb_x.out; have := HS7.out; have := HS8.out; have := HSb_y.out; have := HS9.out; have := HS10.out; have := HS11.out; have := HSb_g.out; have := HS12.out; have := HS13.out; have := HS14.out; have := HS15.out; omega) (Nat.le_refl _)) HB.out.size hon
  replace Hp := Lib.hid (ownL_apart Hp.out Hy.out (by have := HS0.out; have := HS1.out; have := HS2.out; have := HS3.out; have := HS4.out; have := HS5.out; have := HS6.out; have := HSb_x.out; have := HS7.out; have := HS8.out; have := HSb_y.out; have := HS9.out; have := HS10.out; have := HS11.out; have := HSb_g.out; have := HS12.out; have := HS13.out; have := HS14.out; have := HS15.out; omega) hon)
  replace Hq := Lib.hid (ownL_apart Hq.out Hy.out (by have := HS0.out; have := HS1.out; have := HS2.out; have := HS3.out; have := HS4.out; have := HS5.out; have := HS6.out; have := HSb_x.out; have := HS7.out; have := HS8.out; have := HSb_y.out; have := HS9.out; have := HS10.out; have := HS11.out; have := HSb_g.out; have := HS12.out; have := HS13.out; have := HS14.out; have := HS15.out; omega) hon)
  replace Hx := Lib.hid (ownL_apart Hx.out Hy.out (by have := HS0.out; have := HS1.out; have := HS2.out; have := HS3.out; have := HS4.out; have := HS5.out; have := HS6.out; have := HSb_x.out; have := HS7.out; have := HS8.out; have := HSb_y.out; have := HS9.out; have := HS10.out; have := HS11.out; have := HSb_g.out; have := HS12.out; have := HS13.out; have := HS14.out; have := HS15.out; omega) hon)
  replace Hu := Lib.hid (ownL_apart Hu.out Hy.out (by have := HS0.out; have := HS1.out; have := HS2.out; have := HS3.out; have := HS4.out; have := HS5.out; have := HS6.out; have := HSb_x.out; have := HS7.out; have := HS8.out; have := HSb_y.out; have := HS9.out; have := HS10.out; have := HS11.out; have := HSb_g.out; have := HS12.out; have := HS13.out; have := HS14.out; have := HS15.out; omega) hon)
  replace Hg := Lib.hid (ownL_apart Hg.out Hy.out (by have := HS0.out; have := HS1.out; have := HS2.out; have := HS3.out; have := HS4.out; have := HS5.out; have := HS6.out; have := HSb_x.out; have := HS7.out; have := HS8.out; have := HSb_y.out; have := HS9.out; have := HS10.out; have := HS11.out; have := HSb_g.out; have := HS12.out; have := HS13.out; have := HS14.out; have := HS15.out; omega) hon)
  replace Hz := Lib.hid (ownL_apart Hz.out Hy.out (by have := HS0.out; have := HS1.out; have := HS2.out; have := HS3.out; have := HS4.out; have := HS5.out; have := HS6.out; have := HSb_x.out; have := HS7.out; have := HS8.out; have := HSb_y.out; have := HS9.out; have := HS10.out; have := HS11.out; have := HSb_g.out; have := HS12.out; have := HS13.out; have := HS14.out; have := HS15.out; omega) hon)
  replace Hy := Lib.hid hmk
  have HS16 := Lib.hid hon.size
  replace HB := Lib.hid hbk
  clear hbk hmk hon
  obtain ⟨m1, hm1⟩ : ∃ m, 1 + countL [y0_y, y1_y] = m := ⟨_, rfl⟩
  have HCT_u := Lib.hid (show m1 + countL [y_u] ≤ 4611686018427387904 by
    have h1 := count_data _ _ HD0_y.out; have h2 := count_data _ _ HD1_y.out; have h3 := HCB.out; have h4 := count_data _ _ HD_u.out
    rw [rwN_cnt] at h1; rw [rwI_count] at h2; rw [rwT_cnt] at h4; rw [← hm1, countL, countL, countL, countL, countL]; omega)
  rw [hm1]; clear hm1
  have NOB_b_u := Lib.hid (show w.heap.size ∉ _ from fun hb => by have hh := ownL_lt Hu.out _ hb; have := HS0.out; have := HS1.out; have := HS2.out; have := HS3.out; have := HS4.out; have := HS5.out; have := HS6.out; have := HSb_x.out; have := HS7.out; have := HS8.out; have := HSb_y.out; have := HS9.out; have := HS10.out; have := HS11.out; have := HSb_g.out; have := HS12.out; have := HS13.out; have := HS14.out; have := HS15.out; have := HS16.out; omega)
  have NOB_x_u := Lib.hid (show w_5.heap.size ∉ _ from fun hb => by have hh := ownL_lt Hu.out _ hb; have := HS0.out; have := HS1.out; have := HS2.out; have := HS3.out; have := HS4.out; have := HS5.out; have := HS6.out; have := HSb_x.out; have := HS7.out; have := HS8.out; have := HSb_y.out; have := HS9.out; have := HS10.out; have := HS11.out; have := HSb_g.out; have := HS12.out; have := HS13.out; have := HS14.out; have := HS15.out; have := HS16.out; omega)
  have NOB_y_u := Lib.hid (show w_7.heap.size ∉ _ from fun hb => by have hh := ownL_lt Hu.out _ hb; have := HS0.out; have := HS1.out; have := HS2.out; have := HS3.out; have := HS4.out; have := HS5.out; have := HS6.out; have := HSb_x.out; have := HS7.out; have := HS8.out; have := HSb_y.out; have := HS9.out; have := HS10.out; have := HS11.out; have := HSb_g.out; have := HS12.out; have := HS13.out; have := HS14.out; have := HS15.out; have := HS16.out; omega)
  have NOB_g_u := Lib.hid (show w_10.heap.size ∉ _ from fun hb => by have hh := ownL_lt Hu.out _ hb; have := HS0.out; have := HS1.out; have := HS2.out; have := HS3.out; have := HS4.out; have := HS5.out; have := HS6.out; have := HSb_x.out; have := HS7.out; have := HS8.out; have := HSb_y.out; have := HS9.out; have := HS10.out; have := HS11.out; have := HSb_g.out; have := HS12.out; have := HS13.out; have := HS14.out; have := HS15.out; have := HS16.out; omega)
  go_wp2_with fail
  refine ((HC_u.out ▸ mkS_one y_u HI_u.out _ _ m1 _ rfl _ Hu.out HN_u.out HCT_u.out)).mono ?_
  rintro e w_17 ⟨rfl, hmk, hon⟩
  replace q_b0 := (cell_only (a := ⟨w.heap.size, 0, none⟩) hon (show w.heap.size ∉ _ from fun hb => NOB_b_u.out hb) (World.block_lt_of_cell? _ _ q_b0)).trans q_b0
  replace q_b1 := (cell_only (a := ⟨w.heap.size, 1, none⟩) hon (show w.heap.size ∉ _ from fun hb => NOB_b_u.out hb) (World.block_lt_of_cell? _ _ q_b1)).trans q_b1
  replace b_b : w.heap.size < w_17.heap.size := World.block_lt_of_cell? _ _ q_b0
  replace q_x0 := (cell_only (a := ⟨w_5.heap.size, 0, none⟩) hon (show w_5.heap.size ∉ _ from fun hb => NOB_x_u.out hb) (World.block_lt_of_cell? _ _ q_x0)).trans q_x0
  replace q_x1 := (cell_only (a := ⟨w_5.heap.size, 1, none⟩) hon (show w_5.heap.size ∉ _ from fun hb => NOB_x_u.out hb) (World.block_lt_of_cell? _ _ q_x1)).trans q_x1
  replace b_x : w_5.heap.size < w_17.heap.size := World.block_lt_of_cell? _ _ q_x0
  replace q_y0 := (cell_only (a := ⟨w_7.heap.size, 0, none⟩) hon (show w_7.heap.size ∉ _ from fun hb => NOB_y_u.out hb) (World.block_lt_of_cell? _ _ q_y0)).trans q_y0
  replace q_y1 := (cell_only (a := ⟨w_7.heap.size, 1, none⟩) hon (show w_7.heap.size ∉ _ from fun hb => NOB_y_u.out hb) (World.block_lt_of_cell? _ _ q_y1)).trans q_y1
  replace b_y : w_7.heap.size < w_17.heap.size := World.block_lt_of_cell? _ _ q_y0
  replace q_g0 := (cell_only (a := ⟨w_10.heap.size, 0, none⟩) hon (show w_10.heap.size ∉ _ from fun hb => NOB_g_u.out hb) (World.block_lt_of_cell? _ _ q_g0)).trans q_g0
  replace q_g1 := (cell_only (a := ⟨w_10.heap.size, 1, none⟩) hon (show w_10.heap.size ∉ _ from fun hb => NOB_g_u.out hb) (World.block_lt_of_cell? _ _ q_g1)).trans q_g1
  replace b_g : w_10.heap.size < w_17.heap.size := World.block_lt_of_cell? _ _ q_g0
  have hbk := ownL_back (lo := w.heap.size) HB.out (ownL_mono Hu.out (lo' := w.heap.size) (by have := HS0.out; have := HS1.out; have := HS2.out; have := HS3.out; have := HS4.out; have := HS5.out; have := HS6.out; have := HSb_x.out; have := HS7.out; have := HS8.out; have := HSb_y.out; have := HS9.out; have := HS10.out; have := HS11.out; have := HSb_g.out; have := HS12.out; have := HS13.out; have := HS14.out; have := HS15.out; have := HS16.out; omega) (Nat.le_refl _)) HB.out.size hon
  replace Hp := Lib.hid (ownL_apart Hp.out Hu.out (by have := HS0.out; have := HS1.out; have := HS2.out; have := HS3.out; have := HS4.out; have := HS5.out; have := HS6.out; have := HSb_x.out; have := HS7.out; have := HS8.out; have := HSb_y.out; have := HS9.out; have := HS10.out; have := HS11.out; have := HSb_g.out; have := HS12.out; have := HS13.out; have := HS14.out; have := HS15.out; have := HS16.out; omega) hon)
  replace Hq := Lib.hid (ownL_apart Hq.out Hu.out (by have := HS0.out; have := HS1.out; have := HS2.out; have := HS3.out; have := HS4.out; have := HS5.out; have := HS6.out; have := HSb_x.out; have := HS7.out; have := HS8.out; have := HSb_y.out; have := HS9.out; have := HS10.out; have := HS11.out; have := HSb_g.out; have := HS12.out; have := HS13.out; have := HS14.out; have := HS15.out; have := HS16.out; omega) hon)
  replace Hx := Lib.hid (ownL_apart Hx.out Hu.out (by have := HS0.out; have := HS1.out; have := HS2.out; have := HS3.out; have := HS4.out; have := HS5.out; have := HS6.out; have := HSb_x.out; have := HS7.out; have := HS8.out; have := HSb_y.out; have := HS9.out; have := HS10.out; have := HS11.out; have := HSb_g.out; have := HS12.out; have := HS13.out; have := HS14.out; have := HS15.out; have := HS16.out; omega) hon)
  replace Hy := Lib.hid (ownL_apart Hy.out Hu.out (by have := HS0.out; have := HS1.out; have := HS2.out; have := HS3.out; have := HS4.out; have := HS5.out; have := HS6.out; have := HSb_x.out; have := HS7.out; have := HS8.out; have := HSb_y.out; have := HS9.out; have := HS10.out; have := HS11.out; have := HSb_g.out; have := HS12.out; have := HS13.out; have := HS14.out; have := HS15.out; have := HS16.out; omega) hon)
  replace Hg := Lib.hid (ownL_apart Hg.out Hu.out (by have := HS0.out; have := HS1.out; have := HS2.out; have := HS3.out; have := HS4.out; have := HS5.out; have := HS6.out; have := HSb_x.out; have := HS7.out; have := HS8.out; have := HSb_y.out; have := HS9.out; have := HS10.out; have := HS11.out; have := HSb_g.out; have := HS12.out; have := HS13.out; have := HS14.out; have := HS15.out; have := HS16.out; omega) hon)
  replace Hz := Lib.hid (ownL_apart Hz.out Hu.out (by have := HS0.out; have := HS1.out; have := HS2.out; have := HS3.out; have := HS4.out; have := HS5.out; have := HS6.out; have := HSb_x.out; have := HS7.out; have := HS8.out; have := HSb_y.out; have := HS9.out; have := HS10.out; have := HS11.out; have := HSb_g.out; have := HS12.out; have := HS13.out; have := HS14.out; have := HS15.out; have := HS16.out; omega) hon)
  replace Hu := Lib.hid hmk
  have HS17 := Lib.hid hon.size
  replace HB := Lib.hid hbk
  clear hbk hmk hon
  obtain ⟨m2, hm2⟩ : ∃ m, m1 + countL [y_u] = m := ⟨_, rfl⟩
  rw [hm2]; have hm20 : ¬ ((m2 : Int) < 0) := by omega
  clear hm2
  have hm2d : decide ((m2 : Int) < 0) = false := decide_eq_false hm20
  go_wp2_with fail
  refine (eqV_Builder (rwN (.slice na_g nn_g nc_g) ns_g) (rwN (.slice na_x nn_x nc_x) ns_x) (rwI (.slice oa_g on_g oc_g) OPN) (rwI (.slice oa_x on_x oc_x) OPN) _ _ _ _ rfl rfl rfl rfl _ (rwN_is _ _) (rwN_is _ _) (rwN_data _ _ (HNS_g.out.trans HNS_x.out.symm)) (rdL1 Hg.out) (rdL1 Hx.out) (rwI_is _ _) (rwI_is _ _) (rwI_data.2 rfl) (rdL2 Hg.out) (rdL2 Hx.out)).mono ?_
  rintro e w_18 ⟨rfl, hg⟩
  have hB := hg.below
  replace q_b0 := (hB.cell (show (⟨w.heap.size, 0, none⟩ : Addr).block < _ from World.block_lt_of_cell? _ _ q_b0)).trans q_b0
  replace q_b1 := (hB.cell (show (⟨w.heap.size, 1, none⟩ : Addr).block < _ from World.block_lt_of_cell? _ _ q_b1)).trans q_b1
  replace b_b : w.heap.size < w_18.heap.size := World.block_lt_of_cell? _ _ q_b0
  replace q_x0 := (hB.cell (show (⟨w_5.heap.size, 0, none⟩ : Addr).block < _ from World.block_lt_of_cell? _ _ q_x0)).trans q_x0
  replace q_x1 := (hB.cell (show (⟨w_5.heap.size, 1, none⟩ : Addr).block < _ from World.block_lt_of_cell? _ _ q_x1)).trans q_x1
  replace b_x : w_5.heap.size < w_18.heap.size := World.block_lt_of_cell? _ _ q_x0
  replace q_y0 := (hB.cell (show (⟨w_7.heap.size, 0, none⟩ : Addr).block < _ from World.block_lt_of_cell? _ _ q_y0)).trans q_y0
  replace q_y1 := (hB.cell (show (⟨w_7.heap.size, 1, none⟩ : Addr).block < _ from World.block_lt_of_cell? _ _ q_y1)).trans q_y1
  replace b_y : w_7.heap.size < w_18.heap.size := World.block_lt_of_cell? _ _ q_y0
  replace q_g0 := (hB.cell (show (⟨w_10.heap.size, 0, none⟩ : Addr).block < _ from World.block_lt_of_cell? _ _ q_g0)).trans q_g0
  replace q_g1 := (hB.cell (show (⟨w_10.heap.size, 1, none⟩ : Addr).block < _ from World.block_lt_of_cell? _ _ q_g1)).trans q_g1
  replace b_g : w_10.heap.size < w_18.heap.size := World.block_lt_of_cell? _ _ q_g0
  replace Hp := Lib.hid (ownL_later Hp.out hB)
  replace Hq := Lib.hid (ownL_later Hq.out hB)
  replace Hx := Lib.hid (ownL_later Hx.out hB)
  replace Hy := Lib.hid (ownL_later Hy.out hB)
  replace Hu := Lib.hid (ownL_later Hu.out hB)
  replace Hg := Lib.hid (ownL_later Hg.out hB)
  replace Hz := Lib.hid (ownL_later Hz.out hB)
  have HS18 := Lib.hid hB.size
  replace HB := Lib.hid (HB.out.trans (hB.mono HB.out.size))
  clear hB hg
  have HCT_g := Lib.hid (show 1 + countL [(rwN (.slice na_g nn_g nc_g) ns_g), (rwI (.slice oa_g on_g oc_g) OPN)] ≤ 4611686018427387904 by
    have h1 := HWC.out; rw [countL, countL, countL, rwN_cnt, rwI_count, HNS_g.out]; omega)
  have NOB_b_g := Lib.hid (show w.heap.size ∉ _ from fun hb => by have hh := ownL_lt Hg.out _ hb; have := HS0.out; have := HS1.out; have := HS2.out; have := HS3.out; have := HS4.out; have := HS5.out; have := HS6.out; have := HSb_x.out; have := HS7.out; have := HS8.out; have := HSb_y.out; have := HS9.out; have := HS10.out; have := HS11.out; have := HSb_g.out; have := HS12.out; have := HS13.out; have := HS14.out; have := HS15.out; have := HS16.out; have := HS17.out; have := HS18.out; omega)
  have NOB_x_g := Lib.hid (show w_5.heap.size ∉ _ from fun hb => by have hh := ownL_lt Hg.out _ hb; have := HS0.out; have := HS1.out; have := HS2.out; have := HS3.out; have := HS4.out; have := HS5.out; have := HS6.out; have := HSb_x.out; have := HS7.out; have := HS8.out; have := HSb_y.out; have := HS9.out; have := HS10.out; have := HS11.out; have := HSb_g.out; have := HS12.out; have := HS13.out; have := HS14.out; have := HS15.out; have := HS16.out; have := HS17.out; have := HS18.out; omega)
  have NOB_y_g := Lib.hid (show w_7.heap.size ∉ _ from fun hb => by have hh := ownL_lt Hg.out _ hb; have := HS0.out; have := HS1.out; have := HS2.out; have := HS3.out; have := HS4.out; have := HS5.out; have := HS6.out; have := HSb_x.out; have := HS7.out; have := HS8.out; have := HSb_y.out; have := HS9.out; have := HS10.out; have := HS11.out; have := HSb_g.out; have := HS12.out; have := HS13.out; have := HS14.out; have := HS15.out; have := HS16.out; have := HS17.out; have := HS18.out; omega)
  have NOB_g_g := Lib.hid (show w_10.heap.size ∉ _ from fun hb => by have hh := ownL_lt Hg.out _ hb; have := HS0.out; have := HS1.out; have := HS2.out; have := HS3.out; have := HS4.out; have := HS5.out; have := HS6.out; have := HSb_x.out; have := HS7.out; have := HS8.out; have := HSb_y.out; have := HS9.out; have := HS10.out; have := HS11.out; have := HSb_g.out; have := HS12.out; have := HS13.out; have := HS14.out; have := HS15.out; have := HS16.out; have := HS17.out; have := HS18.out; omega)
  go_wp2_with fail
  refine (mkV_Builder (rwN (.slice na_g nn_g nc_g) ns_g) (rwI (.slice oa_g on_g oc_g) OPN) _ _ rfl rfl (rwN_is _ _) (rwI_is _ _) _ _ 1 _ rfl _ Hg.out HN_g.out HCT_g.out).mono ?_
  rintro e w_19 ⟨rfl, hmk, hon⟩
  replace q_b0 := (cell_only (a := ⟨w.heap.size, 0, none⟩) hon (show w.heap.size ∉ _ from fun hb => NOB_b_g.out hb) (World.block_lt_of_cell? _ _ q_b0)).trans q_b0
  replace q_b1 := (cell_only (a := ⟨w.heap.size, 1, none⟩) hon (show w.heap.size ∉ _ from fun hb => NOB_b_g.out hb) (World.block_lt_of_cell? _ _ q_b1)).trans q_b1
  replace b_b : w.heap.size < w_19.heap.size := World.block_lt_of_cell? _ _ q_b0
  replace q_x0 := (cell_only (a := ⟨w_5.heap.size, 0, none⟩) hon (show w_5.heap.size ∉ _ from fun hb => NOB_x_g.out hb) (World.block_lt_of_cell? _ _ q_x0)).trans q_x0
  replace q_x1 := (cell_only (a := ⟨w_5.heap.size, 1, none⟩) hon (show w_5.heap.size ∉ _ from fun hb => NOB_x_g.out hb) (World.block_lt_of_cell? _ _ q_x1)).trans q_x1
  replace b_x : w_5.heap.size < w_19.heap.size := World.block_lt_of_cell? _ _ q_x0
  replace q_y0 := (cell_only (a := ⟨w_7.heap.size, 0, none⟩) hon (show w_7.heap.size ∉ _ from fun hb => NOB_y_g.out hb) (World.block_lt_of_cell? _ _ q_y0)).trans q_y0
  replace q_y1 := (cell_only (a := ⟨w_7.heap.size, 1, none⟩) hon (show w_7.heap.size ∉ _ from fun hb => NOB_y_g.out hb) (World.block_lt_of_cell? _ _ q_y1)).trans q_y1
  replace b_y : w_7.heap.size < w_19.heap.size := World.block_lt_of_cell? _ _ q_y0
  replace q_g0 := (cell_only (a := ⟨w_10.heap.size, 0, none⟩) hon (show w_10.heap.size ∉ _ from fun hb => NOB_g_g.out hb) (World.block_lt_of_cell? _ _ q_g0)).trans q_g0
  replace q_g1 := (cell_only (a := ⟨w_10.heap.size, 1, none⟩) hon (show w_10.heap.size ∉ _ from fun hb => NOB_g_g.out hb) (World.block_lt_of_cell? _ _ q_g1)).trans q_g1
  replace b_g : w_10.heap.size < w_19.heap.size := World.block_lt_of_cell? _ _ q_g0
  have hbk := ownL_back (lo := w.heap.size) HB.out (ownL_mono Hg.out (lo' := w.heap.size) (by have := HS0.out; have := HS1.out; have := HS2.out; have := HS3.out; have := HS4.out; have := HS5.out; have := HS6.out; have := HSb_x.out; have := HS7.out; have := HS8.out; have := HSb_y.out; have := HS9.out; have := HS10.out; have := HS11.out; have := HSb_g.out; have := HS12.out; have := HS13.out; have := HS14.out; have := HS15.out; have := HS16.out; have := HS17.out; have := HS18.out; omega) (Nat.le_refl _)) HB.out.size hon
  replace Hp := Lib.hid (ownL_apart Hp.out Hg.out (by have := HS0.out; have := HS1.out; have := HS2.out; have := HS3.out; have := HS4.out; have := HS5.out; have := HS6.out; have := HSb_x.out; have := HS7.out; have := HS8.out; have := HSb_y.out; have := HS9.out; have := HS10.out; have := HS11.out; have := HSb_g.out; have := HS12.out; have := HS13.out; have := HS14.out; have := HS15.out; have := HS16.out; have := HS17.out; have := HS18.out; omega) hon)
  replace Hq := Lib.hid (ownL_apart Hq.out Hg.out (by have := HS0.out; have := HS1.out; have := HS2.out; have := HS3.out; have := HS4.out; have := HS5.out; have := HS6.out; have := HSb_x.out; have := HS7.out; have := HS8.out; have := HSb_y.out; have := HS9.out; have := HS10.out; have := HS11.out; have := HSb_g.out; have := HS12.out; have := HS13.out; have := HS14.out; have := HS15.out; have := HS16.out; have := HS17.out; have := HS18.out; omega) hon)
  replace Hx := Lib.hid (ownL_apart Hx.out Hg.out (by have := HS0.out; have := HS1.out; have := HS2.out; have := HS3.out; have := HS4.out; have := HS5.out; have := HS6.out; have := HSb_x.out; have := HS7.out; have := HS8.out; have := HSb_y.out; have := HS9.out; have := HS10.out; have := HS11.out; have := HSb_g.out; have := HS12.out; have := HS13.out; have := HS14.out; have := HS15.out; have := HS16.out; have := HS17.out; have := HS18.out; omega) hon)
  replace Hy := Lib.hid (ownL_apart Hy.out Hg.out (by have := HS0.out; have := HS1.out; have := HS2.out; have := HS3.out; have := HS4.out; have := HS5.out; have := HS6.out; have := HSb_x.out; have := HS7.out; have := HS8.out; have := HSb_y.out; have := HS9.out; have := HS10.out; have := HS11.out; have := HSb_g.out; have := HS12.out; have := HS13.out; have := HS14.out; have := HS15.out; have := HS16.out; have := HS17.out; have := HS18.out; omega) hon)
  replace Hu := Lib.hid (ownL_apart Hu.out Hg.out (by have := HS0.out; have := HS1.out; have := HS2.out; have := HS3.out; have := HS4.out; have := HS5.out; have := HS6.out; have := HSb_x.out; have := HS7.out; have := HS8.out; have := HSb_y.out; have := HS9.out; have := HS10.out; have := HS11.out; have := HSb_g.out; have := HS12.out; have := HS13.out; have := HS14.out; have := HS15.out; have := HS16.out; have := HS17.out; have := HS18.out; omega) hon)
  replace Hz := Lib.hid (ownL_apart Hz.out Hg.out (by have := HS0.out; have := HS1.out; have := HS2.out; have := HS3.out; have := HS4.out; have := HS5.out; have := HS6.out; have := HSb_x.out; have := HS7.out; have := HS8.out; have := HSb_y.out; have := HS9.out; have := HS10.out; have := HS11.out; have := HSb_g.out; have := HS12.out; have := HS13.out; have := HS14.out; have := HS15.out; have := HS16.out; have := HS17.out; have := HS18.out; omega) hon)
  replace Hg := Lib.hid hmk
  have HS19 := Lib.hid hon.size
  replace HB := Lib.hid hbk
  clear hbk hmk hon
  obtain ⟨m, hm⟩ : ∃ m, 1 + countL [(rwN (.slice na_g nn_g nc_g) ns_g), (rwI (.slice oa_g on_g oc_g) OPN)] = m := ⟨_, rfl⟩
  rw [hm]; have HM := Lib.hid hm
  have hmq : ((m : Int) == (m : Int)) = true := beq_self_eq_true _
  have hm0 : ¬ ((m : Int) < 0) := by omega
  clear hm
  go_wp2_with fail
  refine (hdV_Builder (rwN (.slice na_g nn_g nc_g) ns_g) (rwI (.slice oa_g on_g oc_g) OPN) _ _ rfl rfl (rwN_is _ _) (rwI_is _ _) _ 1 _ rfl _ (ownL_read Hg.out (by have := HS0.out; have := HS1.out; have := HS2.out; have := HS3.out; have := HS4.out; have := HS5.out; have := HS6.out; have := HSb_x.out; have := HS7.out; have := HS8.out; have := HSb_y.out; have := HS9.out; have := HS10.out; have := HS11.out; have := HSb_g.out; have := HS12.out; have := HS13.out; have := HS14.out; have := HS15.out; have := HS16.out; have := HS17.out; have := HS18.out; have := HS19.out; omega)) (Nat.le_refl _) HCT_g.out).mono ?_
  rintro e w_20 ⟨rfl, hg⟩
  have hB := hg.below
  replace q_b0 := (hB.cell (show (⟨w.heap.size, 0, none⟩ : Addr).block < _ from World.block_lt_of_cell? _ _ q_b0)).trans q_b0
  replace q_b1 := (hB.cell (show (⟨w.heap.size, 1, none⟩ : Addr).block < _ from World.block_lt_of_cell? _ _ q_b1)).trans q_b1
  replace b_b : w.heap.size < w_20.heap.size := World.block_lt_of_cell? _ _ q_b0
  replace q_x0 := (hB.cell (show (⟨w_5.heap.size, 0, none⟩ : Addr).block < _ from World.block_lt_of_cell? _ _ q_x0)).trans q_x0
  replace q_x1 := (hB.cell (show (⟨w_5.heap.size, 1, none⟩ : Addr).block < _ from World.block_lt_of_cell? _ _ q_x1)).trans q_x1
  replace b_x : w_5.heap.size < w_20.heap.size := World.block_lt_of_cell? _ _ q_x0
  replace q_y0 := (hB.cell (show (⟨w_7.heap.size, 0, none⟩ : Addr).block < _ from World.block_lt_of_cell? _ _ q_y0)).trans q_y0
  replace q_y1 := (hB.cell (show (⟨w_7.heap.size, 1, none⟩ : Addr).block < _ from World.block_lt_of_cell? _ _ q_y1)).trans q_y1
  replace b_y : w_7.heap.size < w_20.heap.size := World.block_lt_of_cell? _ _ q_y0
  replace q_g0 := (hB.cell (show (⟨w_10.heap.size, 0, none⟩ : Addr).block < _ from World.block_lt_of_cell? _ _ q_g0)).trans q_g0
  replace q_g1 := (hB.cell (show (⟨w_10.heap.size, 1, none⟩ : Addr).block < _ from World.block_lt_of_cell? _ _ q_g1)).trans q_g1
  replace b_g : w_10.heap.size < w_20.heap.size := World.block_lt_of_cell? _ _ q_g0
  replace Hp := Lib.hid (ownL_later Hp.out hB)
  replace Hq := Lib.hid (ownL_later Hq.out hB)
  replace Hx := Lib.hid (ownL_later Hx.out hB)
  replace Hy := Lib.hid (ownL_later Hy.out hB)
  replace Hu := Lib.hid (ownL_later Hu.out hB)
  replace Hg := Lib.hid (ownL_later Hg.out hB)
  replace Hz := Lib.hid (ownL_later Hz.out hB)
  have HS20 := Lib.hid hB.size
  replace HB := Lib.hid (HB.out.trans (hB.mono HB.out.size))
  rw [HM.out]
  clear hB hg
  go_wp2_with fail
  refine (toL_Builder (rwN (.slice na_b nn_b nc_b) ns_b) (rwI (.slice oa_b on_b oc_b) zs_b) _ (rwN_is _ _) (rwN_reads ((HRN_b.out.below HB.out (Nat.le_refl _)).mono HB.out.size)) (by have := HWN_b.out; omega) (rwI_is _ _) (rwI_reads.2 ((HRI_b.out.below HB.out (Nat.le_refl _)).mono HB.out.size)) (by have := HWI_b.out; omega)).mono ?_
  rintro e w_21 ⟨y0_v, y1_v, rfl, i0_v, d0_v, i1_v, d1_v, ho, hn, hb⟩
  have hB := hb
  replace q_b0 := (hB.cell (show (⟨w.heap.size, 0, none⟩ : Addr).block < _ from World.block_lt_of_cell? _ _ q_b0)).trans q_b0
  replace q_b1 := (hB.cell (show (⟨w.heap.size, 1, none⟩ : Addr).block < _ from World.block_lt_of_cell? _ _ q_b1)).trans q_b1
  replace b_b : w.heap.size < w_21.heap.size := World.block_lt_of_cell? _ _ q_b0
  replace q_x0 := (hB.cell (show (⟨w_5.heap.size, 0, none⟩ : Addr).block < _ from World.block_lt_of_cell? _ _ q_x0)).trans q_x0
  replace q_x1 := (hB.cell (show (⟨w_5.heap.size, 1, none⟩ : Addr).block < _ from World.block_lt_of_cell? _ _ q_x1)).trans q_x1
  replace b_x : w_5.heap.size < w_21.heap.size := World.block_lt_of_cell? _ _ q_x0
  replace q_y0 := (hB.cell (show (⟨w_7.heap.size, 0, none⟩ : Addr).block < _ from World.block_lt_of_cell? _ _ q_y0)).trans q_y0
  replace q_y1 := (hB.cell (show (⟨w_7.heap.size, 1, none⟩ : Addr).block < _ from World.block_lt_of_cell? _ _ q_y1)).trans q_y1
  replace b_y : w_7.heap.size < w_21.heap.size := World.block_lt_of_cell? _ _ q_y0
  replace q_g0 := (hB.cell (show (⟨w_10.heap.size, 0, none⟩ : Addr).block < _ from World.block_lt_of_cell? _ _ q_g0)).trans q_g0
  replace q_g1 := (hB.cell (show (⟨w_10.heap.size, 1, none⟩ : Addr).block < _ from World.block_lt_of_cell? _ _ q_g1)).trans q_g1
  replace b_g : w_10.heap.size < w_21.heap.size := World.block_lt_of_cell? _ _ q_g0
  replace Hp := Lib.hid (ownL_later Hp.out hB)
  replace Hq := Lib.hid (ownL_later Hq.out hB)
  replace Hx := Lib.hid (ownL_later Hx.out hB)
  replace Hy := Lib.hid (ownL_later Hy.out hB)
  replace Hu := Lib.hid (ownL_later Hu.out hB)
  replace Hg := Lib.hid (ownL_later Hg.out hB)
  replace Hz := Lib.hid (ownL_later Hz.out hB)
  have Hv := Lib.hid (ho)
  have HS21 := Lib.hid hB.size
  replace HB := Lib.hid (HB.out.trans (hB.mono HB.out.size))
  have HI0_v := Lib.hid i0_v; have HI1_v := Lib.hid i1_v; have HD0_v := Lib.hid d0_v; have HD1_v := Lib.hid d1_v; have HN_v := Lib.hid hn
  have hbi := bdIn_of d0_v i1_v d1_v ho
  obtain ⟨na_v, nn_v, nc_v, e0_v⟩ := sl_form (is_sl_NodeS i0_v) (Rw.OwnR.reads _ (ownL_two.1 ho).1)
  obtain ⟨oa_v, on_v, oc_v, e1_v⟩ := sl_form (is_sl_IntS i1_v) (Rw.OwnR.reads _ (ownL_two.1 ho).2)
  rw [e0_v, e1_v] at hbi; rw [e0_v, e1_v]
  have HBD_v := Lib.hid hbi; have HE0_v := Lib.hid e0_v; have HE1_v := Lib.hid e1_v
  clear hB ho hn hb hbi i0_v i1_v d0_v d1_v e0_v e1_v
  go_wp2_with fail
  refine (toS_one _ ts_l _ (rwT_reads ((HRT_l.out.below HB.out (Nat.le_refl _)).mono HB.out.size)) HWT_l.out).mono ?_
  rintro e w_22 ⟨y_k, rfl, i_k, d_k, ho, hn, hb⟩
  have hB := hb
  replace q_b0 := (hB.cell (show (⟨w.heap.size, 0, none⟩ : Addr).block < _ from World.block_lt_of_cell? _ _ q_b0)).trans q_b0
  replace q_b1 := (hB.cell (show (⟨w.heap.size, 1, none⟩ : Addr).block < _ from World.block_lt_of_cell? _ _ q_b1)).trans q_b1
  replace b_b : w.heap.size < w_22.heap.size := World.block_lt_of_cell? _ _ q_b0
  replace q_x0 := (hB.cell (show (⟨w_5.heap.size, 0, none⟩ : Addr).block < _ from World.block_lt_of_cell? _ _ q_x0)).trans q_x0
  replace q_x1 := (hB.cell (show (⟨w_5.heap.size, 1, none⟩ : Addr).block < _ from World.block_lt_of_cell? _ _ q_x1)).trans q_x1
  replace b_x : w_5.heap.size < w_22.heap.size := World.block_lt_of_cell? _ _ q_x0
  replace q_y0 := (hB.cell (show (⟨w_7.heap.size, 0, none⟩ : Addr).block < _ from World.block_lt_of_cell? _ _ q_y0)).trans q_y0
  replace q_y1 := (hB.cell (show (⟨w_7.heap.size, 1, none⟩ : Addr).block < _ from World.block_lt_of_cell? _ _ q_y1)).trans q_y1
  replace b_y : w_7.heap.size < w_22.heap.size := World.block_lt_of_cell? _ _ q_y0
  replace q_g0 := (hB.cell (show (⟨w_10.heap.size, 0, none⟩ : Addr).block < _ from World.block_lt_of_cell? _ _ q_g0)).trans q_g0
  replace q_g1 := (hB.cell (show (⟨w_10.heap.size, 1, none⟩ : Addr).block < _ from World.block_lt_of_cell? _ _ q_g1)).trans q_g1
  replace b_g : w_10.heap.size < w_22.heap.size := World.block_lt_of_cell? _ _ q_g0
  replace Hp := Lib.hid (ownL_later Hp.out hB)
  replace Hq := Lib.hid (ownL_later Hq.out hB)
  replace Hx := Lib.hid (ownL_later Hx.out hB)
  replace Hy := Lib.hid (ownL_later Hy.out hB)
  replace Hu := Lib.hid (ownL_later Hu.out hB)
  replace Hg := Lib.hid (ownL_later Hg.out hB)
  replace Hz := Lib.hid (ownL_later Hz.out hB)
  replace Hv := Lib.hid (ownL_later Hv.out hB)
  have Hk := Lib.hid (ho)
  have HS22 := Lib.hid hB.size
  replace HB := Lib.hid (HB.out.trans (hB.mono HB.out.size))
  have HI_k := Lib.hid i_k; have HD_k := Lib.hid d_k; have HN_k := Lib.hid hn
  obtain ⟨c_k, hc_k⟩ : ∃ c, y_k.cell = c := ⟨_, rfl⟩
  rw [hc_k]
  have HC_k := Lib.hid hc_k
  clear hB ho hn hb i_k d_k hc_k
  go_wp2_with fail
  refine (addsI_any (ts := ts_l.map Prod.fst) (ownBd HD0_v.out HI1_v.out HD1_v.out HE0_v.out HE1_v.out Hv.out) (HC_k.out ▸ ownTs HD_k.out Hk.out) HFT.out HFO.out).mono ?_
  rintro e w_23 ⟨na_h, nn_h, nc_h, oa_h, on_h, oc_h, ns_h, rfl, hns, hbd⟩
  have hB := hbd.n.row.below
  replace q_b0 := (hB.cell (show (⟨w.heap.size, 0, none⟩ : Addr).block < _ from World.block_lt_of_cell? _ _ q_b0)).trans q_b0
  replace q_b1 := (hB.cell (show (⟨w.heap.size, 1, none⟩ : Addr).block < _ from World.block_lt_of_cell? _ _ q_b1)).trans q_b1
  replace b_b : w.heap.size < w_23.heap.size := World.block_lt_of_cell? _ _ q_b0
  replace q_x0 := (hB.cell (show (⟨w_5.heap.size, 0, none⟩ : Addr).block < _ from World.block_lt_of_cell? _ _ q_x0)).trans q_x0
  replace q_x1 := (hB.cell (show (⟨w_5.heap.size, 1, none⟩ : Addr).block < _ from World.block_lt_of_cell? _ _ q_x1)).trans q_x1
  replace b_x : w_5.heap.size < w_23.heap.size := World.block_lt_of_cell? _ _ q_x0
  replace q_y0 := (hB.cell (show (⟨w_7.heap.size, 0, none⟩ : Addr).block < _ from World.block_lt_of_cell? _ _ q_y0)).trans q_y0
  replace q_y1 := (hB.cell (show (⟨w_7.heap.size, 1, none⟩ : Addr).block < _ from World.block_lt_of_cell? _ _ q_y1)).trans q_y1
  replace b_y : w_7.heap.size < w_23.heap.size := World.block_lt_of_cell? _ _ q_y0
  replace q_g0 := (hB.cell (show (⟨w_10.heap.size, 0, none⟩ : Addr).block < _ from World.block_lt_of_cell? _ _ q_g0)).trans q_g0
  replace q_g1 := (hB.cell (show (⟨w_10.heap.size, 1, none⟩ : Addr).block < _ from World.block_lt_of_cell? _ _ q_g1)).trans q_g1
  replace b_g : w_10.heap.size < w_23.heap.size := World.block_lt_of_cell? _ _ q_g0
  replace Hp := Lib.hid (ownL_later Hp.out hB)
  replace Hq := Lib.hid (ownL_later Hq.out hB)
  replace Hx := Lib.hid (ownL_later Hx.out hB)
  replace Hy := Lib.hid (ownL_later Hy.out hB)
  replace Hu := Lib.hid (ownL_later Hu.out hB)
  replace Hg := Lib.hid (ownL_later Hg.out hB)
  replace Hz := Lib.hid (ownL_later Hz.out hB)
  replace Hv := Lib.hid (ownL_later Hv.out hB)
  replace Hk := Lib.hid (ownL_later Hk.out hB)
  have Hh := Lib.hid (show OwnRL w_22.heap.size w_23.heap.size w_23 [rwN (.slice na_h nn_h nc_h) ns_h, rwI (.slice oa_h on_h oc_h) OPN] from by rw [← HOPN.out]; exact (bdAt_own hbd.n hbd.o).1)
  have HS23 := Lib.hid hB.size
  replace HB := Lib.hid (HB.out.trans (hB.mono HB.out.size))
  have HN_h := Lib.hid (show (blocksL [rwN (.slice na_h nn_h nc_h) ns_h, rwI (.slice oa_h on_h oc_h) OPN]).Nodup by rw [← HOPN.out]; exact (bdAt_own hbd.n hbd.o).2)
  have HNS_h := Lib.hid (show ns_h.map Prod.fst = NOD by rw [← HNOD.out]; exact hns)
  clear hB hns hbd
  go_wp2_with fail
  obtain ⟨w_24, hw⟩ : ∃ x, w_23.alloc (.cells #[.slice na_h nn_h nc_h, .slice oa_h on_h oc_h] 27) = x := ⟨_, rfl⟩
  rw [hw]
  have hB : Below w_23.heap.size w_23 w_24 := by rw [← hw]; exact (Below.refl _ _).alloc (Nat.le_refl _) _
  have q_h0 : w_24.cell? ⟨w_23.heap.size, 0, none⟩ = some (.slice na_h nn_h nc_h) := by rw [← hw]; simp
  have q_h1 : w_24.cell? ⟨w_23.heap.size, 1, none⟩ = some (.slice oa_h on_h oc_h) := by rw [← hw]; simp
  have b_h : w_23.heap.size < w_24.heap.size := World.block_lt_of_cell? _ _ q_h0
  replace q_b0 := (hB.cell (show (⟨w.heap.size, 0, none⟩ : Addr).block < _ from World.block_lt_of_cell? _ _ q_b0)).trans q_b0
  replace q_b1 := (hB.cell (show (⟨w.heap.size, 1, none⟩ : Addr).block < _ from World.block_lt_of_cell? _ _ q_b1)).trans q_b1
  replace b_b : w.heap.size < w_24.heap.size := World.block_lt_of_cell? _ _ q_b0
  replace q_x0 := (hB.cell (show (⟨w_5.heap.size, 0, none⟩ : Addr).block < _ from World.block_lt_of_cell? _ _ q_x0)).trans q_x0
  replace q_x1 := (hB.cell (show (⟨w_5.heap.size, 1, none⟩ : Addr).block < _ from World.block_lt_of_cell? _ _ q_x1)).trans q_x1
  replace b_x : w_5.heap.size < w_24.heap.size := World.block_lt_of_cell? _ _ q_x0
  replace q_y0 := (hB.cell (show (⟨w_7.heap.size, 0, none⟩ : Addr).block < _ from World.block_lt_of_cell? _ _ q_y0)).trans q_y0
  replace q_y1 := (hB.cell (show (⟨w_7.heap.size, 1, none⟩ : Addr).block < _ from World.block_lt_of_cell? _ _ q_y1)).trans q_y1
  replace b_y : w_7.heap.size < w_24.heap.size := World.block_lt_of_cell? _ _ q_y0
  replace q_g0 := (hB.cell (show (⟨w_10.heap.size, 0, none⟩ : Addr).block < _ from World.block_lt_of_cell? _ _ q_g0)).trans q_g0
  replace q_g1 := (hB.cell (show (⟨w_10.heap.size, 1, none⟩ : Addr).block < _ from World.block_lt_of_cell? _ _ q_g1)).trans q_g1
  replace b_g : w_10.heap.size < w_24.heap.size := World.block_lt_of_cell? _ _ q_g0
  replace Hp := Lib.hid (ownL_later Hp.out hB)
  replace Hq := Lib.hid (ownL_later Hq.out hB)
  replace Hx := Lib.hid (ownL_later Hx.out hB)
  replace Hy := Lib.hid (ownL_later Hy.out hB)
  replace Hu := Lib.hid (ownL_later Hu.out hB)
  replace Hg := Lib.hid (ownL_later Hg.out hB)
  replace Hz := Lib.hid (ownL_later Hz.out hB)
  replace Hv := Lib.hid (ownL_later Hv.out hB)
  replace Hk := Lib.hid (ownL_later Hk.out hB)
  replace Hh := Lib.hid (ownL_later Hh.out hB)
  have HS24 := Lib.hid hB.size
  replace HB := Lib.hid (HB.out.trans (hB.mono HB.out.size))
  clear hB hw
  have HSb_h := Lib.hid b_h
  go_wp2_with fail
  refine (eqV_Builder (rwN (.slice na_h nn_h nc_h) ns_h) (rwN (.slice na_x nn_x nc_x) ns_x) (rwI (.slice oa_h on_h oc_h) OPN) (rwI (.slice oa_x on_x oc_x) OPN) _ _ _ _ rfl rfl rfl rfl _ (rwN_is _ _) (rwN_is _ _) (rwN_data _ _ (HNS_h.out.trans HNS_x.out.symm)) (rdL1 Hh.out) (rdL1 Hx.out) (rwI_is _ _) (rwI_is _ _) (rwI_data.2 rfl) (rdL2 Hh.out) (rdL2 Hx.out)).mono ?_
  rintro e w_25 ⟨rfl, hg⟩
  have hB := hg.below
  replace q_b0 := (hB.cell (show (⟨w.heap.size, 0, none⟩ : Addr).block < _ from World.block_lt_of_cell? _ _ q_b0)).trans q_b0
  replace q_b1 := (hB.cell (show (⟨w.heap.size, 1, none⟩ : Addr).block < _ from World.block_lt_of_cell? _ _ q_b1)).trans q_b1
  replace b_b : w.heap.size < w_25.heap.size := World.block_lt_of_cell? _ _ q_b0
  replace q_x0 := (hB.cell (show (⟨w_5.heap.size, 0, none⟩ : Addr).block < _ from World.block_lt_of_cell? _ _ q_x0)).trans q_x0
  replace q_x1 := (hB.cell (show (⟨w_5.heap.size, 1, none⟩ : Addr).block < _ from World.block_lt_of_cell? _ _ q_x1)).trans q_x1
  replace b_x : w_5.heap.size < w_25.heap.size := World.block_lt_of_cell? _ _ q_x0
  replace q_y0 := (hB.cell (show (⟨w_7.heap.size, 0, none⟩ : Addr).block < _ from World.block_lt_of_cell? _ _ q_y0)).trans q_y0
  replace q_y1 := (hB.cell (show (⟨w_7.heap.size, 1, none⟩ : Addr).block < _ from World.block_lt_of_cell? _ _ q_y1)).trans q_y1
  replace b_y : w_7.heap.size < w_25.heap.size := World.block_lt_of_cell? _ _ q_y0
  replace q_g0 := (hB.cell (show (⟨w_10.heap.size, 0, none⟩ : Addr).block < _ from World.block_lt_of_cell? _ _ q_g0)).trans q_g0
  replace q_g1 := (hB.cell (show (⟨w_10.heap.size, 1, none⟩ : Addr).block < _ from World.block_lt_of_cell? _ _ q_g1)).trans q_g1
  replace b_g : w_10.heap.size < w_25.heap.size := World.block_lt_of_cell? _ _ q_g0
  replace q_h0 := (hB.cell (show (⟨w_23.heap.size, 0, none⟩ : Addr).block < _ from World.block_lt_of_cell? _ _ q_h0)).trans q_h0
  replace q_h1 := (hB.cell (show (⟨w_23.heap.size, 1, none⟩ : Addr).block < _ from World.block_lt_of_cell? _ _ q_h1)).trans q_h1
  replace b_h : w_23.heap.size < w_25.heap.size := World.block_lt_of_cell? _ _ q_h0
  replace Hp := Lib.hid (ownL_later Hp.out hB)
  replace Hq := Lib.hid (ownL_later Hq.out hB)
  replace Hx := Lib.hid (ownL_later Hx.out hB)
  replace Hy := Lib.hid (ownL_later Hy.out hB)
  replace Hu := Lib.hid (ownL_later Hu.out hB)
  replace Hg := Lib.hid (ownL_later Hg.out hB)
  replace Hz := Lib.hid (ownL_later Hz.out hB)
  replace Hv := Lib.hid (ownL_later Hv.out hB)
  replace Hk := Lib.hid (ownL_later Hk.out hB)
  replace Hh := Lib.hid (ownL_later Hh.out hB)
  have HS25 := Lib.hid hB.size
  replace HB := Lib.hid (HB.out.trans (hB.mono HB.out.size))
  clear hB hg
  go_wp2_with fail
  refine (hdV_Builder (rwN (.slice na_g nn_g nc_g) ns_g) (rwI (.slice oa_g on_g oc_g) OPN) _ _ rfl rfl (rwN_is _ _) (rwI_is _ _) _ 1 _ rfl _ (ownL_read Hg.out (by have := HS0.out; have := HS1.out; have := HS2.out; have := HS3.out; have := HS4.out; have := HS5.out; have := HS6.out; have := HSb_x.out; have := HS7.out; have := HS8.out; have := HSb_y.out; have := HS9.out; have := HS10.out; have := HS11.out; have := HSb_g.out; have := HS12.out; have := HS13.out; have := HS14.out; have := HS15.out; have := HS16.out; have := HS17.out; have := HS18.out; have := HS19.out; have := HS20.out; have := HS21.out; have := HS22.out; have := HS23.out; have := HS24.out; have := HSb_h.out; have := HS25.out; omega)) (Nat.le_refl _) HCT_g.out).mono ?_
  rintro e w_26 ⟨rfl, hg⟩
  have hB := hg.below
  replace q_b0 := (hB.cell (show (⟨w.heap.size, 0, none⟩ : Addr).block < _ from World.block_lt_of_cell? _ _ q_b0)).trans q_b0
  replace q_b1 := (hB.cell (show (⟨w.heap.size, 1, none⟩ : Addr).block < _ from World.block_lt_of_cell? _ _ q_b1)).trans q_b1
  replace b_b : w.heap.size < w_26.heap.size := World.block_lt_of_cell? _ _ q_b0
  replace q_x0 := (hB.cell (show (⟨w_5.heap.size, 0, none⟩ : Addr).block < _ from World.block_lt_of_cell? _ _ q_x0)).trans q_x0
  replace q_x1 := (hB.cell (show (⟨w_5.heap.size, 1, none⟩ : Addr).block < _ from World.block_lt_of_cell? _ _ q_x1)).trans q_x1
  replace b_x : w_5.heap.size < w_26.heap.size := World.block_lt_of_cell? _ _ q_x0
  replace q_y0 := (hB.cell (show (⟨w_7.heap.size, 0, none⟩ : Addr).block < _ from World.block_lt_of_cell? _ _ q_y0)).trans q_y0
  replace q_y1 := (hB.cell (show (⟨w_7.heap.size, 1, none⟩ : Addr).block < _ from World.block_lt_of_cell? _ _ q_y1)).trans q_y1
  replace b_y : w_7.heap.size < w_26.heap.size := World.block_lt_of_cell? _ _ q_y0
  replace q_g0 := (hB.cell (show (⟨w_10.heap.size, 0, none⟩ : Addr).block < _ from World.block_lt_of_cell? _ _ q_g0)).trans q_g0
  replace q_g1 := (hB.cell (show (⟨w_10.heap.size, 1, none⟩ : Addr).block < _ from World.block_lt_of_cell? _ _ q_g1)).trans q_g1
  replace b_g : w_10.heap.size < w_26.heap.size := World.block_lt_of_cell? _ _ q_g0
  replace q_h0 := (hB.cell (show (⟨w_23.heap.size, 0, none⟩ : Addr).block < _ from World.block_lt_of_cell? _ _ q_h0)).trans q_h0
  replace q_h1 := (hB.cell (show (⟨w_23.heap.size, 1, none⟩ : Addr).block < _ from World.block_lt_of_cell? _ _ q_h1)).trans q_h1
  replace b_h : w_23.heap.size < w_26.heap.size := World.block_lt_of_cell? _ _ q_h0
  replace Hp := Lib.hid (ownL_later Hp.out hB)
  replace Hq := Lib.hid (ownL_later Hq.out hB)
  replace Hx := Lib.hid (ownL_later Hx.out hB)
  replace Hy := Lib.hid (ownL_later Hy.out hB)
  replace Hu := Lib.hid (ownL_later Hu.out hB)
  replace Hg := Lib.hid (ownL_later Hg.out hB)
  replace Hz := Lib.hid (ownL_later Hz.out hB)
  replace Hv := Lib.hid (ownL_later Hv.out hB)
  replace Hk := Lib.hid (ownL_later Hk.out hB)
  replace Hh := Lib.hid (ownL_later Hh.out hB)
  have HS26 := Lib.hid hB.size
  replace HB := Lib.hid (HB.out.trans (hB.mono HB.out.size))
  rw [HM.out]
  clear hB hg
  go_wp2_with fail
  go_ret
  exact ⟨rfl, HB.out⟩
end Go.Proofs.Ytjiogmbiiojhgaa

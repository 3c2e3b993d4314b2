/- The walk of the law FnExactIsBuilder: it returns true, and writes nothing that was there. -/
import Derived.Test.YtjiogmbiiojhgaaIsBu
import Derived.Test.YtjiogmbiiojhgaaRowN
import Derived.Test.YtjiogmbiiojhgaaLawT
import Derived.Deep.RegionWith
import Derived.Deep.CutRange
namespace Go.Proofs.Ytjiogmbiiojhgaa
open Go.ChangeShapes Go.WideShapes Go.ChangeAt Go.RowKit

set_option maxRecDepth 100000 in
set_option maxHeartbeats 4000000 in
theorem walkIsBuilder (na_b : Option Addr) (nn_b nc_b : Nat) (oa_b : Option Addr) (on_b oc_b : Nat) (ns_b : List Nv) (zs_b : List Int) (w : World) (r_b : IsBd w (.slice na_b nn_b nc_b) (.slice oa_b on_b oc_b) ns_b zs_b) :
    Calls Try.prog 7 #[.agg #[.slice na_b nn_b nc_b, .slice oa_b on_b oc_b]] w fun e w' => e = .returned (.bool true) ∧ Below w.heap.size w w' := by
  have HNM := Lib.hid (show NmOk ⟨ns_b.map Prod.fst, zs_b⟩ from fun x hx => by
    obtain ⟨p, hp, rfl⟩ := List.mem_map.1 hx
    exact (r_b.1.2 p hp).1)
  obtain ⟨⟨hr_b, hok_b⟩, hri_b, _, _, _⟩ := r_b
  have HRN_b := Lib.hid hr_b; have HRI_b := Lib.hid hri_b; have HOK_b := Lib.hid (rwN_small (v := .slice na_b nn_b nc_b) hok_b)
  clear hr_b hok_b hri_b
  go_enter Try.func7, Try.ntmps7
  go_wp2_with fail
  obtain ⟨w_0, hw_0⟩ : ∃ x, (w.alloc (.cells #[.slice na_b nn_b nc_b, .slice oa_b on_b oc_b] 55)) = x := ⟨_, rfl⟩
  rw [hw_0]
  have HB := Lib.hid (show Below w.heap.size w w_0 by rw [← hw_0]; exact ((Below.refl w.heap.size w).alloc (by first | (simp; done) | (simp; omega)) _))
  have q_b0 : w_0.cell? ⟨w.heap.size, 0, none⟩ = some (.slice na_b nn_b nc_b) := by rw [← hw_0]; simp
  have q_b1 : w_0.cell? ⟨w.heap.size, 1, none⟩ = some (.slice oa_b on_b oc_b) := by rw [← hw_0]; simp
  have b_b : w.heap.size < w_0.heap.size := World.block_lt_of_cell? _ _ q_b0
  have HS0 := Lib.hid (show w.heap.size + 1 ≤ w_0.heap.size by rw [← hw_0]; simp)
  clear hw_0
  go_wp2_with fail
  refine (sz_Builder (rwN (.slice na_b nn_b nc_b) ns_b) (rwI (.slice oa_b on_b oc_b) zs_b) 1048576 (by omega) (by omega) _ (rwN_is _ _) (rwN_reads ((HRN_b.out.below HB.out (Nat.le_refl _)).mono HB.out.size)) HOK_b.out (rwI_is _ _) (rwI_reads.2 ((HRI_b.out.below HB.out (Nat.le_refl _)).mono HB.out.size)) (rwI_small _ _)).mono ?_
  rintro e w_1 ⟨r, rfl, lo_r, hi_r, hg⟩
  have hB := hg.below
  replace q_b0 := (hB.cell (show (⟨w.heap.size, 0, none⟩ : Addr).block < _ from World.block_lt_of_cell? _ _ q_b0)).trans q_b0
  replace q_b1 := (hB.cell (show (⟨w.heap.size, 1, none⟩ : Addr).block < _ from World.block_lt_of_cell? _ _ q_b1)).trans q_b1
  replace b_b : w.heap.size < w_1.heap.size := World.block_lt_of_cell? _ _ q_b0
  have HS1 := Lib.hid hB.size
  replace HB := Lib.hid (HB.out.trans (hB.mono HB.out.size))
  clear hB hg
  by_cases neg_r : r < 0
  · go_wp2_with fail
    go_ret
    exact ⟨rfl, HB.out⟩
  replace hi_r := hi_r (by omega)
  have hu_r : r ≤ 1048576 := by omega
  have HWN_b := Lib.hid (show (rwN (.slice na_b nn_b nc_b) ns_b).weight ≤ 1048576 by omega); have HWI_b := Lib.hid (show (rwI (.slice oa_b on_b oc_b) zs_b).weight ≤ 1048576 by omega)
  clear hi_r
  obtain ⟨D, hD⟩ : ∃ D, isBd ⟨ns_b.map Prod.fst, zs_b⟩ = D := ⟨_, rfl⟩
  have HD := Lib.hid hD; clear hD
  have hDD : (D == D) = true := beq_self_eq_true _; have hDN : (D != D) = false := by rw [bne, hDD]; rfl
  go_wp2_with fail
  refine (toL_Builder (rwN (.slice na_b nn_b nc_b) ns_b) (rwI (.slice oa_b on_b oc_b) zs_b) _ (rwN_is _ _) (rwN_reads ((HRN_b.out.below HB.out (Nat.le_refl _)).mono HB.out.size)) (by have := HWN_b.out; omega) (rwI_is _ _) (rwI_reads.2 ((HRI_b.out.below HB.out (Nat.le_refl _)).mono HB.out.size)) (by have := HWI_b.out; omega)).mono ?_
  rintro e w_2 ⟨y0_x, y1_x, rfl, i0_x, d0_x, i1_x, d1_x, ho, hn, hb⟩
  have hB := hb
  replace q_b0 := (hB.cell (show (⟨w.heap.size, 0, none⟩ : Addr).block < _ from World.block_lt_of_cell? _ _ q_b0)).trans q_b0
  replace q_b1 := (hB.cell (show (⟨w.heap.size, 1, none⟩ : Addr).block < _ from World.block_lt_of_cell? _ _ q_b1)).trans q_b1
  replace b_b : w.heap.size < w_2.heap.size := World.block_lt_of_cell? _ _ q_b0
  have Hx := Lib.hid (ho)
  have HS2 := Lib.hid hB.size
  replace HB := Lib.hid (HB.out.trans (hB.mono HB.out.size))
  have HI0_x := Lib.hid i0_x; have HI1_x := Lib.hid i1_x; have HD0_x := Lib.hid d0_x; have HD1_x := Lib.hid d1_x; have HN_x := Lib.hid hn
  have hbi := bdIn_of d0_x i1_x d1_x ho
  obtain ⟨na_x, nn_x, nc_x, e0_x⟩ := sl_form (is_sl_NodeS i0_x) (Rw.OwnR.reads _ (ownL_two.1 ho).1)
  obtain ⟨oa_x, on_x, oc_x, e1_x⟩ := sl_form (is_sl_IntS i1_x) (Rw.OwnR.reads _ (ownL_two.1 ho).2)
  rw [e0_x, e1_x] at hbi; rw [e0_x, e1_x]
  have HBD_x := Lib.hid hbi; have HE0_x := Lib.hid e0_x; have HE1_x := Lib.hid e1_x
  clear hB ho hn hb hbi i0_x i1_x d0_x d1_x e0_x e1_x
  go_wp2_with fail
  refine (isB_spec _ _ ⟨ns_b.map Prod.fst, zs_b⟩ _ (ownBd HD0_x.out HI1_x.out HD1_x.out HE0_x.out HE1_x.out Hx.out) HNM.out).mono ?_
  rintro e w_3 ⟨rfl, hg⟩
  have hB := hg.below
  replace q_b0 := (hB.cell (show (⟨w.heap.size, 0, none⟩ : Addr).block < _ from World.block_lt_of_cell? _ _ q_b0)).trans q_b0
  replace q_b1 := (hB.cell (show (⟨w.heap.size, 1, none⟩ : Addr).block < _ from World.block_lt_of_cell? _ _ q_b1)).trans q_b1
  replace b_b : w.heap.size < w_3.heap.size := World.block_lt_of_cell? _ _ q_b0
  replace Hx := Lib.hid (ownL_later Hx.out hB)
  have HS3 := Lib.hid hB.size
  replace HB := Lib.hid (HB.out.trans (hB.mono HB.out.size))
  rw [HD.out]
  clear hB hg
  go_wp2_with fail
  refine (toL_Builder (rwN (.slice na_b nn_b nc_b) ns_b) (rwI (.slice oa_b on_b oc_b) zs_b) _ (rwN_is _ _) (rwN_reads ((HRN_b.out.below HB.out (Nat.le_refl _)).mono HB.out.size)) (by have := HWN_b.out; omega) (rwI_is _ _) (rwI_reads.2 ((HRI_b.out.below HB.out (Nat.le_refl _)).mono HB.out.size)) (by have := HWI_b.out; omega)).mono ?_
  rintro e w_4 ⟨y0_y, y1_y, rfl, i0_y, d0_y, i1_y, d1_y, ho, hn, hb⟩
  have hB := hb
  replace q_b0 := (hB.cell (show (⟨w.heap.size, 0, none⟩ : Addr).block < _ from World.block_lt_of_cell? _ _ q_b0)).trans q_b0
  replace q_b1 := (hB.cell (show (⟨w.heap.size, 1, none⟩ : Addr).block < _ from World.block_lt_of_cell? _ _ q_b1)).trans q_b1
  replace b_b : w.heap.size < w_4.heap.size := World.block_lt_of_cell? _ _ q_b0
  replace Hx := Lib.hid (ownL_later Hx.out hB)
  have Hy := Lib.hid (ho)
  have HS4 := Lib.hid hB.size
  replace HB := Lib.hid (HB.out.trans (hB.mono HB.out.size))
  have HI0_y := Lib.hid i0_y; have HI1_y := Lib.hid i1_y; have HD0_y := Lib.hid d0_y; have HD1_y := Lib.hid d1_y; have HN_y := Lib.hid hn
  have hbi := bdIn_of d0_y i1_y d1_y ho
  obtain ⟨na_y, nn_y, nc_y, e0_y⟩ := sl_form (is_sl_NodeS i0_y) (Rw.OwnR.reads _ (ownL_two.1 ho).1)
  obtain ⟨oa_y, on_y, oc_y, e1_y⟩ := sl_form (is_sl_IntS i1_y) (Rw.OwnR.reads _ (ownL_two.1 ho).2)
  rw [e0_y, e1_y] at hbi; rw [e0_y, e1_y]
  have HBD_y := Lib.hid hbi; have HE0_y := Lib.hid e0_y; have HE1_y := Lib.hid e1_y
  clear hB ho hn hb hbi i0_y i1_y d0_y d1_y e0_y e1_y
  go_wp2_with fail
  obtain ⟨w_5, hw⟩ : ∃ x, w_4.alloc (.cells #[.slice na_y nn_y nc_y, .slice oa_y on_y oc_y] 27) = x := ⟨_, rfl⟩
  rw [hw]
  have hB : Below w_4.heap.size w_4 w_5 := by rw [← hw]; exact (Below.refl _ _).alloc (Nat.le_refl _) _
  have q_y0 : w_5.cell? ⟨w_4.heap.size, 0, none⟩ = some (.slice na_y nn_y nc_y) := by rw [← hw]; simp
  have q_y1 : w_5.cell? ⟨w_4.heap.size, 1, none⟩ = some (.slice oa_y on_y oc_y) := by rw [← hw]; simp
  have b_y : w_4.heap.size < w_5.heap.size := World.block_lt_of_cell? _ _ q_y0
  replace q_b0 := (hB.cell (show (⟨w.heap.size, 0, none⟩ : Addr).block < _ from World.block_lt_of_cell? _ _ q_b0)).trans q_b0
  replace q_b1 := (hB.cell (show (⟨w.heap.size, 1, none⟩ : Addr).block < _ from World.block_lt_of_cell? _ _ q_b1)).trans q_b1
  replace b_b : w.heap.size < w_5.heap.size := World.block_lt_of_cell? _ _ q_b0
  replace Hx := Lib.hid (ownL_later Hx.out hB)
  replace Hy := Lib.hid (ownL_later Hy.out hB)
  have HS5 := Lib.hid hB.size
  replace HB := Lib.hid (HB.out.trans (hB.mono HB.out.size))
  clear hB hw
  have HSb_y := Lib.hid b_y
  go_wp2_with fail
  refine (isB_impl _ _ ⟨ns_b.map Prod.fst, zs_b⟩ _ (ownBd HD0_y.out HI1_y.out HD1_y.out HE0_y.out HE1_y.out Hy.out) HNM.out).mono ?_
  rintro e w_6 ⟨rfl, hg⟩
  have hB := hg.below
  replace q_b0 := (hB.cell (show (⟨w.heap.size, 0, none⟩ : Addr).block < _ from World.block_lt_of_cell? _ _ q_b0)).trans q_b0
  replace q_b1 := (hB.cell (show (⟨w.heap.size, 1, none⟩ : Addr).block < _ from World.block_lt_of_cell? _ _ q_b1)).trans q_b1
  replace b_b : w.heap.size < w_6.heap.size := World.block_lt_of_cell? _ _ q_b0
  replace q_y0 := (hB.cell (show (⟨w_4.heap.size, 0, none⟩ : Addr).block < _ from World.block_lt_of_cell? _ _ q_y0)).trans q_y0
  replace q_y1 := (hB.cell (show (⟨w_4.heap.size, 1, none⟩ : Addr).block < _ from World.block_lt_of_cell? _ _ q_y1)).trans q_y1
  replace b_y : w_4.heap.size < w_6.heap.size := World.block_lt_of_cell? _ _ q_y0
  replace Hx := Lib.hid (ownL_later Hx.out hB)
  replace Hy := Lib.hid (ownL_later Hy.out hB)
  have HS6 := Lib.hid hB.size
  replace HB := Lib.hid (HB.out.trans (hB.mono HB.out.size))
  rw [HD.out]
  clear hB hg
  go_upto_region 10 with (fail)
  go_cut [26] from 22 to 26 (fun c wx => c = .bool false ∧ Below w_6.heap.size w_6 wx)
  case first =>
    have hreadN := (rwN_reads ((HRN_b.out.below HB.out (Nat.le_refl _)).mono HB.out.size)).up (Grw.refl _).drew; have hreadI := (rwI_reads.2 ((HRI_b.out.below HB.out (Nat.le_refl _)).mono HB.out.size)).up (Grw.refl _).drew
    go_region_with (first | (go_at_call 38; refine (toL_Builder (rwN (.slice na_b nn_b nc_b) ns_b) (rwI (.slice oa_b on_b oc_b) zs_b) _ (rwN_is _ _) ?_ (by have := HWN_b.out; omega) (rwI_is _ _) ?_ (by have := HWI_b.out; omega)).mono ?_; (exact hreadN); (exact hreadI); rintro e w_A ⟨y0_w, y1_w, rfl, i0_w, d0_w, i1_w, d1_w, ho_w, hn_w, hb_w⟩; obtain ⟨na_w, nn_w, nc_w, e0_w⟩ := sl_form (is_sl_NodeS i0_w) (Rw.OwnR.reads _ (ownL_two.1 ho_w).1); obtain ⟨oa_w, on_w, oc_w, e1_w⟩ := sl_form (is_sl_IntS i1_w) (Rw.OwnR.reads _ (ownL_two.1 ho_w).2); rw [e0_w, e1_w]; have hO := ownL_later Hy.out (below_undrew hb_w); have hsA := (below_undrew hb_w).size; (first | have qA_b0 := (hb_w.cell (p := ⟨w.heap.size, 0, none⟩) b_b).trans q_b0 | skip); (first | have qA_b1 := (hb_w.cell (p := ⟨w.heap.size, 1, none⟩) b_b).trans q_b1 | skip); (first | have qA_y0 := (hb_w.cell (p := ⟨w_4.heap.size, 0, none⟩) b_y).trans q_y0 | skip); (first | have qA_y1 := (hb_w.cell (p := ⟨w_4.heap.size, 1, none⟩) b_y).trans q_y1 | skip)) | (go_at_call 33; refine (eqV_Builder y0_y y0_w y1_y y1_w _ _ _ _ HE0_y.out e0_w HE1_y.out e1_w _ HI0_y.out i0_w (HD0_y.out.trans d0_w.symm) (rdL1 hO) (rdL1 ho_w) HI1_y.out i1_w (HD1_y.out.trans d1_w.symm) (rdL2 hO) (rdL2 ho_w)).mono ?_; rintro e w_C ⟨rfl, hgC⟩))
    all_goals
      have hB := (below_undrew hb_w).trans (hgC.below.mono hsA)
      go_wp2_with fail
      go_meet
      exact ⟨rfl, hB⟩
  obtain ⟨rfl, hB⟩ := hcut
  rename World => w_7
  replace q_b0 := (hB.cell (show (⟨w.heap.size, 0, none⟩ : Addr).block < _ from World.block_lt_of_cell? _ _ q_b0)).trans q_b0
  replace q_b1 := (hB.cell (show (⟨w.heap.size, 1, none⟩ : Addr).block < _ from World.block_lt_of_cell? _ _ q_b1)).trans q_b1
  replace b_b : w.heap.size < w_7.heap.size := World.block_lt_of_cell? _ _ q_b0
  replace q_y0 := (hB.cell (show (⟨w_4.heap.size, 0, none⟩ : Addr).block < _ from World.block_lt_of_cell? _ _ q_y0)).trans q_y0
  replace q_y1 := (hB.cell (show (⟨w_4.heap.size, 1, none⟩ : Addr).block < _ from World.block_lt_of_cell? _ _ q_y1)).trans q_y1
  replace b_y : w_4.heap.size < w_7.heap.size := World.block_lt_of_cell? _ _ q_y0
  replace Hx := Lib.hid (ownL_later Hx.out hB)
  replace Hy := Lib.hid (ownL_later Hy.out hB)
  have HS7 := Lib.hid hB.size
  replace HB := Lib.hid (HB.out.trans (hB.mono HB.out.size))
  clear hB
  go_wp2_with fail
  go_ret
  exact ⟨rfl, HB.out⟩
end Go.Proofs.Ytjiogmbiiojhgaa

/- The walk of the law FnExactFormatSheet: it returns true, and writes nothing that was there. -/
import Derived.Test.YtmlmiclgledcpaaDoorFsI
import Derived.Test.YtmlmiclgledcpaaDoorRowS
import Derived.Test.YtmlmiclgledcpaaDoorLawU
import Derived.Deep.RegionWith
import Derived.Deep.CutRange
namespace Go.Proofs.YtmlmiclgledcpaaDoor
open Go.ChangeShapes Go.WideShapes Go.ChangeAt Go.RowKit

set_option maxRecDepth 100000 in
set_option maxHeartbeats 4000000 in
theorem walkFormatSheet (ha_x : Option Addr) (hn_x hc_x : Nat) (rs_x : List Ru) (w : World) (htab : Lib.TabIs Tryd.prog w "internal/strconv.uint64pow10" .u64 Lib.pow10Tab) (r_x : IsRus w (.slice ha_x hn_x hc_x) rs_x) :
    Calls Tryd.prog 4 #[.agg #[.slice ha_x hn_x hc_x]] w fun e w' => e = .returned (.bool true) ∧ Below w.heap.size w w' := by
  obtain ⟨hrr_x, hro_x⟩ := r_x
  have HRR_x := Lib.hid hrr_x; have HOK_x := Lib.hid hro_x; have HSM_x := Lib.hid (rwU_small (v := .slice ha_x hn_x hc_x) hro_x); clear hrr_x hro_x
  go_enter Tryd.func4, Tryd.ntmps4
  go_wp2_with fail
  obtain ⟨w_0, hw_0⟩ : ∃ x, (w.alloc (.cells #[.slice ha_x hn_x hc_x] 31)) = x := ⟨_, rfl⟩
  rw [hw_0]
  have HB := Lib.hid (show Below w.heap.size w w_0 by rw [← hw_0]; exact ((Below.refl w.heap.size w).alloc (by first | (simp; done) | (simp; omega)) _))
  have q_x0 : w_0.cell? ⟨w.heap.size, 0, none⟩ = some (.slice ha_x hn_x hc_x) := by rw [← hw_0]; simp
  have b_x : w.heap.size < w_0.heap.size := World.block_lt_of_cell? _ _ q_x0
  have HS0 := Lib.hid (show w.heap.size + 1 ≤ w_0.heap.size by rw [← hw_0]; simp)
  clear hw_0
  have HTB := Lib.hid (Lib.tabBelow_of_tabIs htab); clear htab
  go_wp2_with fail
  refine (sz_Sheet (rwU (.slice ha_x hn_x hc_x) rs_x) 1048576 (by omega) (by omega) _ (rwU_is _ _) (rwU_reads ((HRR_x.out.below HB.out (Nat.le_refl _)).mono HB.out.size)) HSM_x.out).mono ?_
  rintro e w_1 ⟨r, rfl, lo_r, hi_r, hg⟩
  have hB := hg.below
  replace q_x0 := (hB.cell (show (⟨w.heap.size, 0, none⟩ : Addr).block < _ from World.block_lt_of_cell? _ _ q_x0)).trans q_x0
  replace b_x : w.heap.size < w_1.heap.size := World.block_lt_of_cell? _ _ q_x0
  have HS1 := Lib.hid hB.size
  replace HB := Lib.hid (HB.out.trans (hB.mono HB.out.size))
  clear hB hg
  by_cases neg_r : r < 0
  · go_wp2_with fail
    go_ret
    exact ⟨rfl, HB.out⟩
  replace hi_r := hi_r (by omega)
  have HWU_x := Lib.hid (show (rwU (.slice ha_x hn_x hc_x) rs_x).weight ≤ 1048576 by omega); clear hi_r
  have HSL_x := Lib.hid (show rs_x.length ≤ 1048576 ∧ sumN rs_x ≤ 1048576 by have h := HWU_x.out; rw [rwU_weight] at h; unfold sumN; omega)
  obtain ⟨FS, hFS⟩ : ∃ FS, fmtSh rs_x = FS := ⟨_, rfl⟩
  have HFS := Lib.hid hFS; clear hFS
  have hRR : (FS.toList == FS.toList) = true := beq_self_eq_true _
  go_wp2_with fail
  refine (toL_Sheet (rwU (.slice ha_x hn_x hc_x) rs_x) _ (rwU_is _ _) (rwU_reads ((HRR_x.out.below HB.out (Nat.le_refl _)).mono HB.out.size)) (by have := HWU_x.out; omega)).mono ?_
  rintro e w_2 ⟨y0_u, rfl, i0_u, d0_u, ho, hn, hb⟩
  have hB := hb
  replace q_x0 := (hB.cell (show (⟨w.heap.size, 0, none⟩ : Addr).block < _ from World.block_lt_of_cell? _ _ q_x0)).trans q_x0
  replace b_x : w.heap.size < w_2.heap.size := World.block_lt_of_cell? _ _ q_x0
  have Hu := Lib.hid (ho)
  have HS2 := Lib.hid hB.size
  replace HB := Lib.hid (HB.out.trans (hB.mono HB.out.size))
  have HI0_u := Lib.hid i0_u; have HD0_u := Lib.hid d0_u; have HN_u := Lib.hid hn
  obtain ⟨ha_u, hn_u, hc_u, e0_u⟩ := sl_form (is_sl_RuleS i0_u) (Rw.OwnR.reads _ (ownL_one.1 ho))
  rw [e0_u]
  have HE0_u := Lib.hid e0_u
  clear hB ho hn hb i0_u d0_u e0_u
  go_wp2_with fail
  refine ((HFS.out ▸ fsheet_spec _ rs_x _ (HE0_u.out ▸ rules_of_data HD0_u.out (rd_of (ownL_one.1 Hu.out))) HOK_x.out HSL_x.out.1 HSL_x.out.2)).mono ?_
  rintro e w_3 ⟨rfl, hb⟩
  have hB := hb
  replace q_x0 := (hB.cell (show (⟨w.heap.size, 0, none⟩ : Addr).block < _ from World.block_lt_of_cell? _ _ q_x0)).trans q_x0
  replace b_x : w.heap.size < w_3.heap.size := World.block_lt_of_cell? _ _ q_x0
  replace Hu := Lib.hid (ownL_later Hu.out hB)
  have HS3 := Lib.hid hB.size
  replace HB := Lib.hid (HB.out.trans (hB.mono HB.out.size))
  clear hB hb
  go_wp2_with fail
  refine (toL_Sheet (rwU (.slice ha_x hn_x hc_x) rs_x) _ (rwU_is _ _) (rwU_reads ((HRR_x.out.below HB.out (Nat.le_refl _)).mono HB.out.size)) (by have := HWU_x.out; omega)).mono ?_
  rintro e w_4 ⟨y0_y, rfl, i0_y, d0_y, ho, hn, hb⟩
  have hB := hb
  replace q_x0 := (hB.cell (show (⟨w.heap.size, 0, none⟩ : Addr).block < _ from World.block_lt_of_cell? _ _ q_x0)).trans q_x0
  replace b_x : w.heap.size < w_4.heap.size := World.block_lt_of_cell? _ _ q_x0
  replace Hu := Lib.hid (ownL_later Hu.out hB)
  have Hy := Lib.hid (ho)
  have HS4 := Lib.hid hB.size
  replace HB := Lib.hid (HB.out.trans (hB.mono HB.out.size))
  have HI0_y := Lib.hid i0_y; have HD0_y := Lib.hid d0_y; have HN_y := Lib.hid hn
  obtain ⟨ha_y, hn_y, hc_y, e0_y⟩ := sl_form (is_sl_RuleS i0_y) (Rw.OwnR.reads _ (ownL_one.1 ho))
  rw [e0_y]
  have HE0_y := Lib.hid e0_y
  clear hB ho hn hb i0_y d0_y e0_y
  go_wp2_with fail
  obtain ⟨w_5, hw⟩ : ∃ x, w_4.alloc (.cells #[.slice ha_y hn_y hc_y] 24) = x := ⟨_, rfl⟩
  rw [hw]
  have hB : Below w_4.heap.size w_4 w_5 := by rw [← hw]; exact (Below.refl _ _).alloc (Nat.le_refl _) _
  have q_y0 : w_5.cell? ⟨w_4.heap.size, 0, none⟩ = some (.slice ha_y hn_y hc_y) := by rw [← hw]; simp
  have b_y : w_4.heap.size < w_5.heap.size := World.block_lt_of_cell? _ _ q_y0
  replace q_x0 := (hB.cell (show (⟨w.heap.size, 0, none⟩ : Addr).block < _ from World.block_lt_of_cell? _ _ q_x0)).trans q_x0
  replace b_x : w.heap.size < w_5.heap.size := World.block_lt_of_cell? _ _ q_x0
  replace Hu := Lib.hid (ownL_later Hu.out hB)
  replace Hy := Lib.hid (ownL_later Hy.out hB)
  have HS5 := Lib.hid hB.size
  replace HB := Lib.hid (HB.out.trans (hB.mono HB.out.size))
  clear hB hw
  have HSb_y := Lib.hid b_y
  go_wp2_with fail
  refine ((HFS.out ▸ fsheet_impl _ rs_x _ (HE0_y.out ▸ rules_of_data HD0_y.out (rd_of (ownL_one.1 Hy.out))) HOK_x.out HSL_x.out.1 HSL_x.out.2 (HTB.out _ HB.out))).mono ?_
  rintro e w_6 ⟨rfl, hb⟩
  have hB := hb
  replace q_x0 := (hB.cell (show (⟨w.heap.size, 0, none⟩ : Addr).block < _ from World.block_lt_of_cell? _ _ q_x0)).trans q_x0
  replace b_x : w.heap.size < w_6.heap.size := World.block_lt_of_cell? _ _ q_x0
  replace q_y0 := (hB.cell (show (⟨w_4.heap.size, 0, none⟩ : Addr).block < _ from World.block_lt_of_cell? _ _ q_y0)).trans q_y0
  replace b_y : w_4.heap.size < w_6.heap.size := World.block_lt_of_cell? _ _ q_y0
  replace Hu := Lib.hid (ownL_later Hu.out hB)
  replace Hy := Lib.hid (ownL_later Hy.out hB)
  have HS6 := Lib.hid hB.size
  replace HB := Lib.hid (HB.out.trans (hB.mono HB.out.size))
  clear hB hb
  go_upto_region 10 with (fail)
  go_cut [26] from 22 to 26 (fun c wx => c = .bool false ∧ Below w_6.heap.size w_6 wx)
  case first =>
    have hread := (rwU_reads ((HRR_x.out.below HB.out (Nat.le_refl _)).mono HB.out.size)).up (Grw.refl _).drew
    go_region_with (first | (go_at_call 12; refine (toL_Sheet (rwU (.slice ha_x hn_x hc_x) rs_x) _ (rwU_is _ _) ?_ (by have := HWU_x.out; omega)).mono ?_; (exact hread); rintro e w_A ⟨y0_w, rfl, i0_w, d0_w, ho_w, hn_w, hb_w⟩; obtain ⟨ha_w, hn_w, hc_w, e0_w⟩ := sl_form (is_sl_RuleS i0_w) (Rw.OwnR.reads _ (ownL_one.1 ho_w)); rw [e0_w]; have hO := ownL_later Hy.out (below_undrew hb_w); have hsA := (below_undrew hb_w).size; (first | have qA_x0 := (hb_w.cell (p := ⟨w.heap.size, 0, none⟩) b_x).trans q_x0 | skip); (first | have qA_y0 := (hb_w.cell (p := ⟨w_4.heap.size, 0, none⟩) b_y).trans q_y0 | skip)) | (go_at_call 7; refine (eqV_Sheet y0_y y0_w _ _ HE0_y.out e0_w _ HI0_y.out i0_w (HD0_y.out.trans d0_w.symm) (rd_of (ownL_one.1 hO)) (rd_of (ownL_one.1 ho_w))).mono ?_; rintro e w_C ⟨rfl, hgC⟩))
    all_goals
      have hB := (below_undrew hb_w).trans (hgC.below.mono hsA)
      go_wp2_with fail
      go_meet
      exact ⟨rfl, hB⟩
  obtain ⟨rfl, hB⟩ := hcut
  rename World => w_7
  replace q_x0 := (hB.cell (show (⟨w.heap.size, 0, none⟩ : Addr).block < _ from World.block_lt_of_cell? _ _ q_x0)).trans q_x0
  replace b_x : w.heap.size < w_7.heap.size := World.block_lt_of_cell? _ _ q_x0
  replace q_y0 := (hB.cell (show (⟨w_4.heap.size, 0, none⟩ : Addr).block < _ from World.block_lt_of_cell? _ _ q_y0)).trans q_y0
  replace b_y : w_4.heap.size < w_7.heap.size := World.block_lt_of_cell? _ _ q_y0
  replace Hu := Lib.hid (ownL_later Hu.out hB)
  replace Hy := Lib.hid (ownL_later Hy.out hB)
  have HS7 := Lib.hid hB.size
  replace HB := Lib.hid (HB.out.trans (hB.mono HB.out.size))
  clear hB
  go_wp2_with fail
  go_ret
  exact ⟨rfl, HB.out⟩
end Go.Proofs.YtmlmiclgledcpaaDoor

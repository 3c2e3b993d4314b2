/- The walk of the law FnExactIsPolicy: it returns true, and writes nothing that was there. -/
import Derived.Test.YtddfkcghhnkkmaaLawPo
import Derived.Test.YtddfkcghhnkkmaaPolB
import Derived.Deep.RegionWith
import Derived.Deep.CutRange
namespace Go.Proofs.Ytddfkcghhnkkmaa
open Go.ChangeShapes Go.WideShapes Go.ChangeAt Go.RowKit

set_option maxRecDepth 100000 in
set_option maxHeartbeats 4000000 in
theorem walkIsPolicy (bo_p : Bool) (xa_p : Option Addr) (xn_p xc_p : Nat) (ya_p : Option Addr) (yn_p yc_p : Nat) (za_p : Option Addr) (zn_p zc_p : Nat) (xs_p ys_p zs_p : List ByteArray) (t_p : ByteArray) (w : World) (r_p : IsPo w (.slice xa_p xn_p xc_p) (.slice ya_p yn_p yc_p) (.slice za_p zn_p zc_p) ⟨bo_p, xs_p, ys_p, zs_p, t_p⟩) :
    Calls Try.prog 3 #[.agg #[.bool bo_p, .slice xa_p xn_p xc_p, .slice ya_p yn_p yc_p, .slice za_p zn_p zc_p, .string t_p]] w fun e w' => e = .returned (.bool true) ∧ Below w.heap.size w w' := by
  obtain ⟨⟨h1_p, o1_p⟩, ⟨h2_p, o2_p⟩, ⟨h3_p, o3_p⟩, ht_p⟩ := r_p
  have HR1_p := Lib.hid h1_p; have HS1_p := Lib.hid (rwSs_small (v := .slice xa_p xn_p xc_p) o1_p); clear h1_p o1_p
  have HR2_p := Lib.hid h2_p; have HS2_p := Lib.hid (rwSs_small (v := .slice ya_p yn_p yc_p) o2_p); clear h2_p o2_p
  have HR3_p := Lib.hid h3_p; have HS3_p := Lib.hid (rwSs_small (v := .slice za_p zn_p zc_p) o3_p); clear h3_p o3_p
  go_enter Try.func3, Try.ntmps3
  go_wp2_with fail
  obtain ⟨w_0, hw_0⟩ : ∃ x, (w.alloc (.cells #[.bool bo_p, .slice xa_p xn_p xc_p, .slice ya_p yn_p yc_p, .slice za_p zn_p zc_p, .string t_p] 24)) = x := ⟨_, rfl⟩
  rw [hw_0]
  have HB := Lib.hid (show Below w.heap.size w w_0 by rw [← hw_0]; exact ((Below.refl w.heap.size w).alloc (by first | (simp; done) | (simp; omega)) _))
  have q_p0 : w_0.cell? ⟨w.heap.size, 0, none⟩ = some (.bool bo_p) := by rw [← hw_0]; simp
  have q_p1 : w_0.cell? ⟨w.heap.size, 1, none⟩ = some (.slice xa_p xn_p xc_p) := by rw [← hw_0]; simp
  have q_p2 : w_0.cell? ⟨w.heap.size, 2, none⟩ = some (.slice ya_p yn_p yc_p) := by rw [← hw_0]; simp
  have q_p3 : w_0.cell? ⟨w.heap.size, 3, none⟩ = some (.slice za_p zn_p zc_p) := by rw [← hw_0]; simp
  have q_p4 : w_0.cell? ⟨w.heap.size, 4, none⟩ = some (.string t_p) := by rw [← hw_0]; simp
  have b_p : w.heap.size < w_0.heap.size := World.block_lt_of_cell? _ _ q_p0
  have HS0 := Lib.hid (show w.heap.size + 1 ≤ w_0.heap.size by rw [← hw_0]; simp)
  clear hw_0
  go_wp2_with fail
  refine (sz_Policy bo_p (rwSs (.slice xa_p xn_p xc_p) xs_p) (rwSs (.slice ya_p yn_p yc_p) ys_p) (rwSs (.slice za_p zn_p zc_p) zs_p) t_p 1048576 (by omega) (by omega) _ (rwSs_is _ _) (rwSs_reads ((HR1_p.out.below HB.out (Nat.le_refl _)).mono HB.out.size)) HS1_p.out (rwSs_is _ _) (rwSs_reads ((HR2_p.out.below HB.out (Nat.le_refl _)).mono HB.out.size)) HS2_p.out (rwSs_is _ _) (rwSs_reads ((HR3_p.out.below HB.out (Nat.le_refl _)).mono HB.out.size)) HS3_p.out ht_p).mono ?_
  rintro e w_1 ⟨r, rfl, lo_r, hi_r, hg⟩
  have hB := hg.below
  replace q_p0 := (hB.cell (show (⟨w.heap.size, 0, none⟩ : Addr).block < _ from World.block_lt_of_cell? _ _ q_p0)).trans q_p0
  replace q_p1 := (hB.cell (show (⟨w.heap.size, 1, none⟩ : Addr).block < _ from World.block_lt_of_cell? _ _ q_p1)).trans q_p1
  replace q_p2 := (hB.cell (show (⟨w.heap.size, 2, none⟩ : Addr).block < _ from World.block_lt_of_cell? _ _ q_p2)).trans q_p2
  replace q_p3 := (hB.cell (show (⟨w.heap.size, 3, none⟩ : Addr).block < _ from World.block_lt_of_cell? _ _ q_p3)).trans q_p3
  replace q_p4 := (hB.cell (show (⟨w.heap.size, 4, none⟩ : Addr).block < _ from World.block_lt_of_cell? _ _ q_p4)).trans q_p4
  replace b_p : w.heap.size < w_1.heap.size := World.block_lt_of_cell? _ _ q_p0
  have HS1 := Lib.hid hB.size
  replace HB := Lib.hid (HB.out.trans (hB.mono HB.out.size))
  clear hB hg
  by_cases neg_r : r < 0
  · go_wp2_with fail
    go_ret
    exact ⟨rfl, HB.out⟩
  replace hi_r := hi_r (by omega)
  have hu_r : r ≤ 1048576 := by omega
  have HW1_p := Lib.hid (show (rwSs (.slice xa_p xn_p xc_p) xs_p).weight ≤ 1048576 by omega)
  have HW2_p := Lib.hid (show (rwSs (.slice ya_p yn_p yc_p) ys_p).weight ≤ 1048576 by omega)
  have HW3_p := Lib.hid (show (rwSs (.slice za_p zn_p zc_p) zs_p).weight ≤ 1048576 by omega)
  have HTS_p := Lib.hid (show t_p.size ≤ 1048576 by omega)
  clear hi_r
  obtain ⟨D, hD⟩ : ∃ D, isPol (⟨bo_p, xs_p, ys_p, zs_p, t_p⟩ : Pol) = D := ⟨_, rfl⟩
  have HD := Lib.hid hD; clear hD
  have hDD : (D == D) = true := beq_self_eq_true _; have hDN : (D != D) = false := by rw [bne, hDD]; rfl
  have HPS_p := Lib.hid (show PolSm (⟨bo_p, xs_p, ys_p, zs_p, t_p⟩ : Pol) from ⟨by have h := HW1_p.out; rw [rwSs_weight] at h; exact h, by have h := HW2_p.out; rw [rwSs_weight] at h; exact h, by have h := HW3_p.out; rw [rwSs_weight] at h; exact h, HTS_p.out⟩)
  go_wp2_with fail
  refine (toP_any bo_p t_p ((HR1_p.out.below HB.out (Nat.le_refl _)).mono HB.out.size) ((HR2_p.out.below HB.out (Nat.le_refl _)).mono HB.out.size) ((HR3_p.out.below HB.out (Nat.le_refl _)).mono HB.out.size) HW1_p.out HW2_p.out HW3_p.out).mono ?_
  rintro e w_2 ⟨y1_x, y2_x, y3_x, xa_x, xn_x, xc_x, ya_x, yn_x, yc_x, za_x, zn_x, zc_x, rfl, hf, ho, hn, hb⟩
  have hB := hb
  replace q_p0 := (hB.cell (show (⟨w.heap.size, 0, none⟩ : Addr).block < _ from World.block_lt_of_cell? _ _ q_p0)).trans q_p0
  replace q_p1 := (hB.cell (show (⟨w.heap.size, 1, none⟩ : Addr).block < _ from World.block_lt_of_cell? _ _ q_p1)).trans q_p1
  replace q_p2 := (hB.cell (show (⟨w.heap.size, 2, none⟩ : Addr).block < _ from World.block_lt_of_cell? _ _ q_p2)).trans q_p2
  replace q_p3 := (hB.cell (show (⟨w.heap.size, 3, none⟩ : Addr).block < _ from World.block_lt_of_cell? _ _ q_p3)).trans q_p3
  replace q_p4 := (hB.cell (show (⟨w.heap.size, 4, none⟩ : Addr).block < _ from World.block_lt_of_cell? _ _ q_p4)).trans q_p4
  replace b_p : w.heap.size < w_2.heap.size := World.block_lt_of_cell? _ _ q_p0
  have Hx := Lib.hid (ho)
  have HS2 := Lib.hid hB.size
  replace HB := Lib.hid (HB.out.trans (hB.mono HB.out.size))
  have HF_x := Lib.hid hf; have HN_x := Lib.hid hn
  clear hB ho hn hb hf
  go_wp2_with fail
  refine ((HD.out ▸ isPol_spec bo_p xs_p ys_p zs_p t_p _ _ _ _ _ _ _ _ _ HPS_p.out _ (HF_x.out.reads Hx.out bo_p t_p))).mono ?_
  rintro e w_3 ⟨rfl, hg⟩
  have hB := hg.below
  replace q_p0 := (hB.cell (show (⟨w.heap.size, 0, none⟩ : Addr).block < _ from World.block_lt_of_cell? _ _ q_p0)).trans q_p0
  replace q_p1 := (hB.cell (show (⟨w.heap.size, 1, none⟩ : Addr).block < _ from World.block_lt_of_cell? _ _ q_p1)).trans q_p1
  replace q_p2 := (hB.cell (show (⟨w.heap.size, 2, none⟩ : Addr).block < _ from World.block_lt_of_cell? _ _ q_p2)).trans q_p2
  replace q_p3 := (hB.cell (show (⟨w.heap.size, 3, none⟩ : Addr).block < _ from World.block_lt_of_cell? _ _ q_p3)).trans q_p3
  replace q_p4 := (hB.cell (show (⟨w.heap.size, 4, none⟩ : Addr).block < _ from World.block_lt_of_cell? _ _ q_p4)).trans q_p4
  replace b_p : w.heap.size < w_3.heap.size := World.block_lt_of_cell? _ _ q_p0
  replace Hx := Lib.hid (ownL_later Hx.out hB)
  have HS3 := Lib.hid hB.size
  replace HB := Lib.hid (HB.out.trans (hB.mono HB.out.size))
  clear hB hg
  go_wp2_with fail
  refine (toP_any bo_p t_p ((HR1_p.out.below HB.out (Nat.le_refl _)).mono HB.out.size) ((HR2_p.out.below HB.out (Nat.le_refl _)).mono HB.out.size) ((HR3_p.out.below HB.out (Nat.le_refl _)).mono HB.out.size) HW1_p.out HW2_p.out HW3_p.out).mono ?_
  rintro e w_4 ⟨y1_y, y2_y, y3_y, xa_y, xn_y, xc_y, ya_y, yn_y, yc_y, za_y, zn_y, zc_y, rfl, hf, ho, hn, hb⟩
  have hB := hb
  replace q_p0 := (hB.cell (show (⟨w.heap.size, 0, none⟩ : Addr).block < _ from World.block_lt_of_cell? _ _ q_p0)).trans q_p0
  replace q_p1 := (hB.cell (show (⟨w.heap.size, 1, none⟩ : Addr).block < _ from World.block_lt_of_cell? _ _ q_p1)).trans q_p1
  replace q_p2 := (hB.cell (show (⟨w.heap.size, 2, none⟩ : Addr).block < _ from World.block_lt_of_cell? _ _ q_p2)).trans q_p2
  replace q_p3 := (hB.cell (show (⟨w.heap.size, 3, none⟩ : Addr).block < _ from World.block_lt_of_cell? _ _ q_p3)).trans q_p3
  replace q_p4 := (hB.cell (show (⟨w.heap.size, 4, none⟩ : Addr).block < _ from World.block_lt_of_cell? _ _ q_p4)).trans q_p4
  replace b_p : w.heap.size < w_4.heap.size := World.block_lt_of_cell? _ _ q_p0
  replace Hx := Lib.hid (ownL_later Hx.out hB)
  have Hy := Lib.hid (ho)
  have HS4 := Lib.hid hB.size
  replace HB := Lib.hid (HB.out.trans (hB.mono HB.out.size))
  have HF_y := Lib.hid hf; have HN_y := Lib.hid hn
  clear hB ho hn hb hf
  go_wp2_with fail
  obtain ⟨w_5, hw⟩ : ∃ x, w_4.alloc (.cells #[.bool bo_p, .slice xa_y xn_y xc_y, .slice ya_y yn_y yc_y, .slice za_y zn_y zc_y, .string t_p] 27) = x := ⟨_, rfl⟩
  rw [hw]
  have hB : Below w_4.heap.size w_4 w_5 := by rw [← hw]; exact (Below.refl _ _).alloc (Nat.le_refl _) _
  have q_y0 : w_5.cell? ⟨w_4.heap.size, 0, none⟩ = some (.bool bo_p) := by rw [← hw]; simp
  have q_y1 : w_5.cell? ⟨w_4.heap.size, 1, none⟩ = some (.slice xa_y xn_y xc_y) := by rw [← hw]; simp
  have q_y2 : w_5.cell? ⟨w_4.heap.size, 2, none⟩ = some (.slice ya_y yn_y yc_y) := by rw [← hw]; simp
  have q_y3 : w_5.cell? ⟨w_4.heap.size, 3, none⟩ = some (.slice za_y zn_y zc_y) := by rw [← hw]; simp
  have q_y4 : w_5.cell? ⟨w_4.heap.size, 4, none⟩ = some (.string t_p) := by rw [← hw]; simp
  have b_y : w_4.heap.size < w_5.heap.size := World.block_lt_of_cell? _ _ q_y0
  replace q_p0 := (hB.cell (show (⟨w.heap.size, 0, none⟩ : Addr).block < _ from World.block_lt_of_cell? _ _ q_p0)).trans q_p0
  replace q_p1 := (hB.cell (show (⟨w.heap.size, 1, none⟩ : Addr).block < _ from World.block_lt_of_cell? _ _ q_p1)).trans q_p1
  replace q_p2 := (hB.cell (show (⟨w.heap.size, 2, none⟩ : Addr).block < _ from World.block_lt_of_cell? _ _ q_p2)).trans q_p2
  replace q_p3 := (hB.cell (show (⟨w.heap.size, 3, none⟩ : Addr).block < _ from World.block_lt_of_cell? _ _ q_p3)).trans q_p3
  replace q_p4 := (hB.cell (show (⟨w.heap.size, 4, none⟩ : Addr).block < _ from World.block_lt_of_cell? _ _ q_p4)).trans q_p4
  replace b_p : w.heap.size < w_5.heap.size := World.block_lt_of_cell? _ _ q_p0
  replace Hx := Lib.hid (ownL_later Hx.out hB)
  replace Hy := Lib.hid (ownL_later Hy.out hB)
  have HS5 := Lib.hid hB.size
  replace HB := Lib.hid (HB.out.trans (hB.mono HB.out.size))
  clear hB hw
  have HSb_y := Lib.hid b_y
  go_wp2_with fail
  refine ((HD.out ▸ isPol_impl bo_p xs_p ys_p zs_p t_p _ _ _ _ _ _ _ _ _ HPS_p.out _ (HF_y.out.reads Hy.out bo_p t_p))).mono ?_
  rintro e w_6 ⟨rfl, hg⟩
  have hB := hg.below
  replace q_p0 := (hB.cell (show (⟨w.heap.size, 0, none⟩ : Addr).block < _ from World.block_lt_of_cell? _ _ q_p0)).trans q_p0
  replace q_p1 := (hB.cell (show (⟨w.heap.size, 1, none⟩ : Addr).block < _ from World.block_lt_of_cell? _ _ q_p1)).trans q_p1
  replace q_p2 := (hB.cell (show (⟨w.heap.size, 2, none⟩ : Addr).block < _ from World.block_lt_of_cell? _ _ q_p2)).trans q_p2
  replace q_p3 := (hB.cell (show (⟨w.heap.size, 3, none⟩ : Addr).block < _ from World.block_lt_of_cell? _ _ q_p3)).trans q_p3
  replace q_p4 := (hB.cell (show (⟨w.heap.size, 4, none⟩ : Addr).block < _ from World.block_lt_of_cell? _ _ q_p4)).trans q_p4
  replace b_p : w.heap.size < w_6.heap.size := World.block_lt_of_cell? _ _ q_p0
  replace q_y0 := (hB.cell (show (⟨w_4.heap.size, 0, none⟩ : Addr).block < _ from World.block_lt_of_cell? _ _ q_y0)).trans q_y0
  replace q_y1 := (hB.cell (show (⟨w_4.heap.size, 1, none⟩ : Addr).block < _ from World.block_lt_of_cell? _ _ q_y1)).trans q_y1
  replace q_y2 := (hB.cell (show (⟨w_4.heap.size, 2, none⟩ : Addr).block < _ from World.block_lt_of_cell? _ _ q_y2)).trans q_y2
  replace q_y3 := (hB.cell (show (⟨w_4.heap.size, 3, none⟩ : Addr).block < _ from World.block_lt_of_cell? _ _ q_y3)).trans q_y3
  replace q_y4 := (hB.cell (show (⟨w_4.heap.size, 4, none⟩ : Addr).block < _ from World.block_lt_of_cell? _ _ q_y4)).trans q_y4
  replace b_y : w_4.heap.size < w_6.heap.size := World.block_lt_of_cell? _ _ q_y0
  replace Hx := Lib.hid (ownL_later Hx.out hB)
  replace Hy := Lib.hid (ownL_later Hy.out hB)
  have HS6 := Lib.hid hB.size
  replace HB := Lib.hid (HB.out.trans (hB.mono HB.out.size))
  clear hB hg
  go_upto_region 10 with (fail)
  go_cut [26] from 22 to 26 (fun c wx => c = .bool false ∧ Below w_6.heap.size w_6 wx)
  case first =>
    have hread1 := (((HR1_p.out.below HB.out (Nat.le_refl _)).mono HB.out.size)).grw (Nat.le_refl _) (Grw.refl _).drew
    have hread2 := (((HR2_p.out.below HB.out (Nat.le_refl _)).mono HB.out.size)).grw (Nat.le_refl _) (Grw.refl _).drew
    have hread3 := (((HR3_p.out.below HB.out (Nat.le_refl _)).mono HB.out.size)).grw (Nat.le_refl _) (Grw.refl _).drew
    go_region_with (first | (go_at_call 11; refine (toP_any bo_p t_p ?_ ?_ ?_ HW1_p.out HW2_p.out HW3_p.out).mono ?_; (exact hread1); (exact hread2); (exact hread3); rintro e w_A ⟨y1_w, y2_w, y3_w, xa_w, xn_w, xc_w, ya_w, yn_w, yc_w, za_w, zn_w, zc_w, rfl, hf_w, ho_w, hn_w, hb_w⟩; have hO := ownL_later Hy.out (below_undrew hb_w); have hsA := (below_undrew hb_w).size; (first | have qA_p0 := (hb_w.cell (p := ⟨w.heap.size, 0, none⟩) b_p).trans q_p0 | skip); (first | have qA_p1 := (hb_w.cell (p := ⟨w.heap.size, 1, none⟩) b_p).trans q_p1 | skip); (first | have qA_p2 := (hb_w.cell (p := ⟨w.heap.size, 2, none⟩) b_p).trans q_p2 | skip); (first | have qA_p3 := (hb_w.cell (p := ⟨w.heap.size, 3, none⟩) b_p).trans q_p3 | skip); (first | have qA_p4 := (hb_w.cell (p := ⟨w.heap.size, 4, none⟩) b_p).trans q_p4 | skip); (first | have qA_y0 := (hb_w.cell (p := ⟨w_4.heap.size, 0, none⟩) b_y).trans q_y0 | skip); (first | have qA_y1 := (hb_w.cell (p := ⟨w_4.heap.size, 1, none⟩) b_y).trans q_y1 | skip); (first | have qA_y2 := (hb_w.cell (p := ⟨w_4.heap.size, 2, none⟩) b_y).trans q_y2 | skip); (first | have qA_y3 := (hb_w.cell (p := ⟨w_4.heap.size, 3, none⟩) b_y).trans q_y3 | skip); (first | have qA_y4 := (hb_w.cell (p := ⟨w_4.heap.size, 4, none⟩) b_y).trans q_y4 | skip)) | (go_at_call 13; refine (eqPo bo_p t_p HF_y.out hf_w hO ho_w).mono ?_; rintro e w_C ⟨rfl, hgC⟩))
    all_goals
      have hB := (below_undrew hb_w).trans (hgC.below.mono hsA)
      go_wp2_with fail
      go_meet
      exact ⟨rfl, hB⟩
  obtain ⟨rfl, hB⟩ := hcut
  rename World => w_7
  replace q_p0 := (hB.cell (show (⟨w.heap.size, 0, none⟩ : Addr).block < _ from World.block_lt_of_cell? _ _ q_p0)).trans q_p0
  replace q_p1 := (hB.cell (show (⟨w.heap.size, 1, none⟩ : Addr).block < _ from World.block_lt_of_cell? _ _ q_p1)).trans q_p1
  replace q_p2 := (hB.cell (show (⟨w.heap.size, 2, none⟩ : Addr).block < _ from World.block_lt_of_cell? _ _ q_p2)).trans q_p2
  replace q_p3 := (hB.cell (show (⟨w.heap.size, 3, none⟩ : Addr).block < _ from World.block_lt_of_cell? _ _ q_p3)).trans q_p3
  replace q_p4 := (hB.cell (show (⟨w.heap.size, 4, none⟩ : Addr).block < _ from World.block_lt_of_cell? _ _ q_p4)).trans q_p4
  replace b_p : w.heap.size < w_7.heap.size := World.block_lt_of_cell? _ _ q_p0
  replace q_y0 := (hB.cell (show (⟨w_4.heap.size, 0, none⟩ : Addr).block < _ from World.block_lt_of_cell? _ _ q_y0)).trans q_y0
  replace q_y1 := (hB.cell (show (⟨w_4.heap.size, 1, none⟩ : Addr).block < _ from World.block_lt_of_cell? _ _ q_y1)).trans q_y1
  replace q_y2 := (hB.cell (show (⟨w_4.heap.size, 2, none⟩ : Addr).block < _ from World.block_lt_of_cell? _ _ q_y2)).trans q_y2
  replace q_y3 := (hB.cell (show (⟨w_4.heap.size, 3, none⟩ : Addr).block < _ from World.block_lt_of_cell? _ _ q_y3)).trans q_y3
  replace q_y4 := (hB.cell (show (⟨w_4.heap.size, 4, none⟩ : Addr).block < _ from World.block_lt_of_cell? _ _ q_y4)).trans q_y4
  replace b_y : w_4.heap.size < w_7.heap.size := World.block_lt_of_cell? _ _ q_y0
  replace Hx := Lib.hid (ownL_later Hx.out hB)
  replace Hy := Lib.hid (ownL_later Hy.out hB)
  have HS7 := Lib.hid hB.size
  replace HB := Lib.hid (HB.out.trans (hB.mono HB.out.size))
  clear hB
  go_wp2_with fail
  go_ret
  exact ⟨rfl, HB.out⟩
end Go.Proofs.Ytddfkcghhnkkmaa

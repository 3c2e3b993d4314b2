/- The walk of the law FnExactFormatToken: it returns true, and writes nothing that was there. -/
import Derived.Test.YtbegfdfdilnjdaaFmtI
import Derived.Test.YtbegfdfdilnjdaaDpTokA
import Derived.Test.YtbegfdfdilnjdaaLawsP
import Derived.Deep.RegionWith
namespace Go.Proofs.Ytbegfdfdilnjdaa
open Go.ChangeShapes Go.WideShapes Go.ChangeAt Go.RowKit

set_option maxRecDepth 100000 in
set_option maxHeartbeats 4000000 in
theorem walkFormatToken (k_t : Int) (n_t : ByteArray) (a_t : Option Addr) (len_t cap_t : Nat) (xs_t : List At) (t_t : ByteArray) (w : World) (rn_t : n_t.size ≤ 9223372036854775807) (r_t : IsAts w a_t len_t cap_t xs_t) (rt_t : t_t.size ≤ 9223372036854775807) :
    Calls Try.prog 4 #[.agg #[.int .i64 k_t, .string n_t, .slice a_t len_t cap_t, .string t_t]] w fun e w' => e = .returned (.bool true) ∧ Below w.heap.size w w' := by
  obtain ⟨rd_t, rl_t, ok_t⟩ := r_t
  have HA := Lib.hid rd_t; have HOK := Lib.hid (rwA_small (v := .slice a_t len_t cap_t) ok_t); clear rd_t rl_t ok_t
  go_enter Try.func4, Try.ntmps4
  go_wp2_with fail
  obtain ⟨w_0, hw_0⟩ : ∃ x, (w.alloc (.cells #[.int .i64 k_t, .string n_t, .slice a_t len_t cap_t, .string t_t] 25)) = x := ⟨_, rfl⟩
  rw [hw_0]
  have HB := Lib.hid (show Below w.heap.size w w_0 by rw [← hw_0]; exact ((Below.refl w.heap.size w).alloc (by first | (simp; done) | (simp; omega)) _))
  have q_t0 : w_0.cell? ⟨w.heap.size, 0, none⟩ = some (.int .i64 k_t) := by rw [← hw_0]; simp
  have q_t1 : w_0.cell? ⟨w.heap.size, 1, none⟩ = some (.string n_t) := by rw [← hw_0]; simp
  have q_t2 : w_0.cell? ⟨w.heap.size, 2, none⟩ = some (.slice a_t len_t cap_t) := by rw [← hw_0]; simp
  have q_t3 : w_0.cell? ⟨w.heap.size, 3, none⟩ = some (.string t_t) := by rw [← hw_0]; simp
  have b_t : w.heap.size < w_0.heap.size := World.block_lt_of_cell? _ _ q_t0
  have HS0 := Lib.hid (show w.heap.size + 1 ≤ w_0.heap.size by rw [← hw_0]; simp)
  clear hw_0
  go_wp2_with fail
  refine (sz_Token k_t n_t (rwA (.slice a_t len_t cap_t) xs_t) t_t (rwA_is _ _) _ (rwA_reads ((HA.out.below HB.out (Nat.le_refl _)).mono HB.out.size)) HOK.out rn_t rt_t).mono ?_
  rintro e w_1 ⟨r, rfl, lo_r, hi_r, hg⟩
  have hB := hg.below
  replace q_t0 := (hB.cell (show (⟨w.heap.size, 0, none⟩ : Addr).block < _ from World.block_lt_of_cell? _ _ q_t0)).trans q_t0
  replace q_t1 := (hB.cell (show (⟨w.heap.size, 1, none⟩ : Addr).block < _ from World.block_lt_of_cell? _ _ q_t1)).trans q_t1
  replace q_t2 := (hB.cell (show (⟨w.heap.size, 2, none⟩ : Addr).block < _ from World.block_lt_of_cell? _ _ q_t2)).trans q_t2
  replace q_t3 := (hB.cell (show (⟨w.heap.size, 3, none⟩ : Addr).block < _ from World.block_lt_of_cell? _ _ q_t3)).trans q_t3
  replace b_t : w.heap.size < w_1.heap.size := World.block_lt_of_cell? _ _ q_t0
  have HS1 := Lib.hid hB.size
  replace HB := Lib.hid (HB.out.trans (hB.mono HB.out.size))
  clear hB hg
  by_cases neg_r : r < 0
  · go_wp2_with fail
    go_ret
    exact ⟨rfl, HB.out⟩
  have hw := hi_r (by omega)
  have HW := Lib.hid (show (rwA (.slice a_t len_t cap_t) xs_t).weight ≤ 4398046511104 by omega)
  have HN := Lib.hid (show n_t.size + (fmtAs xs_t).length ≤ 1073741824 by rw [rwA_weight] at hw; rw [fmtAs_len]; omega)
  obtain ⟨F, hF⟩ : ∃ F, ofL (fmtT ⟨k_t, n_t, xs_t, t_t⟩) = F := ⟨_, rfl⟩
  have HF := Lib.hid hF
  have hff : (F.toList == F.toList) = true := beq_self_eq_true _
  clear hi_r hw hF
  go_wp2_with fail
  refine (to_Token k_t n_t (rwA (.slice a_t len_t cap_t) xs_t) t_t (rwA_is _ _) _ (rwA_reads ((HA.out.below HB.out (Nat.le_refl _)).mono HB.out.size)) HW.out).mono ?_
  rintro e w_2 ⟨y_x, rfl, is_x, dt_x, ho, hb⟩
  have hB := hb
  replace q_t0 := (hB.cell (show (⟨w.heap.size, 0, none⟩ : Addr).block < _ from World.block_lt_of_cell? _ _ q_t0)).trans q_t0
  replace q_t1 := (hB.cell (show (⟨w.heap.size, 1, none⟩ : Addr).block < _ from World.block_lt_of_cell? _ _ q_t1)).trans q_t1
  replace q_t2 := (hB.cell (show (⟨w.heap.size, 2, none⟩ : Addr).block < _ from World.block_lt_of_cell? _ _ q_t2)).trans q_t2
  replace q_t3 := (hB.cell (show (⟨w.heap.size, 3, none⟩ : Addr).block < _ from World.block_lt_of_cell? _ _ q_t3)).trans q_t3
  replace b_t : w.heap.size < w_2.heap.size := World.block_lt_of_cell? _ _ q_t0
  have Hx := Lib.hid (ho)
  have HS2 := Lib.hid hB.size
  replace HB := Lib.hid (HB.out.trans (hB.mono HB.out.size))
  obtain ⟨ya_x, yn_x, yc_x, hyc⟩ := attrs_form is_x (own_read Hx.out (Nat.le_refl _))
  rw [hyc]
  have HD_x := Lib.hid dt_x; have HI_x := Lib.hid is_x; have HC_x := Lib.hid hyc
  clear hB ho hb dt_x is_x hyc
  go_wp2_with fail
  refine (fmtS_any k_t n_t ya_x yn_x yc_x _ xs_t t_t _ (by rw [← HC_x.out]; exact attrs_of_data HD_x.out (own_read Hx.out (Nat.le_refl _))) (Nat.le_refl _) HN.out).mono ?_
  rintro e w_3 ⟨rfl, hg⟩
  have hB := hg.below
  replace q_t0 := (hB.cell (show (⟨w.heap.size, 0, none⟩ : Addr).block < _ from World.block_lt_of_cell? _ _ q_t0)).trans q_t0
  replace q_t1 := (hB.cell (show (⟨w.heap.size, 1, none⟩ : Addr).block < _ from World.block_lt_of_cell? _ _ q_t1)).trans q_t1
  replace q_t2 := (hB.cell (show (⟨w.heap.size, 2, none⟩ : Addr).block < _ from World.block_lt_of_cell? _ _ q_t2)).trans q_t2
  replace q_t3 := (hB.cell (show (⟨w.heap.size, 3, none⟩ : Addr).block < _ from World.block_lt_of_cell? _ _ q_t3)).trans q_t3
  replace b_t : w.heap.size < w_3.heap.size := World.block_lt_of_cell? _ _ q_t0
  replace Hx := Lib.hid (Hx.out.later hB)
  have HS3 := Lib.hid hB.size
  replace HB := Lib.hid (HB.out.trans (hB.mono HB.out.size))
  rw [HF.out]
  clear hB hg
  go_wp2_with fail
  refine (to_Token k_t n_t (rwA (.slice a_t len_t cap_t) xs_t) t_t (rwA_is _ _) _ (rwA_reads ((HA.out.below HB.out (Nat.le_refl _)).mono HB.out.size)) HW.out).mono ?_
  rintro e w_4 ⟨y_y, rfl, is_y, dt_y, ho, hb⟩
  have hB := hb
  replace q_t0 := (hB.cell (show (⟨w.heap.size, 0, none⟩ : Addr).block < _ from World.block_lt_of_cell? _ _ q_t0)).trans q_t0
  replace q_t1 := (hB.cell (show (⟨w.heap.size, 1, none⟩ : Addr).block < _ from World.block_lt_of_cell? _ _ q_t1)).trans q_t1
  replace q_t2 := (hB.cell (show (⟨w.heap.size, 2, none⟩ : Addr).block < _ from World.block_lt_of_cell? _ _ q_t2)).trans q_t2
  replace q_t3 := (hB.cell (show (⟨w.heap.size, 3, none⟩ : Addr).block < _ from World.block_lt_of_cell? _ _ q_t3)).trans q_t3
  replace b_t : w.heap.size < w_4.heap.size := World.block_lt_of_cell? _ _ q_t0
  replace Hx := Lib.hid (Hx.out.later hB)
  have Hy := Lib.hid (ho)
  have HS4 := Lib.hid hB.size
  replace HB := Lib.hid (HB.out.trans (hB.mono HB.out.size))
  obtain ⟨ya_y, yn_y, yc_y, hyc⟩ := attrs_form is_y (own_read Hy.out (Nat.le_refl _))
  rw [hyc]
  have HD_y := Lib.hid dt_y; have HI_y := Lib.hid is_y; have HC_y := Lib.hid hyc
  clear hB ho hb dt_y is_y hyc
  go_wp2_with fail
  obtain ⟨w_5, hw⟩ : ∃ x, w_4.alloc (.cells #[.int .i64 k_t, .string n_t, .slice ya_y yn_y yc_y, .string t_t] 30) = x := ⟨_, rfl⟩
  rw [hw]
  have hB : Below w_4.heap.size w_4 w_5 := by rw [← hw]; exact (Below.refl _ _).alloc (Nat.le_refl _) _
  have q_z0 : w_5.cell? ⟨w_4.heap.size, 0, none⟩ = some (.int .i64 k_t) := by rw [← hw]; simp
  have q_z1 : w_5.cell? ⟨w_4.heap.size, 1, none⟩ = some (.string n_t) := by rw [← hw]; simp
  have q_z2 : w_5.cell? ⟨w_4.heap.size, 2, none⟩ = some (.slice ya_y yn_y yc_y) := by rw [← hw]; simp
  have q_z3 : w_5.cell? ⟨w_4.heap.size, 3, none⟩ = some (.string t_t) := by rw [← hw]; simp
  have b_z : w_4.heap.size < w_5.heap.size := World.block_lt_of_cell? _ _ q_z0
  replace q_t0 := (hB.cell (show (⟨w.heap.size, 0, none⟩ : Addr).block < _ from World.block_lt_of_cell? _ _ q_t0)).trans q_t0
  replace q_t1 := (hB.cell (show (⟨w.heap.size, 1, none⟩ : Addr).block < _ from World.block_lt_of_cell? _ _ q_t1)).trans q_t1
  replace q_t2 := (hB.cell (show (⟨w.heap.size, 2, none⟩ : Addr).block < _ from World.block_lt_of_cell? _ _ q_t2)).trans q_t2
  replace q_t3 := (hB.cell (show (⟨w.heap.size, 3, none⟩ : Addr).block < _ from World.block_lt_of_cell? _ _ q_t3)).trans q_t3
  replace b_t : w.heap.size < w_5.heap.size := World.block_lt_of_cell? _ _ q_t0
  replace Hx := Lib.hid (Hx.out.later hB)
  replace Hy := Lib.hid (Hy.out.later hB)
  have HS5 := Lib.hid hB.size
  replace HB := Lib.hid (HB.out.trans (hB.mono HB.out.size))
  clear hB hw
  have HSb_z := Lib.hid b_z
  go_wp2_with fail
  refine (fmtI_any k_t n_t ya_y yn_y yc_y _ xs_t t_t _ (by rw [← HC_y.out]; exact attrs_of_data HD_y.out (own_read Hy.out (by have := HS0.out; have := HS1.out; have := HS2.out; have := HS3.out; have := HS4.out; have := HS5.out; have := HSb_z.out; omega))) (Nat.le_refl _) HN.out).mono ?_
  rintro e w_6 ⟨rfl, hb⟩
  have hB := hb
  replace q_t0 := (hB.cell (show (⟨w.heap.size, 0, none⟩ : Addr).block < _ from World.block_lt_of_cell? _ _ q_t0)).trans q_t0
  replace q_t1 := (hB.cell (show (⟨w.heap.size, 1, none⟩ : Addr).block < _ from World.block_lt_of_cell? _ _ q_t1)).trans q_t1
  replace q_t2 := (hB.cell (show (⟨w.heap.size, 2, none⟩ : Addr).block < _ from World.block_lt_of_cell? _ _ q_t2)).trans q_t2
  replace q_t3 := (hB.cell (show (⟨w.heap.size, 3, none⟩ : Addr).block < _ from World.block_lt_of_cell? _ _ q_t3)).trans q_t3
  replace b_t : w.heap.size < w_6.heap.size := World.block_lt_of_cell? _ _ q_t0
  replace q_z0 := (hB.cell (show (⟨w_4.heap.size, 0, none⟩ : Addr).block < _ from World.block_lt_of_cell? _ _ q_z0)).trans q_z0
  replace q_z1 := (hB.cell (show (⟨w_4.heap.size, 1, none⟩ : Addr).block < _ from World.block_lt_of_cell? _ _ q_z1)).trans q_z1
  replace q_z2 := (hB.cell (show (⟨w_4.heap.size, 2, none⟩ : Addr).block < _ from World.block_lt_of_cell? _ _ q_z2)).trans q_z2
  replace q_z3 := (hB.cell (show (⟨w_4.heap.size, 3, none⟩ : Addr).block < _ from World.block_lt_of_cell? _ _ q_z3)).trans q_z3
  replace b_z : w_4.heap.size < w_6.heap.size := World.block_lt_of_cell? _ _ q_z0
  replace Hx := Lib.hid (Hx.out.later hB)
  replace Hy := Lib.hid (Hy.out.later hB)
  have HS6 := Lib.hid hB.size
  replace HB := Lib.hid (HB.out.trans (hB.mono HB.out.size))
  rw [HF.out]
  clear hB hb
  go_wp2_with fail
  have hread := (rwA_reads ((HA.out.below HB.out (Nat.le_refl _)).mono HB.out.size)).up (Grw.refl _).drew
  go_region_with (first | (go_at_call 11; refine (to_Token k_t n_t (rwA (.slice a_t len_t cap_t) xs_t) t_t (rwA_is _ _) _ ?_ HW.out).mono ?_; (exact hread); rintro e w_A ⟨y_w, rfl, is_w, dt_w, ho_w, hb_w⟩; obtain ⟨ya_w, yn_w, yc_w, hc_w⟩ := attrs_form is_w (own_read ho_w (Nat.le_refl _)); rw [hc_w]; have hO := Hy.out.later (below_undrew hb_w); have hsA := (below_undrew hb_w).size; (first | have qA_t0 := (hb_w.cell (p := ⟨w.heap.size, 0, none⟩) b_t).trans q_t0 | skip); (first | have qA_t1 := (hb_w.cell (p := ⟨w.heap.size, 1, none⟩) b_t).trans q_t1 | skip); (first | have qA_t2 := (hb_w.cell (p := ⟨w.heap.size, 2, none⟩) b_t).trans q_t2 | skip); (first | have qA_t3 := (hb_w.cell (p := ⟨w.heap.size, 3, none⟩) b_t).trans q_t3 | skip); (first | have qA_z0 := (hb_w.cell (p := ⟨w_4.heap.size, 0, none⟩) b_z).trans q_z0 | skip); (first | have qA_z1 := (hb_w.cell (p := ⟨w_4.heap.size, 1, none⟩) b_z).trans q_z1 | skip); (first | have qA_z2 := (hb_w.cell (p := ⟨w_4.heap.size, 2, none⟩) b_z).trans q_z2 | skip); (first | have qA_z3 := (hb_w.cell (p := ⟨w_4.heap.size, 3, none⟩) b_z).trans q_z3 | skip)) | (go_at_call 13; refine (eq_TokenV k_t n_t y_y y_w t_t _ ya_y yn_y yc_y ya_w yn_w yc_w HC_y.out hc_w HI_y.out is_w (HD_y.out.trans dt_w.symm) (own_read hO ?_) (own_read ho_w (Nat.le_refl _))).mono ?_; (have := HS0.out; have := HS1.out; have := HS2.out; have := HS3.out; have := HS4.out; have := HS5.out; have := HSb_z.out; have := HS6.out; omega); rintro e w_7 ⟨rfl, hgC⟩))
  all_goals
    have hB : Below w_6.heap.size w_6 w_7 := (below_undrew hb_w).trans (hgC.below.mono hsA)
    replace HB := Lib.hid (HB.out.trans (hB.mono HB.out.size))
    clear hread hb_w hgC ho_w hO hsA hB q_t0 q_t1 q_t2 q_t3 q_z0 q_z1 q_z2 q_z3
    go_wp2_with fail
    go_ret
    exact ⟨rfl, HB.out⟩
end Go.Proofs.Ytbegfdfdilnjdaa

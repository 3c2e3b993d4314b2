/- The walk of the law FnExactEqualBuilders: it returns true, and writes nothing that was there. -/
import Derived.Test.YtjiogmbiiojhgaaEqC
import Derived.Test.YtjiogmbiiojhgaaRowN
import Derived.Test.YtjiogmbiiojhgaaLawT
import Derived.Test.YtjiogmbiiojhgaaLawA
import Derived.Deep.RegionHeld3
import Derived.Deep.RegionWith
import Derived.Deep.CutRange
namespace Go.Proofs.Ytjiogmbiiojhgaa
open Go.ChangeShapes Go.WideShapes Go.ChangeAt Go.RowKit

set_option maxRecDepth 100000 in
set_option maxHeartbeats 4000000 in
theorem walkEqualBuilders (na_a : Option Addr) (nn_a nc_a : Nat) (oa_a : Option Addr) (on_a oc_a : Nat) (ns_a : List Nv) (zs_a : List Int) (na_b : Option Addr) (nn_b nc_b : Nat) (oa_b : Option Addr) (on_b oc_b : Nat) (ns_b : List Nv) (zs_b : List Int) (w : World) (r_a : IsBd w (.slice na_a nn_a nc_a) (.slice oa_a on_a oc_a) ns_a zs_a) (r_b : IsBd w (.slice na_b nn_b nc_b) (.slice oa_b on_b oc_b) ns_b zs_b) :
    Calls Try.prog 12 #[.agg #[.slice na_a nn_a nc_a, .slice oa_a on_a oc_a], .agg #[.slice na_b nn_b nc_b, .slice oa_b on_b oc_b]] w fun e w' => e = .returned (.bool true) ∧ Below w.heap.size w w' := by
  obtain ⟨⟨hr_a, hok_a⟩, hri_a, _, _, _⟩ := r_a
  have HRN_a := Lib.hid hr_a; have HRI_a := Lib.hid hri_a; have HOK_a := Lib.hid (rwN_small (v := .slice na_a nn_a nc_a) hok_a)
  clear hr_a hok_a hri_a
  obtain ⟨⟨hr_b, hok_b⟩, hri_b, _, _, _⟩ := r_b
  have HRN_b := Lib.hid hr_b; have HRI_b := Lib.hid hri_b; have HOK_b := Lib.hid (rwN_small (v := .slice na_b nn_b nc_b) hok_b)
  clear hr_b hok_b hri_b
  go_enter Try.func12, Try.ntmps12
  go_wp2_with fail
  obtain ⟨w_0, hw_0⟩ : ∃ x, ((w.alloc (.cells #[.slice na_a nn_a nc_a, .slice oa_a on_a oc_a] 55)).alloc (.cells #[.slice na_b nn_b nc_b, .slice oa_b on_b oc_b] 55)) = x := ⟨_, rfl⟩
  rw [hw_0]
  have HB := Lib.hid (show Below w.heap.size w w_0 by rw [← hw_0]; exact (((Below.refl w.heap.size w).alloc (by first | (simp; done) | (simp; omega)) _).alloc (by first | (simp; done) | (simp; omega)) _))
  have q_a0 : w_0.cell? ⟨w.heap.size, 0, none⟩ = some (.slice na_a nn_a nc_a) := by rw [← hw_0]; simp
  have q_a1 : w_0.cell? ⟨w.heap.size, 1, none⟩ = some (.slice oa_a on_a oc_a) := by rw [← hw_0]; simp
  have b_a : w.heap.size < w_0.heap.size := World.block_lt_of_cell? _ _ q_a0
  have q_b0 : w_0.cell? ⟨w.heap.size + 1, 0, none⟩ = some (.slice na_b nn_b nc_b) := by rw [← hw_0]; simp
  have q_b1 : w_0.cell? ⟨w.heap.size + 1, 1, none⟩ = some (.slice oa_b on_b oc_b) := by rw [← hw_0]; simp
  have b_b : w.heap.size + 1 < w_0.heap.size := World.block_lt_of_cell? _ _ q_b0
  have HS0 := Lib.hid (show w.heap.size + 2 ≤ w_0.heap.size by rw [← hw_0]; simp)
  clear hw_0
  go_wp2_with fail
  refine (sz_Builder (rwN (.slice na_a nn_a nc_a) ns_a) (rwI (.slice oa_a on_a oc_a) zs_a) 1048576 (by omega) (by omega) _ (rwN_is _ _) (rwN_reads ((HRN_a.out.below HB.out (Nat.le_refl _)).mono HB.out.size)) HOK_a.out (rwI_is _ _) (rwI_reads.2 ((HRI_a.out.below HB.out (Nat.le_refl _)).mono HB.out.size)) (rwI_small _ _)).mono ?_
  rintro e w_1 ⟨r, rfl, lo_r, hi_r, hg⟩
  have hB := hg.below
  replace q_a0 := (hB.cell (show (⟨w.heap.size, 0, none⟩ : Addr).block < _ from World.block_lt_of_cell? _ _ q_a0)).trans q_a0
  replace q_a1 := (hB.cell (show (⟨w.heap.size, 1, none⟩ : Addr).block < _ from World.block_lt_of_cell? _ _ q_a1)).trans q_a1
  replace b_a : w.heap.size < w_1.heap.size := World.block_lt_of_cell? _ _ q_a0
  replace q_b0 := (hB.cell (show (⟨w.heap.size + 1, 0, none⟩ : Addr).block < _ from World.block_lt_of_cell? _ _ q_b0)).trans q_b0
  replace q_b1 := (hB.cell (show (⟨w.heap.size + 1, 1, none⟩ : Addr).block < _ from World.block_lt_of_cell? _ _ q_b1)).trans q_b1
  replace b_b : w.heap.size + 1 < w_1.heap.size := World.block_lt_of_cell? _ _ q_b0
  have HS1 := Lib.hid hB.size
  replace HB := Lib.hid (HB.out.trans (hB.mono HB.out.size))
  clear hB hg
  by_cases neg_r : r < 0
  · go_wp2_with fail
    go_ret
    exact ⟨rfl, HB.out⟩
  replace hi_r := hi_r (by omega)
  have hu_r : r ≤ 1048576 := by omega
  have HWN_a := Lib.hid (show (rwN (.slice na_a nn_a nc_a) ns_a).weight ≤ 1048576 by omega); have HWI_a := Lib.hid (show (rwI (.slice oa_a on_a oc_a) zs_a).weight ≤ 1048576 by omega)
  clear hi_r
  go_wp2_with fail
  refine (sz_Builder (rwN (.slice na_b nn_b nc_b) ns_b) (rwI (.slice oa_b on_b oc_b) zs_b) r (by omega) (by omega) _ (rwN_is _ _) (rwN_reads ((HRN_b.out.below HB.out (Nat.le_refl _)).mono HB.out.size)) HOK_b.out (rwI_is _ _) (rwI_reads.2 ((HRI_b.out.below HB.out (Nat.le_refl _)).mono HB.out.size)) (rwI_small _ _)).mono ?_
  rintro e w_2 ⟨r2, rfl, lo_r2, hi_r2, hg⟩
  have hB := hg.below
  replace q_a0 := (hB.cell (show (⟨w.heap.size, 0, none⟩ : Addr).block < _ from World.block_lt_of_cell? _ _ q_a0)).trans q_a0
  replace q_a1 := (hB.cell (show (⟨w.heap.size, 1, none⟩ : Addr).block < _ from World.block_lt_of_cell? _ _ q_a1)).trans q_a1
  replace b_a : w.heap.size < w_2.heap.size := World.block_lt_of_cell? _ _ q_a0
  replace q_b0 := (hB.cell (show (⟨w.heap.size + 1, 0, none⟩ : Addr).block < _ from World.block_lt_of_cell? _ _ q_b0)).trans q_b0
  replace q_b1 := (hB.cell (show (⟨w.heap.size + 1, 1, none⟩ : Addr).block < _ from World.block_lt_of_cell? _ _ q_b1)).trans q_b1
  replace b_b : w.heap.size + 1 < w_2.heap.size := World.block_lt_of_cell? _ _ q_b0
  have HS2 := Lib.hid hB.size
  replace HB := Lib.hid (HB.out.trans (hB.mono HB.out.size))
  clear hB hg
  by_cases neg_r2 : r2 < 0
  · go_wp2_with fail
    go_ret
    exact ⟨rfl, HB.out⟩
  replace hi_r2 := hi_r2 (by omega)
  have hu_r2 : r2 ≤ 1048576 := by omega
  have HWN_b := Lib.hid (show (rwN (.slice na_b nn_b nc_b) ns_b).weight ≤ 1048576 by omega); have HWI_b := Lib.hid (show (rwI (.slice oa_b on_b oc_b) zs_b).weight ≤ 1048576 by omega)
  clear hi_r2
  obtain ⟨D, hD⟩ : ∃ D, decide ((⟨ns_a.map Prod.fst, zs_a⟩ : Bd) = ⟨ns_b.map Prod.fst, zs_b⟩) = D := ⟨_, rfl⟩
  have hDD : (D == D) = true := beq_self_eq_true _; have hDN : (D != D) = false := by rw [bne, hDD]; rfl
  go_upto_region 8 with (fail)
  go_cut [6] from 20 to 24 (fun c wx => c = .bool D ∧ Below w_2.heap.size w_2 wx)
  case first =>
    have KEEP := Lib.hid (fun (w' : World) (h : Below w_2.heap.size w_2 w') => show Below w_2.heap.size w_2 w' ∧ w'.cell? ⟨w.heap.size, 0, none⟩ = some (.slice na_a nn_a nc_a) ∧ w'.cell? ⟨w.heap.size, 1, none⟩ = some (.slice oa_a on_a oc_a) ∧ w'.cell? ⟨w.heap.size + 1, 0, none⟩ = some (.slice na_b nn_b nc_b) ∧ w'.cell? ⟨w.heap.size + 1, 1, none⟩ = some (.slice oa_b on_b oc_b) from ⟨h, (h.cell (show (⟨w.heap.size, 0, none⟩ : Addr).block < _ from World.block_lt_of_cell? _ _ q_a0)).trans q_a0, (h.cell (show (⟨w.heap.size, 1, none⟩ : Addr).block < _ from World.block_lt_of_cell? _ _ q_a1)).trans q_a1, (h.cell (show (⟨w.heap.size + 1, 0, none⟩ : Addr).block < _ from World.block_lt_of_cell? _ _ q_b0)).trans q_b0, (h.cell (show (⟨w.heap.size + 1, 1, none⟩ : Addr).block < _ from World.block_lt_of_cell? _ _ q_b1)).trans q_b1⟩)
    have HEQ := Lib.hid (fun (nv ov nv' ov' : Value) (X : World) (h : BdIn X.heap.size X nv ov ⟨ns_a.map Prod.fst, zs_a⟩) (h' : BdIn X.heap.size X nv' ov' ⟨ns_b.map Prod.fst, zs_b⟩) => show Calls Try.prog 48 #[.agg #[nv, ov], .agg #[nv', ov']] X fun e w' => e = .returned (.bool D) ∧ Grw X w' from by rw [← hD]; exact eqB_spec nv ov nv' ov' ⟨ns_a.map Prod.fst, zs_a⟩ ⟨ns_b.map Prod.fst, zs_b⟩ X h h')
    go_region_held3 (fun w' => Below w_2.heap.size w_2 w' ∧ w'.cell? ⟨w.heap.size, 0, none⟩ = some (.slice na_a nn_a nc_a) ∧ w'.cell? ⟨w.heap.size, 1, none⟩ = some (.slice oa_a on_a oc_a) ∧ w'.cell? ⟨w.heap.size + 1, 0, none⟩ = some (.slice na_b nn_b nc_b) ∧ w'.cell? ⟨w.heap.size + 1, 1, none⟩ = some (.slice oa_b on_b oc_b)) (exact KEEP.out _ (by repeat' (first | (with_reducible exact Below.refl _ _) | (with_reducible exact hPE) | (with_reducible exact hPC) | (with_reducible exact hPB) | (with_reducible refine bl_dr ?_) | (with_reducible refine bl_al ?_ _)))) (first | (go_at_call 38; with_reducible refine (tb_any HRN_a.out HRI_a.out HWN_a.out HWI_a.out (bl_via HB.out HB.out.size (by repeat' (first | (with_reducible exact Below.refl _ _) | (with_reducible exact hPC) | (with_reducible exact hPB) | (with_reducible refine bl_dr ?_) | (with_reducible refine bl_al ?_ _))))).mono ?_; rintro e wB ⟨naB, nnB, ncB, oaB, onB, ocB, rfl, hiB, hbB⟩; have hPB := bl_tr (show Below w_2.heap.size w_2 _ from (by repeat' (first | (with_reducible exact Below.refl _ _) | (with_reducible exact hPC) | (with_reducible exact hPB) | (with_reducible refine bl_dr ?_) | (with_reducible refine bl_al ?_ _)))) hbB) | (go_at_call 38; with_reducible refine (tb_any HRN_b.out HRI_b.out HWN_b.out HWI_b.out (bl_via HB.out HB.out.size (by repeat' (first | (with_reducible exact Below.refl _ _) | (with_reducible exact hPC) | (with_reducible exact hPB) | (with_reducible refine bl_dr ?_) | (with_reducible refine bl_al ?_ _))))).mono ?_; rintro e wC ⟨naC, nnC, ncC, oaC, onC, ocC, rfl, hiC, hbC⟩; have hPC := bl_tr (show Below w_2.heap.size w_2 _ from (by repeat' (first | (with_reducible exact Below.refl _ _) | (with_reducible exact hPC) | (with_reducible exact hPB) | (with_reducible refine bl_dr ?_) | (with_reducible refine bl_al ?_ _)))) hbC; have hBC := bl_tr (show Below wB.heap.size wB _ from (by repeat' (first | (with_reducible exact Below.refl _ _) | (with_reducible refine bl_dr ?_) | (with_reducible refine bl_al ?_ _)))) hbC) | (go_at_call 48; refine (HEQ.out _ _ _ _ _ (hiB.up (by repeat' (first | (with_reducible exact Below.refl _ _) | (with_reducible exact hBC) | (with_reducible refine bl_dr ?_) | (with_reducible refine bl_al ?_ _)))) (hiC.up (by repeat' (first | (with_reducible exact Below.refl _ _) | (with_reducible refine bl_dr ?_) | (with_reducible refine bl_al ?_ _))))).mono ?_; rintro e wE ⟨rfl, hgE⟩; have hPE := bl_tr (show Below w_2.heap.size w_2 _ from (by repeat' (first | (with_reducible exact Below.refl _ _) | (with_reducible exact hPC) | (with_reducible exact hPB) | (with_reducible refine bl_dr ?_) | (with_reducible refine bl_al ?_ _)))) hgE.below))
    all_goals
      go_wp2_with fail
      go_meet
      exact ⟨rfl, by repeat' (first | (with_reducible exact Below.refl _ _) | (with_reducible exact hPE) | (with_reducible exact hPC) | (with_reducible exact hPB) | (with_reducible refine bl_dr ?_) | (with_reducible refine bl_al ?_ _))⟩
  obtain ⟨rfl, hB⟩ := hcut
  rename World => w_3
  replace q_a0 := (hB.cell (show (⟨w.heap.size, 0, none⟩ : Addr).block < _ from World.block_lt_of_cell? _ _ q_a0)).trans q_a0
  replace q_a1 := (hB.cell (show (⟨w.heap.size, 1, none⟩ : Addr).block < _ from World.block_lt_of_cell? _ _ q_a1)).trans q_a1
  replace b_a : w.heap.size < w_3.heap.size := World.block_lt_of_cell? _ _ q_a0
  replace q_b0 := (hB.cell (show (⟨w.heap.size + 1, 0, none⟩ : Addr).block < _ from World.block_lt_of_cell? _ _ q_b0)).trans q_b0
  replace q_b1 := (hB.cell (show (⟨w.heap.size + 1, 1, none⟩ : Addr).block < _ from World.block_lt_of_cell? _ _ q_b1)).trans q_b1
  replace b_b : w.heap.size + 1 < w_3.heap.size := World.block_lt_of_cell? _ _ q_b0
  have HS3 := Lib.hid hB.size
  replace HB := Lib.hid (HB.out.trans (hB.mono HB.out.size))
  clear hB
  go_wp2_with fail
  refine (toL_Builder (rwN (.slice na_a nn_a nc_a) ns_a) (rwI (.slice oa_a on_a oc_a) zs_a) _ (rwN_is _ _) (rwN_reads ((HRN_a.out.below HB.out (Nat.le_refl _)).mono HB.out.size)) (by have := HWN_a.out; omega) (rwI_is _ _) (rwI_reads.2 ((HRI_a.out.below HB.out (Nat.le_refl _)).mono HB.out.size)) (by have := HWI_a.out; omega)).mono ?_
  rintro e w_4 ⟨y0_u, y1_u, rfl, i0_u, d0_u, i1_u, d1_u, ho, hn, hb⟩
  have hB := hb
  replace q_a0 := (hB.cell (show (⟨w.heap.size, 0, none⟩ : Addr).block < _ from World.block_lt_of_cell? _ _ q_a0)).trans q_a0
  replace q_a1 := (hB.cell (show (⟨w.heap.size, 1, none⟩ : Addr).block < _ from World.block_lt_of_cell? _ _ q_a1)).trans q_a1
  replace b_a : w.heap.size < w_4.heap.size := World.block_lt_of_cell? _ _ q_a0
  replace q_b0 := (hB.cell (show (⟨w.heap.size + 1, 0, none⟩ : Addr).block < _ from World.block_lt_of_cell? _ _ q_b0)).trans q_b0
  replace q_b1 := (hB.cell (show (⟨w.heap.size + 1, 1, none⟩ : Addr).block < _ from World.block_lt_of_cell? _ _ q_b1)).trans q_b1
  replace b_b : w.heap.size + 1 < w_4.heap.size := World.block_lt_of_cell? _ _ q_b0
  have Hu := Lib.hid (ho)
  have HS4 := Lib.hid hB.size
  replace HB := Lib.hid (HB.out.trans (hB.mono HB.out.size))
  have HI0_u := Lib.hid i0_u; have HI1_u := Lib.hid i1_u; have HD0_u := Lib.hid d0_u; have HD1_u := Lib.hid d1_u; have HN_u := Lib.hid hn
  have hbi := bdIn_of d0_u i1_u d1_u ho
  obtain ⟨na_u, nn_u, nc_u, e0_u⟩ := sl_form (is_sl_NodeS i0_u) (Rw.OwnR.reads _ (ownL_two.1 ho).1)
  obtain ⟨oa_u, on_u, oc_u, e1_u⟩ := sl_form (is_sl_IntS i1_u) (Rw.OwnR.reads _ (ownL_two.1 ho).2)
  rw [e0_u, e1_u] at hbi; rw [e0_u, e1_u]
  have HBD_u := Lib.hid hbi; have HE0_u := Lib.hid e0_u; have HE1_u := Lib.hid e1_u
  clear hB ho hn hb hbi i0_u i1_u d0_u d1_u e0_u e1_u
  go_wp2_with fail
  obtain ⟨w_5, hw⟩ : ∃ x, w_4.alloc (.cells #[.slice na_u nn_u nc_u, .slice oa_u on_u oc_u] 27) = x := ⟨_, rfl⟩
  rw [hw]
  have hB : Below w_4.heap.size w_4 w_5 := by rw [← hw]; exact (Below.refl _ _).alloc (Nat.le_refl _) _
  have q_u0 : w_5.cell? ⟨w_4.heap.size, 0, none⟩ = some (.slice na_u nn_u nc_u) := by rw [← hw]; simp
  have q_u1 : w_5.cell? ⟨w_4.heap.size, 1, none⟩ = some (.slice oa_u on_u oc_u) := by rw [← hw]; simp
  have b_u : w_4.heap.size < w_5.heap.size := World.block_lt_of_cell? _ _ q_u0
  replace q_a0 := (hB.cell (show (⟨w.heap.size, 0, none⟩ : Addr).block < _ from World.block_lt_of_cell? _ _ q_a0)).trans q_a0
  replace q_a1 := (hB.cell (show (⟨w.heap.size, 1, none⟩ : Addr).block < _ from World.block_lt_of_cell? _ _ q_a1)).trans q_a1
  replace b_a : w.heap.size < w_5.heap.size := World.block_lt_of_cell? _ _ q_a0
  replace q_b0 := (hB.cell (show (⟨w.heap.size + 1, 0, none⟩ : Addr).block < _ from World.block_lt_of_cell? _ _ q_b0)).trans q_b0
  replace q_b1 := (hB.cell (show (⟨w.heap.size + 1, 1, none⟩ : Addr).block < _ from World.block_lt_of_cell? _ _ q_b1)).trans q_b1
  replace b_b : w.heap.size + 1 < w_5.heap.size := World.block_lt_of_cell? _ _ q_b0
  replace Hu := Lib.hid (ownL_later Hu.out hB)
  have HS5 := Lib.hid hB.size
  replace HB := Lib.hid (HB.out.trans (hB.mono HB.out.size))
  clear hB hw
  have HSb_u := Lib.hid b_u
  go_wp2_with fail
  refine (toL_Builder (rwN (.slice na_b nn_b nc_b) ns_b) (rwI (.slice oa_b on_b oc_b) zs_b) _ (rwN_is _ _) (rwN_reads ((HRN_b.out.below HB.out (Nat.le_refl _)).mono HB.out.size)) (by have := HWN_b.out; omega) (rwI_is _ _) (rwI_reads.2 ((HRI_b.out.below HB.out (Nat.le_refl _)).mono HB.out.size)) (by have := HWI_b.out; omega)).mono ?_
  rintro e w_6 ⟨y0_v, y1_v, rfl, i0_v, d0_v, i1_v, d1_v, ho, hn, hb⟩
  have hB := hb
  replace q_a0 := (hB.cell (show (⟨w.heap.size, 0, none⟩ : Addr).block < _ from World.block_lt_of_cell? _ _ q_a0)).trans q_a0
  replace q_a1 := (hB.cell (show (⟨w.heap.size, 1, none⟩ : Addr).block < _ from World.block_lt_of_cell? _ _ q_a1)).trans q_a1
  replace b_a : w.heap.size < w_6.heap.size := World.block_lt_of_cell? _ _ q_a0
  replace q_b0 := (hB.cell (show (⟨w.heap.size + 1, 0, none⟩ : Addr).block < _ from World.block_lt_of_cell? _ _ q_b0)).trans q_b0
  replace q_b1 := (hB.cell (show (⟨w.heap.size + 1, 1, none⟩ : Addr).block < _ from World.block_lt_of_cell? _ _ q_b1)).trans q_b1
  replace b_b : w.heap.size + 1 < w_6.heap.size := World.block_lt_of_cell? _ _ q_b0
  replace q_u0 := (hB.cell (show (⟨w_4.heap.size, 0, none⟩ : Addr).block < _ from World.block_lt_of_cell? _ _ q_u0)).trans q_u0
  replace q_u1 := (hB.cell (show (⟨w_4.heap.size, 1, none⟩ : Addr).block < _ from World.block_lt_of_cell? _ _ q_u1)).trans q_u1
  replace b_u : w_4.heap.size < w_6.heap.size := World.block_lt_of_cell? _ _ q_u0
  replace Hu := Lib.hid (ownL_later Hu.out hB)
  have Hv := Lib.hid (ho)
  have HS6 := Lib.hid hB.size
  replace HB := Lib.hid (HB.out.trans (hB.mono HB.out.size))
  have HI0_v := Lib.hid i0_v; have HI1_v := Lib.hid i1_v; have HD0_v := Lib.hid d0_v; have HD1_v := Lib.hid d1_v; have HN_v := Lib.hid hn
  have hbi := bdIn_of d0_v i1_v d1_v ho
  obtain ⟨na_v, nn_v, nc_v, e0_v⟩ := sl_form (is_sl_NodeS i0_v) (Rw.OwnR.reads _ (ownL_two.1 ho).1)
  obtain ⟨oa_v, on_v, oc_v, e1_v⟩ := sl_form (is_sl_IntS i1_v) (Rw.OwnR.reads _ (ownL_two.1 ho).2)
  rw [e0_v, e1_v] at hbi; rw [e0_v, e1_v]
  have HBD_v := Lib.hid hbi; have HE0_v := Lib.hid e0_v; have HE1_v := Lib.hid e1_v
  clear hB ho hn hb hbi i0_v i1_v d0_v d1_v e0_v e1_v
  go_wp2_with fail
  obtain ⟨w_7, hw⟩ : ∃ x, w_6.alloc (.cells #[.slice na_v nn_v nc_v, .slice oa_v on_v oc_v] 27) = x := ⟨_, rfl⟩
  rw [hw]
  have hB : Below w_6.heap.size w_6 w_7 := by rw [← hw]; exact (Below.refl _ _).alloc (Nat.le_refl _) _
  have q_v0 : w_7.cell? ⟨w_6.heap.size, 0, none⟩ = some (.slice na_v nn_v nc_v) := by rw [← hw]; simp
  have q_v1 : w_7.cell? ⟨w_6.heap.size, 1, none⟩ = some (.slice oa_v on_v oc_v) := by rw [← hw]; simp
  have b_v : w_6.heap.size < w_7.heap.size := World.block_lt_of_cell? _ _ q_v0
  replace q_a0 := (hB.cell (show (⟨w.heap.size, 0, none⟩ : Addr).block < _ from World.block_lt_of_cell? _ _ q_a0)).trans q_a0
  replace q_a1 := (hB.cell (show (⟨w.heap.size, 1, none⟩ : Addr).block < _ from World.block_lt_of_cell? _ _ q_a1)).trans q_a1
  replace b_a : w.heap.size < w_7.heap.size := World.block_lt_of_cell? _ _ q_a0
  replace q_b0 := (hB.cell (show (⟨w.heap.size + 1, 0, none⟩ : Addr).block < _ from World.block_lt_of_cell? _ _ q_b0)).trans q_b0
  replace q_b1 := (hB.cell (show (⟨w.heap.size + 1, 1, none⟩ : Addr).block < _ from World.block_lt_of_cell? _ _ q_b1)).trans q_b1
  replace b_b : w.heap.size + 1 < w_7.heap.size := World.block_lt_of_cell? _ _ q_b0
  replace q_u0 := (hB.cell (show (⟨w_4.heap.size, 0, none⟩ : Addr).block < _ from World.block_lt_of_cell? _ _ q_u0)).trans q_u0
  replace q_u1 := (hB.cell (show (⟨w_4.heap.size, 1, none⟩ : Addr).block < _ from World.block_lt_of_cell? _ _ q_u1)).trans q_u1
  replace b_u : w_4.heap.size < w_7.heap.size := World.block_lt_of_cell? _ _ q_u0
  replace Hu := Lib.hid (ownL_later Hu.out hB)
  replace Hv := Lib.hid (ownL_later Hv.out hB)
  have HS7 := Lib.hid hB.size
  replace HB := Lib.hid (HB.out.trans (hB.mono HB.out.size))
  clear hB hw
  have HSb_v := Lib.hid b_v
  have HEI := Lib.hid (show Calls Try.prog 17 #[.agg #[.slice na_u nn_u nc_u, .slice oa_u on_u oc_u], .agg #[.slice na_v nn_v nc_v, .slice oa_v on_v oc_v]] w_7 fun e w' => e = .returned (.bool D) ∧ Grw w_7 w' from by rw [← hD]; exact eqB_impl _ _ _ _ ⟨ns_a.map Prod.fst, zs_a⟩ ⟨ns_b.map Prod.fst, zs_b⟩ _ (ownBd HD0_u.out HI1_u.out HD1_u.out HE0_u.out HE1_u.out Hu.out) (ownBd HD0_v.out HI1_v.out HD1_v.out HE0_v.out HE1_v.out Hv.out))
  go_wp2_with fail
  refine (HEI.out).mono ?_
  rintro e w_8 ⟨rfl, hg⟩
  have hB := hg.below
  replace q_a0 := (hB.cell (show (⟨w.heap.size, 0, none⟩ : Addr).block < _ from World.block_lt_of_cell? _ _ q_a0)).trans q_a0
  replace q_a1 := (hB.cell (show (⟨w.heap.size, 1, none⟩ : Addr).block < _ from World.block_lt_of_cell? _ _ q_a1)).trans q_a1
  replace b_a : w.heap.size < w_8.heap.size := World.block_lt_of_cell? _ _ q_a0
  replace q_b0 := (hB.cell (show (⟨w.heap.size + 1, 0, none⟩ : Addr).block < _ from World.block_lt_of_cell? _ _ q_b0)).trans q_b0
  replace q_b1 := (hB.cell (show (⟨w.heap.size + 1, 1, none⟩ : Addr).block < _ from World.block_lt_of_cell? _ _ q_b1)).trans q_b1
  replace b_b : w.heap.size + 1 < w_8.heap.size := World.block_lt_of_cell? _ _ q_b0
  replace q_u0 := (hB.cell (show (⟨w_4.heap.size, 0, none⟩ : Addr).block < _ from World.block_lt_of_cell? _ _ q_u0)).trans q_u0
  replace q_u1 := (hB.cell (show (⟨w_4.heap.size, 1, none⟩ : Addr).block < _ from World.block_lt_of_cell? _ _ q_u1)).trans q_u1
  replace b_u : w_4.heap.size < w_8.heap.size := World.block_lt_of_cell? _ _ q_u0
  replace q_v0 := (hB.cell (show (⟨w_6.heap.size, 0, none⟩ : Addr).block < _ from World.block_lt_of_cell? _ _ q_v0)).trans q_v0
  replace q_v1 := (hB.cell (show (⟨w_6.heap.size, 1, none⟩ : Addr).block < _ from World.block_lt_of_cell? _ _ q_v1)).trans q_v1
  replace b_v : w_6.heap.size < w_8.heap.size := World.block_lt_of_cell? _ _ q_v0
  replace Hu := Lib.hid (ownL_later Hu.out hB)
  replace Hv := Lib.hid (ownL_later Hv.out hB)
  have HS8 := Lib.hid hB.size
  replace HB := Lib.hid (HB.out.trans (hB.mono HB.out.size))
  clear hB hg HEI
  go_upto_region 14 with (fail)
  go_cut [39] from 35 to 39 (fun c wx => c = .bool false ∧ Below w_8.heap.size w_8 wx)
  case first =>
    have hreadN := (rwN_reads ((HRN_a.out.below HB.out (Nat.le_refl _)).mono HB.out.size)).up (Grw.refl _).drew; have hreadI := (rwI_reads.2 ((HRI_a.out.below HB.out (Nat.le_refl _)).mono HB.out.size)).up (Grw.refl _).drew
    go_region_with (first | (go_at_call 38; refine (toL_Builder (rwN (.slice na_a nn_a nc_a) ns_a) (rwI (.slice oa_a on_a oc_a) zs_a) _ (rwN_is _ _) ?_ (by have := HWN_a.out; omega) (rwI_is _ _) ?_ (by have := HWI_a.out; omega)).mono ?_; (exact hreadN); (exact hreadI); rintro e w_A ⟨y0_w, y1_w, rfl, i0_w, d0_w, i1_w, d1_w, ho_w, hn_w, hb_w⟩; obtain ⟨na_w, nn_w, nc_w, e0_w⟩ := sl_form (is_sl_NodeS i0_w) (Rw.OwnR.reads _ (ownL_two.1 ho_w).1); obtain ⟨oa_w, on_w, oc_w, e1_w⟩ := sl_form (is_sl_IntS i1_w) (Rw.OwnR.reads _ (ownL_two.1 ho_w).2); rw [e0_w, e1_w]; have hO := ownL_later Hu.out (below_undrew hb_w); have hsA := (below_undrew hb_w).size; (first | have qA_a0 := (hb_w.cell (p := ⟨w.heap.size, 0, none⟩) b_a).trans q_a0 | skip); (first | have qA_a1 := (hb_w.cell (p := ⟨w.heap.size, 1, none⟩) b_a).trans q_a1 | skip); (first | have qA_b0 := (hb_w.cell (p := ⟨w.heap.size + 1, 0, none⟩) b_b).trans q_b0 | skip); (first | have qA_b1 := (hb_w.cell (p := ⟨w.heap.size + 1, 1, none⟩) b_b).trans q_b1 | skip); (first | have qA_u0 := (hb_w.cell (p := ⟨w_4.heap.size, 0, none⟩) b_u).trans q_u0 | skip); (first | have qA_u1 := (hb_w.cell (p := ⟨w_4.heap.size, 1, none⟩) b_u).trans q_u1 | skip); (first | have qA_v0 := (hb_w.cell (p := ⟨w_6.heap.size, 0, none⟩) b_v).trans q_v0 | skip); (first | have qA_v1 := (hb_w.cell (p := ⟨w_6.heap.size, 1, none⟩) b_v).trans q_v1 | skip)) | (go_at_call 33; refine (eqV_Builder y0_u y0_w y1_u y1_w _ _ _ _ HE0_u.out e0_w HE1_u.out e1_w _ HI0_u.out i0_w (HD0_u.out.trans d0_w.symm) (rdL1 hO) (rdL1 ho_w) HI1_u.out i1_w (HD1_u.out.trans d1_w.symm) (rdL2 hO) (rdL2 ho_w)).mono ?_; rintro e w_C ⟨rfl, hgC⟩))
    all_goals
      have hB := (below_undrew hb_w).trans (hgC.below.mono hsA)
      go_wp2_with fail
      go_meet
      exact ⟨rfl, hB⟩
  obtain ⟨rfl, hB⟩ := hcut
  rename World => w_9
  replace q_a0 := (hB.cell (show (⟨w.heap.size, 0, none⟩ : Addr).block < _ from World.block_lt_of_cell? _ _ q_a0)).trans q_a0
  replace q_a1 := (hB.cell (show (⟨w.heap.size, 1, none⟩ : Addr).block < _ from World.block_lt_of_cell? _ _ q_a1)).trans q_a1
  replace b_a : w.heap.size < w_9.heap.size := World.block_lt_of_cell? _ _ q_a0
  replace q_b0 := (hB.cell (show (⟨w.heap.size + 1, 0, none⟩ : Addr).block < _ from World.block_lt_of_cell? _ _ q_b0)).trans q_b0
  replace q_b1 := (hB.cell (show (⟨w.heap.size + 1, 1, none⟩ : Addr).block < _ from World.block_lt_of_cell? _ _ q_b1)).trans q_b1
  replace b_b : w.heap.size + 1 < w_9.heap.size := World.block_lt_of_cell? _ _ q_b0
  replace q_u0 := (hB.cell (show (⟨w_4.heap.size, 0, none⟩ : Addr).block < _ from World.block_lt_of_cell? _ _ q_u0)).trans q_u0
  replace q_u1 := (hB.cell (show (⟨w_4.heap.size, 1, none⟩ : Addr).block < _ from World.block_lt_of_cell? _ _ q_u1)).trans q_u1
  replace b_u : w_4.heap.size < w_9.heap.size := World.block_lt_of_cell? _ _ q_u0
  replace q_v0 := (hB.cell (show (⟨w_6.heap.size, 0, none⟩ : Addr).block < _ from World.block_lt_of_cell? _ _ q_v0)).trans q_v0
  replace q_v1 := (hB.cell (show (⟨w_6.heap.size, 1, none⟩ : Addr).block < _ from World.block_lt_of_cell? _ _ q_v1)).trans q_v1
  replace b_v : w_6.heap.size < w_9.heap.size := World.block_lt_of_cell? _ _ q_v0
  replace Hu := Lib.hid (ownL_later Hu.out hB)
  replace Hv := Lib.hid (ownL_later Hv.out hB)
  have HS9 := Lib.hid hB.size
  replace HB := Lib.hid (HB.out.trans (hB.mono HB.out.size))
  clear hB
  go_upto_region 16 with (fail)
  go_cut [44] from 40 to 44 (fun c wx => c = .bool false ∧ Below w_9.heap.size w_9 wx)
  case first =>
    have hreadN := (rwN_reads ((HRN_b.out.below HB.out (Nat.le_refl _)).mono HB.out.size)).up (Grw.refl _).drew; have hreadI := (rwI_reads.2 ((HRI_b.out.below HB.out (Nat.le_refl _)).mono HB.out.size)).up (Grw.refl _).drew
    go_region_with (first | (go_at_call 38; refine (toL_Builder (rwN (.slice na_b nn_b nc_b) ns_b) (rwI (.slice oa_b on_b oc_b) zs_b) _ (rwN_is _ _) ?_ (by have := HWN_b.out; omega) (rwI_is _ _) ?_ (by have := HWI_b.out; omega)).mono ?_; (exact hreadN); (exact hreadI); rintro e w_A ⟨y0_w, y1_w, rfl, i0_w, d0_w, i1_w, d1_w, ho_w, hn_w, hb_w⟩; obtain ⟨na_w, nn_w, nc_w, e0_w⟩ := sl_form (is_sl_NodeS i0_w) (Rw.OwnR.reads _ (ownL_two.1 ho_w).1); obtain ⟨oa_w, on_w, oc_w, e1_w⟩ := sl_form (is_sl_IntS i1_w) (Rw.OwnR.reads _ (ownL_two.1 ho_w).2); rw [e0_w, e1_w]; have hO := ownL_later Hv.out (below_undrew hb_w); have hsA := (below_undrew hb_w).size; (first | have qA_a0 := (hb_w.cell (p := ⟨w.heap.size, 0, none⟩) b_a).trans q_a0 | skip); (first | have qA_a1 := (hb_w.cell (p := ⟨w.heap.size, 1, none⟩) b_a).trans q_a1 | skip); (first | have qA_b0 := (hb_w.cell (p := ⟨w.heap.size + 1, 0, none⟩) b_b).trans q_b0 | skip); (first | have qA_b1 := (hb_w.cell (p := ⟨w.heap.size + 1, 1, none⟩) b_b).trans q_b1 | skip); (first | have qA_u0 := (hb_w.cell (p := ⟨w_4.heap.size, 0, none⟩) b_u).trans q_u0 | skip); (first | have qA_u1 := (hb_w.cell (p := ⟨w_4.heap.size, 1, none⟩) b_u).trans q_u1 | skip); (first | have qA_v0 := (hb_w.cell (p := ⟨w_6.heap.size, 0, none⟩) b_v).trans q_v0 | skip); (first | have qA_v1 := (hb_w.cell (p := ⟨w_6.heap.size, 1, none⟩) b_v).trans q_v1 | skip)) | (go_at_call 33; refine (eqV_Builder y0_v y0_w y1_v y1_w _ _ _ _ HE0_v.out e0_w HE1_v.out e1_w _ HI0_v.out i0_w (HD0_v.out.trans d0_w.symm) (rdL1 hO) (rdL1 ho_w) HI1_v.out i1_w (HD1_v.out.trans d1_w.symm) (rdL2 hO) (rdL2 ho_w)).mono ?_; rintro e w_C ⟨rfl, hgC⟩))
    all_goals
      have hB := (below_undrew hb_w).trans (hgC.below.mono hsA)
      go_wp2_with fail
      go_meet
      exact ⟨rfl, hB⟩
  obtain ⟨rfl, hB⟩ := hcut
  rename World => w_10
  replace q_a0 := (hB.cell (show (⟨w.heap.size, 0, none⟩ : Addr).block < _ from World.block_lt_of_cell? _ _ q_a0)).trans q_a0
  replace q_a1 := (hB.cell (show (⟨w.heap.size, 1, none⟩ : Addr).block < _ from World.block_lt_of_cell? _ _ q_a1)).trans q_a1
  replace b_a : w.heap.size < w_10.heap.size := World.block_lt_of_cell? _ _ q_a0
  replace q_b0 := (hB.cell (show (⟨w.heap.size + 1, 0, none⟩ : Addr).block < _ from World.block_lt_of_cell? _ _ q_b0)).trans q_b0
  replace q_b1 := (hB.cell (show (⟨w.heap.size + 1, 1, none⟩ : Addr).block < _ from World.block_lt_of_cell? _ _ q_b1)).trans q_b1
  replace b_b : w.heap.size + 1 < w_10.heap.size := World.block_lt_of_cell? _ _ q_b0
  replace q_u0 := (hB.cell (show (⟨w_4.heap.size, 0, none⟩ : Addr).block < _ from World.block_lt_of_cell? _ _ q_u0)).trans q_u0
  replace q_u1 := (hB.cell (show (⟨w_4.heap.size, 1, none⟩ : Addr).block < _ from World.block_lt_of_cell? _ _ q_u1)).trans q_u1
  replace b_u : w_4.heap.size < w_10.heap.size := World.block_lt_of_cell? _ _ q_u0
  replace q_v0 := (hB.cell (show (⟨w_6.heap.size, 0, none⟩ : Addr).block < _ from World.block_lt_of_cell? _ _ q_v0)).trans q_v0
  replace q_v1 := (hB.cell (show (⟨w_6.heap.size, 1, none⟩ : Addr).block < _ from World.block_lt_of_cell? _ _ q_v1)).trans q_v1
  replace b_v : w_6.heap.size < w_10.heap.size := World.block_lt_of_cell? _ _ q_v0
  replace Hu := Lib.hid (ownL_later Hu.out hB)
  replace Hv := Lib.hid (ownL_later Hv.out hB)
  have HS10 := Lib.hid hB.size
  replace HB := Lib.hid (HB.out.trans (hB.mono HB.out.size))
  clear hB
  go_wp2_with fail
  go_ret
  exact ⟨rfl, HB.out⟩
end Go.Proofs.Ytjiogmbiiojhgaa

/- The walk of the law FnExactRunLine: it returns true, and writes nothing that was there. -/
import Derived.Test.YtpkicliimhflgaaGreatDoorMf19
import Derived.Deep.RegionHeld3
import Derived.Deep.RegionWith
import Derived.Deep.CutRange
namespace Go.Proofs.YtpkicliimhflgaaGreatDoor

open Go.ChangeShapes Go.WideShapes Go.ChangeAt Go.RowKit

set_option maxRecDepth 100000 in
set_option maxHeartbeats 4000000 in
theorem walkRunLine (na_b : Option Addr) (nn_b nc_b : Nat) (oa_b : Option Addr) (on_b oc_b : Nat) (ns_b : List Nv) (zs_b : List Int) (ha_l : Option Addr) (hn_l hc_l : Nat) (ss_l : List Shv) (op_x : Int) (tx_x : ByteArray) (w : World) (hmx : Max0 w) (htab : Lib.TabIs Tryz.prog w "internal/strconv.uint64pow10" .u64 Lib.pow10Tab) (r_b : IsBd w (.slice na_b nn_b nc_b) (.slice oa_b on_b oc_b) ns_b zs_b) (r_l : IsShs w (.slice ha_l hn_l hc_l) ss_l) (r_x : LnOk (op_x, tx_x)) :
    Calls Tryz.prog 5 #[.agg #[.slice na_b nn_b nc_b, .slice oa_b on_b oc_b], .slice ha_l hn_l hc_l, .agg #[.int .i64 op_x, .string tx_x]] w fun e w' => e = .returned (.bool true) ∧ Below w.heap.size w w' := by
  have HMX := Lib.hid hmx; have HTB := Lib.hid (Lib.tabBelow_of_tabIs htab); clear hmx htab
  obtain ⟨hxz, hx1, hx2⟩ := r_x; replace hxz : tx_x.size ≤ 9223372036854775807 := hxz
  clear hx1 hx2
  obtain ⟨⟨hr_b, hok_b⟩, hri_b, _, _, _⟩ := r_b
  have HRN_b := Lib.hid hr_b; have HRI_b := Lib.hid hri_b; have HOK_b := Lib.hid (rwN_small (v := .slice na_b nn_b nc_b) hok_b)
  clear hr_b hok_b hri_b
  obtain ⟨hrh_l, hoh_l⟩ := r_l
  have HRH_l := Lib.hid hrh_l; have HOH_l := Lib.hid hoh_l; have HSM_l := Lib.hid (rwH_small (v := .slice ha_l hn_l hc_l) hoh_l); clear hrh_l hoh_l
  go_enter Tryz.func5, Tryz.ntmps5
  go_wp2_with fail
  obtain ⟨w_0, hw_0⟩ : ∃ x, ((w.alloc (.cells #[.slice na_b nn_b nc_b, .slice oa_b on_b oc_b] 59)).alloc (.cells #[.int .i64 op_x, .string tx_x] 61)) = x := ⟨_, rfl⟩
  rw [hw_0]
  have HB := Lib.hid (show Below w.heap.size w w_0 by rw [← hw_0]; exact (((Below.refl w.heap.size w).alloc (by first | (simp; done) | (simp; omega)) _).alloc (by first | (simp; done) | (simp; omega)) _))
  have q_b0 : w_0.cell? ⟨w.heap.size, 0, none⟩ = some (.slice na_b nn_b nc_b) := by rw [← hw_0]; simp
  have q_b1 : w_0.cell? ⟨w.heap.size, 1, none⟩ = some (.slice oa_b on_b oc_b) := by rw [← hw_0]; simp
  have b_b : w.heap.size < w_0.heap.size := World.block_lt_of_cell? _ _ q_b0
  have q_x0 : w_0.cell? ⟨w.heap.size + 1, 0, none⟩ = some (.int .i64 op_x) := by rw [← hw_0]; simp
  have q_x1 : w_0.cell? ⟨w.heap.size + 1, 1, none⟩ = some (.string tx_x) := by rw [← hw_0]; simp
  have b_x : w.heap.size + 1 < w_0.heap.size := World.block_lt_of_cell? _ _ q_x0
  have HS0 := Lib.hid (show w.heap.size + 2 ≤ w_0.heap.size by rw [← hw_0]; simp)
  clear hw_0
  go_wp2_with fail
  refine (sz_Builder (rwN (.slice na_b nn_b nc_b) ns_b) (rwI (.slice oa_b on_b oc_b) zs_b) 1048576 (by omega) (by omega) _ (rwN_is _ _) (rwN_reads ((HRN_b.out.below HB.out (Nat.le_refl _)).mono HB.out.size)) HOK_b.out (rwI_is _ _) (rwI_reads.2 ((HRI_b.out.below HB.out (Nat.le_refl _)).mono HB.out.size)) (rwI_small _ _)).mono ?_
  rintro e w_1 ⟨r, rfl, lo_r, hi_r, hg⟩
  have hB := hg.below
  replace q_b0 := (hB.cell (show (⟨w.heap.size, 0, none⟩ : Addr).block < _ from World.block_lt_of_cell? _ _ q_b0)).trans q_b0
  replace q_b1 := (hB.cell (show (⟨w.heap.size, 1, none⟩ : Addr).block < _ from World.block_lt_of_cell? _ _ q_b1)).trans q_b1
  replace b_b : w.heap.size < w_1.heap.size := World.block_lt_of_cell? _ _ q_b0
  replace q_x0 := (hB.cell (show (⟨w.heap.size + 1, 0, none⟩ : Addr).block < _ from World.block_lt_of_cell? _ _ q_x0)).trans q_x0
  replace q_x1 := (hB.cell (show (⟨w.heap.size + 1, 1, none⟩ : Addr).block < _ from World.block_lt_of_cell? _ _ q_x1)).trans q_x1
  replace b_x : w.heap.size + 1 < w_1.heap.size := World.block_lt_of_cell? _ _ q_x0
  have HS1 := Lib.hid hB.size
  replace HB := Lib.hid (HB.out.trans (hB.mono HB.out.size))
  clear hB hg
  by_cases neg_r : r < 0
  · go_wp2_with fail
    go_ret
    exact ⟨rfl, HB.out⟩
  replace hi_r := hi_r (by omega)
  have hu_r : r ≤ 1048576 := by omega
  have HWN_b := Lib.hid (show (rwN (.slice na_b nn_b nc_b) ns_b).weight ≤ 1048576 by omega); have HWI_b := Lib.hid (show (rwI (.slice oa_b on_b oc_b) zs_b).weight ≤ 1048576 by omega)
  clear hi_r
  go_wp2_with fail
  refine (sz_SheetS (rwH (.slice ha_l hn_l hc_l) ss_l) (rwH_is _ _) r (by omega) (by omega) _ (rwH_reads ((HRH_l.out.below HB.out (Nat.le_refl _)).mono HB.out.size)) HSM_l.out).mono ?_
  rintro e w_2 ⟨r2, rfl, lo_r2, hi_r2, hg⟩
  have hB := hg.below
  replace q_b0 := (hB.cell (show (⟨w.heap.size, 0, none⟩ : Addr).block < _ from World.block_lt_of_cell? _ _ q_b0)).trans q_b0
  replace q_b1 := (hB.cell (show (⟨w.heap.size, 1, none⟩ : Addr).block < _ from World.block_lt_of_cell? _ _ q_b1)).trans q_b1
  replace b_b : w.heap.size < w_2.heap.size := World.block_lt_of_cell? _ _ q_b0
  replace q_x0 := (hB.cell (show (⟨w.heap.size + 1, 0, none⟩ : Addr).block < _ from World.block_lt_of_cell? _ _ q_x0)).trans q_x0
  replace q_x1 := (hB.cell (show (⟨w.heap.size + 1, 1, none⟩ : Addr).block < _ from World.block_lt_of_cell? _ _ q_x1)).trans q_x1
  replace b_x : w.heap.size + 1 < w_2.heap.size := World.block_lt_of_cell? _ _ q_x0
  have HS2 := Lib.hid hB.size
  replace HB := Lib.hid (HB.out.trans (hB.mono HB.out.size))
  clear hB hg
  by_cases neg_r2 : r2 < 0
  · go_wp2_with fail
    go_ret
    exact ⟨rfl, HB.out⟩
  replace hi_r2 := hi_r2 (by omega)
  have hu_r2 : r2 ≤ 1048576 := by omega
  have HWH_l := Lib.hid (show (rwH (.slice ha_l hn_l hc_l) ss_l).weight ≤ 1048576 by omega); clear hi_r2
  have HSO_l := Lib.hid (shsOk_of HWH_l.out HOH_l.out)
  go_wp2_with fail
  refine (sz_Line op_x tx_x r2 (by omega) (by omega) _ hxz).mono ?_
  rintro e w_3 ⟨r3, rfl, lo_r3, hi_r3, hg⟩
  have hB := hg.below
  replace q_b0 := (hB.cell (show (⟨w.heap.size, 0, none⟩ : Addr).block < _ from World.block_lt_of_cell? _ _ q_b0)).trans q_b0
  replace q_b1 := (hB.cell (show (⟨w.heap.size, 1, none⟩ : Addr).block < _ from World.block_lt_of_cell? _ _ q_b1)).trans q_b1
  replace b_b : w.heap.size < w_3.heap.size := World.block_lt_of_cell? _ _ q_b0
  replace q_x0 := (hB.cell (show (⟨w.heap.size + 1, 0, none⟩ : Addr).block < _ from World.block_lt_of_cell? _ _ q_x0)).trans q_x0
  replace q_x1 := (hB.cell (show (⟨w.heap.size + 1, 1, none⟩ : Addr).block < _ from World.block_lt_of_cell? _ _ q_x1)).trans q_x1
  replace b_x : w.heap.size + 1 < w_3.heap.size := World.block_lt_of_cell? _ _ q_x0
  have HS3 := Lib.hid hB.size
  replace HB := Lib.hid (HB.out.trans (hB.mono HB.out.size))
  clear hB hg
  by_cases neg_r3 : r3 < 0
  · go_wp2_with fail
    go_ret
    exact ⟨rfl, HB.out⟩
  replace hi_r3 := hi_r3 (by omega)
  have HXZ := Lib.hid (show tx_x.size ≤ 1048576 by omega); clear hi_r3 hxz
  have HFIT := Lib.hid (fits_row HWN_b.out HWI_b.out)
  have HWC := Lib.hid (show ndW (rlN (ns_b.map Prod.fst) op_x tx_x) ≤ 6291456 by
    have h1 := rlN_W (ns_b.map Prod.fst) op_x tx_x; have h2 := (rwN_weight (.slice na_b nn_b nc_b) ns_b).1; have h3 := HWN_b.out; omega)
  have HCB := Lib.hid (show ndW (ns_b.map Prod.fst) ≤ 3145728 ∧ zs_b.length ≤ 1048576 by
    have h2 := (rwN_weight (.slice na_b nn_b nc_b) ns_b).1; have h3 := HWN_b.out; have h4 := HWI_b.out
    rw [rwI_weight] at h4; omega)
  obtain ⟨NOD, hnod⟩ : ∃ x, rlN (⟨ns_b.map Prod.fst, zs_b⟩ : Bd).nodes op_x tx_x = x := ⟨_, rfl⟩; obtain ⟨WRT, hwrt⟩ : ∃ x, wrtS op_x tx_x = x := ⟨_, rfl⟩; obtain ⟨LGD, hlgd⟩ : ∃ x, lgdS (⟨ns_b.map Prod.fst, zs_b⟩ : Bd).nodes (flatR ss_l) op_x tx_x = x := ⟨_, rfl⟩
  have hnod2 : rlN (ns_b.map Prod.fst) op_x tx_x = NOD := hnod; rw [hnod2] at HWC; clear hnod2
  have HNOD := Lib.hid hnod; have HWRT := Lib.hid hwrt; have HLGD := Lib.hid hlgd; clear hnod hwrt hlgd
  have hw1 : (WRT.toList == WRT.toList) = true := beq_self_eq_true _; have hw2 : (WRT.toList != WRT.toList) = false := bne_self_eq_false _; have hl1 : (LGD.toList == LGD.toList) = true := beq_self_eq_true _; have hl2 : (LGD.toList != LGD.toList) = false := bne_self_eq_false _
  go_upto_region 11 with (fail)
  go_cut [8, 9, 10] from 37 to 47 (fun c d f wx => ∃ C na' nn' nc' oa' on' oc' ns', c = .pointer (some ⟨C, 0, none⟩) ∧ d = .string WRT ∧ f = .string LGD ∧ Box2 wx C (.slice na' nn' nc') (.slice oa' on' oc') ∧ ns'.map Prod.fst = NOD ∧ BdM w_3.heap.size w_3 wx (.slice na' nn' nc') (.slice oa' on' oc') ns' zs_b ∧ w_3.heap.size ≤ C)
  case first =>
    have KEEP := Lib.hid (fun (w' : World) (h : Below w_3.heap.size w_3 w') => show Below w_3.heap.size w_3 w' ∧ w'.cell? ⟨w.heap.size, 0, none⟩ = some (.slice na_b nn_b nc_b) ∧ w'.cell? ⟨w.heap.size, 1, none⟩ = some (.slice oa_b on_b oc_b) ∧ w'.cell? ⟨w.heap.size + 1, 0, none⟩ = some (.int .i64 op_x) ∧ w'.cell? ⟨w.heap.size + 1, 1, none⟩ = some (.string tx_x) from ⟨h, (h.cell (show (⟨w.heap.size, 0, none⟩ : Addr).block < _ from World.block_lt_of_cell? _ _ q_b0)).trans q_b0, (h.cell (show (⟨w.heap.size, 1, none⟩ : Addr).block < _ from World.block_lt_of_cell? _ _ q_b1)).trans q_b1, (h.cell (show (⟨w.heap.size + 1, 0, none⟩ : Addr).block < _ from World.block_lt_of_cell? _ _ q_x0)).trans q_x0, (h.cell (show (⟨w.heap.size + 1, 1, none⟩ : Addr).block < _ from World.block_lt_of_cell? _ _ q_x1)).trans q_x1⟩)
    go_region_held3 (fun w' => Below w_3.heap.size w_3 w' ∧ w'.cell? ⟨w.heap.size, 0, none⟩ = some (.slice na_b nn_b nc_b) ∧ w'.cell? ⟨w.heap.size, 1, none⟩ = some (.slice oa_b on_b oc_b) ∧ w'.cell? ⟨w.heap.size + 1, 0, none⟩ = some (.int .i64 op_x) ∧ w'.cell? ⟨w.heap.size + 1, 1, none⟩ = some (.string tx_x)) (exact KEEP.out _ (by repeat' (first | (with_reducible exact Below.refl _ _) | (with_reducible exact hPA) | (with_reducible exact hPL) | (with_reducible exact hPS) | (with_reducible exact hPB) | (with_reducible refine bl_dw ?_) | (with_reducible refine bl_aw ?_ _) | (with_reducible refine bl_st ?_ (by first | omega | (have := hPA.size; omega) | (have := hPL.size; omega) | (have := hPS.size; omega) | (have := hPB.size; omega)) _)))) (first | (go_at_call 27; with_reducible refine (tb_any HRN_b.out HRI_b.out HWN_b.out HWI_b.out (bl_via HB.out HB.out.size (by repeat' (first | (with_reducible exact Below.refl _ _) | (with_reducible exact hPA) | (with_reducible exact hPL) | (with_reducible exact hPS) | (with_reducible exact hPB) | (with_reducible refine bl_dw ?_) | (with_reducible refine bl_aw ?_ _) | (with_reducible refine bl_st ?_ (by first | omega | (have := hPA.size; omega) | (have := hPL.size; omega) | (have := hPS.size; omega) | (have := hPB.size; omega)) _))))).mono ?_; rintro e wB ⟨naB, nnB, ncB, oaB, onB, ocB, rfl, hiB, hbB⟩; have hPB := bl_tr (show Below w_3.heap.size w_3 _ from (by repeat' (first | (with_reducible exact Below.refl _ _) | (with_reducible exact hPA) | (with_reducible exact hPL) | (with_reducible exact hPS) | (with_reducible exact hPB) | (with_reducible refine bl_dw ?_) | (with_reducible refine bl_aw ?_ _) | (with_reducible refine bl_st ?_ (by first | omega | (have := hPA.size; omega) | (have := hPL.size; omega) | (have := hPS.size; omega) | (have := hPB.size; omega)) _)))) hbB) | (go_at_call 28; with_reducible refine (th_any HRH_l.out HWH_l.out (bl_via HB.out HB.out.size (by repeat' (first | (with_reducible exact Below.refl _ _) | (with_reducible exact hPA) | (with_reducible exact hPL) | (with_reducible exact hPS) | (with_reducible exact hPB) | (with_reducible refine bl_dw ?_) | (with_reducible refine bl_aw ?_ _) | (with_reducible refine bl_st ?_ (by first | omega | (have := hPA.size; omega) | (have := hPL.size; omega) | (have := hPS.size; omega) | (have := hPB.size; omega)) _))))).mono ?_; rintro e wS ⟨haS, hnS, hcS, ssS, rfl, heS, hrS, hbS⟩; have hPS := bl_tr (show Below w_3.heap.size w_3 _ from (by repeat' (first | (with_reducible exact Below.refl _ _) | (with_reducible exact hPA) | (with_reducible exact hPL) | (with_reducible exact hPS) | (with_reducible exact hPB) | (with_reducible refine bl_dw ?_) | (with_reducible refine bl_aw ?_ _) | (with_reducible refine bl_st ?_ (by first | omega | (have := hPA.size; omega) | (have := hPL.size; omega) | (have := hPS.size; omega) | (have := hPB.size; omega)) _)))) hbS; have hBS := bl_tr (show Below wB.heap.size wB _ from (by repeat' (first | (with_reducible exact Below.refl _ _) | (with_reducible refine bl_dw ?_) | (with_reducible refine bl_aw ?_ _)))) hbS) | (go_at_call 29; with_reducible refine (to_Line op_x tx_x _).mono ?_; rintro e wL ⟨rfl, hgL⟩; have hbL := hgL.below; have hPL := bl_tr (show Below w_3.heap.size w_3 _ from (by repeat' (first | (with_reducible exact Below.refl _ _) | (with_reducible exact hPA) | (with_reducible exact hPL) | (with_reducible exact hPS) | (with_reducible exact hPB) | (with_reducible refine bl_dw ?_) | (with_reducible refine bl_aw ?_ _) | (with_reducible refine bl_st ?_ (by first | omega | (have := hPA.size; omega) | (have := hPL.size; omega) | (have := hPS.size; omega) | (have := hPB.size; omega)) _)))) hbL; have hBL := bl_tr (show Below wB.heap.size wB _ from (by repeat' (first | (with_reducible exact Below.refl _ _) | (with_reducible exact hBS) | (with_reducible refine bl_dw ?_) | (with_reducible refine bl_aw ?_ _)))) hbL; have hSL := bl_tr (show Below wS.heap.size wS _ from (by repeat' (first | (with_reducible exact Below.refl _ _) | (with_reducible refine bl_dw ?_) | (with_reducible refine bl_aw ?_ _)))) hbL) | (go_at_call 23; refine (rlS_any op_x tx_x HXZ.out (hiB.up (by repeat' (first | (with_reducible exact Below.refl _ _) | (with_reducible exact hBL) | (with_reducible exact hBS) | (with_reducible refine bl_dw ?_) | (with_reducible refine bl_aw ?_ _)))) HFIT.out heS (hrS.up (by repeat' (first | (with_reducible exact Below.refl _ _) | (with_reducible exact hSL) | (with_reducible refine bl_dw ?_) | (with_reducible refine bl_aw ?_ _)))) HSO_l.out).mono ?_; rintro e wA ⟨naA, nnA, ncA, oaA, onA, ocA, nsA, rfl, hnsA, hbdX⟩; have hA := hbdX.n.row.below; have hPA := bl_tr (show Below w_3.heap.size w_3 _ from (by repeat' (first | (with_reducible exact Below.refl _ _) | (with_reducible exact hPA) | (with_reducible exact hPL) | (with_reducible exact hPS) | (with_reducible exact hPB) | (with_reducible refine bl_dw ?_) | (with_reducible refine bl_aw ?_ _) | (with_reducible refine bl_st ?_ (by first | omega | (have := hPA.size; omega) | (have := hPL.size; omega) | (have := hPS.size; omega) | (have := hPB.size; omega)) _)))) hA; have hbdA := hbdX.down (hPA) (Below.size (show Below w_3.heap.size w_3 _ from (by repeat' (first | (with_reducible exact Below.refl _ _) | (with_reducible exact hPA) | (with_reducible exact hPL) | (with_reducible exact hPS) | (with_reducible exact hPB) | (with_reducible refine bl_dw ?_) | (with_reducible refine bl_aw ?_ _) | (with_reducible refine bl_st ?_ (by first | omega | (have := hPA.size; omega) | (have := hPL.size; omega) | (have := hPS.size; omega) | (have := hPB.size; omega)) _))))); (first | (refine lay_box (w := wA) (c := w_3.heap.size) (x := .slice none 0 0) (y := .slice none 0 0) ?_ ?_; (focus (repeat' (first | (with_reducible refine hp_dr ?_) | ((with_reducible refine hp_nw ?_); (first | (with_reducible rfl) | (simp only [size_alloc]; done))) | (with_reducible refine heap_al ?_ _) | (with_reducible refine heap_bl hA ?_) | (with_reducible refine heap_bl hbL ?_) | (with_reducible refine heap_bl hbS ?_) | (with_reducible refine heap_bl hbB ?_)))); intro x0 x1 x2 x3) | (refine lay_box (w := wA) (c := wB.heap.size) (x := .slice none 0 0) (y := .slice none 0 0) ?_ ?_; (focus (repeat' (first | (with_reducible refine hp_dr ?_) | ((with_reducible refine hp_nw ?_); (first | (with_reducible rfl) | (simp only [size_alloc]; done))) | (with_reducible refine heap_al ?_ _) | (with_reducible refine heap_bl hA ?_) | (with_reducible refine heap_bl hbL ?_) | (with_reducible refine heap_bl hbS ?_) | (with_reducible refine heap_bl hbB ?_)))); intro x0 x1 x2 x3) | (refine lay_box (w := wA) (c := wS.heap.size) (x := .slice none 0 0) (y := .slice none 0 0) ?_ ?_; (focus (repeat' (first | (with_reducible refine hp_dr ?_) | ((with_reducible refine hp_nw ?_); (first | (with_reducible rfl) | (simp only [size_alloc]; done))) | (with_reducible refine heap_al ?_ _) | (with_reducible refine heap_bl hA ?_) | (with_reducible refine heap_bl hbL ?_) | (with_reducible refine heap_bl hbS ?_) | (with_reducible refine heap_bl hbB ?_)))); intro x0 x1 x2 x3) | (refine lay_box (w := wA) (c := wL.heap.size) (x := .slice none 0 0) (y := .slice none 0 0) ?_ ?_; (focus (repeat' (first | (with_reducible refine hp_dr ?_) | ((with_reducible refine hp_nw ?_); (first | (with_reducible rfl) | (simp only [size_alloc]; done))) | (with_reducible refine heap_al ?_ _) | (with_reducible refine heap_bl hA ?_) | (with_reducible refine heap_bl hbL ?_) | (with_reducible refine heap_bl hbS ?_) | (with_reducible refine heap_bl hbB ?_)))); intro x0 x1 x2 x3) | skip)))
    all_goals
      go_wp2_with fail
      go_meet
      refine ⟨_, naA, nnA, ncA, oaA, onA, ocA, nsA, rfl, by rw [HWRT.out], by rw [HLGD.out], ?_, by rw [hnsA, HNOD.out], ?_, ?_⟩
      · unfold Box2
        first | ((with_reducible refine bx_both ?_ _ _); repeat' (first | (with_reducible refine hp_dr ?_) | ((with_reducible refine hp_nw ?_); (first | (with_reducible rfl) | (simp only [size_alloc]; done))) | (with_reducible refine heap_al ?_ _) | (with_reducible refine heap_bl hA ?_) | (with_reducible refine heap_bl hbL ?_) | (with_reducible refine heap_bl hbS ?_) | (with_reducible refine heap_bl hbB ?_))) | (repeat' (first | (with_reducible refine hp_dr ?_) | ((with_reducible refine hp_nw ?_); (first | (with_reducible rfl) | (simp only [size_alloc]; done))) | (with_reducible refine heap_al ?_ _) | (with_reducible refine heap_bl hA ?_) | (with_reducible refine heap_bl hbL ?_) | (with_reducible refine heap_bl hbS ?_) | (with_reducible refine heap_bl hbB ?_)))
      · repeat' (first | (with_reducible exact hbdA) | (with_reducible refine BdM.drew ?_) | (with_reducible refine bd_al ?_ _) | (with_reducible refine bd_st2 (by repeat' (first | (with_reducible refine hp_dr ?_) | ((with_reducible refine hp_nw ?_); (first | (with_reducible rfl) | (simp only [size_alloc]; done))) | (with_reducible refine heap_al ?_ _) | (with_reducible refine heap_bl hA ?_) | (with_reducible refine heap_bl hbL ?_) | (with_reducible refine heap_bl hbS ?_) | (with_reducible refine heap_bl hbB ?_))) (by first | omega | (have := hPA.size; omega) | (have := hPL.size; omega) | (have := hPS.size; omega) | (have := hPB.size; omega)) ?_))
      · first | omega | (have := hPA.size; omega) | (have := hPL.size; omega) | (have := hPS.size; omega) | (have := hPB.size; omega)
  obtain ⟨C_p, na_p, nn_p, nc_p, oa_p, on_p, oc_p, ns_p, rfl, rfl, rfl, hbx, hns, hbd, hC⟩ := hcut
  rename World => w_4
  have hB : Below w_3.heap.size w_3 w_4 := hbd.n.row.below
  replace q_b0 := (hB.cell (show (⟨w.heap.size, 0, none⟩ : Addr).block < _ from World.block_lt_of_cell? _ _ q_b0)).trans q_b0
  replace q_b1 := (hB.cell (show (⟨w.heap.size, 1, none⟩ : Addr).block < _ from World.block_lt_of_cell? _ _ q_b1)).trans q_b1
  replace b_b : w.heap.size < w_4.heap.size := World.block_lt_of_cell? _ _ q_b0
  replace q_x0 := (hB.cell (show (⟨w.heap.size + 1, 0, none⟩ : Addr).block < _ from World.block_lt_of_cell? _ _ q_x0)).trans q_x0
  replace q_x1 := (hB.cell (show (⟨w.heap.size + 1, 1, none⟩ : Addr).block < _ from World.block_lt_of_cell? _ _ q_x1)).trans q_x1
  replace b_x : w.heap.size + 1 < w_4.heap.size := World.block_lt_of_cell? _ _ q_x0
  have Hp := Lib.hid ((bdAt_own hbd.n hbd.o).1)
  have HS4 := Lib.hid hB.size
  replace HB := Lib.hid (HB.out.trans (hB.mono HB.out.size))
  have HN_p := Lib.hid (bdAt_own hbd.n hbd.o).2
  have HNS_p := Lib.hid hns
  have HNB_p := Lib.hid (bd_nobox hbx hbd)
  obtain ⟨⟨q_p0, q_p1⟩, _, _⟩ := hbx.cells
  have b_p := hbx.lt
  have HSb_p := Lib.hid b_p; have HSc_p := Lib.hid hC
  clear hB hbx hns hbd hC
  go_wp2_with fail
  refine (toL_Builder (rwN (.slice na_b nn_b nc_b) ns_b) (rwI (.slice oa_b on_b oc_b) zs_b) _ (rwN_is _ _) (rwN_reads ((HRN_b.out.below HB.out (Nat.le_refl _)).mono HB.out.size)) (by have := HWN_b.out; omega) (rwI_is _ _) (rwI_reads.2 ((HRI_b.out.below HB.out (Nat.le_refl _)).mono HB.out.size)) (by have := HWI_b.out; omega)).mono ?_
  rintro e w_5 ⟨y0_y, y1_y, rfl, i0_y, d0_y, i1_y, d1_y, ho, hn, hb⟩
  have hB := hb
  replace q_b0 := (hB.cell (show (⟨w.heap.size, 0, none⟩ : Addr).block < _ from World.block_lt_of_cell? _ _ q_b0)).trans q_b0
  replace q_b1 := (hB.cell (show (⟨w.heap.size, 1, none⟩ : Addr).block < _ from World.block_lt_of_cell? _ _ q_b1)).trans q_b1
  replace b_b : w.heap.size < w_5.heap.size := World.block_lt_of_cell? _ _ q_b0
  replace q_x0 := (hB.cell (show (⟨w.heap.size + 1, 0, none⟩ : Addr).block < _ from World.block_lt_of_cell? _ _ q_x0)).trans q_x0
  replace q_x1 := (hB.cell (show (⟨w.heap.size + 1, 1, none⟩ : Addr).block < _ from World.block_lt_of_cell? _ _ q_x1)).trans q_x1
  replace b_x : w.heap.size + 1 < w_5.heap.size := World.block_lt_of_cell? _ _ q_x0
  replace q_p0 := (hB.cell (show (⟨C_p, 0, none⟩ : Addr).block < _ from World.block_lt_of_cell? _ _ q_p0)).trans q_p0
  replace q_p1 := (hB.cell (show (⟨C_p, 1, none⟩ : Addr).block < _ from World.block_lt_of_cell? _ _ q_p1)).trans q_p1
  replace b_p : C_p < w_5.heap.size := World.block_lt_of_cell? _ _ q_p0
  replace Hp := Lib.hid (ownL_later Hp.out hB)
  have Hy := Lib.hid (ho)
  have HS5 := Lib.hid hB.size
  replace HB := Lib.hid (HB.out.trans (hB.mono HB.out.size))
  have HI0_y := Lib.hid i0_y; have HI1_y := Lib.hid i1_y; have HD0_y := Lib.hid d0_y; have HD1_y := Lib.hid d1_y; have HN_y := Lib.hid hn
  have hbi := bdIn_of d0_y i1_y d1_y ho
  obtain ⟨na_y, nn_y, nc_y, e0_y⟩ := sl_form (is_sl_NodeS i0_y) (Rw.OwnR.reads _ (ownL_two.1 ho).1)
  obtain ⟨oa_y, on_y, oc_y, e1_y⟩ := sl_form (is_sl_IntS i1_y) (Rw.OwnR.reads _ (ownL_two.1 ho).2)
  rw [e0_y, e1_y] at hbi; rw [e0_y, e1_y]
  have HBD_y := Lib.hid hbi; have HE0_y := Lib.hid e0_y; have HE1_y := Lib.hid e1_y
  clear hB ho hn hb hbi i0_y i1_y d0_y d1_y e0_y e1_y
  go_wp2_with fail
  obtain ⟨w_6, hw⟩ : ∃ x, w_5.alloc (.cells #[.slice na_y nn_y nc_y, .slice oa_y on_y oc_y] 41) = x := ⟨_, rfl⟩
  rw [hw]
  have hB : Below w_5.heap.size w_5 w_6 := by rw [← hw]; exact (Below.refl _ _).alloc (Nat.le_refl _) _
  have q_y0 : w_6.cell? ⟨w_5.heap.size, 0, none⟩ = some (.slice na_y nn_y nc_y) := by rw [← hw]; simp
  have q_y1 : w_6.cell? ⟨w_5.heap.size, 1, none⟩ = some (.slice oa_y on_y oc_y) := by rw [← hw]; simp
  have b_y : w_5.heap.size < w_6.heap.size := World.block_lt_of_cell? _ _ q_y0
  replace q_b0 := (hB.cell (show (⟨w.heap.size, 0, none⟩ : Addr).block < _ from World.block_lt_of_cell? _ _ q_b0)).trans q_b0
  replace q_b1 := (hB.cell (show (⟨w.heap.size, 1, none⟩ : Addr).block < _ from World.block_lt_of_cell? _ _ q_b1)).trans q_b1
  replace b_b : w.heap.size < w_6.heap.size := World.block_lt_of_cell? _ _ q_b0
  replace q_x0 := (hB.cell (show (⟨w.heap.size + 1, 0, none⟩ : Addr).block < _ from World.block_lt_of_cell? _ _ q_x0)).trans q_x0
  replace q_x1 := (hB.cell (show (⟨w.heap.size + 1, 1, none⟩ : Addr).block < _ from World.block_lt_of_cell? _ _ q_x1)).trans q_x1
  replace b_x : w.heap.size + 1 < w_6.heap.size := World.block_lt_of_cell? _ _ q_x0
  replace q_p0 := (hB.cell (show (⟨C_p, 0, none⟩ : Addr).block < _ from World.block_lt_of_cell? _ _ q_p0)).trans q_p0
  replace q_p1 := (hB.cell (show (⟨C_p, 1, none⟩ : Addr).block < _ from World.block_lt_of_cell? _ _ q_p1)).trans q_p1
  replace b_p : C_p < w_6.heap.size := World.block_lt_of_cell? _ _ q_p0
  replace Hp := Lib.hid (ownL_later Hp.out hB)
  replace Hy := Lib.hid (ownL_later Hy.out hB)
  have HS6 := Lib.hid hB.size
  replace HB := Lib.hid (HB.out.trans (hB.mono HB.out.size))
  clear hB hw
  have HSb_y := Lib.hid b_y
  go_wp2_with fail
  refine (toH_one _ ss_l _ (rwH_reads ((HRH_l.out.below HB.out (Nat.le_refl _)).mono HB.out.size)) HWH_l.out).mono ?_
  rintro e w_7 ⟨y_z, rfl, i_z, d_z, ho, hn, hb⟩
  have hB := hb
  replace q_b0 := (hB.cell (show (⟨w.heap.size, 0, none⟩ : Addr).block < _ from World.block_lt_of_cell? _ _ q_b0)).trans q_b0
  replace q_b1 := (hB.cell (show (⟨w.heap.size, 1, none⟩ : Addr).block < _ from World.block_lt_of_cell? _ _ q_b1)).trans q_b1
  replace b_b : w.heap.size < w_7.heap.size := World.block_lt_of_cell? _ _ q_b0
  replace q_x0 := (hB.cell (show (⟨w.heap.size + 1, 0, none⟩ : Addr).block < _ from World.block_lt_of_cell? _ _ q_x0)).trans q_x0
  replace q_x1 := (hB.cell (show (⟨w.heap.size + 1, 1, none⟩ : Addr).block < _ from World.block_lt_of_cell? _ _ q_x1)).trans q_x1
  replace b_x : w.heap.size + 1 < w_7.heap.size := World.block_lt_of_cell? _ _ q_x0
  replace q_p0 := (hB.cell (show (⟨C_p, 0, none⟩ : Addr).block < _ from World.block_lt_of_cell? _ _ q_p0)).trans q_p0
  replace q_p1 := (hB.cell (show (⟨C_p, 1, none⟩ : Addr).block < _ from World.block_lt_of_cell? _ _ q_p1)).trans q_p1
  replace b_p : C_p < w_7.heap.size := World.block_lt_of_cell? _ _ q_p0
  replace q_y0 := (hB.cell (show (⟨w_5.heap.size, 0, none⟩ : Addr).block < _ from World.block_lt_of_cell? _ _ q_y0)).trans q_y0
  replace q_y1 := (hB.cell (show (⟨w_5.heap.size, 1, none⟩ : Addr).block < _ from World.block_lt_of_cell? _ _ q_y1)).trans q_y1
  replace b_y : w_5.heap.size < w_7.heap.size := World.block_lt_of_cell? _ _ q_y0
  replace Hp := Lib.hid (ownL_later Hp.out hB)
  replace Hy := Lib.hid (ownL_later Hy.out hB)
  have Hz := Lib.hid (ho)
  have HS7 := Lib.hid hB.size
  replace HB := Lib.hid (HB.out.trans (hB.mono HB.out.size))
  have HI_z := Lib.hid i_z; have HD_z := Lib.hid d_z; have HN_z := Lib.hid hn
  obtain ⟨c_z, hc_z⟩ : ∃ c, y_z.cell = c := ⟨_, rfl⟩
  rw [hc_z]
  have HC_z := Lib.hid hc_z
  clear hB ho hn hb i_z d_z hc_z
  obtain ⟨hsza, hszn, hszc, hsx⟩ := sl_form (is_sl_SheetS HI_z.out) (rd_of (ownL_one.1 Hz.out))
  have hcs := HC_z.out; rw [hsx] at hcs; rw [← hcs]; have HCS := Lib.hid hsx; clear hcs
  obtain ⟨us_z, hue, hur⟩ := sheets_of_data HD_z.out (rd_of (ownL_one.1 Hz.out)); rw [hsx] at hur; have HUE_z := Lib.hid hue; have HUR_z := Lib.hid hur; clear hue hur hsx
  have HBI_y := Lib.hid (ownBd HD0_y.out HI1_y.out HD1_y.out HE0_y.out HE1_y.out Hy.out)
  go_upto_region 14 with (fail)
  go_cut [13, 14, 15] from 52 to 60 (fun c d f wx => ∃ C na' nn' nc' oa' on' oc' ns', c = .pointer (some ⟨C, 0, none⟩) ∧ d = .string WRT ∧ f = .string LGD ∧ Box2 wx C (.slice na' nn' nc') (.slice oa' on' oc') ∧ ns'.map Prod.fst = NOD ∧ BdM w_7.heap.size w_7 wx (.slice na' nn' nc') (.slice oa' on' oc') ns' zs_b ∧ w_7.heap.size ≤ C)
  case first =>
    have KEEP := Lib.hid (fun (w' : World) (h : Below w_7.heap.size w_7 w') => show Below w_7.heap.size w_7 w' ∧ w'.cell? ⟨w.heap.size + 1, 0, none⟩ = some (.int .i64 op_x) ∧ w'.cell? ⟨w.heap.size + 1, 1, none⟩ = some (.string tx_x) ∧ w'.cell? ⟨w_5.heap.size, 0, none⟩ = some (.slice na_y nn_y nc_y) ∧ w'.cell? ⟨w_5.heap.size, 1, none⟩ = some (.slice oa_y on_y oc_y) from ⟨h, (h.cell (show (⟨w.heap.size + 1, 0, none⟩ : Addr).block < _ from World.block_lt_of_cell? _ _ q_x0)).trans q_x0, (h.cell (show (⟨w.heap.size + 1, 1, none⟩ : Addr).block < _ from World.block_lt_of_cell? _ _ q_x1)).trans q_x1, (h.cell (show (⟨w_5.heap.size, 0, none⟩ : Addr).block < _ from World.block_lt_of_cell? _ _ q_y0)).trans q_y0, (h.cell (show (⟨w_5.heap.size, 1, none⟩ : Addr).block < _ from World.block_lt_of_cell? _ _ q_y1)).trans q_y1⟩)
    go_region_held3 (fun w' => Below w_7.heap.size w_7 w' ∧ w'.cell? ⟨w.heap.size + 1, 0, none⟩ = some (.int .i64 op_x) ∧ w'.cell? ⟨w.heap.size + 1, 1, none⟩ = some (.string tx_x) ∧ w'.cell? ⟨w_5.heap.size, 0, none⟩ = some (.slice na_y nn_y nc_y) ∧ w'.cell? ⟨w_5.heap.size, 1, none⟩ = some (.slice oa_y on_y oc_y)) (exact KEEP.out _ (by repeat' (first | (with_reducible exact Below.refl _ _) | (with_reducible exact hPA) | (with_reducible exact hPL) | (with_reducible exact hPS) | (with_reducible exact hPB) | (with_reducible refine bl_dw ?_) | (with_reducible refine bl_aw ?_ _) | (with_reducible refine bl_st ?_ (by first | omega | (have := hPA.size; omega) | (have := hPL.size; omega) | (have := hPS.size; omega) | (have := hPB.size; omega)) _)))) (first | (go_at_call 29; with_reducible refine (to_Line op_x tx_x _).mono ?_; rintro e wL ⟨rfl, hgL⟩; have hbL := hgL.below; have hPL := bl_tr (show Below w_7.heap.size w_7 _ from (by repeat' (first | (with_reducible exact Below.refl _ _) | (with_reducible exact hPA) | (with_reducible exact hPL) | (with_reducible exact hPS) | (with_reducible exact hPB) | (with_reducible refine bl_dw ?_) | (with_reducible refine bl_aw ?_ _) | (with_reducible refine bl_st ?_ (by first | omega | (have := hPA.size; omega) | (have := hPL.size; omega) | (have := hPS.size; omega) | (have := hPB.size; omega)) _)))) hbL) | (go_at_call 18; refine (rlI_any op_x tx_x HXZ.out (HBI_y.out.up (by repeat' (first | (with_reducible exact Below.refl _ _) | (with_reducible exact hPA) | (with_reducible exact hPL) | (with_reducible exact hPS) | (with_reducible exact hPB) | (with_reducible refine bl_dw ?_) | (with_reducible refine bl_aw ?_ _) | (with_reducible refine bl_st ?_ (by first | omega | (have := hPA.size; omega) | (have := hPL.size; omega) | (have := hPS.size; omega) | (have := hPB.size; omega)) _)))) HFIT.out HUE_z.out (HUR_z.out.up (by repeat' (first | (with_reducible exact Below.refl _ _) | (with_reducible exact hPA) | (with_reducible exact hPL) | (with_reducible exact hPS) | (with_reducible exact hPB) | (with_reducible refine bl_dw ?_) | (with_reducible refine bl_aw ?_ _) | (with_reducible refine bl_st ?_ (by first | omega | (have := hPA.size; omega) | (have := hPL.size; omega) | (have := hPS.size; omega) | (have := hPB.size; omega)) _)))) HSO_l.out (HMX.out.on (bl_via HB.out HB.out.size (by repeat' (first | (with_reducible exact Below.refl _ _) | (with_reducible exact hPA) | (with_reducible exact hPL) | (with_reducible exact hPS) | (with_reducible exact hPB) | (with_reducible refine bl_dw ?_) | (with_reducible refine bl_aw ?_ _) | (with_reducible refine bl_st ?_ (by first | omega | (have := hPA.size; omega) | (have := hPL.size; omega) | (have := hPS.size; omega) | (have := hPB.size; omega)) _))))) (HTB.out _ (bl_via HB.out HB.out.size (by repeat' (first | (with_reducible exact Below.refl _ _) | (with_reducible exact hPA) | (with_reducible exact hPL) | (with_reducible exact hPS) | (with_reducible exact hPB) | (with_reducible refine bl_dw ?_) | (with_reducible refine bl_aw ?_ _) | (with_reducible refine bl_st ?_ (by first | omega | (have := hPA.size; omega) | (have := hPL.size; omega) | (have := hPS.size; omega) | (have := hPB.size; omega)) _)))))).mono ?_; rintro e wA ⟨naA, nnA, ncA, oaA, onA, ocA, nsA, rfl, hnsA, hbdX⟩; have hA := hbdX.n.row.below; have hPA := bl_tr (show Below w_7.heap.size w_7 _ from (by repeat' (first | (with_reducible exact Below.refl _ _) | (with_reducible exact hPA) | (with_reducible exact hPL) | (with_reducible exact hPS) | (with_reducible exact hPB) | (with_reducible refine bl_dw ?_) | (with_reducible refine bl_aw ?_ _) | (with_reducible refine bl_st ?_ (by first | omega | (have := hPA.size; omega) | (have := hPL.size; omega) | (have := hPS.size; omega) | (have := hPB.size; omega)) _)))) hA; have hbdA := hbdX.down (hPA) (Below.size (show Below w_7.heap.size w_7 _ from (by repeat' (first | (with_reducible exact Below.refl _ _) | (with_reducible exact hPA) | (with_reducible exact hPL) | (with_reducible exact hPS) | (with_reducible exact hPB) | (with_reducible refine bl_dw ?_) | (with_reducible refine bl_aw ?_ _) | (with_reducible refine bl_st ?_ (by first | omega | (have := hPA.size; omega) | (have := hPL.size; omega) | (have := hPS.size; omega) | (have := hPB.size; omega)) _))))); (first | (refine lay_box (w := wA) (c := w_7.heap.size) (x := .slice none 0 0) (y := .slice none 0 0) ?_ ?_; (focus (repeat' (first | (with_reducible refine hp_dr ?_) | ((with_reducible refine hp_nw ?_); (first | (with_reducible rfl) | (simp only [size_alloc]; done))) | (with_reducible refine heap_al ?_ _) | (with_reducible refine heap_bl hA ?_) | (with_reducible refine heap_bl hbL ?_) | (with_reducible refine heap_bl hbS ?_) | (with_reducible refine heap_bl hbB ?_)))); intro x0 x1 x2 x3) | (refine lay_box (w := wA) (c := wL.heap.size) (x := .slice none 0 0) (y := .slice none 0 0) ?_ ?_; (focus (repeat' (first | (with_reducible refine hp_dr ?_) | ((with_reducible refine hp_nw ?_); (first | (with_reducible rfl) | (simp only [size_alloc]; done))) | (with_reducible refine heap_al ?_ _) | (with_reducible refine heap_bl hA ?_) | (with_reducible refine heap_bl hbL ?_) | (with_reducible refine heap_bl hbS ?_) | (with_reducible refine heap_bl hbB ?_)))); intro x0 x1 x2 x3) | skip)))
    all_goals
      go_wp2_with fail
      go_meet
      refine ⟨_, naA, nnA, ncA, oaA, onA, ocA, nsA, rfl, by rw [HWRT.out], by rw [HLGD.out], ?_, by rw [hnsA, HNOD.out], ?_, ?_⟩
      · unfold Box2
        first | ((with_reducible refine bx_both ?_ _ _); repeat' (first | (with_reducible refine hp_dr ?_) | ((with_reducible refine hp_nw ?_); (first | (with_reducible rfl) | (simp only [size_alloc]; done))) | (with_reducible refine heap_al ?_ _) | (with_reducible refine heap_bl hA ?_) | (with_reducible refine heap_bl hbL ?_) | (with_reducible refine heap_bl hbS ?_) | (with_reducible refine heap_bl hbB ?_))) | (repeat' (first | (with_reducible refine hp_dr ?_) | ((with_reducible refine hp_nw ?_); (first | (with_reducible rfl) | (simp only [size_alloc]; done))) | (with_reducible refine heap_al ?_ _) | (with_reducible refine heap_bl hA ?_) | (with_reducible refine heap_bl hbL ?_) | (with_reducible refine heap_bl hbS ?_) | (with_reducible refine heap_bl hbB ?_)))
      · repeat' (first | (with_reducible exact hbdA) | (with_reducible refine BdM.drew ?_) | (with_reducible refine bd_al ?_ _) | (with_reducible refine bd_st2 (by repeat' (first | (with_reducible refine hp_dr ?_) | ((with_reducible refine hp_nw ?_); (first | (with_reducible rfl) | (simp only [size_alloc]; done))) | (with_reducible refine heap_al ?_ _) | (with_reducible refine heap_bl hA ?_) | (with_reducible refine heap_bl hbL ?_) | (with_reducible refine heap_bl hbS ?_) | (with_reducible refine heap_bl hbB ?_))) (by first | omega | (have := hPA.size; omega) | (have := hPL.size; omega) | (have := hPS.size; omega) | (have := hPB.size; omega)) ?_))
      · first | omega | (have := hPA.size; omega) | (have := hPL.size; omega) | (have := hPS.size; omega) | (have := hPB.size; omega)
  obtain ⟨C_g, na_g, nn_g, nc_g, oa_g, on_g, oc_g, ns_g, rfl, rfl, rfl, hbx, hns, hbd, hC⟩ := hcut
  rename World => w_8
  have hB : Below w_7.heap.size w_7 w_8 := hbd.n.row.below
  replace q_b0 := (hB.cell (show (⟨w.heap.size, 0, none⟩ : Addr).block < _ from World.block_lt_of_cell? _ _ q_b0)).trans q_b0
  replace q_b1 := (hB.cell (show (⟨w.heap.size, 1, none⟩ : Addr).block < _ from World.block_lt_of_cell? _ _ q_b1)).trans q_b1
  replace b_b : w.heap.size < w_8.heap.size := World.block_lt_of_cell? _ _ q_b0
  replace q_x0 := (hB.cell (show (⟨w.heap.size + 1, 0, none⟩ : Addr).block < _ from World.block_lt_of_cell? _ _ q_x0)).trans q_x0
  replace q_x1 := (hB.cell (show (⟨w.heap.size + 1, 1, none⟩ : Addr).block < _ from World.block_lt_of_cell? _ _ q_x1)).trans q_x1
  replace b_x : w.heap.size + 1 < w_8.heap.size := World.block_lt_of_cell? _ _ q_x0
  replace q_p0 := (hB.cell (show (⟨C_p, 0, none⟩ : Addr).block < _ from World.block_lt_of_cell? _ _ q_p0)).trans q_p0
  replace q_p1 := (hB.cell (show (⟨C_p, 1, none⟩ : Addr).block < _ from World.block_lt_of_cell? _ _ q_p1)).trans q_p1
  replace b_p : C_p < w_8.heap.size := World.block_lt_of_cell? _ _ q_p0
  replace q_y0 := (hB.cell (show (⟨w_5.heap.size, 0, none⟩ : Addr).block < _ from World.block_lt_of_cell? _ _ q_y0)).trans q_y0
  replace q_y1 := (hB.cell (show (⟨w_5.heap.size, 1, none⟩ : Addr).block < _ from World.block_lt_of_cell? _ _ q_y1)).trans q_y1
  replace b_y : w_5.heap.size < w_8.heap.size := World.block_lt_of_cell? _ _ q_y0
  replace Hp := Lib.hid (ownL_later Hp.out hB)
  replace Hy := Lib.hid (ownL_later Hy.out hB)
  replace Hz := Lib.hid (ownL_later Hz.out hB)
  have Hg := Lib.hid ((bdAt_own hbd.n hbd.o).1)
  have HS8 := Lib.hid hB.size
  replace HB := Lib.hid (HB.out.trans (hB.mono HB.out.size))
  have HN_g := Lib.hid (bdAt_own hbd.n hbd.o).2
  have HNS_g := Lib.hid hns
  have HNB_g := Lib.hid (bd_nobox hbx hbd)
  obtain ⟨⟨q_g0, q_g1⟩, _, _⟩ := hbx.cells
  have b_g := hbx.lt
  have HSb_g := Lib.hid b_g; have HSc_g := Lib.hid hC
  clear hB hbx hns hbd hC
  go_wp2_with fail
  refine (eqV_Builder (rwN (.slice na_g nn_g nc_g) ns_g) (rwN (.slice na_p nn_p nc_p) ns_p) (rwI (.slice oa_g on_g oc_g) zs_b) (rwI (.slice oa_p on_p oc_p) zs_b) _ _ _ _ rfl rfl rfl rfl _ (rwN_is _ _) (rwN_is _ _) (rwN_data _ _ (HNS_g.out.trans HNS_p.out.symm)) (rdL1 Hg.out) (rdL1 Hp.out) (rwI_is _ _) (rwI_is _ _) (rwI_data.2 rfl) (rdL2 Hg.out) (rdL2 Hp.out)).mono ?_
  rintro e w_9 ⟨rfl, hg⟩
  have hB := hg.below
  replace q_b0 := (hB.cell (show (⟨w.heap.size, 0, none⟩ : Addr).block < _ from World.block_lt_of_cell? _ _ q_b0)).trans q_b0
  replace q_b1 := (hB.cell (show (⟨w.heap.size, 1, none⟩ : Addr).block < _ from World.block_lt_of_cell? _ _ q_b1)).trans q_b1
  replace b_b : w.heap.size < w_9.heap.size := World.block_lt_of_cell? _ _ q_b0
  replace q_x0 := (hB.cell (show (⟨w.heap.size + 1, 0, none⟩ : Addr).block < _ from World.block_lt_of_cell? _ _ q_x0)).trans q_x0
  replace q_x1 := (hB.cell (show (⟨w.heap.size + 1, 1, none⟩ : Addr).block < _ from World.block_lt_of_cell? _ _ q_x1)).trans q_x1
  replace b_x : w.heap.size + 1 < w_9.heap.size := World.block_lt_of_cell? _ _ q_x0
  replace q_p0 := (hB.cell (show (⟨C_p, 0, none⟩ : Addr).block < _ from World.block_lt_of_cell? _ _ q_p0)).trans q_p0
  replace q_p1 := (hB.cell (show (⟨C_p, 1, none⟩ : Addr).block < _ from World.block_lt_of_cell? _ _ q_p1)).trans q_p1
  replace b_p : C_p < w_9.heap.size := World.block_lt_of_cell? _ _ q_p0
  replace q_y0 := (hB.cell (show (⟨w_5.heap.size, 0, none⟩ : Addr).block < _ from World.block_lt_of_cell? _ _ q_y0)).trans q_y0
  replace q_y1 := (hB.cell (show (⟨w_5.heap.size, 1, none⟩ : Addr).block < _ from World.block_lt_of_cell? _ _ q_y1)).trans q_y1
  replace b_y : w_5.heap.size < w_9.heap.size := World.block_lt_of_cell? _ _ q_y0
  replace q_g0 := (hB.cell (show (⟨C_g, 0, none⟩ : Addr).block < _ from World.block_lt_of_cell? _ _ q_g0)).trans q_g0
  replace q_g1 := (hB.cell (show (⟨C_g, 1, none⟩ : Addr).block < _ from World.block_lt_of_cell? _ _ q_g1)).trans q_g1
  replace b_g : C_g < w_9.heap.size := World.block_lt_of_cell? _ _ q_g0
  replace Hp := Lib.hid (ownL_later Hp.out hB)
  replace Hy := Lib.hid (ownL_later Hy.out hB)
  replace Hz := Lib.hid (ownL_later Hz.out hB)
  replace Hg := Lib.hid (ownL_later Hg.out hB)
  have HS9 := Lib.hid hB.size
  replace HB := Lib.hid (HB.out.trans (hB.mono HB.out.size))
  clear hB hg
  go_upto_region 17 with (fail)
  go_cut [79] from 75 to 79 (fun c wx => c = .bool false ∧ Below w_9.heap.size w_9 wx)
  case first =>
    have hreadN := (rwN_reads ((HRN_b.out.below HB.out (Nat.le_refl _)).mono HB.out.size)).up (Grw.refl _).drew; have hreadI := (rwI_reads.2 ((HRI_b.out.below HB.out (Nat.le_refl _)).mono HB.out.size)).up (Grw.refl _).drew
    go_region_with (first | (go_at_call 27; refine (toL_Builder (rwN (.slice na_b nn_b nc_b) ns_b) (rwI (.slice oa_b on_b oc_b) zs_b) _ (rwN_is _ _) ?_ (by have := HWN_b.out; omega) (rwI_is _ _) ?_ (by have := HWI_b.out; omega)).mono ?_; (exact hreadN); (exact hreadI); rintro e w_A ⟨y0_w, y1_w, rfl, i0_w, d0_w, i1_w, d1_w, ho_w, hn_w, hb_w⟩; obtain ⟨na_w, nn_w, nc_w, e0_w⟩ := sl_form (is_sl_NodeS i0_w) (Rw.OwnR.reads _ (ownL_two.1 ho_w).1); obtain ⟨oa_w, on_w, oc_w, e1_w⟩ := sl_form (is_sl_IntS i1_w) (Rw.OwnR.reads _ (ownL_two.1 ho_w).2); rw [e0_w, e1_w]; have hO := ownL_later Hy.out (below_undrew hb_w); have hsA := (below_undrew hb_w).size; (first | have qA_b0 := (hb_w.cell (p := ⟨w.heap.size, 0, none⟩) b_b).trans q_b0 | skip); (first | have qA_b1 := (hb_w.cell (p := ⟨w.heap.size, 1, none⟩) b_b).trans q_b1 | skip); (first | have qA_x0 := (hb_w.cell (p := ⟨w.heap.size + 1, 0, none⟩) b_x).trans q_x0 | skip); (first | have qA_x1 := (hb_w.cell (p := ⟨w.heap.size + 1, 1, none⟩) b_x).trans q_x1 | skip); (first | have qA_p0 := (hb_w.cell (p := ⟨C_p, 0, none⟩) b_p).trans q_p0 | skip); (first | have qA_p1 := (hb_w.cell (p := ⟨C_p, 1, none⟩) b_p).trans q_p1 | skip); (first | have qA_y0 := (hb_w.cell (p := ⟨w_5.heap.size, 0, none⟩) b_y).trans q_y0 | skip); (first | have qA_y1 := (hb_w.cell (p := ⟨w_5.heap.size, 1, none⟩) b_y).trans q_y1 | skip); (first | have qA_g0 := (hb_w.cell (p := ⟨C_g, 0, none⟩) b_g).trans q_g0 | skip); (first | have qA_g1 := (hb_w.cell (p := ⟨C_g, 1, none⟩) b_g).trans q_g1 | skip)) | (go_at_call 30; refine (eqV_Builder y0_y y0_w y1_y y1_w _ _ _ _ HE0_y.out e0_w HE1_y.out e1_w _ HI0_y.out i0_w (HD0_y.out.trans d0_w.symm) (rdL1 hO) (rdL1 ho_w) HI1_y.out i1_w (HD1_y.out.trans d1_w.symm) (rdL2 hO) (rdL2 ho_w)).mono ?_; rintro e w_C ⟨rfl, hgC⟩))
    all_goals
      have hB := (below_undrew hb_w).trans (hgC.below.mono hsA)
      go_wp2_with fail
      go_meet
      exact ⟨rfl, hB⟩
  obtain ⟨rfl, hB⟩ := hcut
  rename World => w_10
  replace q_b0 := (hB.cell (show (⟨w.heap.size, 0, none⟩ : Addr).block < _ from World.block_lt_of_cell? _ _ q_b0)).trans q_b0
  replace q_b1 := (hB.cell (show (⟨w.heap.size, 1, none⟩ : Addr).block < _ from World.block_lt_of_cell? _ _ q_b1)).trans q_b1
  replace b_b : w.heap.size < w_10.heap.size := World.block_lt_of_cell? _ _ q_b0
  replace q_x0 := (hB.cell (show (⟨w.heap.size + 1, 0, none⟩ : Addr).block < _ from World.block_lt_of_cell? _ _ q_x0)).trans q_x0
  replace q_x1 := (hB.cell (show (⟨w.heap.size + 1, 1, none⟩ : Addr).block < _ from World.block_lt_of_cell? _ _ q_x1)).trans q_x1
  replace b_x : w.heap.size + 1 < w_10.heap.size := World.block_lt_of_cell? _ _ q_x0
  replace q_p0 := (hB.cell (show (⟨C_p, 0, none⟩ : Addr).block < _ from World.block_lt_of_cell? _ _ q_p0)).trans q_p0
  replace q_p1 := (hB.cell (show (⟨C_p, 1, none⟩ : Addr).block < _ from World.block_lt_of_cell? _ _ q_p1)).trans q_p1
  replace b_p : C_p < w_10.heap.size := World.block_lt_of_cell? _ _ q_p0
  replace q_y0 := (hB.cell (show (⟨w_5.heap.size, 0, none⟩ : Addr).block < _ from World.block_lt_of_cell? _ _ q_y0)).trans q_y0
  replace q_y1 := (hB.cell (show (⟨w_5.heap.size, 1, none⟩ : Addr).block < _ from World.block_lt_of_cell? _ _ q_y1)).trans q_y1
  replace b_y : w_5.heap.size < w_10.heap.size := World.block_lt_of_cell? _ _ q_y0
  replace q_g0 := (hB.cell (show (⟨C_g, 0, none⟩ : Addr).block < _ from World.block_lt_of_cell? _ _ q_g0)).trans q_g0
  replace q_g1 := (hB.cell (show (⟨C_g, 1, none⟩ : Addr).block < _ from World.block_lt_of_cell? _ _ q_g1)).trans q_g1
  replace b_g : C_g < w_10.heap.size := World.block_lt_of_cell? _ _ q_g0
  replace Hp := Lib.hid (ownL_later Hp.out hB)
  replace Hy := Lib.hid (ownL_later Hy.out hB)
  replace Hz := Lib.hid (ownL_later Hz.out hB)
  replace Hg := Lib.hid (ownL_later Hg.out hB)
  have HS10 := Lib.hid hB.size
  replace HB := Lib.hid (HB.out.trans (hB.mono HB.out.size))
  clear hB
  go_wp2_with fail
  refine (toH_one _ ss_l _ (rwH_reads ((HRH_l.out.below HB.out (Nat.le_refl _)).mono HB.out.size)) HWH_l.out).mono ?_
  rintro e w_11 ⟨y_v, rfl, i_v, d_v, ho, hn, hb⟩
  have hB := hb
  replace q_b0 := (hB.cell (show (⟨w.heap.size, 0, none⟩ : Addr).block < _ from World.block_lt_of_cell? _ _ q_b0)).trans q_b0
  replace q_b1 := (hB.cell (show (⟨w.heap.size, 1, none⟩ : Addr).block < _ from World.block_lt_of_cell? _ _ q_b1)).trans q_b1
  replace b_b : w.heap.size < w_11.heap.size := World.block_lt_of_cell? _ _ q_b0
  replace q_x0 := (hB.cell (show (⟨w.heap.size + 1, 0, none⟩ : Addr).block < _ from World.block_lt_of_cell? _ _ q_x0)).trans q_x0
  replace q_x1 := (hB.cell (show (⟨w.heap.size + 1, 1, none⟩ : Addr).block < _ from World.block_lt_of_cell? _ _ q_x1)).trans q_x1
  replace b_x : w.heap.size + 1 < w_11.heap.size := World.block_lt_of_cell? _ _ q_x0
  replace q_p0 := (hB.cell (show (⟨C_p, 0, none⟩ : Addr).block < _ from World.block_lt_of_cell? _ _ q_p0)).trans q_p0
  replace q_p1 := (hB.cell (show (⟨C_p, 1, none⟩ : Addr).block < _ from World.block_lt_of_cell? _ _ q_p1)).trans q_p1
  replace b_p : C_p < w_11.heap.size := World.block_lt_of_cell? _ _ q_p0
  replace q_y0 := (hB.cell (show (⟨w_5.heap.size, 0, none⟩ : Addr).block < _ from World.block_lt_of_cell? _ _ q_y0)).trans q_y0
  replace q_y1 := (hB.cell (show (⟨w_5.heap.size, 1, none⟩ : Addr).block < _ from World.block_lt_of_cell? _ _ q_y1)).trans q_y1
  replace b_y : w_5.heap.size < w_11.heap.size := World.block_lt_of_cell? _ _ q_y0
  replace q_g0 := (hB.cell (show (⟨C_g, 0, none⟩ : Addr).block < _ from World.block_lt_of_cell? _ _ q_g0)).trans q_g0
  replace q_g1 := (hB.cell (show (⟨C_g, 1, none⟩ : Addr).block < _ from World.block_lt_of_cell? _ _ q_g1)).trans q_g1
  replace b_g : C_g < w_11.heap.size := World.block_lt_of_cell? _ _ q_g0
  replace Hp := Lib.hid (ownL_later Hp.out hB)
  replace Hy := Lib.hid (ownL_later Hy.out hB)
  replace Hz := Lib.hid (ownL_later Hz.out hB)
  replace Hg := Lib.hid (ownL_later Hg.out hB)
  have Hv := Lib.hid (ho)
  have HS11 := Lib.hid hB.size
  replace HB := Lib.hid (HB.out.trans (hB.mono HB.out.size))
  have HI_v := Lib.hid i_v; have HD_v := Lib.hid d_v; have HN_v := Lib.hid hn
  obtain ⟨c_v, hc_v⟩ : ∃ c, y_v.cell = c := ⟨_, rfl⟩
  rw [hc_v]
  have HC_v := Lib.hid hc_v
  clear hB ho hn hb i_v d_v hc_v
  go_wp2_with fail
  refine ((HCS.out ▸ HC_v.out ▸ eq_SheetS y_z y_v HI_z.out HI_v.out (HD_z.out.trans HD_v.out.symm) _ (rd_of (ownL_one.1 Hz.out)) (rd_of (ownL_one.1 Hv.out)))).mono ?_
  rintro e w_12 ⟨rfl, hg⟩
  have hB := hg.below
  replace q_b0 := (hB.cell (show (⟨w.heap.size, 0, none⟩ : Addr).block < _ from World.block_lt_of_cell? _ _ q_b0)).trans q_b0
  replace q_b1 := (hB.cell (show (⟨w.heap.size, 1, none⟩ : Addr).block < _ from World.block_lt_of_cell? _ _ q_b1)).trans q_b1
  replace b_b : w.heap.size < w_12.heap.size := World.block_lt_of_cell? _ _ q_b0
  replace q_x0 := (hB.cell (show (⟨w.heap.size + 1, 0, none⟩ : Addr).block < _ from World.block_lt_of_cell? _ _ q_x0)).trans q_x0
  replace q_x1 := (hB.cell (show (⟨w.heap.size + 1, 1, none⟩ : Addr).block < _ from World.block_lt_of_cell? _ _ q_x1)).trans q_x1
  replace b_x : w.heap.size + 1 < w_12.heap.size := World.block_lt_of_cell? _ _ q_x0
  replace q_p0 := (hB.cell (show (⟨C_p, 0, none⟩ : Addr).block < _ from World.block_lt_of_cell? _ _ q_p0)).trans q_p0
  replace q_p1 := (hB.cell (show (⟨C_p, 1, none⟩ : Addr).block < _ from World.block_lt_of_cell? _ _ q_p1)).trans q_p1
  replace b_p : C_p < w_12.heap.size := World.block_lt_of_cell? _ _ q_p0
  replace q_y0 := (hB.cell (show (⟨w_5.heap.size, 0, none⟩ : Addr).block < _ from World.block_lt_of_cell? _ _ q_y0)).trans q_y0
  replace q_y1 := (hB.cell (show (⟨w_5.heap.size, 1, none⟩ : Addr).block < _ from World.block_lt_of_cell? _ _ q_y1)).trans q_y1
  replace b_y : w_5.heap.size < w_12.heap.size := World.block_lt_of_cell? _ _ q_y0
  replace q_g0 := (hB.cell (show (⟨C_g, 0, none⟩ : Addr).block < _ from World.block_lt_of_cell? _ _ q_g0)).trans q_g0
  replace q_g1 := (hB.cell (show (⟨C_g, 1, none⟩ : Addr).block < _ from World.block_lt_of_cell? _ _ q_g1)).trans q_g1
  replace b_g : C_g < w_12.heap.size := World.block_lt_of_cell? _ _ q_g0
  replace Hp := Lib.hid (ownL_later Hp.out hB)
  replace Hy := Lib.hid (ownL_later Hy.out hB)
  replace Hz := Lib.hid (ownL_later Hz.out hB)
  replace Hg := Lib.hid (ownL_later Hg.out hB)
  replace Hv := Lib.hid (ownL_later Hv.out hB)
  have HS12 := Lib.hid hB.size
  replace HB := Lib.hid (HB.out.trans (hB.mono HB.out.size))
  clear hB hg
  have HCT_y := Lib.hid (show 1 + countL [y0_y, y1_y] ≤ 4611686018427387904 by
    have h1 := count_data _ _ HD0_y.out; have h2 := count_data _ _ HD1_y.out; have h3 := HCB.out
    rw [rwN_cnt] at h1; rw [rwI_count] at h2; rw [countL, countL, countL]; omega)
  have NOB_b_y := Lib.hid (show w.heap.size ∉ _ from fun hb => by have hh := ownL_lt Hy.out _ hb; have := HS0.out; have := HS1.out; have := HS2.out; have := HS3.out; have := HS4.out; have := HSb_p.out; have := HSc_p.out; have := HS5.out; have := HS6.out; have := HSb_y.out; have := HS7.out; have := HS8.out; have := HSb_g.out; have := HSc_g.out; have := HS9.out; have := HS10.out; have := HS11.out; have := HS12.out; omega)
  have NOB_x_y := Lib.hid (show w.heap.size + 1 ∉ _ from fun hb => by have hh := ownL_lt Hy.out _ hb; have := HS0.out; have := HS1.out; have := HS2.out; have := HS3.out; have := HS4.out; have := HSb_p.out; have := HSc_p.out; have := HS5.out; have := HS6.out; have := HSb_y.out; have := HS7.out; have := HS8.out; have := HSb_g.out; have := HSc_g.out; have := HS9.out; have := HS10.out; have := HS11.out; have := HS12.out; omega)
  have NOB_p_y := Lib.hid (show C_p ∉ _ from fun hb => by have hh := ownL_lt Hy.out _ hb; have := HS0.out; have := HS1.out; have := HS2.out; have := HS3.out; have := HS4.out; have := HSb_p.out; have := HSc_p.out; have := HS5.out; have := HS6.out; have := HSb_y.out; have := HS7.out; have := HS8.out; have := HSb_g.out; have := HSc_g.out; have := HS9.out; have := HS10.out; have := HS11.out; have := HS12.out; omega)
  have NOB_y_y := Lib.hid (show w_5.heap.size ∉ _ from fun hb => by have hh := ownL_lt Hy.out _ hb; have := HS0.out; have := HS1.out; have := HS2.out; have := HS3.out; have := HS4.out; have := HSb_p.out; have := HSc_p.out; have := HS5.out; have := HS6.out; have := HSb_y.out; have := HS7.out; have := HS8.out; have := HSb_g.out; have := HSc_g.out; have := HS9.out; have := HS10.out; have := HS11.out; have := HS12.out; omega)
  have NOB_g_y := Lib.hid (show C_g ∉ _ from fun hb => by have hh := ownL_lt Hy.out _ hb; have := HS0.out; have := HS1.out; have := HS2.out; have := HS3.out; have := HS4.out; have := HSb_p.out; have := HSc_p.out; have := HS5.out; have := HS6.out; have := HSb_y.out; have := HS7.out; have := HS8.out; have := HSb_g.out; have := HSc_g.out; have := HS9.out; have := HS10.out; have := HS11.out; have := HS12.out; omega)
  go_wp2_with fail
  refine (mkV_Builder y0_y y1_y _ _ HE0_y.out HE1_y.out HI0_y.out HI1_y.out _ _ 1 _ rfl _ Hy.out HN_y.out HCT_y.out).mono ?_
  rintro e w_13 ⟨rfl, hmk, hon⟩
  replace q_b0 := (cell_only (a := ⟨w.heap.size, 0, none⟩) hon (show w.heap.size ∉ _ from fun hb => NOB_b_y.out hb) (World.block_lt_of_cell? _ _ q_b0)).trans q_b0
  replace q_b1 := (cell_only (a := ⟨w.heap.size, 1, none⟩) hon (show w.heap.size ∉ _ from fun hb => NOB_b_y.out hb) (World.block_lt_of_cell? _ _ q_b1)).trans q_b1
  replace b_b : w.heap.size < w_13.heap.size := World.block_lt_of_cell? _ _ q_b0
  replace q_x0 := (cell_only (a := ⟨w.heap.size + 1, 0, none⟩) hon (show w.heap.size + 1 ∉ _ from fun hb => NOB_x_y.out hb) (World.block_lt_of_cell? _ _ q_x0)).trans q_x0
  replace q_x1 := (cell_only (a := ⟨w.heap.size + 1, 1, none⟩) hon (show w.heap.size + 1 ∉ _ from fun hb => NOB_x_y.out hb) (World.block_lt_of_cell? _ _ q_x1)).trans q_x1
  replace b_x : w.heap.size + 1 < w_13.heap.size := World.block_lt_of_cell? _ _ q_x0
  replace q_p0 := (cell_only (a := ⟨C_p, 0, none⟩) hon (show C_p ∉ _ from fun hb => NOB_p_y.out hb) (World.block_lt_of_cell? _ _ q_p0)).trans q_p0
  replace q_p1 := (cell_only (a := ⟨C_p, 1, none⟩) hon (show C_p ∉ _ from fun hb => NOB_p_y.out hb) (World.block_lt_of_cell? _ _ q_p1)).trans q_p1
  replace b_p : C_p < w_13.heap.size := World.block_lt_of_cell? _ _ q_p0
  replace q_y0 := (cell_only (a := ⟨w_5.heap.size, 0, none⟩) hon (show w_5.heap.size ∉ _ from fun hb => NOB_y_y.out hb) (World.block_lt_of_cell? _ _ q_y0)).trans q_y0
  replace q_y1 := (cell_only (a := ⟨w_5.heap.size, 1, none⟩) hon (show w_5.heap.size ∉ _ from fun hb => NOB_y_y.out hb) (World.block_lt_of_cell? _ _ q_y1)).trans q_y1
  replace b_y : w_5.heap.size < w_13.heap.size := World.block_lt_of_cell? _ _ q_y0
  replace q_g0 := (cell_only (a := ⟨C_g, 0, none⟩) hon (show C_g ∉ _ from fun hb => NOB_g_y.out hb) (World.block_lt_of_cell? _ _ q_g0)).trans q_g0
  replace q_g1 := (cell_only (a := ⟨C_g, 1, none⟩) hon (show C_g ∉ _ from fun hb => NOB_g_y.out hb) (World.block_lt_of_cell? _ _ q_g1)).trans q_g1
  replace b_g : C_g < w_13.heap.size := World.block_lt_of_cell? _ _ q_g0
  have hbk := ownL_back (lo := w.heap.size) HB.out (ownL_mono Hy.out (lo' := w.heap.size) (by have := HS0.out; have := HS1.out; have := HS2.out; have := HS3.out; have := HS4.out; have := HSb_p.out; have := HSc_p.out; have := HS5.out; have := HS6.out; have := HSb_y.out; have := HS7.out; have := HS8.out; have := HSb_g.out; have := HSc_g.out; have := HS9.out; have := HS10.out; have := HS11.out; have := HS12.out; omega) (Nat.le_refl _)) HB.out.size hon
  replace Hp := Lib.hid (ownL_apart Hp.out Hy.out (by have := HS0.out; have := HS1.out; have := HS2.out; have := HS3.out; have := HS4.out; have := HSb_p.out; have := HSc_p.out; have := HS5.out; have := HS6.out; have := HSb_y.out; have := HS7.out; have := HS8.out; have := HSb_g.out; have := HSc_g.out; have := HS9.out; have := HS10.out; have := HS11.out; have := HS12.out; omega) hon)
  replace Hz := Lib.hid (ownL_apart Hz.out Hy.out (by have := HS0.out; have := HS1.out; have := HS2.out; have := HS3.out; have := HS4.out; have := HSb_p.out; have := HSc_p.out; have := HS5.out; have := HS6.out; have := HSb_y.out; have := HS7.out; have := HS8.out; have := HSb_g.out; have := HSc_g.out; have := HS9.out; have := HS10.out; have := HS11.out; have := HS12.out; omega) hon)
  replace Hg := Lib.hid (ownL_apart Hg.out Hy.out (by have := HS0.out; have := HS1.out; have := HS2.out; have := HS3.out; have := HS4.out; have := HSb_p.out; have := HSc_p.out; have := HS5.out; have := HS6.out; have := HSb_y.out; have := HS7.out; have := HS8.out; have := HSb_g.out; have := HSc_g.out; have := HS9.out; have := HS10.out; have := HS11.out; have := HS12.out; omega) hon)
  replace Hv := Lib.hid (ownL_apart Hv.out Hy.out (by have := HS0.out; have := HS1.out; have := HS2.out; have := HS3.out; have := HS4.out; have := HSb_p.out; have := HSc_p.out; have := HS5.out; have := HS6.out; have := HSb_y.out; have := HS7.out; have := HS8.out; have := HSb_g.out; have := HSc_g.out; have := HS9.out; have := HS10.out; have := HS11.out; have := HS12.out; omega) hon)
  replace Hy := Lib.hid hmk
  have HS13 := Lib.hid hon.size
  replace HB := Lib.hid hbk
  clear hbk hmk hon
  obtain ⟨m1, hm1⟩ : ∃ m, 1 + countL [y0_y, y1_y] = m := ⟨_, rfl⟩
  have HCT_z := Lib.hid (show m1 + countL [y_z] ≤ 4611686018427387904 by
    have h1 := count_data _ _ HD0_y.out; have h2 := count_data _ _ HD1_y.out; have h3 := HCB.out; have h4 := count_data _ _ HD_z.out; have h5 := HSO_l.out.tot
    rw [rwN_cnt] at h1; rw [rwI_count] at h2; rw [rwH_countR] at h4; rw [← hm1, countL, countL, countL, countL, countL]; omega)
  rw [hm1]; clear hm1
  have NOB_b_z := Lib.hid (show w.heap.size ∉ _ from fun hb => by have hh := ownL_lt Hz.out _ hb; have := HS0.out; have := HS1.out; have := HS2.out; have := HS3.out; have := HS4.out; have := HSb_p.out; have := HSc_p.out; have := HS5.out; have := HS6.out; have := HSb_y.out; have := HS7.out; have := HS8.out; have := HSb_g.out; have := HSc_g.out; have := HS9.out; have := HS10.out; have := HS11.out; have := HS12.out; have := HS13.out; omega)
  have NOB_x_z := Lib.hid (show w.heap.size + 1 ∉ _ from fun hb => by have hh := ownL_lt Hz.out _ hb; have := HS0.out; have := HS1.out; have := HS2.out; have := HS3.out; have := HS4.out; have := HSb_p.out; have := HSc_p.out; have := HS5.out; have := HS6.out; have := HSb_y.out; have := HS7.out; have := HS8.out; have := HSb_g.out; have := HSc_g.out; have := HS9.out; have := HS10.out; have := HS11.out; have := HS12.out; have := HS13.out; omega)
  have NOB_p_z := Lib.hid (show C_p ∉ _ from fun hb => by have hh := ownL_lt Hz.out _ hb; have := HS0.out; have := HS1.out; have := HS2.out; have := HS3.out; have := HS4.out; have := HSb_p.out; have := HSc_p.out; have := HS5.out; have := HS6.out; have := HSb_y.out; have := HS7.out; have := HS8.out; have := HSb_g.out; have := HSc_g.out; have := HS9.out; have := HS10.out; have := HS11.out; have := HS12.out; have := HS13.out; omega)
  have NOB_y_z := Lib.hid (show w_5.heap.size ∉ _ from fun hb => by have hh := ownL_lt Hz.out _ hb; have := HS0.out; have := HS1.out; have := HS2.out; have := HS3.out; have := HS4.out; have := HSb_p.out; have := HSc_p.out; have := HS5.out; have := HS6.out; have := HSb_y.out; have := HS7.out; have := HS8.out; have := HSb_g.out; have := HSc_g.out; have := HS9.out; have := HS10.out; have := HS11.out; have := HS12.out; have := HS13.out; omega)
  have NOB_g_z := Lib.hid (show C_g ∉ _ from fun hb => by have hh := ownL_lt Hz.out _ hb; have := HS0.out; have := HS1.out; have := HS2.out; have := HS3.out; have := HS4.out; have := HSb_p.out; have := HSc_p.out; have := HS5.out; have := HS6.out; have := HSb_y.out; have := HS7.out; have := HS8.out; have := HSb_g.out; have := HSc_g.out; have := HS9.out; have := HS10.out; have := HS11.out; have := HS12.out; have := HS13.out; omega)
  go_wp2_with fail
  refine ((HCS.out ▸ mkH_oneR y_z HI_z.out _ _ m1 _ rfl _ Hz.out HN_z.out HCT_z.out)).mono ?_
  rintro e w_14 ⟨rfl, hmk, hon⟩
  replace q_b0 := (cell_only (a := ⟨w.heap.size, 0, none⟩) hon (show w.heap.size ∉ _ from fun hb => NOB_b_z.out hb) (World.block_lt_of_cell? _ _ q_b0)).trans q_b0
  replace q_b1 := (cell_only (a := ⟨w.heap.size, 1, none⟩) hon (show w.heap.size ∉ _ from fun hb => NOB_b_z.out hb) (World.block_lt_of_cell? _ _ q_b1)).trans q_b1
  replace b_b : w.heap.size < w_14.heap.size := World.block_lt_of_cell? _ _ q_b0
  replace q_x0 := (cell_only (a := ⟨w.heap.size + 1, 0, none⟩) hon (show w.heap.size + 1 ∉ _ from fun hb => NOB_x_z.out hb) (World.block_lt_of_cell? _ _ q_x0)).trans q_x0
  replace q_x1 := (cell_only (a := ⟨w.heap.size + 1, 1, none⟩) hon (show w.heap.size + 1 ∉ _ from fun hb => NOB_x_z.out hb) (World.block_lt_of_cell? _ _ q_x1)).trans q_x1
  replace b_x : w.heap.size + 1 < w_14.heap.size := World.block_lt_of_cell? _ _ q_x0
  replace q_p0 := (cell_only (a := ⟨C_p, 0, none⟩) hon (show C_p ∉ _ from fun hb => NOB_p_z.out hb) (World.block_lt_of_cell? _ _ q_p0)).trans q_p0
  replace q_p1 := (cell_only (a := ⟨C_p, 1, none⟩) hon (show C_p ∉ _ from fun hb => NOB_p_z.out hb) (World.block_lt_of_cell? _ _ q_p1)).trans q_p1
  replace b_p : C_p < w_14.heap.size := World.block_lt_of_cell? _ _ q_p0
  replace q_y0 := (cell_only (a := ⟨w_5.heap.size, 0, none⟩) hon (show w_5.heap.size ∉ _ from fun hb => NOB_y_z.out hb) (World.block_lt_of_cell? _ _ q_y0)).trans q_y0
  replace q_y1 := (cell_only (a := ⟨w_5.heap.size, 1, none⟩) hon (show w_5.heap.size ∉ _ from fun hb => NOB_y_z.out hb) (World.block_lt_of_cell? _ _ q_y1)).trans q_y1
  replace b_y : w_5.heap.size < w_14.heap.size := World.block_lt_of_cell? _ _ q_y0
  replace q_g0 := (cell_only (a := ⟨C_g, 0, none⟩) hon (show C_g ∉ _ from fun hb => NOB_g_z.out hb) (World.block_lt_of_cell? _ _ q_g0)).trans q_g0
  replace q_g1 := (cell_only (a := ⟨C_g, 1, none⟩) hon (show C_g ∉ _ from fun hb => NOB_g_z.out hb) (World.block_lt_of_cell? _ _ q_g1)).trans q_g1
  replace b_g : C_g < w_14.heap.size := World.block_lt_of_cell? _ _ q_g0
  have hbk := ownL_back (lo := w.heap.size) HB.out (ownL_mono Hz.out (lo' := w.heap.size) (by have := HS0.out; have := HS1.out; have := HS2.out; have := HS3.out; have := HS4.out; have := HSb_p.out; have := HSc_p.out; have := HS5.out; have := HS6.out; have := HSb_y.out; have := HS7.out; have := HS8.out; have := HSb_g.out; have := HSc_g.out; have := HS9.out; have := HS10.out; have := HS11.out; have := HS12.out; have := HS13.out; omega) (Nat.le_refl _)) HB.out.size hon
  replace Hp := Lib.hid (ownL_apart Hp.out Hz.out (by have := HS0.out; have := HS1.out; have := HS2.out; have := HS3.out; have := HS4.out; have := HSb_p.out; have := HSc_p.out; have := HS5.out; have := HS6.out; have := HSb_y.out; have := HS7.out; have := HS8.out; have := HSb_g.out; have := HSc_g.out; have := HS9.out; have := HS10.out; have := HS11.out; have := HS12.out; have := HS13.out; omega) hon)
  replace Hy := Lib.hid (ownL_apart Hy.out Hz.out (by have := HS0.out; have := HS1.out; have := HS2.out; have := HS3.out; have := HS4.out; have := HSb_p.out; have := HSc_p.out; have := HS5.out; have := HS6.out; have := HSb_y.out; have := HS7.out; have := HS8.out; have := HSb_g.out; have := HSc_g.out; have := HS9.out; have := HS10.out; have := HS11.out; have := HS12.out; have := HS13.out; omega) hon)
  replace Hg := Lib.hid (ownL_apart Hg.out Hz.out (by have := HS0.out; have := HS1.out; have := HS2.out; have := HS3.out; have := HS4.out; have := HSb_p.out; have := HSc_p.out; have := HS5.out; have := HS6.out; have := HSb_y.out; have := HS7.out; have := HS8.out; have := HSb_g.out; have := HSc_g.out; have := HS9.out; have := HS10.out; have := HS11.out; have := HS12.out; have := HS13.out; omega) hon)
  replace Hv := Lib.hid (ownL_apart Hv.out Hz.out (by have := HS0.out; have := HS1.out; have := HS2.out; have := HS3.out; have := HS4.out; have := HSb_p.out; have := HSc_p.out; have := HS5.out; have := HS6.out; have := HSb_y.out; have := HS7.out; have := HS8.out; have := HSb_g.out; have := HSc_g.out; have := HS9.out; have := HS10.out; have := HS11.out; have := HS12.out; have := HS13.out; omega) hon)
  replace Hz := Lib.hid hmk
  have HS14 := Lib.hid hon.size
  replace HB := Lib.hid hbk
  clear hbk hmk hon
  obtain ⟨m2, hm2⟩ : ∃ m, m1 + countL [y_z] = m := ⟨_, rfl⟩
  rw [hm2]; have hm20 : ¬ ((m2 : Int) < 0) := by omega
  clear hm2
  have hm2d : decide ((m2 : Int) < 0) = false := decide_eq_false hm20
  go_wp2_with fail
  refine (eqV_Builder (rwN (.slice na_g nn_g nc_g) ns_g) (rwN (.slice na_p nn_p nc_p) ns_p) (rwI (.slice oa_g on_g oc_g) zs_b) (rwI (.slice oa_p on_p oc_p) zs_b) _ _ _ _ rfl rfl rfl rfl _ (rwN_is _ _) (rwN_is _ _) (rwN_data _ _ (HNS_g.out.trans HNS_p.out.symm)) (rdL1 Hg.out) (rdL1 Hp.out) (rwI_is _ _) (rwI_is _ _) (rwI_data.2 rfl) (rdL2 Hg.out) (rdL2 Hp.out)).mono ?_
  rintro e w_15 ⟨rfl, hg⟩
  have hB := hg.below
  replace q_b0 := (hB.cell (show (⟨w.heap.size, 0, none⟩ : Addr).block < _ from World.block_lt_of_cell? _ _ q_b0)).trans q_b0
  replace q_b1 := (hB.cell (show (⟨w.heap.size, 1, none⟩ : Addr).block < _ from World.block_lt_of_cell? _ _ q_b1)).trans q_b1
  replace b_b : w.heap.size < w_15.heap.size := World.block_lt_of_cell? _ _ q_b0
  replace q_x0 := (hB.cell (show (⟨w.heap.size + 1, 0, none⟩ : Addr).block < _ from World.block_lt_of_cell? _ _ q_x0)).trans q_x0
  replace q_x1 := (hB.cell (show (⟨w.heap.size + 1, 1, none⟩ : Addr).block < _ from World.block_lt_of_cell? _ _ q_x1)).trans q_x1
  replace b_x : w.heap.size + 1 < w_15.heap.size := World.block_lt_of_cell? _ _ q_x0
  replace q_p0 := (hB.cell (show (⟨C_p, 0, none⟩ : Addr).block < _ from World.block_lt_of_cell? _ _ q_p0)).trans q_p0
  replace q_p1 := (hB.cell (show (⟨C_p, 1, none⟩ : Addr).block < _ from World.block_lt_of_cell? _ _ q_p1)).trans q_p1
  replace b_p : C_p < w_15.heap.size := World.block_lt_of_cell? _ _ q_p0
  replace q_y0 := (hB.cell (show (⟨w_5.heap.size, 0, none⟩ : Addr).block < _ from World.block_lt_of_cell? _ _ q_y0)).trans q_y0
  replace q_y1 := (hB.cell (show (⟨w_5.heap.size, 1, none⟩ : Addr).block < _ from World.block_lt_of_cell? _ _ q_y1)).trans q_y1
  replace b_y : w_5.heap.size < w_15.heap.size := World.block_lt_of_cell? _ _ q_y0
  replace q_g0 := (hB.cell (show (⟨C_g, 0, none⟩ : Addr).block < _ from World.block_lt_of_cell? _ _ q_g0)).trans q_g0
  replace q_g1 := (hB.cell (show (⟨C_g, 1, none⟩ : Addr).block < _ from World.block_lt_of_cell? _ _ q_g1)).trans q_g1
  replace b_g : C_g < w_15.heap.size := World.block_lt_of_cell? _ _ q_g0
  replace Hp := Lib.hid (ownL_later Hp.out hB)
  replace Hy := Lib.hid (ownL_later Hy.out hB)
  replace Hz := Lib.hid (ownL_later Hz.out hB)
  replace Hg := Lib.hid (ownL_later Hg.out hB)
  replace Hv := Lib.hid (ownL_later Hv.out hB)
  have HS15 := Lib.hid hB.size
  replace HB := Lib.hid (HB.out.trans (hB.mono HB.out.size))
  clear hB hg
  have HCT_g := Lib.hid (show 1 + countL [(rwN (.slice na_g nn_g nc_g) ns_g), (rwI (.slice oa_g on_g oc_g) zs_b)] ≤ 4611686018427387904 by
    have h1 := HWC.out; have h2 := HCB.out; rw [countL, countL, countL, rwN_cnt, rwI_count, HNS_g.out]; omega)
  have NOB_b_g := Lib.hid (show w.heap.size ∉ _ from fun hb => by have hh := ownL_lt Hg.out _ hb; have := HS0.out; have := HS1.out; have := HS2.out; have := HS3.out; have := HS4.out; have := HSb_p.out; have := HSc_p.out; have := HS5.out; have := HS6.out; have := HSb_y.out; have := HS7.out; have := HS8.out; have := HSb_g.out; have := HSc_g.out; have := HS9.out; have := HS10.out; have := HS11.out; have := HS12.out; have := HS13.out; have := HS14.out; have := HS15.out; omega)
  have NOB_x_g := Lib.hid (show w.heap.size + 1 ∉ _ from fun hb => by have hh := ownL_lt Hg.out _ hb; have := HS0.out; have := HS1.out; have := HS2.out; have := HS3.out; have := HS4.out; have := HSb_p.out; have := HSc_p.out; have := HS5.out; have := HS6.out; have := HSb_y.out; have := HS7.out; have := HS8.out; have := HSb_g.out; have := HSc_g.out; have := HS9.out; have := HS10.out; have := HS11.out; have := HS12.out; have := HS13.out; have := HS14.out; have := HS15.out; omega)
  have NOB_p_g := Lib.hid (show C_p ∉ _ from fun hb => by have hh := ownL_lt Hg.out _ hb; have := HS0.out; have := HS1.out; have := HS2.out; have := HS3.out; have := HS4.out; have := HSb_p.out; have := HSc_p.out; have := HS5.out; have := HS6.out; have := HSb_y.out; have := HS7.out; have := HS8.out; have := HSb_g.out; have := HSc_g.out; have := HS9.out; have := HS10.out; have := HS11.out; have := HS12.out; have := HS13.out; have := HS14.out; have := HS15.out; omega)
  have NOB_y_g := Lib.hid (show w_5.heap.size ∉ _ from fun hb => by have hh := ownL_lt Hg.out _ hb; have := HS0.out; have := HS1.out; have := HS2.out; have := HS3.out; have := HS4.out; have := HSb_p.out; have := HSc_p.out; have := HS5.out; have := HS6.out; have := HSb_y.out; have := HS7.out; have := HS8.out; have := HSb_g.out; have := HSc_g.out; have := HS9.out; have := HS10.out; have := HS11.out; have := HS12.out; have := HS13.out; have := HS14.out; have := HS15.out; omega)
  have NOB_g_g := HNB_g
  go_wp2_with fail
  refine (mkV_Builder (rwN (.slice na_g nn_g nc_g) ns_g) (rwI (.slice oa_g on_g oc_g) zs_b) _ _ rfl rfl (rwN_is _ _) (rwI_is _ _) _ _ 1 _ rfl _ Hg.out HN_g.out HCT_g.out).mono ?_
  rintro e w_16 ⟨rfl, hmk, hon⟩
  replace q_b0 := (cell_only (a := ⟨w.heap.size, 0, none⟩) hon (show w.heap.size ∉ _ from fun hb => NOB_b_g.out hb) (World.block_lt_of_cell? _ _ q_b0)).trans q_b0
  replace q_b1 := (cell_only (a := ⟨w.heap.size, 1, none⟩) hon (show w.heap.size ∉ _ from fun hb => NOB_b_g.out hb) (World.block_lt_of_cell? _ _ q_b1)).trans q_b1
  replace b_b : w.heap.size < w_16.heap.size := World.block_lt_of_cell? _ _ q_b0
  replace q_x0 := (cell_only (a := ⟨w.heap.size + 1, 0, none⟩) hon (show w.heap.size + 1 ∉ _ from fun hb => NOB_x_g.out hb) (World.block_lt_of_cell? _ _ q_x0)).trans q_x0
  replace q_x1 := (cell_only (a := ⟨w.heap.size + 1, 1, none⟩) hon (show w.heap.size + 1 ∉ _ from fun hb => NOB_x_g.out hb) (World.block_lt_of_cell? _ _ q_x1)).trans q_x1
  replace b_x : w.heap.size + 1 < w_16.heap.size := World.block_lt_of_cell? _ _ q_x0
  replace q_p0 := (cell_only (a := ⟨C_p, 0, none⟩) hon (show C_p ∉ _ from fun hb => NOB_p_g.out hb) (World.block_lt_of_cell? _ _ q_p0)).trans q_p0
  replace q_p1 := (cell_only (a := ⟨C_p, 1, none⟩) hon (show C_p ∉ _ from fun hb => NOB_p_g.out hb) (World.block_lt_of_cell? _ _ q_p1)).trans q_p1
  replace b_p : C_p < w_16.heap.size := World.block_lt_of_cell? _ _ q_p0
  replace q_y0 := (cell_only (a := ⟨w_5.heap.size, 0, none⟩) hon (show w_5.heap.size ∉ _ from fun hb => NOB_y_g.out hb) (World.block_lt_of_cell? _ _ q_y0)).trans q_y0
  replace q_y1 := (cell_only (a := ⟨w_5.heap.size, 1, none⟩) hon (show w_5.heap.size ∉ _ from fun hb => NOB_y_g.out hb) (World.block_lt_of_cell? _ _ q_y1)).trans q_y1
  replace b_y : w_5.heap.size < w_16.heap.size := World.block_lt_of_cell? _ _ q_y0
  replace q_g0 := (cell_only (a := ⟨C_g, 0, none⟩) hon (show C_g ∉ _ from fun hb => NOB_g_g.out hb) (World.block_lt_of_cell? _ _ q_g0)).trans q_g0
  replace q_g1 := (cell_only (a := ⟨C_g, 1, none⟩) hon (show C_g ∉ _ from fun hb => NOB_g_g.out hb) (World.block_lt_of_cell? _ _ q_g1)).trans q_g1
  replace b_g : C_g < w_16.heap.size := World.block_lt_of_cell? _ _ q_g0
  have hbk := ownL_back (lo := w.heap.size) HB.out (ownL_mono Hg.out (lo' := w.heap.size) (by have := HS0.out; have := HS1.out; have := HS2.out; have := HS3.out; have := HS4.out; have := HSb_p.out; have := HSc_p.out; have := HS5.out; have := HS6.out; have := HSb_y.out; have := HS7.out; have := HS8.out; have := HSb_g.out; have := HSc_g.out; have := HS9.out; have := HS10.out; have := HS11.out; have := HS12.out; have := HS13.out; have := HS14.out; have := HS15.out; omega) (Nat.le_refl _)) HB.out.size hon
  replace Hp := Lib.hid (ownL_apart Hp.out Hg.out (by have := HS0.out; have := HS1.out; have := HS2.out; have := HS3.out; have := HS4.out; have := HSb_p.out; have := HSc_p.out; have := HS5.out; have := HS6.out; have := HSb_y.out; have := HS7.out; have := HS8.out; have := HSb_g.out; have := HSc_g.out; have := HS9.out; have := HS10.out; have := HS11.out; have := HS12.out; have := HS13.out; have := HS14.out; have := HS15.out; omega) hon)
  replace Hy := Lib.hid (ownL_apart Hy.out Hg.out (by have := HS0.out; have := HS1.out; have := HS2.out; have := HS3.out; have := HS4.out; have := HSb_p.out; have := HSc_p.out; have := HS5.out; have := HS6.out; have := HSb_y.out; have := HS7.out; have := HS8.out; have := HSb_g.out; have := HSc_g.out; have := HS9.out; have := HS10.out; have := HS11.out; have := HS12.out; have := HS13.out; have := HS14.out; have := HS15.out; omega) hon)
  replace Hz := Lib.hid (ownL_apart Hz.out Hg.out (by have := HS0.out; have := HS1.out; have := HS2.out; have := HS3.out; have := HS4.out; have := HSb_p.out; have := HSc_p.out; have := HS5.out; have := HS6.out; have := HSb_y.out; have := HS7.out; have := HS8.out; have := HSb_g.out; have := HSc_g.out; have := HS9.out; have := HS10.out; have := HS11.out; have := HS12.out; have := HS13.out; have := HS14.out; have := HS15.out; omega) hon)
  replace Hv := Lib.hid (ownL_apart Hv.out Hg.out (by have := HS0.out; have := HS1.out; have := HS2.out; have := HS3.out; have := HS4.out; have := HSb_p.out; have := HSc_p.out; have := HS5.out; have := HS6.out; have := HSb_y.out; have := HS7.out; have := HS8.out; have := HSb_g.out; have := HSc_g.out; have := HS9.out; have := HS10.out; have := HS11.out; have := HS12.out; have := HS13.out; have := HS14.out; have := HS15.out; omega) hon)
  replace Hg := Lib.hid hmk
  have HS16 := Lib.hid hon.size
  replace HB := Lib.hid hbk
  clear hbk hmk hon
  obtain ⟨m, hm⟩ : ∃ m, 1 + countL [(rwN (.slice na_g nn_g nc_g) ns_g), (rwI (.slice oa_g on_g oc_g) zs_b)] = m := ⟨_, rfl⟩
  rw [hm]; have HM := Lib.hid hm
  have hmq : ((m : Int) == (m : Int)) = true := beq_self_eq_true _
  have hm0 : ¬ ((m : Int) < 0) := by omega
  clear hm
  go_wp2_with fail
  refine (hdV_Builder (rwN (.slice na_g nn_g nc_g) ns_g) (rwI (.slice oa_g on_g oc_g) zs_b) _ _ rfl rfl (rwN_is _ _) (rwI_is _ _) _ 1 _ rfl _ (ownL_read Hg.out (by have := HS0.out; have := HS1.out; have := HS2.out; have := HS3.out; have := HS4.out; have := HSb_p.out; have := HSc_p.out; have := HS5.out; have := HS6.out; have := HSb_y.out; have := HS7.out; have := HS8.out; have := HSb_g.out; have := HSc_g.out; have := HS9.out; have := HS10.out; have := HS11.out; have := HS12.out; have := HS13.out; have := HS14.out; have := HS15.out; have := HS16.out; omega)) (Nat.le_refl _) HCT_g.out).mono ?_
  rintro e w_17 ⟨rfl, hg⟩
  have hB := hg.below
  replace q_b0 := (hB.cell (show (⟨w.heap.size, 0, none⟩ : Addr).block < _ from World.block_lt_of_cell? _ _ q_b0)).trans q_b0
  replace q_b1 := (hB.cell (show (⟨w.heap.size, 1, none⟩ : Addr).block < _ from World.block_lt_of_cell? _ _ q_b1)).trans q_b1
  replace b_b : w.heap.size < w_17.heap.size := World.block_lt_of_cell? _ _ q_b0
  replace q_x0 := (hB.cell (show (⟨w.heap.size + 1, 0, none⟩ : Addr).block < _ from World.block_lt_of_cell? _ _ q_x0)).trans q_x0
  replace q_x1 := (hB.cell (show (⟨w.heap.size + 1, 1, none⟩ : Addr).block < _ from World.block_lt_of_cell? _ _ q_x1)).trans q_x1
  replace b_x : w.heap.size + 1 < w_17.heap.size := World.block_lt_of_cell? _ _ q_x0
  replace q_p0 := (hB.cell (show (⟨C_p, 0, none⟩ : Addr).block < _ from World.block_lt_of_cell? _ _ q_p0)).trans q_p0
  replace q_p1 := (hB.cell (show (⟨C_p, 1, none⟩ : Addr).block < _ from World.block_lt_of_cell? _ _ q_p1)).trans q_p1
  replace b_p : C_p < w_17.heap.size := World.block_lt_of_cell? _ _ q_p0
  replace q_y0 := (hB.cell (show (⟨w_5.heap.size, 0, none⟩ : Addr).block < _ from World.block_lt_of_cell? _ _ q_y0)).trans q_y0
  replace q_y1 := (hB.cell (show (⟨w_5.heap.size, 1, none⟩ : Addr).block < _ from World.block_lt_of_cell? _ _ q_y1)).trans q_y1
  replace b_y : w_5.heap.size < w_17.heap.size := World.block_lt_of_cell? _ _ q_y0
  replace q_g0 := (hB.cell (show (⟨C_g, 0, none⟩ : Addr).block < _ from World.block_lt_of_cell? _ _ q_g0)).trans q_g0
  replace q_g1 := (hB.cell (show (⟨C_g, 1, none⟩ : Addr).block < _ from World.block_lt_of_cell? _ _ q_g1)).trans q_g1
  replace b_g : C_g < w_17.heap.size := World.block_lt_of_cell? _ _ q_g0
  replace Hp := Lib.hid (ownL_later Hp.out hB)
  replace Hy := Lib.hid (ownL_later Hy.out hB)
  replace Hz := Lib.hid (ownL_later Hz.out hB)
  replace Hg := Lib.hid (ownL_later Hg.out hB)
  replace Hv := Lib.hid (ownL_later Hv.out hB)
  have HS17 := Lib.hid hB.size
  replace HB := Lib.hid (HB.out.trans (hB.mono HB.out.size))
  rw [HM.out]
  clear hB hg
  go_upto_region 34 with (fail)
  go_cut [19, 20, 21] from 120 to 130 (fun c d f wx => ∃ C na' nn' nc' oa' on' oc' ns', c = .pointer (some ⟨C, 0, none⟩) ∧ d = .string WRT ∧ f = .string LGD ∧ Box2 wx C (.slice na' nn' nc') (.slice oa' on' oc') ∧ ns'.map Prod.fst = NOD ∧ BdM w_17.heap.size w_17 wx (.slice na' nn' nc') (.slice oa' on' oc') ns' zs_b ∧ w_17.heap.size ≤ C)
  case first =>
    have KEEP := Lib.hid (fun (w' : World) (h : Below w_17.heap.size w_17 w') => show Below w_17.heap.size w_17 w' ∧ w'.cell? ⟨w.heap.size, 0, none⟩ = some (.slice na_b nn_b nc_b) ∧ w'.cell? ⟨w.heap.size, 1, none⟩ = some (.slice oa_b on_b oc_b) ∧ w'.cell? ⟨w.heap.size + 1, 0, none⟩ = some (.int .i64 op_x) ∧ w'.cell? ⟨w.heap.size + 1, 1, none⟩ = some (.string tx_x) from ⟨h, (h.cell (show (⟨w.heap.size, 0, none⟩ : Addr).block < _ from World.block_lt_of_cell? _ _ q_b0)).trans q_b0, (h.cell (show (⟨w.heap.size, 1, none⟩ : Addr).block < _ from World.block_lt_of_cell? _ _ q_b1)).trans q_b1, (h.cell (show (⟨w.heap.size + 1, 0, none⟩ : Addr).block < _ from World.block_lt_of_cell? _ _ q_x0)).trans q_x0, (h.cell (show (⟨w.heap.size + 1, 1, none⟩ : Addr).block < _ from World.block_lt_of_cell? _ _ q_x1)).trans q_x1⟩)
    go_region_held3 (fun w' => Below w_17.heap.size w_17 w' ∧ w'.cell? ⟨w.heap.size, 0, none⟩ = some (.slice na_b nn_b nc_b) ∧ w'.cell? ⟨w.heap.size, 1, none⟩ = some (.slice oa_b on_b oc_b) ∧ w'.cell? ⟨w.heap.size + 1, 0, none⟩ = some (.int .i64 op_x) ∧ w'.cell? ⟨w.heap.size + 1, 1, none⟩ = some (.string tx_x)) (exact KEEP.out _ (by repeat' (first | (with_reducible exact Below.refl _ _) | (with_reducible exact hPA) | (with_reducible exact hPL) | (with_reducible exact hPS) | (with_reducible exact hPB) | (with_reducible refine bl_dw ?_) | (with_reducible refine bl_aw ?_ _) | (with_reducible refine bl_st ?_ (by first | omega | (have := hPA.size; omega) | (have := hPL.size; omega) | (have := hPS.size; omega) | (have := hPB.size; omega)) _)))) (first | (go_at_call 27; with_reducible refine (tb_any HRN_b.out HRI_b.out HWN_b.out HWI_b.out (bl_via HB.out HB.out.size (by repeat' (first | (with_reducible exact Below.refl _ _) | (with_reducible exact hPA) | (with_reducible exact hPL) | (with_reducible exact hPS) | (with_reducible exact hPB) | (with_reducible refine bl_dw ?_) | (with_reducible refine bl_aw ?_ _) | (with_reducible refine bl_st ?_ (by first | omega | (have := hPA.size; omega) | (have := hPL.size; omega) | (have := hPS.size; omega) | (have := hPB.size; omega)) _))))).mono ?_; rintro e wB ⟨naB, nnB, ncB, oaB, onB, ocB, rfl, hiB, hbB⟩; have hPB := bl_tr (show Below w_17.heap.size w_17 _ from (by repeat' (first | (with_reducible exact Below.refl _ _) | (with_reducible exact hPA) | (with_reducible exact hPL) | (with_reducible exact hPS) | (with_reducible exact hPB) | (with_reducible refine bl_dw ?_) | (with_reducible refine bl_aw ?_ _) | (with_reducible refine bl_st ?_ (by first | omega | (have := hPA.size; omega) | (have := hPL.size; omega) | (have := hPS.size; omega) | (have := hPB.size; omega)) _)))) hbB) | (go_at_call 28; with_reducible refine (th_any HRH_l.out HWH_l.out (bl_via HB.out HB.out.size (by repeat' (first | (with_reducible exact Below.refl _ _) | (with_reducible exact hPA) | (with_reducible exact hPL) | (with_reducible exact hPS) | (with_reducible exact hPB) | (with_reducible refine bl_dw ?_) | (with_reducible refine bl_aw ?_ _) | (with_reducible refine bl_st ?_ (by first | omega | (have := hPA.size; omega) | (have := hPL.size; omega) | (have := hPS.size; omega) | (have := hPB.size; omega)) _))))).mono ?_; rintro e wS ⟨haS, hnS, hcS, ssS, rfl, heS, hrS, hbS⟩; have hPS := bl_tr (show Below w_17.heap.size w_17 _ from (by repeat' (first | (with_reducible exact Below.refl _ _) | (with_reducible exact hPA) | (with_reducible exact hPL) | (with_reducible exact hPS) | (with_reducible exact hPB) | (with_reducible refine bl_dw ?_) | (with_reducible refine bl_aw ?_ _) | (with_reducible refine bl_st ?_ (by first | omega | (have := hPA.size; omega) | (have := hPL.size; omega) | (have := hPS.size; omega) | (have := hPB.size; omega)) _)))) hbS; have hBS := bl_tr (show Below wB.heap.size wB _ from (by repeat' (first | (with_reducible exact Below.refl _ _) | (with_reducible refine bl_dw ?_) | (with_reducible refine bl_aw ?_ _)))) hbS) | (go_at_call 29; with_reducible refine (to_Line op_x tx_x _).mono ?_; rintro e wL ⟨rfl, hgL⟩; have hbL := hgL.below; have hPL := bl_tr (show Below w_17.heap.size w_17 _ from (by repeat' (first | (with_reducible exact Below.refl _ _) | (with_reducible exact hPA) | (with_reducible exact hPL) | (with_reducible exact hPS) | (with_reducible exact hPB) | (with_reducible refine bl_dw ?_) | (with_reducible refine bl_aw ?_ _) | (with_reducible refine bl_st ?_ (by first | omega | (have := hPA.size; omega) | (have := hPL.size; omega) | (have := hPS.size; omega) | (have := hPB.size; omega)) _)))) hbL; have hBL := bl_tr (show Below wB.heap.size wB _ from (by repeat' (first | (with_reducible exact Below.refl _ _) | (with_reducible exact hBS) | (with_reducible refine bl_dw ?_) | (with_reducible refine bl_aw ?_ _)))) hbL; have hSL := bl_tr (show Below wS.heap.size wS _ from (by repeat' (first | (with_reducible exact Below.refl _ _) | (with_reducible refine bl_dw ?_) | (with_reducible refine bl_aw ?_ _)))) hbL) | (go_at_call 18; refine (rlI_any op_x tx_x HXZ.out (hiB.up (by repeat' (first | (with_reducible exact Below.refl _ _) | (with_reducible exact hBL) | (with_reducible exact hBS) | (with_reducible refine bl_dw ?_) | (with_reducible refine bl_aw ?_ _)))) HFIT.out heS (hrS.up (by repeat' (first | (with_reducible exact Below.refl _ _) | (with_reducible exact hSL) | (with_reducible refine bl_dw ?_) | (with_reducible refine bl_aw ?_ _)))) HSO_l.out (HMX.out.on (bl_via HB.out HB.out.size (by repeat' (first | (with_reducible exact Below.refl _ _) | (with_reducible exact hPA) | (with_reducible exact hPL) | (with_reducible exact hPS) | (with_reducible exact hPB) | (with_reducible refine bl_dw ?_) | (with_reducible refine bl_aw ?_ _) | (with_reducible refine bl_st ?_ (by first | omega | (have := hPA.size; omega) | (have := hPL.size; omega) | (have := hPS.size; omega) | (have := hPB.size; omega)) _))))) (HTB.out _ (bl_via HB.out HB.out.size (by repeat' (first | (with_reducible exact Below.refl _ _) | (with_reducible exact hPA) | (with_reducible exact hPL) | (with_reducible exact hPS) | (with_reducible exact hPB) | (with_reducible refine bl_dw ?_) | (with_reducible refine bl_aw ?_ _) | (with_reducible refine bl_st ?_ (by first | omega | (have := hPA.size; omega) | (have := hPL.size; omega) | (have := hPS.size; omega) | (have := hPB.size; omega)) _)))))).mono ?_; rintro e wA ⟨naA, nnA, ncA, oaA, onA, ocA, nsA, rfl, hnsA, hbdX⟩; have hA := hbdX.n.row.below; have hPA := bl_tr (show Below w_17.heap.size w_17 _ from (by repeat' (first | (with_reducible exact Below.refl _ _) | (with_reducible exact hPA) | (with_reducible exact hPL) | (with_reducible exact hPS) | (with_reducible exact hPB) | (with_reducible refine bl_dw ?_) | (with_reducible refine bl_aw ?_ _) | (with_reducible refine bl_st ?_ (by first | omega | (have := hPA.size; omega) | (have := hPL.size; omega) | (have := hPS.size; omega) | (have := hPB.size; omega)) _)))) hA; have hbdA := hbdX.down (hPA) (Below.size (show Below w_17.heap.size w_17 _ from (by repeat' (first | (with_reducible exact Below.refl _ _) | (with_reducible exact hPA) | (with_reducible exact hPL) | (with_reducible exact hPS) | (with_reducible exact hPB) | (with_reducible refine bl_dw ?_) | (with_reducible refine bl_aw ?_ _) | (with_reducible refine bl_st ?_ (by first | omega | (have := hPA.size; omega) | (have := hPL.size; omega) | (have := hPS.size; omega) | (have := hPB.size; omega)) _))))); (first | (refine lay_box (w := wA) (c := w_17.heap.size) (x := .slice none 0 0) (y := .slice none 0 0) ?_ ?_; (focus (repeat' (first | (with_reducible refine hp_dr ?_) | ((with_reducible refine hp_nw ?_); (first | (with_reducible rfl) | (simp only [size_alloc]; done))) | (with_reducible refine heap_al ?_ _) | (with_reducible refine heap_bl hA ?_) | (with_reducible refine heap_bl hbL ?_) | (with_reducible refine heap_bl hbS ?_) | (with_reducible refine heap_bl hbB ?_)))); intro x0 x1 x2 x3) | (refine lay_box (w := wA) (c := wB.heap.size) (x := .slice none 0 0) (y := .slice none 0 0) ?_ ?_; (focus (repeat' (first | (with_reducible refine hp_dr ?_) | ((with_reducible refine hp_nw ?_); (first | (with_reducible rfl) | (simp only [size_alloc]; done))) | (with_reducible refine heap_al ?_ _) | (with_reducible refine heap_bl hA ?_) | (with_reducible refine heap_bl hbL ?_) | (with_reducible refine heap_bl hbS ?_) | (with_reducible refine heap_bl hbB ?_)))); intro x0 x1 x2 x3) | (refine lay_box (w := wA) (c := wS.heap.size) (x := .slice none 0 0) (y := .slice none 0 0) ?_ ?_; (focus (repeat' (first | (with_reducible refine hp_dr ?_) | ((with_reducible refine hp_nw ?_); (first | (with_reducible rfl) | (simp only [size_alloc]; done))) | (with_reducible refine heap_al ?_ _) | (with_reducible refine heap_bl hA ?_) | (with_reducible refine heap_bl hbL ?_) | (with_reducible refine heap_bl hbS ?_) | (with_reducible refine heap_bl hbB ?_)))); intro x0 x1 x2 x3) | (refine lay_box (w := wA) (c := wL.heap.size) (x := .slice none 0 0) (y := .slice none 0 0) ?_ ?_; (focus (repeat' (first | (with_reducible refine hp_dr ?_) | ((with_reducible refine hp_nw ?_); (first | (with_reducible rfl) | (simp only [size_alloc]; done))) | (with_reducible refine heap_al ?_ _) | (with_reducible refine heap_bl hA ?_) | (with_reducible refine heap_bl hbL ?_) | (with_reducible refine heap_bl hbS ?_) | (with_reducible refine heap_bl hbB ?_)))); intro x0 x1 x2 x3) | skip)))
    all_goals
      go_wp2_with fail
      go_meet
      refine ⟨_, naA, nnA, ncA, oaA, onA, ocA, nsA, rfl, by rw [HWRT.out], by rw [HLGD.out], ?_, by rw [hnsA, HNOD.out], ?_, ?_⟩
      · unfold Box2
        first | ((with_reducible refine bx_both ?_ _ _); repeat' (first | (with_reducible refine hp_dr ?_) | ((with_reducible refine hp_nw ?_); (first | (with_reducible rfl) | (simp only [size_alloc]; done))) | (with_reducible refine heap_al ?_ _) | (with_reducible refine heap_bl hA ?_) | (with_reducible refine heap_bl hbL ?_) | (with_reducible refine heap_bl hbS ?_) | (with_reducible refine heap_bl hbB ?_))) | (repeat' (first | (with_reducible refine hp_dr ?_) | ((with_reducible refine hp_nw ?_); (first | (with_reducible rfl) | (simp only [size_alloc]; done))) | (with_reducible refine heap_al ?_ _) | (with_reducible refine heap_bl hA ?_) | (with_reducible refine heap_bl hbL ?_) | (with_reducible refine heap_bl hbS ?_) | (with_reducible refine heap_bl hbB ?_)))
      · repeat' (first | (with_reducible exact hbdA) | (with_reducible refine BdM.drew ?_) | (with_reducible refine bd_al ?_ _) | (with_reducible refine bd_st2 (by repeat' (first | (with_reducible refine hp_dr ?_) | ((with_reducible refine hp_nw ?_); (first | (with_reducible rfl) | (simp only [size_alloc]; done))) | (with_reducible refine heap_al ?_ _) | (with_reducible refine heap_bl hA ?_) | (with_reducible refine heap_bl hbL ?_) | (with_reducible refine heap_bl hbS ?_) | (with_reducible refine heap_bl hbB ?_))) (by first | omega | (have := hPA.size; omega) | (have := hPL.size; omega) | (have := hPS.size; omega) | (have := hPB.size; omega)) ?_))
      · first | omega | (have := hPA.size; omega) | (have := hPL.size; omega) | (have := hPS.size; omega) | (have := hPB.size; omega)
  obtain ⟨C_h, na_h, nn_h, nc_h, oa_h, on_h, oc_h, ns_h, rfl, rfl, rfl, hbx, hns, hbd, hC⟩ := hcut
  rename World => w_18
  have hB : Below w_17.heap.size w_17 w_18 := hbd.n.row.below
  replace q_b0 := (hB.cell (show (⟨w.heap.size, 0, none⟩ : Addr).block < _ from World.block_lt_of_cell? _ _ q_b0)).trans q_b0
  replace q_b1 := (hB.cell (show (⟨w.heap.size, 1, none⟩ : Addr).block < _ from World.block_lt_of_cell? _ _ q_b1)).trans q_b1
  replace b_b : w.heap.size < w_18.heap.size := World.block_lt_of_cell? _ _ q_b0
  replace q_x0 := (hB.cell (show (⟨w.heap.size + 1, 0, none⟩ : Addr).block < _ from World.block_lt_of_cell? _ _ q_x0)).trans q_x0
  replace q_x1 := (hB.cell (show (⟨w.heap.size + 1, 1, none⟩ : Addr).block < _ from World.block_lt_of_cell? _ _ q_x1)).trans q_x1
  replace b_x : w.heap.size + 1 < w_18.heap.size := World.block_lt_of_cell? _ _ q_x0
  replace q_p0 := (hB.cell (show (⟨C_p, 0, none⟩ : Addr).block < _ from World.block_lt_of_cell? _ _ q_p0)).trans q_p0
  replace q_p1 := (hB.cell (show (⟨C_p, 1, none⟩ : Addr).block < _ from World.block_lt_of_cell? _ _ q_p1)).trans q_p1
  replace b_p : C_p < w_18.heap.size := World.block_lt_of_cell? _ _ q_p0
  replace q_y0 := (hB.cell (show (⟨w_5.heap.size, 0, none⟩ : Addr).block < _ from World.block_lt_of_cell? _ _ q_y0)).trans q_y0
  replace q_y1 := (hB.cell (show (⟨w_5.heap.size, 1, none⟩ : Addr).block < _ from World.block_lt_of_cell? _ _ q_y1)).trans q_y1
  replace b_y : w_5.heap.size < w_18.heap.size := World.block_lt_of_cell? _ _ q_y0
  replace q_g0 := (hB.cell (show (⟨C_g, 0, none⟩ : Addr).block < _ from World.block_lt_of_cell? _ _ q_g0)).trans q_g0
  replace q_g1 := (hB.cell (show (⟨C_g, 1, none⟩ : Addr).block < _ from World.block_lt_of_cell? _ _ q_g1)).trans q_g1
  replace b_g : C_g < w_18.heap.size := World.block_lt_of_cell? _ _ q_g0
  replace Hp := Lib.hid (ownL_later Hp.out hB)
  replace Hy := Lib.hid (ownL_later Hy.out hB)
  replace Hz := Lib.hid (ownL_later Hz.out hB)
  replace Hg := Lib.hid (ownL_later Hg.out hB)
  replace Hv := Lib.hid (ownL_later Hv.out hB)
  have Hh := Lib.hid ((bdAt_own hbd.n hbd.o).1)
  have HS18 := Lib.hid hB.size
  replace HB := Lib.hid (HB.out.trans (hB.mono HB.out.size))
  have HN_h := Lib.hid (bdAt_own hbd.n hbd.o).2
  have HNS_h := Lib.hid hns
  have HNB_h := Lib.hid (bd_nobox hbx hbd)
  obtain ⟨⟨q_h0, q_h1⟩, _, _⟩ := hbx.cells
  have b_h := hbx.lt
  have HSb_h := Lib.hid b_h; have HSc_h := Lib.hid hC
  clear hB hbx hns hbd hC
  go_wp2_with fail
  refine (eqV_Builder (rwN (.slice na_h nn_h nc_h) ns_h) (rwN (.slice na_p nn_p nc_p) ns_p) (rwI (.slice oa_h on_h oc_h) zs_b) (rwI (.slice oa_p on_p oc_p) zs_b) _ _ _ _ rfl rfl rfl rfl _ (rwN_is _ _) (rwN_is _ _) (rwN_data _ _ (HNS_h.out.trans HNS_p.out.symm)) (rdL1 Hh.out) (rdL1 Hp.out) (rwI_is _ _) (rwI_is _ _) (rwI_data.2 rfl) (rdL2 Hh.out) (rdL2 Hp.out)).mono ?_
  rintro e w_19 ⟨rfl, hg⟩
  have hB := hg.below
  replace q_b0 := (hB.cell (show (⟨w.heap.size, 0, none⟩ : Addr).block < _ from World.block_lt_of_cell? _ _ q_b0)).trans q_b0
  replace q_b1 := (hB.cell (show (⟨w.heap.size, 1, none⟩ : Addr).block < _ from World.block_lt_of_cell? _ _ q_b1)).trans q_b1
  replace b_b : w.heap.size < w_19.heap.size := World.block_lt_of_cell? _ _ q_b0
  replace q_x0 := (hB.cell (show (⟨w.heap.size + 1, 0, none⟩ : Addr).block < _ from World.block_lt_of_cell? _ _ q_x0)).trans q_x0
  replace q_x1 := (hB.cell (show (⟨w.heap.size + 1, 1, none⟩ : Addr).block < _ from World.block_lt_of_cell? _ _ q_x1)).trans q_x1
  replace b_x : w.heap.size + 1 < w_19.heap.size := World.block_lt_of_cell? _ _ q_x0
  replace q_p0 := (hB.cell (show (⟨C_p, 0, none⟩ : Addr).block < _ from World.block_lt_of_cell? _ _ q_p0)).trans q_p0
  replace q_p1 := (hB.cell (show (⟨C_p, 1, none⟩ : Addr).block < _ from World.block_lt_of_cell? _ _ q_p1)).trans q_p1
  replace b_p : C_p < w_19.heap.size := World.block_lt_of_cell? _ _ q_p0
  replace q_y0 := (hB.cell (show (⟨w_5.heap.size, 0, none⟩ : Addr).block < _ from World.block_lt_of_cell? _ _ q_y0)).trans q_y0
  replace q_y1 := (hB.cell (show (⟨w_5.heap.size, 1, none⟩ : Addr).block < _ from World.block_lt_of_cell? _ _ q_y1)).trans q_y1
  replace b_y : w_5.heap.size < w_19.heap.size := World.block_lt_of_cell? _ _ q_y0
  replace q_g0 := (hB.cell (show (⟨C_g, 0, none⟩ : Addr).block < _ from World.block_lt_of_cell? _ _ q_g0)).trans q_g0
  replace q_g1 := (hB.cell (show (⟨C_g, 1, none⟩ : Addr).block < _ from World.block_lt_of_cell? _ _ q_g1)).trans q_g1
  replace b_g : C_g < w_19.heap.size := World.block_lt_of_cell? _ _ q_g0
  replace q_h0 := (hB.cell (show (⟨C_h, 0, none⟩ : Addr).block < _ from World.block_lt_of_cell? _ _ q_h0)).trans q_h0
  replace q_h1 := (hB.cell (show (⟨C_h, 1, none⟩ : Addr).block < _ from World.block_lt_of_cell? _ _ q_h1)).trans q_h1
  replace b_h : C_h < w_19.heap.size := World.block_lt_of_cell? _ _ q_h0
  replace Hp := Lib.hid (ownL_later Hp.out hB)
  replace Hy := Lib.hid (ownL_later Hy.out hB)
  replace Hz := Lib.hid (ownL_later Hz.out hB)
  replace Hg := Lib.hid (ownL_later Hg.out hB)
  replace Hv := Lib.hid (ownL_later Hv.out hB)
  replace Hh := Lib.hid (ownL_later Hh.out hB)
  have HS19 := Lib.hid hB.size
  replace HB := Lib.hid (HB.out.trans (hB.mono HB.out.size))
  clear hB hg
  go_wp2_with fail
  refine (hdV_Builder (rwN (.slice na_g nn_g nc_g) ns_g) (rwI (.slice oa_g on_g oc_g) zs_b) _ _ rfl rfl (rwN_is _ _) (rwI_is _ _) _ 1 _ rfl _ (ownL_read Hg.out (by have := HS0.out; have := HS1.out; have := HS2.out; have := HS3.out; have := HS4.out; have := HSb_p.out; have := HSc_p.out; have := HS5.out; have := HS6.out; have := HSb_y.out; have := HS7.out; have := HS8.out; have := HSb_g.out; have := HSc_g.out; have := HS9.out; have := HS10.out; have := HS11.out; have := HS12.out; have := HS13.out; have := HS14.out; have := HS15.out; have := HS16.out; have := HS17.out; have := HS18.out; have := HSb_h.out; have := HSc_h.out; have := HS19.out; omega)) (Nat.le_refl _) HCT_g.out).mono ?_
  rintro e w_20 ⟨rfl, hg⟩
  have hB := hg.below
  replace q_b0 := (hB.cell (show (⟨w.heap.size, 0, none⟩ : Addr).block < _ from World.block_lt_of_cell? _ _ q_b0)).trans q_b0
  replace q_b1 := (hB.cell (show (⟨w.heap.size, 1, none⟩ : Addr).block < _ from World.block_lt_of_cell? _ _ q_b1)).trans q_b1
  replace b_b : w.heap.size < w_20.heap.size := World.block_lt_of_cell? _ _ q_b0
  replace q_x0 := (hB.cell (show (⟨w.heap.size + 1, 0, none⟩ : Addr).block < _ from World.block_lt_of_cell? _ _ q_x0)).trans q_x0
  replace q_x1 := (hB.cell (show (⟨w.heap.size + 1, 1, none⟩ : Addr).block < _ from World.block_lt_of_cell? _ _ q_x1)).trans q_x1
  replace b_x : w.heap.size + 1 < w_20.heap.size := World.block_lt_of_cell? _ _ q_x0
  replace q_p0 := (hB.cell (show (⟨C_p, 0, none⟩ : Addr).block < _ from World.block_lt_of_cell? _ _ q_p0)).trans q_p0
  replace q_p1 := (hB.cell (show (⟨C_p, 1, none⟩ : Addr).block < _ from World.block_lt_of_cell? _ _ q_p1)).trans q_p1
  replace b_p : C_p < w_20.heap.size := World.block_lt_of_cell? _ _ q_p0
  replace q_y0 := (hB.cell (show (⟨w_5.heap.size, 0, none⟩ : Addr).block < _ from World.block_lt_of_cell? _ _ q_y0)).trans q_y0
  replace q_y1 := (hB.cell (show (⟨w_5.heap.size, 1, none⟩ : Addr).block < _ from World.block_lt_of_cell? _ _ q_y1)).trans q_y1
  replace b_y : w_5.heap.size < w_20.heap.size := World.block_lt_of_cell? _ _ q_y0
  replace q_g0 := (hB.cell (show (⟨C_g, 0, none⟩ : Addr).block < _ from World.block_lt_of_cell? _ _ q_g0)).trans q_g0
  replace q_g1 := (hB.cell (show (⟨C_g, 1, none⟩ : Addr).block < _ from World.block_lt_of_cell? _ _ q_g1)).trans q_g1
  replace b_g : C_g < w_20.heap.size := World.block_lt_of_cell? _ _ q_g0
  replace q_h0 := (hB.cell (show (⟨C_h, 0, none⟩ : Addr).block < _ from World.block_lt_of_cell? _ _ q_h0)).trans q_h0
  replace q_h1 := (hB.cell (show (⟨C_h, 1, none⟩ : Addr).block < _ from World.block_lt_of_cell? _ _ q_h1)).trans q_h1
  replace b_h : C_h < w_20.heap.size := World.block_lt_of_cell? _ _ q_h0
  replace Hp := Lib.hid (ownL_later Hp.out hB)
  replace Hy := Lib.hid (ownL_later Hy.out hB)
  replace Hz := Lib.hid (ownL_later Hz.out hB)
  replace Hg := Lib.hid (ownL_later Hg.out hB)
  replace Hv := Lib.hid (ownL_later Hv.out hB)
  replace Hh := Lib.hid (ownL_later Hh.out hB)
  have HS20 := Lib.hid hB.size
  replace HB := Lib.hid (HB.out.trans (hB.mono HB.out.size))
  rw [HM.out]
  clear hB hg
  go_wp2_with fail
  go_ret
  exact ⟨rfl, HB.out⟩

end Go.Proofs.YtpkicliimhflgaaGreatDoor

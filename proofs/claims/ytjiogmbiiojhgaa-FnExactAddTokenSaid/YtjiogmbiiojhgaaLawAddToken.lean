/- The walk of the law FnExactAddToken: it returns true, and writes nothing that was there. -/
import Derived.Test.YtjiogmbiiojhgaaLawA
import Derived.Deep.RegionHeld3
import Derived.Deep.RegionWith
import Derived.Deep.CutRange
namespace Go.Proofs.Ytjiogmbiiojhgaa
open Go.ChangeShapes Go.WideShapes Go.ChangeAt Go.RowKit

set_option maxRecDepth 100000 in
set_option maxHeartbeats 4000000 in
theorem walkAddToken (na_b : Option Addr) (nn_b nc_b : Nat) (oa_b : Option Addr) (on_b oc_b : Nat) (ns_b : List Nv) (zs_b : List Int) (k_t : Int) (m_t : ByteArray) (ta_t : Option Addr) (tn_t tc_t : Nat) (xs_t : List At) (u_t : ByteArray) (w : World) (r_b : IsBd w (.slice na_b nn_b nc_b) (.slice oa_b on_b oc_b) ns_b zs_b) (rn_t : m_t.size ≤ 9223372036854775807) (r_t : IsAts w ta_t tn_t tc_t xs_t) (rt_t : u_t.size ≤ 9223372036854775807) :
    Calls Try.prog 8 #[.agg #[.slice na_b nn_b nc_b, .slice oa_b on_b oc_b], .agg #[.int .i64 k_t, .string m_t, .slice ta_t tn_t tc_t, .string u_t]] w fun e w' => e = .returned (.bool true) ∧ Below w.heap.size w w' := by
  obtain ⟨⟨hr_b, hok_b⟩, hri_b, _, _, _⟩ := r_b
  have HRN_b := Lib.hid hr_b; have HRI_b := Lib.hid hri_b; have HOK_b := Lib.hid (rwN_small (v := .slice na_b nn_b nc_b) hok_b)
  clear hr_b hok_b hri_b
  obtain ⟨rd_t, rl_t, ok_t⟩ := r_t
  have HRA_t := Lib.hid rd_t; have HOA_t := Lib.hid (rwA_small (v := .slice ta_t tn_t tc_t) ok_t); have HRN2_t := Lib.hid rn_t; have HRT_t := Lib.hid rt_t
  clear rd_t rl_t ok_t rn_t rt_t
  go_enter Try.func8, Try.ntmps8
  go_wp2_with fail
  obtain ⟨w_0, hw_0⟩ : ∃ x, ((w.alloc (.cells #[.slice na_b nn_b nc_b, .slice oa_b on_b oc_b] 55)).alloc (.cells #[.int .i64 k_t, .string m_t, .slice ta_t tn_t tc_t, .string u_t] 61)) = x := ⟨_, rfl⟩
  rw [hw_0]
  have HB := Lib.hid (show Below w.heap.size w w_0 by rw [← hw_0]; exact (((Below.refl w.heap.size w).alloc (by first | (simp; done) | (simp; omega)) _).alloc (by first | (simp; done) | (simp; omega)) _))
  have q_b0 : w_0.cell? ⟨w.heap.size, 0, none⟩ = some (.slice na_b nn_b nc_b) := by rw [← hw_0]; simp
  have q_b1 : w_0.cell? ⟨w.heap.size, 1, none⟩ = some (.slice oa_b on_b oc_b) := by rw [← hw_0]; simp
  have b_b : w.heap.size < w_0.heap.size := World.block_lt_of_cell? _ _ q_b0
  have q_t0 : w_0.cell? ⟨w.heap.size + 1, 0, none⟩ = some (.int .i64 k_t) := by rw [← hw_0]; simp
  have q_t1 : w_0.cell? ⟨w.heap.size + 1, 1, none⟩ = some (.string m_t) := by rw [← hw_0]; simp
  have q_t2 : w_0.cell? ⟨w.heap.size + 1, 2, none⟩ = some (.slice ta_t tn_t tc_t) := by rw [← hw_0]; simp
  have q_t3 : w_0.cell? ⟨w.heap.size + 1, 3, none⟩ = some (.string u_t) := by rw [← hw_0]; simp
  have b_t : w.heap.size + 1 < w_0.heap.size := World.block_lt_of_cell? _ _ q_t0
  have HS0 := Lib.hid (show w.heap.size + 2 ≤ w_0.heap.size by rw [← hw_0]; simp)
  clear hw_0
  go_wp2_with fail
  refine (sz_Builder (rwN (.slice na_b nn_b nc_b) ns_b) (rwI (.slice oa_b on_b oc_b) zs_b) 1048576 (by omega) (by omega) _ (rwN_is _ _) (rwN_reads ((HRN_b.out.below HB.out (Nat.le_refl _)).mono HB.out.size)) HOK_b.out (rwI_is _ _) (rwI_reads.2 ((HRI_b.out.below HB.out (Nat.le_refl _)).mono HB.out.size)) (rwI_small _ _)).mono ?_
  rintro e w_1 ⟨r, rfl, lo_r, hi_r, hg⟩
  have hB := hg.below
  replace q_b0 := (hB.cell (show (⟨w.heap.size, 0, none⟩ : Addr).block < _ from World.block_lt_of_cell? _ _ q_b0)).trans q_b0
  replace q_b1 := (hB.cell (show (⟨w.heap.size, 1, none⟩ : Addr).block < _ from World.block_lt_of_cell? _ _ q_b1)).trans q_b1
  replace b_b : w.heap.size < w_1.heap.size := World.block_lt_of_cell? _ _ q_b0
  replace q_t0 := (hB.cell (show (⟨w.heap.size + 1, 0, none⟩ : Addr).block < _ from World.block_lt_of_cell? _ _ q_t0)).trans q_t0
  replace q_t1 := (hB.cell (show (⟨w.heap.size + 1, 1, none⟩ : Addr).block < _ from World.block_lt_of_cell? _ _ q_t1)).trans q_t1
  replace q_t2 := (hB.cell (show (⟨w.heap.size + 1, 2, none⟩ : Addr).block < _ from World.block_lt_of_cell? _ _ q_t2)).trans q_t2
  replace q_t3 := (hB.cell (show (⟨w.heap.size + 1, 3, none⟩ : Addr).block < _ from World.block_lt_of_cell? _ _ q_t3)).trans q_t3
  replace b_t : w.heap.size + 1 < w_1.heap.size := World.block_lt_of_cell? _ _ q_t0
  have HS1 := Lib.hid hB.size
  replace HB := Lib.hid (HB.out.trans (hB.mono HB.out.size))
  clear hB hg
  by_cases neg_r : r < 0
  · go_wp2_with fail
    go_ret
    exact ⟨rfl, HB.out⟩
  replace hi_r := hi_r (by omega)
  have hu_r : r ≤ 1048576 := by omega
  have HWN_b := Lib.hid (show (rwN (.slice na_b nn_b nc_b) ns_b).weight ≤ 1048576 by omega); have HWI_b := Lib.hid (show (rwI (.slice oa_b on_b oc_b) zs_b).weight ≤ 1048576 by omega)
  clear hi_r
  go_wp2_with fail
  refine (sz_Token k_t m_t (rwA (.slice ta_t tn_t tc_t) xs_t) u_t r (by omega) (by omega) _ HRN2_t.out (rwA_is _ _) (rwA_reads ((HRA_t.out.below HB.out (Nat.le_refl _)).mono HB.out.size)) HOA_t.out HRT_t.out).mono ?_
  rintro e w_2 ⟨r2, rfl, lo_r2, hi_r2, hg⟩
  have hB := hg.below
  replace q_b0 := (hB.cell (show (⟨w.heap.size, 0, none⟩ : Addr).block < _ from World.block_lt_of_cell? _ _ q_b0)).trans q_b0
  replace q_b1 := (hB.cell (show (⟨w.heap.size, 1, none⟩ : Addr).block < _ from World.block_lt_of_cell? _ _ q_b1)).trans q_b1
  replace b_b : w.heap.size < w_2.heap.size := World.block_lt_of_cell? _ _ q_b0
  replace q_t0 := (hB.cell (show (⟨w.heap.size + 1, 0, none⟩ : Addr).block < _ from World.block_lt_of_cell? _ _ q_t0)).trans q_t0
  replace q_t1 := (hB.cell (show (⟨w.heap.size + 1, 1, none⟩ : Addr).block < _ from World.block_lt_of_cell? _ _ q_t1)).trans q_t1
  replace q_t2 := (hB.cell (show (⟨w.heap.size + 1, 2, none⟩ : Addr).block < _ from World.block_lt_of_cell? _ _ q_t2)).trans q_t2
  replace q_t3 := (hB.cell (show (⟨w.heap.size + 1, 3, none⟩ : Addr).block < _ from World.block_lt_of_cell? _ _ q_t3)).trans q_t3
  replace b_t : w.heap.size + 1 < w_2.heap.size := World.block_lt_of_cell? _ _ q_t0
  have HS2 := Lib.hid hB.size
  replace HB := Lib.hid (HB.out.trans (hB.mono HB.out.size))
  clear hB hg
  by_cases neg_r2 : r2 < 0
  · go_wp2_with fail
    go_ret
    exact ⟨rfl, HB.out⟩
  replace hi_r2 := hi_r2 (by omega)
  have HWA_t := Lib.hid (show (rwA (.slice ta_t tn_t tc_t) xs_t).weight ≤ 1048576 by omega)
  clear hi_r2
  have HFIT := Lib.hid (fits_row HWN_b.out HWI_b.out); have HAT_t := Lib.hid (attrs_row HWA_t.out)
  have HWC := Lib.hid (show ndW (addTok ⟨ns_b.map Prod.fst, zs_b⟩ ⟨k_t, m_t, xs_t, u_t⟩).1.nodes ≤ 6291456 ∧ (addTok ⟨ns_b.map Prod.fst, zs_b⟩ ⟨k_t, m_t, xs_t, u_t⟩).1.opn.length ≤ 2097152 by
    have h1 := addTok_W ⟨ns_b.map Prod.fst, zs_b⟩ ⟨k_t, m_t, xs_t, u_t⟩; have h2 := (rwN_weight (.slice na_b nn_b nc_b) ns_b).1; have h3 := HWN_b.out; have h4 := HWI_b.out; have h5 := HAT_t.out
    rw [rwI_weight] at h4; dsimp only at h1; omega)
  have HCB := Lib.hid (show ndW (ns_b.map Prod.fst) ≤ 3145728 ∧ zs_b.length ≤ 1048576 by
    have h2 := (rwN_weight (.slice na_b nn_b nc_b) ns_b).1; have h3 := HWN_b.out; have h4 := HWI_b.out
    rw [rwI_weight] at h4; omega)
  obtain ⟨NOD, hnod⟩ : ∃ x, (addTok ⟨ns_b.map Prod.fst, zs_b⟩ ⟨k_t, m_t, xs_t, u_t⟩).1.nodes = x := ⟨_, rfl⟩; obtain ⟨OPN, hopn⟩ : ∃ x, (addTok ⟨ns_b.map Prod.fst, zs_b⟩ ⟨k_t, m_t, xs_t, u_t⟩).1.opn = x := ⟨_, rfl⟩; obtain ⟨NUM, hnum⟩ : ∃ x, (addTok ⟨ns_b.map Prod.fst, zs_b⟩ ⟨k_t, m_t, xs_t, u_t⟩).2 = x := ⟨_, rfl⟩
  rw [hnod, hopn] at HWC
  have HNOD := Lib.hid hnod; have HOPN := Lib.hid hopn; have HNUM := Lib.hid hnum; clear hnod hopn hnum
  have hnq : (NUM == NUM) = true := beq_self_eq_true _
  go_upto_region 8 with (fail)
  go_cut [6, 7] from 27 to 34 (fun c d wx => ∃ C na' nn' nc' oa' on' oc' ns', c = .pointer (some ⟨C, 0, none⟩) ∧ d = .int .i64 NUM ∧ Box2 wx C (.slice na' nn' nc') (.slice oa' on' oc') ∧ ns'.map Prod.fst = NOD ∧ BdM w_2.heap.size w_2 wx (.slice na' nn' nc') (.slice oa' on' oc') ns' OPN ∧ w_2.heap.size ≤ C)
  case first =>
    have KEEP := Lib.hid (fun (w' : World) (h : Below w_2.heap.size w_2 w') => show Below w_2.heap.size w_2 w' ∧ w'.cell? ⟨w.heap.size, 0, none⟩ = some (.slice na_b nn_b nc_b) ∧ w'.cell? ⟨w.heap.size, 1, none⟩ = some (.slice oa_b on_b oc_b) ∧ w'.cell? ⟨w.heap.size + 1, 0, none⟩ = some (.int .i64 k_t) ∧ w'.cell? ⟨w.heap.size + 1, 1, none⟩ = some (.string m_t) ∧ w'.cell? ⟨w.heap.size + 1, 2, none⟩ = some (.slice ta_t tn_t tc_t) ∧ w'.cell? ⟨w.heap.size + 1, 3, none⟩ = some (.string u_t) from ⟨h, (h.cell (show (⟨w.heap.size, 0, none⟩ : Addr).block < _ from World.block_lt_of_cell? _ _ q_b0)).trans q_b0, (h.cell (show (⟨w.heap.size, 1, none⟩ : Addr).block < _ from World.block_lt_of_cell? _ _ q_b1)).trans q_b1, (h.cell (show (⟨w.heap.size + 1, 0, none⟩ : Addr).block < _ from World.block_lt_of_cell? _ _ q_t0)).trans q_t0, (h.cell (show (⟨w.heap.size + 1, 1, none⟩ : Addr).block < _ from World.block_lt_of_cell? _ _ q_t1)).trans q_t1, (h.cell (show (⟨w.heap.size + 1, 2, none⟩ : Addr).block < _ from World.block_lt_of_cell? _ _ q_t2)).trans q_t2, (h.cell (show (⟨w.heap.size + 1, 3, none⟩ : Addr).block < _ from World.block_lt_of_cell? _ _ q_t3)).trans q_t3⟩)
    go_region_held3 (fun w' => Below w_2.heap.size w_2 w' ∧ w'.cell? ⟨w.heap.size, 0, none⟩ = some (.slice na_b nn_b nc_b) ∧ w'.cell? ⟨w.heap.size, 1, none⟩ = some (.slice oa_b on_b oc_b) ∧ w'.cell? ⟨w.heap.size + 1, 0, none⟩ = some (.int .i64 k_t) ∧ w'.cell? ⟨w.heap.size + 1, 1, none⟩ = some (.string m_t) ∧ w'.cell? ⟨w.heap.size + 1, 2, none⟩ = some (.slice ta_t tn_t tc_t) ∧ w'.cell? ⟨w.heap.size + 1, 3, none⟩ = some (.string u_t)) (exact KEEP.out _ (by repeat' (first | (with_reducible exact Below.refl _ _) | (with_reducible exact hPA) | (with_reducible exact hPT) | (with_reducible exact hPB) | (with_reducible refine bl_dr ?_) | (with_reducible refine bl_al ?_ _) | (with_reducible refine bl_st ?_ (by first | omega | (have := hPA.size; omega) | (have := hPT.size; omega) | (have := hPB.size; omega)) _)))) (first | (go_at_call 38; refine (tb_any HRN_b.out HRI_b.out HWN_b.out HWI_b.out (bl_via HB.out HB.out.size (by repeat' (first | (with_reducible exact Below.refl _ _) | (with_reducible exact hPA) | (with_reducible exact hPT) | (with_reducible exact hPB) | (with_reducible refine bl_dr ?_) | (with_reducible refine bl_al ?_ _) | (with_reducible refine bl_st ?_ (by first | omega | (have := hPA.size; omega) | (have := hPT.size; omega) | (have := hPB.size; omega)) _))))).mono ?_; rintro e wB ⟨naB, nnB, ncB, oaB, onB, ocB, rfl, hiB, hbB⟩; have hPB := bl_tr (show Below w_2.heap.size w_2 _ from (by repeat' (first | (with_reducible exact Below.refl _ _) | (with_reducible exact hPA) | (with_reducible exact hPT) | (with_reducible exact hPB) | (with_reducible refine bl_dr ?_) | (with_reducible refine bl_al ?_ _) | (with_reducible refine bl_st ?_ (by first | omega | (have := hPA.size; omega) | (have := hPT.size; omega) | (have := hPB.size; omega)) _)))) hbB) | (go_at_call 40; refine (tt_any HRA_t.out HWA_t.out (bl_via HB.out HB.out.size (by repeat' (first | (with_reducible exact Below.refl _ _) | (with_reducible exact hPA) | (with_reducible exact hPT) | (with_reducible exact hPB) | (with_reducible refine bl_dr ?_) | (with_reducible refine bl_al ?_ _) | (with_reducible refine bl_st ?_ (by first | omega | (have := hPA.size; omega) | (have := hPT.size; omega) | (have := hPB.size; omega)) _))))).mono ?_; rintro e wT ⟨taT, tnT, tcT, rfl, hrT, hbT⟩; have hPT := bl_tr (show Below w_2.heap.size w_2 _ from (by repeat' (first | (with_reducible exact Below.refl _ _) | (with_reducible exact hPA) | (with_reducible exact hPT) | (with_reducible exact hPB) | (with_reducible refine bl_dr ?_) | (with_reducible refine bl_al ?_ _) | (with_reducible refine bl_st ?_ (by first | omega | (have := hPA.size; omega) | (have := hPT.size; omega) | (have := hPB.size; omega)) _)))) hbT; have hBT := bl_tr (show Below wB.heap.size wB _ from (by repeat' (first | (with_reducible exact Below.refl _ _) | (with_reducible exact hBT) | (with_reducible refine bl_dr ?_) | (with_reducible refine bl_al ?_ _)))) hbT) | (go_at_call 16; refine (adds_any (hiB.up (by repeat' (first | (with_reducible exact Below.refl _ _) | (with_reducible exact hBT) | (with_reducible refine bl_dr ?_) | (with_reducible refine bl_al ?_ _)))) HFIT.out ((hrT.below (show Below wT.heap.size wT _ from (by repeat' (first | (with_reducible exact Below.refl _ _) | (with_reducible refine bl_dr ?_) | (with_reducible refine bl_al ?_ _)))) (Nat.le_refl _)).mono (Below.size (show Below wT.heap.size wT _ from (by repeat' (first | (with_reducible exact Below.refl _ _) | (with_reducible refine bl_dr ?_) | (with_reducible refine bl_al ?_ _)))))) HAT_t.out).mono ?_; rintro e wA ⟨naA, nnA, ncA, oaA, onA, ocA, nsA, rfl, hnsA, hbdX⟩; have hA := hbdX.n.row.below; have hPA := bl_tr (show Below w_2.heap.size w_2 _ from (by repeat' (first | (with_reducible exact Below.refl _ _) | (with_reducible exact hPA) | (with_reducible exact hPT) | (with_reducible exact hPB) | (with_reducible refine bl_dr ?_) | (with_reducible refine bl_al ?_ _) | (with_reducible refine bl_st ?_ (by first | omega | (have := hPA.size; omega) | (have := hPT.size; omega) | (have := hPB.size; omega)) _)))) hA; have hbdA := hbdX.down (hPA) (Below.size (show Below w_2.heap.size w_2 _ from (by repeat' (first | (with_reducible exact Below.refl _ _) | (with_reducible exact hPA) | (with_reducible exact hPT) | (with_reducible exact hPB) | (with_reducible refine bl_dr ?_) | (with_reducible refine bl_al ?_ _) | (with_reducible refine bl_st ?_ (by first | omega | (have := hPA.size; omega) | (have := hPT.size; omega) | (have := hPB.size; omega)) _))))); (first | (refine lay_box (w := wA) (c := w_2.heap.size) (x := .slice none 0 0) (y := .slice none 0 0) ?_ ?_; (focus (repeat' (first | (with_reducible refine hp_dr ?_) | ((with_reducible refine hp_nw ?_); (first | (with_reducible rfl) | (simp only [size_alloc]; done))) | (with_reducible refine heap_al ?_ _) | (with_reducible refine heap_bl hA ?_) | (with_reducible refine heap_bl hbT ?_) | (with_reducible refine heap_bl hbB ?_)))); intro x0 x1 x2 x3) | (refine lay_box (w := wA) (c := wB.heap.size) (x := .slice none 0 0) (y := .slice none 0 0) ?_ ?_; (focus (repeat' (first | (with_reducible refine hp_dr ?_) | ((with_reducible refine hp_nw ?_); (first | (with_reducible rfl) | (simp only [size_alloc]; done))) | (with_reducible refine heap_al ?_ _) | (with_reducible refine heap_bl hA ?_) | (with_reducible refine heap_bl hbT ?_) | (with_reducible refine heap_bl hbB ?_)))); intro x0 x1 x2 x3) | (refine lay_box (w := wA) (c := wT.heap.size) (x := .slice none 0 0) (y := .slice none 0 0) ?_ ?_; (focus (repeat' (first | (with_reducible refine hp_dr ?_) | ((with_reducible refine hp_nw ?_); (first | (with_reducible rfl) | (simp only [size_alloc]; done))) | (with_reducible refine heap_al ?_ _) | (with_reducible refine heap_bl hA ?_) | (with_reducible refine heap_bl hbT ?_) | (with_reducible refine heap_bl hbB ?_)))); intro x0 x1 x2 x3) | skip)))
    all_goals
      go_wp2_with fail
      go_meet
      refine ⟨_, naA, nnA, ncA, oaA, onA, ocA, nsA, rfl, by rw [HNUM.out], ?_, by rw [hnsA, HNOD.out], ?_, ?_⟩
      · unfold Box2
        first | ((with_reducible refine bx_both ?_ _ _); repeat' (first | (with_reducible refine hp_dr ?_) | ((with_reducible refine hp_nw ?_); (first | (with_reducible rfl) | (simp only [size_alloc]; done))) | (with_reducible refine heap_al ?_ _) | (with_reducible refine heap_bl hA ?_) | (with_reducible refine heap_bl hbT ?_) | (with_reducible refine heap_bl hbB ?_))) | (repeat' (first | (with_reducible refine hp_dr ?_) | ((with_reducible refine hp_nw ?_); (first | (with_reducible rfl) | (simp only [size_alloc]; done))) | (with_reducible refine heap_al ?_ _) | (with_reducible refine heap_bl hA ?_) | (with_reducible refine heap_bl hbT ?_) | (with_reducible refine heap_bl hbB ?_)))
      · rw [← HOPN.out]
        repeat' (first | (with_reducible exact hbdA) | (with_reducible refine BdM.drew ?_) | (with_reducible refine bd_al ?_ _) | (with_reducible refine bd_st2 (by repeat' (first | (with_reducible refine hp_dr ?_) | ((with_reducible refine hp_nw ?_); (first | (with_reducible rfl) | (simp only [size_alloc]; done))) | (with_reducible refine heap_al ?_ _) | (with_reducible refine heap_bl hA ?_) | (with_reducible refine heap_bl hbT ?_) | (with_reducible refine heap_bl hbB ?_))) (by first | omega | (have := hPA.size; omega) | (have := hPT.size; omega) | (have := hPB.size; omega)) ?_))
      · first | omega | (have := hPA.size; omega) | (have := hPT.size; omega) | (have := hPB.size; omega)
  obtain ⟨C_x, na_x, nn_x, nc_x, oa_x, on_x, oc_x, ns_x, rfl, rfl, hbx, hns, hbd, hC⟩ := hcut
  rename World => w_3
  have hB : Below w_2.heap.size w_2 w_3 := hbd.n.row.below
  replace q_b0 := (hB.cell (show (⟨w.heap.size, 0, none⟩ : Addr).block < _ from World.block_lt_of_cell? _ _ q_b0)).trans q_b0
  replace q_b1 := (hB.cell (show (⟨w.heap.size, 1, none⟩ : Addr).block < _ from World.block_lt_of_cell? _ _ q_b1)).trans q_b1
  replace b_b : w.heap.size < w_3.heap.size := World.block_lt_of_cell? _ _ q_b0
  replace q_t0 := (hB.cell (show (⟨w.heap.size + 1, 0, none⟩ : Addr).block < _ from World.block_lt_of_cell? _ _ q_t0)).trans q_t0
  replace q_t1 := (hB.cell (show (⟨w.heap.size + 1, 1, none⟩ : Addr).block < _ from World.block_lt_of_cell? _ _ q_t1)).trans q_t1
  replace q_t2 := (hB.cell (show (⟨w.heap.size + 1, 2, none⟩ : Addr).block < _ from World.block_lt_of_cell? _ _ q_t2)).trans q_t2
  replace q_t3 := (hB.cell (show (⟨w.heap.size + 1, 3, none⟩ : Addr).block < _ from World.block_lt_of_cell? _ _ q_t3)).trans q_t3
  replace b_t : w.heap.size + 1 < w_3.heap.size := World.block_lt_of_cell? _ _ q_t0
  have Hx := Lib.hid ((bdAt_own hbd.n hbd.o).1)
  have HS3 := Lib.hid hB.size
  replace HB := Lib.hid (HB.out.trans (hB.mono HB.out.size))
  have HN_x := Lib.hid (bdAt_own hbd.n hbd.o).2
  have HNS_x := Lib.hid hns
  have HNB_x := Lib.hid (bd_nobox hbx hbd)
  obtain ⟨⟨q_x0, q_x1⟩, _, _⟩ := hbx.cells
  have b_x := hbx.lt
  have HSb_x := Lib.hid b_x; have HSc_x := Lib.hid hC
  clear hB hbx hns hbd hC
  go_wp2_with fail
  refine (toL_Builder (rwN (.slice na_b nn_b nc_b) ns_b) (rwI (.slice oa_b on_b oc_b) zs_b) _ (rwN_is _ _) (rwN_reads ((HRN_b.out.below HB.out (Nat.le_refl _)).mono HB.out.size)) (by have := HWN_b.out; omega) (rwI_is _ _) (rwI_reads.2 ((HRI_b.out.below HB.out (Nat.le_refl _)).mono HB.out.size)) (by have := HWI_b.out; omega)).mono ?_
  rintro e w_4 ⟨y0_y, y1_y, rfl, i0_y, d0_y, i1_y, d1_y, ho, hn, hb⟩
  have hB := hb
  replace q_b0 := (hB.cell (show (⟨w.heap.size, 0, none⟩ : Addr).block < _ from World.block_lt_of_cell? _ _ q_b0)).trans q_b0
  replace q_b1 := (hB.cell (show (⟨w.heap.size, 1, none⟩ : Addr).block < _ from World.block_lt_of_cell? _ _ q_b1)).trans q_b1
  replace b_b : w.heap.size < w_4.heap.size := World.block_lt_of_cell? _ _ q_b0
  replace q_t0 := (hB.cell (show (⟨w.heap.size + 1, 0, none⟩ : Addr).block < _ from World.block_lt_of_cell? _ _ q_t0)).trans q_t0
  replace q_t1 := (hB.cell (show (⟨w.heap.size + 1, 1, none⟩ : Addr).block < _ from World.block_lt_of_cell? _ _ q_t1)).trans q_t1
  replace q_t2 := (hB.cell (show (⟨w.heap.size + 1, 2, none⟩ : Addr).block < _ from World.block_lt_of_cell? _ _ q_t2)).trans q_t2
  replace q_t3 := (hB.cell (show (⟨w.heap.size + 1, 3, none⟩ : Addr).block < _ from World.block_lt_of_cell? _ _ q_t3)).trans q_t3
  replace b_t : w.heap.size + 1 < w_4.heap.size := World.block_lt_of_cell? _ _ q_t0
  replace q_x0 := (hB.cell (show (⟨C_x, 0, none⟩ : Addr).block < _ from World.block_lt_of_cell? _ _ q_x0)).trans q_x0
  replace q_x1 := (hB.cell (show (⟨C_x, 1, none⟩ : Addr).block < _ from World.block_lt_of_cell? _ _ q_x1)).trans q_x1
  replace b_x : C_x < w_4.heap.size := World.block_lt_of_cell? _ _ q_x0
  replace Hx := Lib.hid (ownL_later Hx.out hB)
  have Hy := Lib.hid (ho)
  have HS4 := Lib.hid hB.size
  replace HB := Lib.hid (HB.out.trans (hB.mono HB.out.size))
  have HI0_y := Lib.hid i0_y; have HI1_y := Lib.hid i1_y; have HD0_y := Lib.hid d0_y; have HD1_y := Lib.hid d1_y; have HN_y := Lib.hid hn
  have hbi := bdIn_of d0_y i1_y d1_y ho
  obtain ⟨na_y, nn_y, nc_y, e0_y⟩ := sl_form (is_sl_NodeS i0_y) (Rw.OwnR.reads _ (ownL_two.1 ho).1)
  obtain ⟨oa_y, on_y, oc_y, e1_y⟩ := sl_form (is_sl_IntS i1_y) (Rw.OwnR.reads _ (ownL_two.1 ho).2)
  rw [e0_y, e1_y] at hbi; rw [e0_y, e1_y]
  have HBD_y := Lib.hid hbi; have HE0_y := Lib.hid e0_y; have HE1_y := Lib.hid e1_y
  clear hB ho hn hb hbi i0_y i1_y d0_y d1_y e0_y e1_y
  go_wp2_with fail
  obtain ⟨w_5, hw⟩ : ∃ x, w_4.alloc (.cells #[.slice na_y nn_y nc_y, .slice oa_y on_y oc_y] 27) = x := ⟨_, rfl⟩
  rw [hw]
  have hB : Below w_4.heap.size w_4 w_5 := by rw [← hw]; exact (Below.refl _ _).alloc (Nat.le_refl _) _
  have q_y0 : w_5.cell? ⟨w_4.heap.size, 0, none⟩ = some (.slice na_y nn_y nc_y) := by rw [← hw]; simp
  have q_y1 : w_5.cell? ⟨w_4.heap.size, 1, none⟩ = some (.slice oa_y on_y oc_y) := by rw [← hw]; simp
  have b_y : w_4.heap.size < w_5.heap.size := World.block_lt_of_cell? _ _ q_y0
  replace q_b0 := (hB.cell (show (⟨w.heap.size, 0, none⟩ : Addr).block < _ from World.block_lt_of_cell? _ _ q_b0)).trans q_b0
  replace q_b1 := (hB.cell (show (⟨w.heap.size, 1, none⟩ : Addr).block < _ from World.block_lt_of_cell? _ _ q_b1)).trans q_b1
  replace b_b : w.heap.size < w_5.heap.size := World.block_lt_of_cell? _ _ q_b0
  replace q_t0 := (hB.cell (show (⟨w.heap.size + 1, 0, none⟩ : Addr).block < _ from World.block_lt_of_cell? _ _ q_t0)).trans q_t0
  replace q_t1 := (hB.cell (show (⟨w.heap.size + 1, 1, none⟩ : Addr).block < _ from World.block_lt_of_cell? _ _ q_t1)).trans q_t1
  replace q_t2 := (hB.cell (show (⟨w.heap.size + 1, 2, none⟩ : Addr).block < _ from World.block_lt_of_cell? _ _ q_t2)).trans q_t2
  replace q_t3 := (hB.cell (show (⟨w.heap.size + 1, 3, none⟩ : Addr).block < _ from World.block_lt_of_cell? _ _ q_t3)).trans q_t3
  replace b_t : w.heap.size + 1 < w_5.heap.size := World.block_lt_of_cell? _ _ q_t0
  replace q_x0 := (hB.cell (show (⟨C_x, 0, none⟩ : Addr).block < _ from World.block_lt_of_cell? _ _ q_x0)).trans q_x0
  replace q_x1 := (hB.cell (show (⟨C_x, 1, none⟩ : Addr).block < _ from World.block_lt_of_cell? _ _ q_x1)).trans q_x1
  replace b_x : C_x < w_5.heap.size := World.block_lt_of_cell? _ _ q_x0
  replace Hx := Lib.hid (ownL_later Hx.out hB)
  replace Hy := Lib.hid (ownL_later Hy.out hB)
  have HS5 := Lib.hid hB.size
  replace HB := Lib.hid (HB.out.trans (hB.mono HB.out.size))
  clear hB hw
  have HSb_y := Lib.hid b_y
  go_wp2_with fail
  refine (toL_Token k_t m_t (rwA (.slice ta_t tn_t tc_t) xs_t) u_t _ (rwA_is _ _) (rwA_reads ((HRA_t.out.below HB.out (Nat.le_refl _)).mono HB.out.size)) (by have := HWA_t.out; omega)).mono ?_
  rintro e w_6 ⟨y2_u, rfl, i2_u, d2_u, ho, hn, hb⟩
  have hB := hb
  replace q_b0 := (hB.cell (show (⟨w.heap.size, 0, none⟩ : Addr).block < _ from World.block_lt_of_cell? _ _ q_b0)).trans q_b0
  replace q_b1 := (hB.cell (show (⟨w.heap.size, 1, none⟩ : Addr).block < _ from World.block_lt_of_cell? _ _ q_b1)).trans q_b1
  replace b_b : w.heap.size < w_6.heap.size := World.block_lt_of_cell? _ _ q_b0
  replace q_t0 := (hB.cell (show (⟨w.heap.size + 1, 0, none⟩ : Addr).block < _ from World.block_lt_of_cell? _ _ q_t0)).trans q_t0
  replace q_t1 := (hB.cell (show (⟨w.heap.size + 1, 1, none⟩ : Addr).block < _ from World.block_lt_of_cell? _ _ q_t1)).trans q_t1
  replace q_t2 := (hB.cell (show (⟨w.heap.size + 1, 2, none⟩ : Addr).block < _ from World.block_lt_of_cell? _ _ q_t2)).trans q_t2
  replace q_t3 := (hB.cell (show (⟨w.heap.size + 1, 3, none⟩ : Addr).block < _ from World.block_lt_of_cell? _ _ q_t3)).trans q_t3
  replace b_t : w.heap.size + 1 < w_6.heap.size := World.block_lt_of_cell? _ _ q_t0
  replace q_x0 := (hB.cell (show (⟨C_x, 0, none⟩ : Addr).block < _ from World.block_lt_of_cell? _ _ q_x0)).trans q_x0
  replace q_x1 := (hB.cell (show (⟨C_x, 1, none⟩ : Addr).block < _ from World.block_lt_of_cell? _ _ q_x1)).trans q_x1
  replace b_x : C_x < w_6.heap.size := World.block_lt_of_cell? _ _ q_x0
  replace q_y0 := (hB.cell (show (⟨w_4.heap.size, 0, none⟩ : Addr).block < _ from World.block_lt_of_cell? _ _ q_y0)).trans q_y0
  replace q_y1 := (hB.cell (show (⟨w_4.heap.size, 1, none⟩ : Addr).block < _ from World.block_lt_of_cell? _ _ q_y1)).trans q_y1
  replace b_y : w_4.heap.size < w_6.heap.size := World.block_lt_of_cell? _ _ q_y0
  replace Hx := Lib.hid (ownL_later Hx.out hB)
  replace Hy := Lib.hid (ownL_later Hy.out hB)
  have Hu := Lib.hid (ho)
  have HS6 := Lib.hid hB.size
  replace HB := Lib.hid (HB.out.trans (hB.mono HB.out.size))
  have HI2_u := Lib.hid i2_u; have HD2_u := Lib.hid d2_u; have HN_u := Lib.hid hn
  obtain ⟨ta_u, tn_u, tc_u, e2_u⟩ := sl_form (is_sl_AttrS i2_u) (Rw.OwnR.reads _ (ownL_one.1 ho))
  rw [e2_u]
  have HE2_u := Lib.hid e2_u
  clear hB ho hn hb i2_u d2_u e2_u
  go_wp2_with fail
  obtain ⟨w_7, hw⟩ : ∃ x, w_6.alloc (.cells #[.int .i64 k_t, .string m_t, .slice ta_u tn_u tc_u, .string u_t] 30) = x := ⟨_, rfl⟩
  rw [hw]
  have hB : Below w_6.heap.size w_6 w_7 := by rw [← hw]; exact (Below.refl _ _).alloc (Nat.le_refl _) _
  have q_u0 : w_7.cell? ⟨w_6.heap.size, 0, none⟩ = some (.int .i64 k_t) := by rw [← hw]; simp
  have q_u1 : w_7.cell? ⟨w_6.heap.size, 1, none⟩ = some (.string m_t) := by rw [← hw]; simp
  have q_u2 : w_7.cell? ⟨w_6.heap.size, 2, none⟩ = some (.slice ta_u tn_u tc_u) := by rw [← hw]; simp
  have q_u3 : w_7.cell? ⟨w_6.heap.size, 3, none⟩ = some (.string u_t) := by rw [← hw]; simp
  have b_u : w_6.heap.size < w_7.heap.size := World.block_lt_of_cell? _ _ q_u0
  replace q_b0 := (hB.cell (show (⟨w.heap.size, 0, none⟩ : Addr).block < _ from World.block_lt_of_cell? _ _ q_b0)).trans q_b0
  replace q_b1 := (hB.cell (show (⟨w.heap.size, 1, none⟩ : Addr).block < _ from World.block_lt_of_cell? _ _ q_b1)).trans q_b1
  replace b_b : w.heap.size < w_7.heap.size := World.block_lt_of_cell? _ _ q_b0
  replace q_t0 := (hB.cell (show (⟨w.heap.size + 1, 0, none⟩ : Addr).block < _ from World.block_lt_of_cell? _ _ q_t0)).trans q_t0
  replace q_t1 := (hB.cell (show (⟨w.heap.size + 1, 1, none⟩ : Addr).block < _ from World.block_lt_of_cell? _ _ q_t1)).trans q_t1
  replace q_t2 := (hB.cell (show (⟨w.heap.size + 1, 2, none⟩ : Addr).block < _ from World.block_lt_of_cell? _ _ q_t2)).trans q_t2
  replace q_t3 := (hB.cell (show (⟨w.heap.size + 1, 3, none⟩ : Addr).block < _ from World.block_lt_of_cell? _ _ q_t3)).trans q_t3
  replace b_t : w.heap.size + 1 < w_7.heap.size := World.block_lt_of_cell? _ _ q_t0
  replace q_x0 := (hB.cell (show (⟨C_x, 0, none⟩ : Addr).block < _ from World.block_lt_of_cell? _ _ q_x0)).trans q_x0
  replace q_x1 := (hB.cell (show (⟨C_x, 1, none⟩ : Addr).block < _ from World.block_lt_of_cell? _ _ q_x1)).trans q_x1
  replace b_x : C_x < w_7.heap.size := World.block_lt_of_cell? _ _ q_x0
  replace q_y0 := (hB.cell (show (⟨w_4.heap.size, 0, none⟩ : Addr).block < _ from World.block_lt_of_cell? _ _ q_y0)).trans q_y0
  replace q_y1 := (hB.cell (show (⟨w_4.heap.size, 1, none⟩ : Addr).block < _ from World.block_lt_of_cell? _ _ q_y1)).trans q_y1
  replace b_y : w_4.heap.size < w_7.heap.size := World.block_lt_of_cell? _ _ q_y0
  replace Hx := Lib.hid (ownL_later Hx.out hB)
  replace Hy := Lib.hid (ownL_later Hy.out hB)
  replace Hu := Lib.hid (ownL_later Hu.out hB)
  have HS7 := Lib.hid hB.size
  replace HB := Lib.hid (HB.out.trans (hB.mono HB.out.size))
  clear hB hw
  have HSb_u := Lib.hid b_u
  go_wp2_with fail
  refine (addi_any (kd := k_t) (nm := m_t) (tx := u_t) (ownBd HD0_y.out HI1_y.out HD1_y.out HE0_y.out HE1_y.out Hy.out) HFIT.out (ownTk HD2_u.out HE2_u.out Hu.out) HAT_t.out).mono ?_
  rintro e w_8 ⟨na_g, nn_g, nc_g, oa_g, on_g, oc_g, ns_g, rfl, hns, hbd⟩
  have hB := hbd.n.row.below
  replace q_b0 := (hB.cell (show (⟨w.heap.size, 0, none⟩ : Addr).block < _ from World.block_lt_of_cell? _ _ q_b0)).trans q_b0
  replace q_b1 := (hB.cell (show (⟨w.heap.size, 1, none⟩ : Addr).block < _ from World.block_lt_of_cell? _ _ q_b1)).trans q_b1
  replace b_b : w.heap.size < w_8.heap.size := World.block_lt_of_cell? _ _ q_b0
  replace q_t0 := (hB.cell (show (⟨w.heap.size + 1, 0, none⟩ : Addr).block < _ from World.block_lt_of_cell? _ _ q_t0)).trans q_t0
  replace q_t1 := (hB.cell (show (⟨w.heap.size + 1, 1, none⟩ : Addr).block < _ from World.block_lt_of_cell? _ _ q_t1)).trans q_t1
  replace q_t2 := (hB.cell (show (⟨w.heap.size + 1, 2, none⟩ : Addr).block < _ from World.block_lt_of_cell? _ _ q_t2)).trans q_t2
  replace q_t3 := (hB.cell (show (⟨w.heap.size + 1, 3, none⟩ : Addr).block < _ from World.block_lt_of_cell? _ _ q_t3)).trans q_t3
  replace b_t : w.heap.size + 1 < w_8.heap.size := World.block_lt_of_cell? _ _ q_t0
  replace q_x0 := (hB.cell (show (⟨C_x, 0, none⟩ : Addr).block < _ from World.block_lt_of_cell? _ _ q_x0)).trans q_x0
  replace q_x1 := (hB.cell (show (⟨C_x, 1, none⟩ : Addr).block < _ from World.block_lt_of_cell? _ _ q_x1)).trans q_x1
  replace b_x : C_x < w_8.heap.size := World.block_lt_of_cell? _ _ q_x0
  replace q_y0 := (hB.cell (show (⟨w_4.heap.size, 0, none⟩ : Addr).block < _ from World.block_lt_of_cell? _ _ q_y0)).trans q_y0
  replace q_y1 := (hB.cell (show (⟨w_4.heap.size, 1, none⟩ : Addr).block < _ from World.block_lt_of_cell? _ _ q_y1)).trans q_y1
  replace b_y : w_4.heap.size < w_8.heap.size := World.block_lt_of_cell? _ _ q_y0
  replace q_u0 := (hB.cell (show (⟨w_6.heap.size, 0, none⟩ : Addr).block < _ from World.block_lt_of_cell? _ _ q_u0)).trans q_u0
  replace q_u1 := (hB.cell (show (⟨w_6.heap.size, 1, none⟩ : Addr).block < _ from World.block_lt_of_cell? _ _ q_u1)).trans q_u1
  replace q_u2 := (hB.cell (show (⟨w_6.heap.size, 2, none⟩ : Addr).block < _ from World.block_lt_of_cell? _ _ q_u2)).trans q_u2
  replace q_u3 := (hB.cell (show (⟨w_6.heap.size, 3, none⟩ : Addr).block < _ from World.block_lt_of_cell? _ _ q_u3)).trans q_u3
  replace b_u : w_6.heap.size < w_8.heap.size := World.block_lt_of_cell? _ _ q_u0
  replace Hx := Lib.hid (ownL_later Hx.out hB)
  replace Hy := Lib.hid (ownL_later Hy.out hB)
  replace Hu := Lib.hid (ownL_later Hu.out hB)
  have Hg := Lib.hid (show OwnRL w_7.heap.size w_8.heap.size w_8 [rwN (.slice na_g nn_g nc_g) ns_g, rwI (.slice oa_g on_g oc_g) OPN] from by rw [← HOPN.out]; exact (bdAt_own hbd.n hbd.o).1)
  have HS8 := Lib.hid hB.size
  replace HB := Lib.hid (HB.out.trans (hB.mono HB.out.size))
  have HN_g := Lib.hid (show (blocksL [rwN (.slice na_g nn_g nc_g) ns_g, rwI (.slice oa_g on_g oc_g) OPN]).Nodup by rw [← HOPN.out]; exact (bdAt_own hbd.n hbd.o).2)
  have HNS_g := Lib.hid (show ns_g.map Prod.fst = NOD by rw [← HNOD.out]; exact hns)
  rw [HNUM.out]
  clear hB hns hbd
  go_wp2_with fail
  obtain ⟨w_9, hw⟩ : ∃ x, w_8.alloc (.cells #[.slice na_g nn_g nc_g, .slice oa_g on_g oc_g] 27) = x := ⟨_, rfl⟩
  rw [hw]
  have hB : Below w_8.heap.size w_8 w_9 := by rw [← hw]; exact (Below.refl _ _).alloc (Nat.le_refl _) _
  have q_g0 : w_9.cell? ⟨w_8.heap.size, 0, none⟩ = some (.slice na_g nn_g nc_g) := by rw [← hw]; simp
  have q_g1 : w_9.cell? ⟨w_8.heap.size, 1, none⟩ = some (.slice oa_g on_g oc_g) := by rw [← hw]; simp
  have b_g : w_8.heap.size < w_9.heap.size := World.block_lt_of_cell? _ _ q_g0
  replace q_b0 := (hB.cell (show (⟨w.heap.size, 0, none⟩ : Addr).block < _ from World.block_lt_of_cell? _ _ q_b0)).trans q_b0
  replace q_b1 := (hB.cell (show (⟨w.heap.size, 1, none⟩ : Addr).block < _ from World.block_lt_of_cell? _ _ q_b1)).trans q_b1
  replace b_b : w.heap.size < w_9.heap.size := World.block_lt_of_cell? _ _ q_b0
  replace q_t0 := (hB.cell (show (⟨w.heap.size + 1, 0, none⟩ : Addr).block < _ from World.block_lt_of_cell? _ _ q_t0)).trans q_t0
  replace q_t1 := (hB.cell (show (⟨w.heap.size + 1, 1, none⟩ : Addr).block < _ from World.block_lt_of_cell? _ _ q_t1)).trans q_t1
  replace q_t2 := (hB.cell (show (⟨w.heap.size + 1, 2, none⟩ : Addr).block < _ from World.block_lt_of_cell? _ _ q_t2)).trans q_t2
  replace q_t3 := (hB.cell (show (⟨w.heap.size + 1, 3, none⟩ : Addr).block < _ from World.block_lt_of_cell? _ _ q_t3)).trans q_t3
  replace b_t : w.heap.size + 1 < w_9.heap.size := World.block_lt_of_cell? _ _ q_t0
  replace q_x0 := (hB.cell (show (⟨C_x, 0, none⟩ : Addr).block < _ from World.block_lt_of_cell? _ _ q_x0)).trans q_x0
  replace q_x1 := (hB.cell (show (⟨C_x, 1, none⟩ : Addr).block < _ from World.block_lt_of_cell? _ _ q_x1)).trans q_x1
  replace b_x : C_x < w_9.heap.size := World.block_lt_of_cell? _ _ q_x0
  replace q_y0 := (hB.cell (show (⟨w_4.heap.size, 0, none⟩ : Addr).block < _ from World.block_lt_of_cell? _ _ q_y0)).trans q_y0
  replace q_y1 := (hB.cell (show (⟨w_4.heap.size, 1, none⟩ : Addr).block < _ from World.block_lt_of_cell? _ _ q_y1)).trans q_y1
  replace b_y : w_4.heap.size < w_9.heap.size := World.block_lt_of_cell? _ _ q_y0
  replace q_u0 := (hB.cell (show (⟨w_6.heap.size, 0, none⟩ : Addr).block < _ from World.block_lt_of_cell? _ _ q_u0)).trans q_u0
  replace q_u1 := (hB.cell (show (⟨w_6.heap.size, 1, none⟩ : Addr).block < _ from World.block_lt_of_cell? _ _ q_u1)).trans q_u1
  replace q_u2 := (hB.cell (show (⟨w_6.heap.size, 2, none⟩ : Addr).block < _ from World.block_lt_of_cell? _ _ q_u2)).trans q_u2
  replace q_u3 := (hB.cell (show (⟨w_6.heap.size, 3, none⟩ : Addr).block < _ from World.block_lt_of_cell? _ _ q_u3)).trans q_u3
  replace b_u : w_6.heap.size < w_9.heap.size := World.block_lt_of_cell? _ _ q_u0
  replace Hx := Lib.hid (ownL_later Hx.out hB)
  replace Hy := Lib.hid (ownL_later Hy.out hB)
  replace Hu := Lib.hid (ownL_later Hu.out hB)
  replace Hg := Lib.hid (ownL_later Hg.out hB)
  have HS9 := Lib.hid hB.size
  replace HB := Lib.hid (HB.out.trans (hB.mono HB.out.size))
  clear hB hw
  have HSb_g := Lib.hid b_g
  go_wp2_with fail
  refine (eqV_Builder (rwN (.slice na_g nn_g nc_g) ns_g) (rwN (.slice na_x nn_x nc_x) ns_x) (rwI (.slice oa_g on_g oc_g) OPN) (rwI (.slice oa_x on_x oc_x) OPN) _ _ _ _ rfl rfl rfl rfl _ (rwN_is _ _) (rwN_is _ _) (rwN_data _ _ (HNS_g.out.trans HNS_x.out.symm)) (rdL1 Hg.out) (rdL1 Hx.out) (rwI_is _ _) (rwI_is _ _) (rwI_data.2 rfl) (rdL2 Hg.out) (rdL2 Hx.out)).mono ?_
  rintro e w_10 ⟨rfl, hg⟩
  have hB := hg.below
  replace q_b0 := (hB.cell (show (⟨w.heap.size, 0, none⟩ : Addr).block < _ from World.block_lt_of_cell? _ _ q_b0)).trans q_b0
  replace q_b1 := (hB.cell (show (⟨w.heap.size, 1, none⟩ : Addr).block < _ from World.block_lt_of_cell? _ _ q_b1)).trans q_b1
  replace b_b : w.heap.size < w_10.heap.size := World.block_lt_of_cell? _ _ q_b0
  replace q_t0 := (hB.cell (show (⟨w.heap.size + 1, 0, none⟩ : Addr).block < _ from World.block_lt_of_cell? _ _ q_t0)).trans q_t0
  replace q_t1 := (hB.cell (show (⟨w.heap.size + 1, 1, none⟩ : Addr).block < _ from World.block_lt_of_cell? _ _ q_t1)).trans q_t1
  replace q_t2 := (hB.cell (show (⟨w.heap.size + 1, 2, none⟩ : Addr).block < _ from World.block_lt_of_cell? _ _ q_t2)).trans q_t2
  replace q_t3 := (hB.cell (show (⟨w.heap.size + 1, 3, none⟩ : Addr).block < _ from World.block_lt_of_cell? _ _ q_t3)).trans q_t3
  replace b_t : w.heap.size + 1 < w_10.heap.size := World.block_lt_of_cell? _ _ q_t0
  replace q_x0 := (hB.cell (show (⟨C_x, 0, none⟩ : Addr).block < _ from World.block_lt_of_cell? _ _ q_x0)).trans q_x0
  replace q_x1 := (hB.cell (show (⟨C_x, 1, none⟩ : Addr).block < _ from World.block_lt_of_cell? _ _ q_x1)).trans q_x1
  replace b_x : C_x < w_10.heap.size := World.block_lt_of_cell? _ _ q_x0
  replace q_y0 := (hB.cell (show (⟨w_4.heap.size, 0, none⟩ : Addr).block < _ from World.block_lt_of_cell? _ _ q_y0)).trans q_y0
  replace q_y1 := (hB.cell (show (⟨w_4.heap.size, 1, none⟩ : Addr).block < _ from World.block_lt_of_cell? _ _ q_y1)).trans q_y1
  replace b_y : w_4.heap.size < w_10.heap.size := World.block_lt_of_cell? _ _ q_y0
  replace q_u0 := (hB.cell (show (⟨w_6.heap.size, 0, none⟩ : Addr).block < _ from World.block_lt_of_cell? _ _ q_u0)).trans q_u0
  replace q_u1 := (hB.cell (show (⟨w_6.heap.size, 1, none⟩ : Addr).block < _ from World.block_lt_of_cell? _ _ q_u1)).trans q_u1
  replace q_u2 := (hB.cell (show (⟨w_6.heap.size, 2, none⟩ : Addr).block < _ from World.block_lt_of_cell? _ _ q_u2)).trans q_u2
  replace q_u3 := (hB.cell (show (⟨w_6.heap.size, 3, none⟩ : Addr).block < _ from World.block_lt_of_cell? _ _ q_u3)).trans q_u3
  replace b_u : w_6.heap.size < w_10.heap.size := World.block_lt_of_cell? _ _ q_u0
  replace q_g0 := (hB.cell (show (⟨w_8.heap.size, 0, none⟩ : Addr).block < _ from World.block_lt_of_cell? _ _ q_g0)).trans q_g0
  replace q_g1 := (hB.cell (show (⟨w_8.heap.size, 1, none⟩ : Addr).block < _ from World.block_lt_of_cell? _ _ q_g1)).trans q_g1
  replace b_g : w_8.heap.size < w_10.heap.size := World.block_lt_of_cell? _ _ q_g0
  replace Hx := Lib.hid (ownL_later Hx.out hB)
  replace Hy := Lib.hid (ownL_later Hy.out hB)
  replace Hu := Lib.hid (ownL_later Hu.out hB)
  replace Hg := Lib.hid (ownL_later Hg.out hB)
  have HS10 := Lib.hid hB.size
  replace HB := Lib.hid (HB.out.trans (hB.mono HB.out.size))
  clear hB hg
  go_upto_region 14 with (fail)
  go_cut [58] from 54 to 58 (fun c wx => c = .bool false ∧ Below w_10.heap.size w_10 wx)
  case first =>
    have hreadN := (rwN_reads ((HRN_b.out.below HB.out (Nat.le_refl _)).mono HB.out.size)).up (Grw.refl _).drew; have hreadI := (rwI_reads.2 ((HRI_b.out.below HB.out (Nat.le_refl _)).mono HB.out.size)).up (Grw.refl _).drew
    go_region_with (first | (go_at_call 38; refine (toL_Builder (rwN (.slice na_b nn_b nc_b) ns_b) (rwI (.slice oa_b on_b oc_b) zs_b) _ (rwN_is _ _) ?_ (by have := HWN_b.out; omega) (rwI_is _ _) ?_ (by have := HWI_b.out; omega)).mono ?_; (exact hreadN); (exact hreadI); rintro e w_A ⟨y0_w, y1_w, rfl, i0_w, d0_w, i1_w, d1_w, ho_w, hn_w, hb_w⟩; obtain ⟨na_w, nn_w, nc_w, e0_w⟩ := sl_form (is_sl_NodeS i0_w) (Rw.OwnR.reads _ (ownL_two.1 ho_w).1); obtain ⟨oa_w, on_w, oc_w, e1_w⟩ := sl_form (is_sl_IntS i1_w) (Rw.OwnR.reads _ (ownL_two.1 ho_w).2); rw [e0_w, e1_w]; have hO := ownL_later Hy.out (below_undrew hb_w); have hsA := (below_undrew hb_w).size; (first | have qA_b0 := (hb_w.cell (p := ⟨w.heap.size, 0, none⟩) b_b).trans q_b0 | skip); (first | have qA_b1 := (hb_w.cell (p := ⟨w.heap.size, 1, none⟩) b_b).trans q_b1 | skip); (first | have qA_t0 := (hb_w.cell (p := ⟨w.heap.size + 1, 0, none⟩) b_t).trans q_t0 | skip); (first | have qA_t1 := (hb_w.cell (p := ⟨w.heap.size + 1, 1, none⟩) b_t).trans q_t1 | skip); (first | have qA_t2 := (hb_w.cell (p := ⟨w.heap.size + 1, 2, none⟩) b_t).trans q_t2 | skip); (first | have qA_t3 := (hb_w.cell (p := ⟨w.heap.size + 1, 3, none⟩) b_t).trans q_t3 | skip); (first | have qA_x0 := (hb_w.cell (p := ⟨C_x, 0, none⟩) b_x).trans q_x0 | skip); (first | have qA_x1 := (hb_w.cell (p := ⟨C_x, 1, none⟩) b_x).trans q_x1 | skip); (first | have qA_y0 := (hb_w.cell (p := ⟨w_4.heap.size, 0, none⟩) b_y).trans q_y0 | skip); (first | have qA_y1 := (hb_w.cell (p := ⟨w_4.heap.size, 1, none⟩) b_y).trans q_y1 | skip); (first | have qA_u0 := (hb_w.cell (p := ⟨w_6.heap.size, 0, none⟩) b_u).trans q_u0 | skip); (first | have qA_u1 := (hb_w.cell (p := ⟨w_6.heap.size, 1, none⟩) b_u).trans q_u1 | skip); (first | have qA_u2 := (hb_w.cell (p := ⟨w_6.heap.size, 2, none⟩) b_u).trans q_u2 | skip); (first | have qA_u3 := (hb_w.cell (p := ⟨w_6.heap.size, 3, none⟩) b_u).trans q_u3 | skip); (first | have qA_g0 := (hb_w.cell (p := ⟨w_8.heap.size, 0, none⟩) b_g).trans q_g0 | skip); (first | have qA_g1 := (hb_w.cell (p := ⟨w_8.heap.size, 1, none⟩) b_g).trans q_g1 | skip)) | (go_at_call 33; refine (eqV_Builder y0_y y0_w y1_y y1_w _ _ _ _ HE0_y.out e0_w HE1_y.out e1_w _ HI0_y.out i0_w (HD0_y.out.trans d0_w.symm) (rdL1 hO) (rdL1 ho_w) HI1_y.out i1_w (HD1_y.out.trans d1_w.symm) (rdL2 hO) (rdL2 ho_w)).mono ?_; rintro e w_C ⟨rfl, hgC⟩))
    all_goals
      have hB := (below_undrew hb_w).trans (hgC.below.mono hsA)
      go_wp2_with fail
      go_meet
      exact ⟨rfl, hB⟩
  obtain ⟨rfl, hB⟩ := hcut
  rename World => w_11
  replace q_b0 := (hB.cell (show (⟨w.heap.size, 0, none⟩ : Addr).block < _ from World.block_lt_of_cell? _ _ q_b0)).trans q_b0
  replace q_b1 := (hB.cell (show (⟨w.heap.size, 1, none⟩ : Addr).block < _ from World.block_lt_of_cell? _ _ q_b1)).trans q_b1
  replace b_b : w.heap.size < w_11.heap.size := World.block_lt_of_cell? _ _ q_b0
  replace q_t0 := (hB.cell (show (⟨w.heap.size + 1, 0, none⟩ : Addr).block < _ from World.block_lt_of_cell? _ _ q_t0)).trans q_t0
  replace q_t1 := (hB.cell (show (⟨w.heap.size + 1, 1, none⟩ : Addr).block < _ from World.block_lt_of_cell? _ _ q_t1)).trans q_t1
  replace q_t2 := (hB.cell (show (⟨w.heap.size + 1, 2, none⟩ : Addr).block < _ from World.block_lt_of_cell? _ _ q_t2)).trans q_t2
  replace q_t3 := (hB.cell (show (⟨w.heap.size + 1, 3, none⟩ : Addr).block < _ from World.block_lt_of_cell? _ _ q_t3)).trans q_t3
  replace b_t : w.heap.size + 1 < w_11.heap.size := World.block_lt_of_cell? _ _ q_t0
  replace q_x0 := (hB.cell (show (⟨C_x, 0, none⟩ : Addr).block < _ from World.block_lt_of_cell? _ _ q_x0)).trans q_x0
  replace q_x1 := (hB.cell (show (⟨C_x, 1, none⟩ : Addr).block < _ from World.block_lt_of_cell? _ _ q_x1)).trans q_x1
  replace b_x : C_x < w_11.heap.size := World.block_lt_of_cell? _ _ q_x0
  replace q_y0 := (hB.cell (show (⟨w_4.heap.size, 0, none⟩ : Addr).block < _ from World.block_lt_of_cell? _ _ q_y0)).trans q_y0
  replace q_y1 := (hB.cell (show (⟨w_4.heap.size, 1, none⟩ : Addr).block < _ from World.block_lt_of_cell? _ _ q_y1)).trans q_y1
  replace b_y : w_4.heap.size < w_11.heap.size := World.block_lt_of_cell? _ _ q_y0
  replace q_u0 := (hB.cell (show (⟨w_6.heap.size, 0, none⟩ : Addr).block < _ from World.block_lt_of_cell? _ _ q_u0)).trans q_u0
  replace q_u1 := (hB.cell (show (⟨w_6.heap.size, 1, none⟩ : Addr).block < _ from World.block_lt_of_cell? _ _ q_u1)).trans q_u1
  replace q_u2 := (hB.cell (show (⟨w_6.heap.size, 2, none⟩ : Addr).block < _ from World.block_lt_of_cell? _ _ q_u2)).trans q_u2
  replace q_u3 := (hB.cell (show (⟨w_6.heap.size, 3, none⟩ : Addr).block < _ from World.block_lt_of_cell? _ _ q_u3)).trans q_u3
  replace b_u : w_6.heap.size < w_11.heap.size := World.block_lt_of_cell? _ _ q_u0
  replace q_g0 := (hB.cell (show (⟨w_8.heap.size, 0, none⟩ : Addr).block < _ from World.block_lt_of_cell? _ _ q_g0)).trans q_g0
  replace q_g1 := (hB.cell (show (⟨w_8.heap.size, 1, none⟩ : Addr).block < _ from World.block_lt_of_cell? _ _ q_g1)).trans q_g1
  replace b_g : w_8.heap.size < w_11.heap.size := World.block_lt_of_cell? _ _ q_g0
  replace Hx := Lib.hid (ownL_later Hx.out hB)
  replace Hy := Lib.hid (ownL_later Hy.out hB)
  replace Hu := Lib.hid (ownL_later Hu.out hB)
  replace Hg := Lib.hid (ownL_later Hg.out hB)
  have HS11 := Lib.hid hB.size
  replace HB := Lib.hid (HB.out.trans (hB.mono HB.out.size))
  clear hB
  go_upto_region 16 with (fail)
  go_cut [63] from 59 to 63 (fun c wx => c = .bool false ∧ Below w_11.heap.size w_11 wx)
  case first =>
    have hreadA := (rwA_reads ((HRA_t.out.below HB.out (Nat.le_refl _)).mono HB.out.size)).up (Grw.refl _).drew
    go_region_with (first | (go_at_call 40; refine (toL_Token k_t m_t (rwA (.slice ta_t tn_t tc_t) xs_t) u_t _ (rwA_is _ _) ?_ (by have := HWA_t.out; omega)).mono ?_; (exact hreadA); rintro e w_A ⟨y2_w, rfl, i2_w, d2_w, ho_w, hn_w, hb_w⟩; obtain ⟨ta_w, tn_w, tc_w, e2_w⟩ := sl_form (is_sl_AttrS i2_w) (Rw.OwnR.reads _ (ownL_one.1 ho_w)); rw [e2_w]; have hO := ownL_later Hu.out (below_undrew hb_w); have hsA := (below_undrew hb_w).size; (first | have qA_b0 := (hb_w.cell (p := ⟨w.heap.size, 0, none⟩) b_b).trans q_b0 | skip); (first | have qA_b1 := (hb_w.cell (p := ⟨w.heap.size, 1, none⟩) b_b).trans q_b1 | skip); (first | have qA_t0 := (hb_w.cell (p := ⟨w.heap.size + 1, 0, none⟩) b_t).trans q_t0 | skip); (first | have qA_t1 := (hb_w.cell (p := ⟨w.heap.size + 1, 1, none⟩) b_t).trans q_t1 | skip); (first | have qA_t2 := (hb_w.cell (p := ⟨w.heap.size + 1, 2, none⟩) b_t).trans q_t2 | skip); (first | have qA_t3 := (hb_w.cell (p := ⟨w.heap.size + 1, 3, none⟩) b_t).trans q_t3 | skip); (first | have qA_x0 := (hb_w.cell (p := ⟨C_x, 0, none⟩) b_x).trans q_x0 | skip); (first | have qA_x1 := (hb_w.cell (p := ⟨C_x, 1, none⟩) b_x).trans q_x1 | skip); (first | have qA_y0 := (hb_w.cell (p := ⟨w_4.heap.size, 0, none⟩) b_y).trans q_y0 | skip); (first | have qA_y1 := (hb_w.cell (p := ⟨w_4.heap.size, 1, none⟩) b_y).trans q_y1 | skip); (first | have qA_u0 := (hb_w.cell (p := ⟨w_6.heap.size, 0, none⟩) b_u).trans q_u0 | skip); (first | have qA_u1 := (hb_w.cell (p := ⟨w_6.heap.size, 1, none⟩) b_u).trans q_u1 | skip); (first | have qA_u2 := (hb_w.cell (p := ⟨w_6.heap.size, 2, none⟩) b_u).trans q_u2 | skip); (first | have qA_u3 := (hb_w.cell (p := ⟨w_6.heap.size, 3, none⟩) b_u).trans q_u3 | skip); (first | have qA_g0 := (hb_w.cell (p := ⟨w_8.heap.size, 0, none⟩) b_g).trans q_g0 | skip); (first | have qA_g1 := (hb_w.cell (p := ⟨w_8.heap.size, 1, none⟩) b_g).trans q_g1 | skip)) | (go_at_call 41; refine (eqV_Token k_t m_t y2_u y2_w u_t _ _ HE2_u.out e2_w _ HI2_u.out i2_w (HD2_u.out.trans d2_w.symm) (rd_of (ownL_one.1 hO)) (rd_of (ownL_one.1 ho_w))).mono ?_; rintro e w_C ⟨rfl, hgC⟩))
    all_goals
      have hB := (below_undrew hb_w).trans (hgC.below.mono hsA)
      go_wp2_with fail
      go_meet
      exact ⟨rfl, hB⟩
  obtain ⟨rfl, hB⟩ := hcut
  rename World => w_12
  replace q_b0 := (hB.cell (show (⟨w.heap.size, 0, none⟩ : Addr).block < _ from World.block_lt_of_cell? _ _ q_b0)).trans q_b0
  replace q_b1 := (hB.cell (show (⟨w.heap.size, 1, none⟩ : Addr).block < _ from World.block_lt_of_cell? _ _ q_b1)).trans q_b1
  replace b_b : w.heap.size < w_12.heap.size := World.block_lt_of_cell? _ _ q_b0
  replace q_t0 := (hB.cell (show (⟨w.heap.size + 1, 0, none⟩ : Addr).block < _ from World.block_lt_of_cell? _ _ q_t0)).trans q_t0
  replace q_t1 := (hB.cell (show (⟨w.heap.size + 1, 1, none⟩ : Addr).block < _ from World.block_lt_of_cell? _ _ q_t1)).trans q_t1
  replace q_t2 := (hB.cell (show (⟨w.heap.size + 1, 2, none⟩ : Addr).block < _ from World.block_lt_of_cell? _ _ q_t2)).trans q_t2
  replace q_t3 := (hB.cell (show (⟨w.heap.size + 1, 3, none⟩ : Addr).block < _ from World.block_lt_of_cell? _ _ q_t3)).trans q_t3
  replace b_t : w.heap.size + 1 < w_12.heap.size := World.block_lt_of_cell? _ _ q_t0
  replace q_x0 := (hB.cell (show (⟨C_x, 0, none⟩ : Addr).block < _ from World.block_lt_of_cell? _ _ q_x0)).trans q_x0
  replace q_x1 := (hB.cell (show (⟨C_x, 1, none⟩ : Addr).block < _ from World.block_lt_of_cell? _ _ q_x1)).trans q_x1
  replace b_x : C_x < w_12.heap.size := World.block_lt_of_cell? _ _ q_x0
  replace q_y0 := (hB.cell (show (⟨w_4.heap.size, 0, none⟩ : Addr).block < _ from World.block_lt_of_cell? _ _ q_y0)).trans q_y0
  replace q_y1 := (hB.cell (show (⟨w_4.heap.size, 1, none⟩ : Addr).block < _ from World.block_lt_of_cell? _ _ q_y1)).trans q_y1
  replace b_y : w_4.heap.size < w_12.heap.size := World.block_lt_of_cell? _ _ q_y0
  replace q_u0 := (hB.cell (show (⟨w_6.heap.size, 0, none⟩ : Addr).block < _ from World.block_lt_of_cell? _ _ q_u0)).trans q_u0
  replace q_u1 := (hB.cell (show (⟨w_6.heap.size, 1, none⟩ : Addr).block < _ from World.block_lt_of_cell? _ _ q_u1)).trans q_u1
  replace q_u2 := (hB.cell (show (⟨w_6.heap.size, 2, none⟩ : Addr).block < _ from World.block_lt_of_cell? _ _ q_u2)).trans q_u2
  replace q_u3 := (hB.cell (show (⟨w_6.heap.size, 3, none⟩ : Addr).block < _ from World.block_lt_of_cell? _ _ q_u3)).trans q_u3
  replace b_u : w_6.heap.size < w_12.heap.size := World.block_lt_of_cell? _ _ q_u0
  replace q_g0 := (hB.cell (show (⟨w_8.heap.size, 0, none⟩ : Addr).block < _ from World.block_lt_of_cell? _ _ q_g0)).trans q_g0
  replace q_g1 := (hB.cell (show (⟨w_8.heap.size, 1, none⟩ : Addr).block < _ from World.block_lt_of_cell? _ _ q_g1)).trans q_g1
  replace b_g : w_8.heap.size < w_12.heap.size := World.block_lt_of_cell? _ _ q_g0
  replace Hx := Lib.hid (ownL_later Hx.out hB)
  replace Hy := Lib.hid (ownL_later Hy.out hB)
  replace Hu := Lib.hid (ownL_later Hu.out hB)
  replace Hg := Lib.hid (ownL_later Hg.out hB)
  have HS12 := Lib.hid hB.size
  replace HB := Lib.hid (HB.out.trans (hB.mono HB.out.size))
  clear hB
  have HCT_y := Lib.hid (show 1 + countL [y0_y, y1_y] ≤ 4611686018427387904 by
    have h1 := count_data _ _ HD0_y.out; have h2 := count_data _ _ HD1_y.out; have h3 := HCB.out
    rw [rwN_cnt] at h1; rw [rwI_count] at h2; rw [countL, countL, countL]; omega)
  have NOB_b_y := Lib.hid (show w.heap.size ∉ _ from fun hb => by have hh := ownL_lt Hy.out _ hb; have := HS0.out; have := HS1.out; have := HS2.out; have := HS3.out; have := HSb_x.out; have := HSc_x.out; have := HS4.out; have := HS5.out; have := HSb_y.out; have := HS6.out; have := HS7.out; have := HSb_u.out; have := HS8.out; have := HS9.out; have := HSb_g.out; have := HS10.out; have := HS11.out; have := HS12.out; omega)
  have NOB_t_y := Lib.hid (show w.heap.size + 1 ∉ _ from fun hb => by have hh := ownL_lt Hy.out _ hb; have := HS0.out; have := HS1.out; have := HS2.out; have := HS3.out; have := HSb_x.out; have := HSc_x.out; have := HS4.out; have := HS5.out; have := HSb_y.out; have := HS6.out; have := HS7.out; have := HSb_u.out; have := HS8.out; have := HS9.out; have := HSb_g.out; have := HS10.out; have := HS11.out; have := HS12.out; omega)
  have NOB_x_y := Lib.hid (show C_x ∉ _ from fun hb => by have hh := ownL_lt Hy.out _ hb; have := HS0.out; have := HS1.out; have := HS2.out; have := HS3.out; have := HSb_x.out; have := HSc_x.out; have := HS4.out; have := HS5.out; have := HSb_y.out; have := HS6.out; have := HS7.out; have := HSb_u.out; have := HS8.out; have := HS9.out; have := HSb_g.out; have := HS10.out; have := HS11.out; have := HS12.out; omega)
  have NOB_y_y := Lib.hid (show w_4.heap.size ∉ _ from fun hb => by have hh := ownL_lt Hy.out _ hb; have := HS0.out; have := HS1.out; have := HS2.out; have := HS3.out; have := HSb_x.out; have := HSc_x.out; have := HS4.out; have := HS5.out; have := HSb_y.out; have := HS6.out; have := HS7.out; have := HSb_u.out; have := HS8.out; have := HS9.out; have := HSb_g.out; have := HS10.out; have := HS11.out; have := HS12.out; omega)
  have NOB_u_y := Lib.hid (show w_6.heap.size ∉ _ from fun hb => by have hh := ownL_lt Hy.out _ hb; have := HS0.out; have := HS1.out; have := HS2.out; have := HS3.out; have := HSb_x.out; have := HSc_x.out; have := HS4.out; have := HS5.out; have := HSb_y.out; have := HS6.out; have := HS7.out; have := HSb_u.out; have := HS8.out; have := HS9.out; have := HSb_g.out; have := HS10.out; have := HS11.out; have := HS12.out; omega)
  have NOB_g_y := Lib.hid (show w_8.heap.size ∉ _ from fun hb => by have hh := ownL_lt Hy.out _ hb; have := HS0.out; have := HS1.out; have := HS2.out; have := HS3.out; have := HSb_x.out; have := HSc_x.out; have := HS4.out; have := HS5.out; have := HSb_y.out; have := HS6.out; have := HS7.out; have := HSb_u.out; have := HS8.out; have := HS9.out; have := HSb_g.out; have := HS10.out; have := HS11.out; have := HS12.out; omega)
  go_wp2_with fail
  refine (mkV_Builder y0_y y1_y _ _ HE0_y.out HE1_y.out HI0_y.out HI1_y.out _ _ 1 _ rfl _ Hy.out HN_y.out HCT_y.out).mono ?_
  rintro e w_13 ⟨rfl, hmk, hon⟩
  replace q_b0 := (cell_only (a := ⟨w.heap.size, 0, none⟩) hon (show w.heap.size ∉ _ from fun hb => NOB_b_y.out hb) (World.block_lt_of_cell? _ _ q_b0)).trans q_b0
  replace q_b1 := (cell_only (a := ⟨w.heap.size, 1, none⟩) hon (show w.heap.size ∉ _ from fun hb => NOB_b_y.out hb) (World.block_lt_of_cell? _ _ q_b1)).trans q_b1
  replace b_b : w.heap.size < w_13.heap.size := World.block_lt_of_cell? _ _ q_b0
  replace q_t0 := (cell_only (a := ⟨w.heap.size + 1, 0, none⟩) hon (show w.heap.size + 1 ∉ _ from fun hb => NOB_t_y.out hb) (World.block_lt_of_cell? _ _ q_t0)).trans q_t0
  replace q_t1 := (cell_only (a := ⟨w.heap.size + 1, 1, none⟩) hon (show w.heap.size + 1 ∉ _ from fun hb => NOB_t_y.out hb) (World.block_lt_of_cell? _ _ q_t1)).trans q_t1
  replace q_t2 := (cell_only (a := ⟨w.heap.size + 1, 2, none⟩) hon (show w.heap.size + 1 ∉ _ from fun hb => NOB_t_y.out hb) (World.block_lt_of_cell? _ _ q_t2)).trans q_t2
  replace q_t3 := (cell_only (a := ⟨w.heap.size + 1, 3, none⟩) hon (show w.heap.size + 1 ∉ _ from fun hb => NOB_t_y.out hb) (World.block_lt_of_cell? _ _ q_t3)).trans q_t3
  replace b_t : w.heap.size + 1 < w_13.heap.size := World.block_lt_of_cell? _ _ q_t0
  replace q_x0 := (cell_only (a := ⟨C_x, 0, none⟩) hon (show C_x ∉ _ from fun hb => NOB_x_y.out hb) (World.block_lt_of_cell? _ _ q_x0)).trans q_x0
  replace q_x1 := (cell_only (a := ⟨C_x, 1, none⟩) hon (show C_x ∉ _ from fun hb => NOB_x_y.out hb) (World.block_lt_of_cell? _ _ q_x1)).trans q_x1
  replace b_x : C_x < w_13.heap.size := World.block_lt_of_cell? _ _ q_x0
  replace q_y0 := (cell_only (a := ⟨w_4.heap.size, 0, none⟩) hon (show w_4.heap.size ∉ _ from fun hb => NOB_y_y.out hb) (World.block_lt_of_cell? _ _ q_y0)).trans q_y0
  replace q_y1 := (cell_only (a := ⟨w_4.heap.size, 1, none⟩) hon (show w_4.heap.size ∉ _ from fun hb => NOB_y_y.out hb) (World.block_lt_of_cell? _ _ q_y1)).trans q_y1
  replace b_y : w_4.heap.size < w_13.heap.size := World.block_lt_of_cell? _ _ q_y0
  replace q_u0 := (cell_only (a := ⟨w_6.heap.size, 0, none⟩) hon (show w_6.heap.size ∉ _ from fun hb => NOB_u_y.out hb) (World.block_lt_of_cell? _ _ q_u0)).trans q_u0
  replace q_u1 := (cell_only (a := ⟨w_6.heap.size, 1, none⟩) hon (show w_6.heap.size ∉ _ from fun hb => NOB_u_y.out hb) (World.block_lt_of_cell? _ _ q_u1)).trans q_u1
  replace q_u2 := (cell_only (a := ⟨w_6.heap.size, 2, none⟩) hon (show w_6.heap.size ∉ _ from fun hb => NOB_u_y.out hb) (World.block_lt_of_cell? _ _ q_u2)).trans q_u2
  replace q_u3 := (cell_only (a := ⟨w_6.heap.size, 3, none⟩) hon (show w_6.heap.size ∉ _ from fun hb => NOB_u_y.out hb) (World.block_lt_of_cell? _ _ q_u3)).trans q_u3
  replace b_u : w_6.heap.size < w_13.heap.size := World.block_lt_of_cell? _ _ q_u0
  replace q_g0 := (cell_only (a := ⟨w_8.heap.size, 0, none⟩) hon (show w_8.heap.size ∉ _ from fun hb => NOB_g_y.out hb) (World.block_lt_of_cell? _ _ q_g0)).trans q_g0
  replace q_g1 := (cell_only (a := ⟨w_8.heap.size, 1, none⟩) hon (show w_8.heap.size ∉ _ from fun hb => NOB_g_y.out hb) (World.block_lt_of_cell? _ _ q_g1)).trans q_g1
  replace b_g : w_8.heap.size < w_13.heap.size := World.block_lt_of_cell? _ _ q_g0
  have hbk := ownL_back (lo := w.heap.size) HB.out (ownL_mono Hy.out (lo' := w.heap.size) (by have := HS0.out; have := HS1.out; have := HS2.out; have := HS3.out; have := HSb_x.out; have := HSc_x.out; have := HS4.out; have := HS5.out; have := HSb_y.out; have := HS6.out; have := HS7.out; have := HSb_u.out; have := HS8.out; have := HS9.out; have := HSb_g.out; have := HS10.out; have := HS11.out; have := HS12.out; omega) (Nat.le_refl _)) HB.out.size hon
  replace Hx := Lib.hid (ownL_apart Hx.out Hy.out (by have := HS0.out; have := HS1.out; have := HS2.out; have := HS3.out; have := HSb_x.out; have := HSc_x.out; have := HS4.out; have := HS5.out; have := HSb_y.out; have := HS6.out; have := HS7.out; have := HSb_u.out; have := HS8.out; have := HS9.out; have := HSb_g.out; have := HS10.out; have := HS11.out; have := HS12.out; omega) hon)
  replace Hu := Lib.hid (ownL_apart Hu.out Hy.out (by have := HS0.out; have := HS1.out; have := HS2.out; have := HS3.out; have := HSb_x.out; have := HSc_x.out; have := HS4.out; have := HS5.out; have := HSb_y.out; have := HS6.out; have := HS7.out; have := HSb_u.out; have := HS8.out; have := HS9.out; have := HSb_g.out; have := HS10.out; have := HS11.out; have := HS12.out; omega) hon)
  replace Hg := Lib.hid (ownL_apart Hg.out Hy.out (by have := HS0.out; have := HS1.out; have := HS2.out; have := HS3.out; have := HSb_x.out; have := HSc_x.out; have := HS4.out; have := HS5.out; have := HSb_y.out; have := HS6.out; have := HS7.out; have := HSb_u.out; have := HS8.out; have := HS9.out; have := HSb_g.out; have := HS10.out; have := HS11.out; have := HS12.out; omega) hon)
  replace Hy := Lib.hid hmk
  have HS13 := Lib.hid hon.size
  replace HB := Lib.hid hbk
  clear hbk hmk hon
  obtain ⟨m1, hm1⟩ : ∃ m, 1 + countL [y0_y, y1_y] = m := ⟨_, rfl⟩
  have HCT_u := Lib.hid (show m1 + countL [y2_u] ≤ 4611686018427387904 by
    have h1 := count_data _ _ HD0_y.out; have h2 := count_data _ _ HD1_y.out; have h3 := HCB.out; have h4 := count_data _ _ HD2_u.out; have h5 := HAT_t.out
    rw [rwN_cnt] at h1; rw [rwI_count] at h2; rw [rwA_count] at h4; rw [← hm1, countL, countL, countL, countL, countL]; omega)
  rw [hm1]; clear hm1
  have NOB_b_u := Lib.hid (show w.heap.size ∉ _ from fun hb => by have hh := ownL_lt Hu.out _ hb; have := HS0.out; have := HS1.out; have := HS2.out; have := HS3.out; have := HSb_x.out; have := HSc_x.out; have := HS4.out; have := HS5.out; have := HSb_y.out; have := HS6.out; have := HS7.out; have := HSb_u.out; have := HS8.out; have := HS9.out; have := HSb_g.out; have := HS10.out; have := HS11.out; have := HS12.out; have := HS13.out; omega)
  have NOB_t_u := Lib.hid (show w.heap.size + 1 ∉ _ from fun hb => by have hh := ownL_lt Hu.out _ hb; have := HS0.out; have := HS1.out; have := HS2.out; have := HS3.out; have := HSb_x.out; have := HSc_x.out; have := HS4.out; have := HS5.out; have := HSb_y.out; have := HS6.out; have := HS7.out; have := HSb_u.out; have := HS8.out; have := HS9.out; have := HSb_g.out; have := HS10.out; have := HS11.out; have := HS12.out; have := HS13.out; omega)
  have NOB_x_u := Lib.hid (show C_x ∉ _ from fun hb => by have hh := ownL_lt Hu.out _ hb; have := HS0.out; have := HS1.out; have := HS2.out; have := HS3.out; have := HSb_x.out; have := HSc_x.out; have := HS4.out; have := HS5.out; have := HSb_y.out; have := HS6.out; have := HS7.out; have := HSb_u.out; have := HS8.out; have := HS9.out; have := HSb_g.out; have := HS10.out; have := HS11.out; have := HS12.out; have := HS13.out; omega)
  have NOB_y_u := Lib.hid (show w_4.heap.size ∉ _ from fun hb => by have hh := ownL_lt Hu.out _ hb; have := HS0.out; have := HS1.out; have := HS2.out; have := HS3.out; have := HSb_x.out; have := HSc_x.out; have := HS4.out; have := HS5.out; have := HSb_y.out; have := HS6.out; have := HS7.out; have := HSb_u.out; have := HS8.out; have := HS9.out; have := HSb_g.out; have := HS10.out; have := HS11.out; have := HS12.out; have := HS13.out; omega)
  have NOB_u_u := Lib.hid (show w_6.heap.size ∉ _ from fun hb => by have hh := ownL_lt Hu.out _ hb; have := HS0.out; have := HS1.out; have := HS2.out; have := HS3.out; have := HSb_x.out; have := HSc_x.out; have := HS4.out; have := HS5.out; have := HSb_y.out; have := HS6.out; have := HS7.out; have := HSb_u.out; have := HS8.out; have := HS9.out; have := HSb_g.out; have := HS10.out; have := HS11.out; have := HS12.out; have := HS13.out; omega)
  have NOB_g_u := Lib.hid (show w_8.heap.size ∉ _ from fun hb => by have hh := ownL_lt Hu.out _ hb; have := HS0.out; have := HS1.out; have := HS2.out; have := HS3.out; have := HSb_x.out; have := HSc_x.out; have := HS4.out; have := HS5.out; have := HSb_y.out; have := HS6.out; have := HS7.out; have := HSb_u.out; have := HS8.out; have := HS9.out; have := HSb_g.out; have := HS10.out; have := HS11.out; have := HS12.out; have := HS13.out; omega)
  go_wp2_with fail
  refine (mkV_Token k_t m_t y2_u u_t _ HE2_u.out HI2_u.out _ _ m1 _ rfl _ Hu.out HN_u.out HCT_u.out).mono ?_
  rintro e w_14 ⟨rfl, hmk, hon⟩
  replace q_b0 := (cell_only (a := ⟨w.heap.size, 0, none⟩) hon (show w.heap.size ∉ _ from fun hb => NOB_b_u.out hb) (World.block_lt_of_cell? _ _ q_b0)).trans q_b0
  replace q_b1 := (cell_only (a := ⟨w.heap.size, 1, none⟩) hon (show w.heap.size ∉ _ from fun hb => NOB_b_u.out hb) (World.block_lt_of_cell? _ _ q_b1)).trans q_b1
  replace b_b : w.heap.size < w_14.heap.size := World.block_lt_of_cell? _ _ q_b0
  replace q_t0 := (cell_only (a := ⟨w.heap.size + 1, 0, none⟩) hon (show w.heap.size + 1 ∉ _ from fun hb => NOB_t_u.out hb) (World.block_lt_of_cell? _ _ q_t0)).trans q_t0
  replace q_t1 := (cell_only (a := ⟨w.heap.size + 1, 1, none⟩) hon (show w.heap.size + 1 ∉ _ from fun hb => NOB_t_u.out hb) (World.block_lt_of_cell? _ _ q_t1)).trans q_t1
  replace q_t2 := (cell_only (a := ⟨w.heap.size + 1, 2, none⟩) hon (show w.heap.size + 1 ∉ _ from fun hb => NOB_t_u.out hb) (World.block_lt_of_cell? _ _ q_t2)).trans q_t2
  replace q_t3 := (cell_only (a := ⟨w.heap.size + 1, 3, none⟩) hon (show w.heap.size + 1 ∉ _ from fun hb => NOB_t_u.out hb) (World.block_lt_of_cell? _ _ q_t3)).trans q_t3
  replace b_t : w.heap.size + 1 < w_14.heap.size := World.block_lt_of_cell? _ _ q_t0
  replace q_x0 := (cell_only (a := ⟨C_x, 0, none⟩) hon (show C_x ∉ _ from fun hb => NOB_x_u.out hb) (World.block_lt_of_cell? _ _ q_x0)).trans q_x0
  replace q_x1 := (cell_only (a := ⟨C_x, 1, none⟩) hon (show C_x ∉ _ from fun hb => NOB_x_u.out hb) (World.block_lt_of_cell? _ _ q_x1)).trans q_x1
  replace b_x : C_x < w_14.heap.size := World.block_lt_of_cell? _ _ q_x0
  replace q_y0 := (cell_only (a := ⟨w_4.heap.size, 0, none⟩) hon (show w_4.heap.size ∉ _ from fun hb => NOB_y_u.out hb) (World.block_lt_of_cell? _ _ q_y0)).trans q_y0
  replace q_y1 := (cell_only (a := ⟨w_4.heap.size, 1, none⟩) hon (show w_4.heap.size ∉ _ from fun hb => NOB_y_u.out hb) (World.block_lt_of_cell? _ _ q_y1)).trans q_y1
  replace b_y : w_4.heap.size < w_14.heap.size := World.block_lt_of_cell? _ _ q_y0
  replace q_u0 := (cell_only (a := ⟨w_6.heap.size, 0, none⟩) hon (show w_6.heap.size ∉ _ from fun hb => NOB_u_u.out hb) (World.block_lt_of_cell? _ _ q_u0)).trans q_u0
  replace q_u1 := (cell_only (a := ⟨w_6.heap.size, 1, none⟩) hon (show w_6.heap.size ∉ _ from fun hb => NOB_u_u.out hb) (World.block_lt_of_cell? _ _ q_u1)).trans q_u1
  replace q_u2 := (cell_only (a := ⟨w_6.heap.size, 2, none⟩) hon (show w_6.heap.size ∉ _ from fun hb => NOB_u_u.out hb) (World.block_lt_of_cell? _ _ q_u2)).trans q_u2
  replace q_u3 := (cell_only (a := ⟨w_6.heap.size, 3, none⟩) hon (show w_6.heap.size ∉ _ from fun hb => NOB_u_u.out hb) (World.block_lt_of_cell? _ _ q_u3)).trans q_u3
  replace b_u : w_6.heap.size < w_14.heap.size := World.block_lt_of_cell? _ _ q_u0
  replace q_g0 := (cell_only (a := ⟨w_8.heap.size, 0, none⟩) hon (show w_8.heap.size ∉ _ from fun hb => NOB_g_u.out hb) (World.block_lt_of_cell? _ _ q_g0)).trans q_g0
  replace q_g1 := (cell_only (a := ⟨w_8.heap.size, 1, none⟩) hon (show w_8.heap.size ∉ _ from fun hb => NOB_g_u.out hb) (World.block_lt_of_cell? _ _ q_g1)).trans q_g1
  replace b_g : w_8.heap.size < w_14.heap.size := World.block_lt_of_cell? _ _ q_g0
  have hbk := ownL_back (lo := w.heap.size) HB.out (ownL_mono Hu.out (lo' := w.heap.size) (by have := HS0.out; have := HS1.out; have := HS2.out; have := HS3.out; have := HSb_x.out; have := HSc_x.out; have := HS4.out; have := HS5.out; have := HSb_y.out; have := HS6.out; have := HS7.out; have := HSb_u.out; have := HS8.out; have := HS9.out; have := HSb_g.out; have := HS10.out; have := HS11.out; have := HS12.out; have := HS13.out; omega) (Nat.le_refl _)) HB.out.size hon
  replace Hx := Lib.hid (ownL_apart Hx.out Hu.out (by have := HS0.out; have := HS1.out; have := HS2.out; have := HS3.out; have := HSb_x.out; have := HSc_x.out; have := HS4.out; have := HS5.out; have := HSb_y.out; have := HS6.out; have := HS7.out; have := HSb_u.out; have := HS8.out; have := HS9.out; have := HSb_g.out; have := HS10.out; have := HS11.out; have := HS12.out; have := HS13.out; omega) hon)
  replace Hy := Lib.hid (ownL_apart Hy.out Hu.out (by have := HS0.out; have := HS1.out; have := HS2.out; have := HS3.out; have := HSb_x.out; have := HSc_x.out; have := HS4.out; have := HS5.out; have := HSb_y.out; have := HS6.out; have := HS7.out; have := HSb_u.out; have := HS8.out; have := HS9.out; have := HSb_g.out; have := HS10.out; have := HS11.out; have := HS12.out; have := HS13.out; omega) hon)
  replace Hg := Lib.hid (ownL_apart Hg.out Hu.out (by have := HS0.out; have := HS1.out; have := HS2.out; have := HS3.out; have := HSb_x.out; have := HSc_x.out; have := HS4.out; have := HS5.out; have := HSb_y.out; have := HS6.out; have := HS7.out; have := HSb_u.out; have := HS8.out; have := HS9.out; have := HSb_g.out; have := HS10.out; have := HS11.out; have := HS12.out; have := HS13.out; omega) hon)
  replace Hu := Lib.hid hmk
  have HS14 := Lib.hid hon.size
  replace HB := Lib.hid hbk
  clear hbk hmk hon
  obtain ⟨m2, hm2⟩ : ∃ m, m1 + countL [y2_u] = m := ⟨_, rfl⟩
  rw [hm2]; have hm20 : ¬ ((m2 : Int) < 0) := by omega
  clear hm2
  have hm2d : decide ((m2 : Int) < 0) = false := decide_eq_false hm20
  go_wp2_with fail
  refine (eqV_Builder (rwN (.slice na_g nn_g nc_g) ns_g) (rwN (.slice na_x nn_x nc_x) ns_x) (rwI (.slice oa_g on_g oc_g) OPN) (rwI (.slice oa_x on_x oc_x) OPN) _ _ _ _ rfl rfl rfl rfl _ (rwN_is _ _) (rwN_is _ _) (rwN_data _ _ (HNS_g.out.trans HNS_x.out.symm)) (rdL1 Hg.out) (rdL1 Hx.out) (rwI_is _ _) (rwI_is _ _) (rwI_data.2 rfl) (rdL2 Hg.out) (rdL2 Hx.out)).mono ?_
  rintro e w_15 ⟨rfl, hg⟩
  have hB := hg.below
  replace q_b0 := (hB.cell (show (⟨w.heap.size, 0, none⟩ : Addr).block < _ from World.block_lt_of_cell? _ _ q_b0)).trans q_b0
  replace q_b1 := (hB.cell (show (⟨w.heap.size, 1, none⟩ : Addr).block < _ from World.block_lt_of_cell? _ _ q_b1)).trans q_b1
  replace b_b : w.heap.size < w_15.heap.size := World.block_lt_of_cell? _ _ q_b0
  replace q_t0 := (hB.cell (show (⟨w.heap.size + 1, 0, none⟩ : Addr).block < _ from World.block_lt_of_cell? _ _ q_t0)).trans q_t0
  replace q_t1 := (hB.cell (show (⟨w.heap.size + 1, 1, none⟩ : Addr).block < _ from World.block_lt_of_cell? _ _ q_t1)).trans q_t1
  replace q_t2 := (hB.cell (show (⟨w.heap.size + 1, 2, none⟩ : Addr).block < _ from World.block_lt_of_cell? _ _ q_t2)).trans q_t2
  replace q_t3 := (hB.cell (show (⟨w.heap.size + 1, 3, none⟩ : Addr).block < _ from World.block_lt_of_cell? _ _ q_t3)).trans q_t3
  replace b_t : w.heap.size + 1 < w_15.heap.size := World.block_lt_of_cell? _ _ q_t0
  replace q_x0 := (hB.cell (show (⟨C_x, 0, none⟩ : Addr).block < _ from World.block_lt_of_cell? _ _ q_x0)).trans q_x0
  replace q_x1 := (hB.cell (show (⟨C_x, 1, none⟩ : Addr).block < _ from World.block_lt_of_cell? _ _ q_x1)).trans q_x1
  replace b_x : C_x < w_15.heap.size := World.block_lt_of_cell? _ _ q_x0
  replace q_y0 := (hB.cell (show (⟨w_4.heap.size, 0, none⟩ : Addr).block < _ from World.block_lt_of_cell? _ _ q_y0)).trans q_y0
  replace q_y1 := (hB.cell (show (⟨w_4.heap.size, 1, none⟩ : Addr).block < _ from World.block_lt_of_cell? _ _ q_y1)).trans q_y1
  replace b_y : w_4.heap.size < w_15.heap.size := World.block_lt_of_cell? _ _ q_y0
  replace q_u0 := (hB.cell (show (⟨w_6.heap.size, 0, none⟩ : Addr).block < _ from World.block_lt_of_cell? _ _ q_u0)).trans q_u0
  replace q_u1 := (hB.cell (show (⟨w_6.heap.size, 1, none⟩ : Addr).block < _ from World.block_lt_of_cell? _ _ q_u1)).trans q_u1
  replace q_u2 := (hB.cell (show (⟨w_6.heap.size, 2, none⟩ : Addr).block < _ from World.block_lt_of_cell? _ _ q_u2)).trans q_u2
  replace q_u3 := (hB.cell (show (⟨w_6.heap.size, 3, none⟩ : Addr).block < _ from World.block_lt_of_cell? _ _ q_u3)).trans q_u3
  replace b_u : w_6.heap.size < w_15.heap.size := World.block_lt_of_cell? _ _ q_u0
  replace q_g0 := (hB.cell (show (⟨w_8.heap.size, 0, none⟩ : Addr).block < _ from World.block_lt_of_cell? _ _ q_g0)).trans q_g0
  replace q_g1 := (hB.cell (show (⟨w_8.heap.size, 1, none⟩ : Addr).block < _ from World.block_lt_of_cell? _ _ q_g1)).trans q_g1
  replace b_g : w_8.heap.size < w_15.heap.size := World.block_lt_of_cell? _ _ q_g0
  replace Hx := Lib.hid (ownL_later Hx.out hB)
  replace Hy := Lib.hid (ownL_later Hy.out hB)
  replace Hu := Lib.hid (ownL_later Hu.out hB)
  replace Hg := Lib.hid (ownL_later Hg.out hB)
  have HS15 := Lib.hid hB.size
  replace HB := Lib.hid (HB.out.trans (hB.mono HB.out.size))
  clear hB hg
  have HCT_g := Lib.hid (show 1 + countL [(rwN (.slice na_g nn_g nc_g) ns_g), (rwI (.slice oa_g on_g oc_g) OPN)] ≤ 4611686018427387904 by
    have h1 := HWC.out; rw [countL, countL, countL, rwN_cnt, rwI_count, HNS_g.out]; omega)
  have NOB_b_g := Lib.hid (show w.heap.size ∉ _ from fun hb => by have hh := ownL_lt Hg.out _ hb; have := HS0.out; have := HS1.out; have := HS2.out; have := HS3.out; have := HSb_x.out; have := HSc_x.out; have := HS4.out; have := HS5.out; have := HSb_y.out; have := HS6.out; have := HS7.out; have := HSb_u.out; have := HS8.out; have := HS9.out; have := HSb_g.out; have := HS10.out; have := HS11.out; have := HS12.out; have := HS13.out; have := HS14.out; have := HS15.out; omega)
  have NOB_t_g := Lib.hid (show w.heap.size + 1 ∉ _ from fun hb => by have hh := ownL_lt Hg.out _ hb; have := HS0.out; have := HS1.out; have := HS2.out; have := HS3.out; have := HSb_x.out; have := HSc_x.out; have := HS4.out; have := HS5.out; have := HSb_y.out; have := HS6.out; have := HS7.out; have := HSb_u.out; have := HS8.out; have := HS9.out; have := HSb_g.out; have := HS10.out; have := HS11.out; have := HS12.out; have := HS13.out; have := HS14.out; have := HS15.out; omega)
  have NOB_x_g := Lib.hid (show C_x ∉ _ from fun hb => by have hh := ownL_lt Hg.out _ hb; have := HS0.out; have := HS1.out; have := HS2.out; have := HS3.out; have := HSb_x.out; have := HSc_x.out; have := HS4.out; have := HS5.out; have := HSb_y.out; have := HS6.out; have := HS7.out; have := HSb_u.out; have := HS8.out; have := HS9.out; have := HSb_g.out; have := HS10.out; have := HS11.out; have := HS12.out; have := HS13.out; have := HS14.out; have := HS15.out; omega)
  have NOB_y_g := Lib.hid (show w_4.heap.size ∉ _ from fun hb => by have hh := ownL_lt Hg.out _ hb; have := HS0.out; have := HS1.out; have := HS2.out; have := HS3.out; have := HSb_x.out; have := HSc_x.out; have := HS4.out; have := HS5.out; have := HSb_y.out; have := HS6.out; have := HS7.out; have := HSb_u.out; have := HS8.out; have := HS9.out; have := HSb_g.out; have := HS10.out; have := HS11.out; have := HS12.out; have := HS13.out; have := HS14.out; have := HS15.out; omega)
  have NOB_u_g := Lib.hid (show w_6.heap.size ∉ _ from fun hb => by have hh := ownL_lt Hg.out _ hb; have := HS0.out; have := HS1.out; have := HS2.out; have := HS3.out; have := HSb_x.out; have := HSc_x.out; have := HS4.out; have := HS5.out; have := HSb_y.out; have := HS6.out; have := HS7.out; have := HSb_u.out; have := HS8.out; have := HS9.out; have := HSb_g.out; have := HS10.out; have := HS11.out; have := HS12.out; have := HS13.out; have := HS14.out; have := HS15.out; omega)
  have NOB_g_g := Lib.hid (show w_8.heap.size ∉ _ from fun hb => by have hh := ownL_lt Hg.out _ hb; have := HS0.out; have := HS1.out; have := HS2.out; have := HS3.out; have := HSb_x.out; have := HSc_x.out; have := HS4.out; have := HS5.out; have := HSb_y.out; have := HS6.out; have := HS7.out; have := HSb_u.out; have := HS8.out; have := HS9.out; have := HSb_g.out; have := HS10.out; have := HS11.out; have := HS12.out; have := HS13.out; have := HS14.out; have := HS15.out; omega)
  go_wp2_with fail
  refine (mkV_Builder (rwN (.slice na_g nn_g nc_g) ns_g) (rwI (.slice oa_g on_g oc_g) OPN) _ _ rfl rfl (rwN_is _ _) (rwI_is _ _) _ _ 1 _ rfl _ Hg.out HN_g.out HCT_g.out).mono ?_
  rintro e w_16 ⟨rfl, hmk, hon⟩
  replace q_b0 := (cell_only (a := ⟨w.heap.size, 0, none⟩) hon (show w.heap.size ∉ _ from fun hb => NOB_b_g.out hb) (World.block_lt_of_cell? _ _ q_b0)).trans q_b0
  replace q_b1 := (cell_only (a := ⟨w.heap.size, 1, none⟩) hon (show w.heap.size ∉ _ from fun hb => NOB_b_g.out hb) (World.block_lt_of_cell? _ _ q_b1)).trans q_b1
  replace b_b : w.heap.size < w_16.heap.size := World.block_lt_of_cell? _ _ q_b0
  replace q_t0 := (cell_only (a := ⟨w.heap.size + 1, 0, none⟩) hon (show w.heap.size + 1 ∉ _ from fun hb => NOB_t_g.out hb) (World.block_lt_of_cell? _ _ q_t0)).trans q_t0
  replace q_t1 := (cell_only (a := ⟨w.heap.size + 1, 1, none⟩) hon (show w.heap.size + 1 ∉ _ from fun hb => NOB_t_g.out hb) (World.block_lt_of_cell? _ _ q_t1)).trans q_t1
  replace q_t2 := (cell_only (a := ⟨w.heap.size + 1, 2, none⟩) hon (show w.heap.size + 1 ∉ _ from fun hb => NOB_t_g.out hb) (World.block_lt_of_cell? _ _ q_t2)).trans q_t2
  replace q_t3 := (cell_only (a := ⟨w.heap.size + 1, 3, none⟩) hon (show w.heap.size + 1 ∉ _ from fun hb => NOB_t_g.out hb) (World.block_lt_of_cell? _ _ q_t3)).trans q_t3
  replace b_t : w.heap.size + 1 < w_16.heap.size := World.block_lt_of_cell? _ _ q_t0
  replace q_x0 := (cell_only (a := ⟨C_x, 0, none⟩) hon (show C_x ∉ _ from fun hb => NOB_x_g.out hb) (World.block_lt_of_cell? _ _ q_x0)).trans q_x0
  replace q_x1 := (cell_only (a := ⟨C_x, 1, none⟩) hon (show C_x ∉ _ from fun hb => NOB_x_g.out hb) (World.block_lt_of_cell? _ _ q_x1)).trans q_x1
  replace b_x : C_x < w_16.heap.size := World.block_lt_of_cell? _ _ q_x0
  replace q_y0 := (cell_only (a := ⟨w_4.heap.size, 0, none⟩) hon (show w_4.heap.size ∉ _ from fun hb => NOB_y_g.out hb) (World.block_lt_of_cell? _ _ q_y0)).trans q_y0
  replace q_y1 := (cell_only (a := ⟨w_4.heap.size, 1, none⟩) hon (show w_4.heap.size ∉ _ from fun hb => NOB_y_g.out hb) (World.block_lt_of_cell? _ _ q_y1)).trans q_y1
  replace b_y : w_4.heap.size < w_16.heap.size := World.block_lt_of_cell? _ _ q_y0
  replace q_u0 := (cell_only (a := ⟨w_6.heap.size, 0, none⟩) hon (show w_6.heap.size ∉ _ from fun hb => NOB_u_g.out hb) (World.block_lt_of_cell? _ _ q_u0)).trans q_u0
  replace q_u1 := (cell_only (a := ⟨w_6.heap.size, 1, none⟩) hon (show w_6.heap.size ∉ _ from fun hb => NOB_u_g.out hb) (World.block_lt_of_cell? _ _ q_u1)).trans q_u1
  replace q_u2 := (cell_only (a := ⟨w_6.heap.size, 2, none⟩) hon (show w_6.heap.size ∉ _ from fun hb => NOB_u_g.out hb) (World.block_lt_of_cell? _ _ q_u2)).trans q_u2
  replace q_u3 := (cell_only (a := ⟨w_6.heap.size, 3, none⟩) hon (show w_6.heap.size ∉ _ from fun hb => NOB_u_g.out hb) (World.block_lt_of_cell? _ _ q_u3)).trans q_u3
  replace b_u : w_6.heap.size < w_16.heap.size := World.block_lt_of_cell? _ _ q_u0
  replace q_g0 := (cell_only (a := ⟨w_8.heap.size, 0, none⟩) hon (show w_8.heap.size ∉ _ from fun hb => NOB_g_g.out hb) (World.block_lt_of_cell? _ _ q_g0)).trans q_g0
  replace q_g1 := (cell_only (a := ⟨w_8.heap.size, 1, none⟩) hon (show w_8.heap.size ∉ _ from fun hb => NOB_g_g.out hb) (World.block_lt_of_cell? _ _ q_g1)).trans q_g1
  replace b_g : w_8.heap.size < w_16.heap.size := World.block_lt_of_cell? _ _ q_g0
  have hbk := ownL_back (lo := w.heap.size) HB.out (ownL_mono Hg.out (lo' := w.heap.size) (by have := HS0.out; have := HS1.out; have := HS2.out; have := HS3.out; have := HSb_x.out; have := HSc_x.out; have := HS4.out; have := HS5.out; have := HSb_y.out; have := HS6.out; have := HS7.out; have := HSb_u.out; have := HS8.out; have := HS9.out; have := HSb_g.out; have := HS10.out; have := HS11.out; have := HS12.out; have := HS13.out; have := HS14.out; have := HS15.out; omega) (Nat.le_refl _)) HB.out.size hon
  replace Hx := Lib.hid (ownL_apart Hx.out Hg.out (by have := HS0.out; have := HS1.out; have := HS2.out; have := HS3.out; have := HSb_x.out; have := HSc_x.out; have := HS4.out; have := HS5.out; have := HSb_y.out; have := HS6.out; have := HS7.out; have := HSb_u.out; have := HS8.out; have := HS9.out; have := HSb_g.out; have := HS10.out; have := HS11.out; have := HS12.out; have := HS13.out; have := HS14.out; have := HS15.out; omega) hon)
  replace Hy := Lib.hid (ownL_apart Hy.out Hg.out (by have := HS0.out; have := HS1.out; have := HS2.out; have := HS3.out; have := HSb_x.out; have := HSc_x.out; have := HS4.out; have := HS5.out; have := HSb_y.out; have := HS6.out; have := HS7.out; have := HSb_u.out; have := HS8.out; have := HS9.out; have := HSb_g.out; have := HS10.out; have := HS11.out; have := HS12.out; have := HS13.out; have := HS14.out; have := HS15.out; omega) hon)
  replace Hu := Lib.hid (ownL_apart Hu.out Hg.out (by have := HS0.out; have := HS1.out; have := HS2.out; have := HS3.out; have := HSb_x.out; have := HSc_x.out; have := HS4.out; have := HS5.out; have := HSb_y.out; have := HS6.out; have := HS7.out; have := HSb_u.out; have := HS8.out; have := HS9.out; have := HSb_g.out; have := HS10.out; have := HS11.out; have := HS12.out; have := HS13.out; have := HS14.out; have := HS15.out; omega) hon)
  replace Hg := Lib.hid hmk
  have HS16 := Lib.hid hon.size
  replace HB := Lib.hid hbk
  clear hbk hmk hon
  obtain ⟨m, hm⟩ : ∃ m, 1 + countL [(rwN (.slice na_g nn_g nc_g) ns_g), (rwI (.slice oa_g on_g oc_g) OPN)] = m := ⟨_, rfl⟩
  rw [hm]; have HM := Lib.hid hm
  have hmq : ((m : Int) == (m : Int)) = true := beq_self_eq_true _
  have hm0 : ¬ ((m : Int) < 0) := by omega
  clear hm
  go_wp2_with fail
  refine (hdV_Builder (rwN (.slice na_g nn_g nc_g) ns_g) (rwI (.slice oa_g on_g oc_g) OPN) _ _ rfl rfl (rwN_is _ _) (rwI_is _ _) _ 1 _ rfl _ (ownL_read Hg.out (by have := HS0.out; have := HS1.out; have := HS2.out; have := HS3.out; have := HSb_x.out; have := HSc_x.out; have := HS4.out; have := HS5.out; have := HSb_y.out; have := HS6.out; have := HS7.out; have := HSb_u.out; have := HS8.out; have := HS9.out; have := HSb_g.out; have := HS10.out; have := HS11.out; have := HS12.out; have := HS13.out; have := HS14.out; have := HS15.out; have := HS16.out; omega)) (Nat.le_refl _) HCT_g.out).mono ?_
  rintro e w_17 ⟨rfl, hg⟩
  have hB := hg.below
  replace q_b0 := (hB.cell (show (⟨w.heap.size, 0, none⟩ : Addr).block < _ from World.block_lt_of_cell? _ _ q_b0)).trans q_b0
  replace q_b1 := (hB.cell (show (⟨w.heap.size, 1, none⟩ : Addr).block < _ from World.block_lt_of_cell? _ _ q_b1)).trans q_b1
  replace b_b : w.heap.size < w_17.heap.size := World.block_lt_of_cell? _ _ q_b0
  replace q_t0 := (hB.cell (show (⟨w.heap.size + 1, 0, none⟩ : Addr).block < _ from World.block_lt_of_cell? _ _ q_t0)).trans q_t0
  replace q_t1 := (hB.cell (show (⟨w.heap.size + 1, 1, none⟩ : Addr).block < _ from World.block_lt_of_cell? _ _ q_t1)).trans q_t1
  replace q_t2 := (hB.cell (show (⟨w.heap.size + 1, 2, none⟩ : Addr).block < _ from World.block_lt_of_cell? _ _ q_t2)).trans q_t2
  replace q_t3 := (hB.cell (show (⟨w.heap.size + 1, 3, none⟩ : Addr).block < _ from World.block_lt_of_cell? _ _ q_t3)).trans q_t3
  replace b_t : w.heap.size + 1 < w_17.heap.size := World.block_lt_of_cell? _ _ q_t0
  replace q_x0 := (hB.cell (show (⟨C_x, 0, none⟩ : Addr).block < _ from World.block_lt_of_cell? _ _ q_x0)).trans q_x0
  replace q_x1 := (hB.cell (show (⟨C_x, 1, none⟩ : Addr).block < _ from World.block_lt_of_cell? _ _ q_x1)).trans q_x1
  replace b_x : C_x < w_17.heap.size := World.block_lt_of_cell? _ _ q_x0
  replace q_y0 := (hB.cell (show (⟨w_4.heap.size, 0, none⟩ : Addr).block < _ from World.block_lt_of_cell? _ _ q_y0)).trans q_y0
  replace q_y1 := (hB.cell (show (⟨w_4.heap.size, 1, none⟩ : Addr).block < _ from World.block_lt_of_cell? _ _ q_y1)).trans q_y1
  replace b_y : w_4.heap.size < w_17.heap.size := World.block_lt_of_cell? _ _ q_y0
  replace q_u0 := (hB.cell (show (⟨w_6.heap.size, 0, none⟩ : Addr).block < _ from World.block_lt_of_cell? _ _ q_u0)).trans q_u0
  replace q_u1 := (hB.cell (show (⟨w_6.heap.size, 1, none⟩ : Addr).block < _ from World.block_lt_of_cell? _ _ q_u1)).trans q_u1
  replace q_u2 := (hB.cell (show (⟨w_6.heap.size, 2, none⟩ : Addr).block < _ from World.block_lt_of_cell? _ _ q_u2)).trans q_u2
  replace q_u3 := (hB.cell (show (⟨w_6.heap.size, 3, none⟩ : Addr).block < _ from World.block_lt_of_cell? _ _ q_u3)).trans q_u3
  replace b_u : w_6.heap.size < w_17.heap.size := World.block_lt_of_cell? _ _ q_u0
  replace q_g0 := (hB.cell (show (⟨w_8.heap.size, 0, none⟩ : Addr).block < _ from World.block_lt_of_cell? _ _ q_g0)).trans q_g0
  replace q_g1 := (hB.cell (show (⟨w_8.heap.size, 1, none⟩ : Addr).block < _ from World.block_lt_of_cell? _ _ q_g1)).trans q_g1
  replace b_g : w_8.heap.size < w_17.heap.size := World.block_lt_of_cell? _ _ q_g0
  replace Hx := Lib.hid (ownL_later Hx.out hB)
  replace Hy := Lib.hid (ownL_later Hy.out hB)
  replace Hu := Lib.hid (ownL_later Hu.out hB)
  replace Hg := Lib.hid (ownL_later Hg.out hB)
  have HS17 := Lib.hid hB.size
  replace HB := Lib.hid (HB.out.trans (hB.mono HB.out.size))
  rw [HM.out]
  clear hB hg
  go_upto_region 31 with (fail)
  go_cut [15, 16] from 94 to 101 (fun c d wx => ∃ C na' nn' nc' oa' on' oc' ns', c = .pointer (some ⟨C, 0, none⟩) ∧ d = .int .i64 NUM ∧ Box2 wx C (.slice na' nn' nc') (.slice oa' on' oc') ∧ ns'.map Prod.fst = NOD ∧ BdM w_17.heap.size w_17 wx (.slice na' nn' nc') (.slice oa' on' oc') ns' OPN ∧ w_17.heap.size ≤ C)
  case first =>
    have KEEP := Lib.hid (fun (w' : World) (h : Below w_17.heap.size w_17 w') => show Below w_17.heap.size w_17 w' ∧ w'.cell? ⟨w.heap.size, 0, none⟩ = some (.slice na_b nn_b nc_b) ∧ w'.cell? ⟨w.heap.size, 1, none⟩ = some (.slice oa_b on_b oc_b) ∧ w'.cell? ⟨w.heap.size + 1, 0, none⟩ = some (.int .i64 k_t) ∧ w'.cell? ⟨w.heap.size + 1, 1, none⟩ = some (.string m_t) ∧ w'.cell? ⟨w.heap.size + 1, 2, none⟩ = some (.slice ta_t tn_t tc_t) ∧ w'.cell? ⟨w.heap.size + 1, 3, none⟩ = some (.string u_t) from ⟨h, (h.cell (show (⟨w.heap.size, 0, none⟩ : Addr).block < _ from World.block_lt_of_cell? _ _ q_b0)).trans q_b0, (h.cell (show (⟨w.heap.size, 1, none⟩ : Addr).block < _ from World.block_lt_of_cell? _ _ q_b1)).trans q_b1, (h.cell (show (⟨w.heap.size + 1, 0, none⟩ : Addr).block < _ from World.block_lt_of_cell? _ _ q_t0)).trans q_t0, (h.cell (show (⟨w.heap.size + 1, 1, none⟩ : Addr).block < _ from World.block_lt_of_cell? _ _ q_t1)).trans q_t1, (h.cell (show (⟨w.heap.size + 1, 2, none⟩ : Addr).block < _ from World.block_lt_of_cell? _ _ q_t2)).trans q_t2, (h.cell (show (⟨w.heap.size + 1, 3, none⟩ : Addr).block < _ from World.block_lt_of_cell? _ _ q_t3)).trans q_t3⟩)
    go_region_held3 (fun w' => Below w_17.heap.size w_17 w' ∧ w'.cell? ⟨w.heap.size, 0, none⟩ = some (.slice na_b nn_b nc_b) ∧ w'.cell? ⟨w.heap.size, 1, none⟩ = some (.slice oa_b on_b oc_b) ∧ w'.cell? ⟨w.heap.size + 1, 0, none⟩ = some (.int .i64 k_t) ∧ w'.cell? ⟨w.heap.size + 1, 1, none⟩ = some (.string m_t) ∧ w'.cell? ⟨w.heap.size + 1, 2, none⟩ = some (.slice ta_t tn_t tc_t) ∧ w'.cell? ⟨w.heap.size + 1, 3, none⟩ = some (.string u_t)) (exact KEEP.out _ (by repeat' (first | (with_reducible exact Below.refl _ _) | (with_reducible exact hPA) | (with_reducible exact hPT) | (with_reducible exact hPB) | (with_reducible refine bl_dr ?_) | (with_reducible refine bl_al ?_ _) | (with_reducible refine bl_st ?_ (by first | omega | (have := hPA.size; omega) | (have := hPT.size; omega) | (have := hPB.size; omega)) _)))) (first | (go_at_call 38; refine (tb_any HRN_b.out HRI_b.out HWN_b.out HWI_b.out (bl_via HB.out HB.out.size (by repeat' (first | (with_reducible exact Below.refl _ _) | (with_reducible exact hPA) | (with_reducible exact hPT) | (with_reducible exact hPB) | (with_reducible refine bl_dr ?_) | (with_reducible refine bl_al ?_ _) | (with_reducible refine bl_st ?_ (by first | omega | (have := hPA.size; omega) | (have := hPT.size; omega) | (have := hPB.size; omega)) _))))).mono ?_; rintro e wB ⟨naB, nnB, ncB, oaB, onB, ocB, rfl, hiB, hbB⟩; have hPB := bl_tr (show Below w_17.heap.size w_17 _ from (by repeat' (first | (with_reducible exact Below.refl _ _) | (with_reducible exact hPA) | (with_reducible exact hPT) | (with_reducible exact hPB) | (with_reducible refine bl_dr ?_) | (with_reducible refine bl_al ?_ _) | (with_reducible refine bl_st ?_ (by first | omega | (have := hPA.size; omega) | (have := hPT.size; omega) | (have := hPB.size; omega)) _)))) hbB) | (go_at_call 40; refine (tt_any HRA_t.out HWA_t.out (bl_via HB.out HB.out.size (by repeat' (first | (with_reducible exact Below.refl _ _) | (with_reducible exact hPA) | (with_reducible exact hPT) | (with_reducible exact hPB) | (with_reducible refine bl_dr ?_) | (with_reducible refine bl_al ?_ _) | (with_reducible refine bl_st ?_ (by first | omega | (have := hPA.size; omega) | (have := hPT.size; omega) | (have := hPB.size; omega)) _))))).mono ?_; rintro e wT ⟨taT, tnT, tcT, rfl, hrT, hbT⟩; have hPT := bl_tr (show Below w_17.heap.size w_17 _ from (by repeat' (first | (with_reducible exact Below.refl _ _) | (with_reducible exact hPA) | (with_reducible exact hPT) | (with_reducible exact hPB) | (with_reducible refine bl_dr ?_) | (with_reducible refine bl_al ?_ _) | (with_reducible refine bl_st ?_ (by first | omega | (have := hPA.size; omega) | (have := hPT.size; omega) | (have := hPB.size; omega)) _)))) hbT; have hBT := bl_tr (show Below wB.heap.size wB _ from (by repeat' (first | (with_reducible exact Below.refl _ _) | (with_reducible exact hBT) | (with_reducible refine bl_dr ?_) | (with_reducible refine bl_al ?_ _)))) hbT) | (go_at_call 15; refine (addi_any (hiB.up (by repeat' (first | (with_reducible exact Below.refl _ _) | (with_reducible exact hBT) | (with_reducible refine bl_dr ?_) | (with_reducible refine bl_al ?_ _)))) HFIT.out ((hrT.below (show Below wT.heap.size wT _ from (by repeat' (first | (with_reducible exact Below.refl _ _) | (with_reducible refine bl_dr ?_) | (with_reducible refine bl_al ?_ _)))) (Nat.le_refl _)).mono (Below.size (show Below wT.heap.size wT _ from (by repeat' (first | (with_reducible exact Below.refl _ _) | (with_reducible refine bl_dr ?_) | (with_reducible refine bl_al ?_ _)))))) HAT_t.out).mono ?_; rintro e wA ⟨naA, nnA, ncA, oaA, onA, ocA, nsA, rfl, hnsA, hbdX⟩; have hA := hbdX.n.row.below; have hPA := bl_tr (show Below w_17.heap.size w_17 _ from (by repeat' (first | (with_reducible exact Below.refl _ _) | (with_reducible exact hPA) | (with_reducible exact hPT) | (with_reducible exact hPB) | (with_reducible refine bl_dr ?_) | (with_reducible refine bl_al ?_ _) | (with_reducible refine bl_st ?_ (by first | omega | (have := hPA.size; omega) | (have := hPT.size; omega) | (have := hPB.size; omega)) _)))) hA; have hbdA := hbdX.down (hPA) (Below.size (show Below w_17.heap.size w_17 _ from (by repeat' (first | (with_reducible exact Below.refl _ _) | (with_reducible exact hPA) | (with_reducible exact hPT) | (with_reducible exact hPB) | (with_reducible refine bl_dr ?_) | (with_reducible refine bl_al ?_ _) | (with_reducible refine bl_st ?_ (by first | omega | (have := hPA.size; omega) | (have := hPT.size; omega) | (have := hPB.size; omega)) _))))); (first | (refine lay_box (w := wA) (c := w_17.heap.size) (x := .slice none 0 0) (y := .slice none 0 0) ?_ ?_; (focus (repeat' (first | (with_reducible refine hp_dr ?_) | ((with_reducible refine hp_nw ?_); (first | (with_reducible rfl) | (simp only [size_alloc]; done))) | (with_reducible refine heap_al ?_ _) | (with_reducible refine heap_bl hA ?_) | (with_reducible refine heap_bl hbT ?_) | (with_reducible refine heap_bl hbB ?_)))); intro x0 x1 x2 x3) | (refine lay_box (w := wA) (c := wB.heap.size) (x := .slice none 0 0) (y := .slice none 0 0) ?_ ?_; (focus (repeat' (first | (with_reducible refine hp_dr ?_) | ((with_reducible refine hp_nw ?_); (first | (with_reducible rfl) | (simp only [size_alloc]; done))) | (with_reducible refine heap_al ?_ _) | (with_reducible refine heap_bl hA ?_) | (with_reducible refine heap_bl hbT ?_) | (with_reducible refine heap_bl hbB ?_)))); intro x0 x1 x2 x3) | (refine lay_box (w := wA) (c := wT.heap.size) (x := .slice none 0 0) (y := .slice none 0 0) ?_ ?_; (focus (repeat' (first | (with_reducible refine hp_dr ?_) | ((with_reducible refine hp_nw ?_); (first | (with_reducible rfl) | (simp only [size_alloc]; done))) | (with_reducible refine heap_al ?_ _) | (with_reducible refine heap_bl hA ?_) | (with_reducible refine heap_bl hbT ?_) | (with_reducible refine heap_bl hbB ?_)))); intro x0 x1 x2 x3) | skip)))
    all_goals
      go_wp2_with fail
      go_meet
      refine ⟨_, naA, nnA, ncA, oaA, onA, ocA, nsA, rfl, by rw [HNUM.out], ?_, by rw [hnsA, HNOD.out], ?_, ?_⟩
      · unfold Box2
        first | ((with_reducible refine bx_both ?_ _ _); repeat' (first | (with_reducible refine hp_dr ?_) | ((with_reducible refine hp_nw ?_); (first | (with_reducible rfl) | (simp only [size_alloc]; done))) | (with_reducible refine heap_al ?_ _) | (with_reducible refine heap_bl hA ?_) | (with_reducible refine heap_bl hbT ?_) | (with_reducible refine heap_bl hbB ?_))) | (repeat' (first | (with_reducible refine hp_dr ?_) | ((with_reducible refine hp_nw ?_); (first | (with_reducible rfl) | (simp only [size_alloc]; done))) | (with_reducible refine heap_al ?_ _) | (with_reducible refine heap_bl hA ?_) | (with_reducible refine heap_bl hbT ?_) | (with_reducible refine heap_bl hbB ?_)))
      · rw [← HOPN.out]
        repeat' (first | (with_reducible exact hbdA) | (with_reducible refine BdM.drew ?_) | (with_reducible refine bd_al ?_ _) | (with_reducible refine bd_st2 (by repeat' (first | (with_reducible refine hp_dr ?_) | ((with_reducible refine hp_nw ?_); (first | (with_reducible rfl) | (simp only [size_alloc]; done))) | (with_reducible refine heap_al ?_ _) | (with_reducible refine heap_bl hA ?_) | (with_reducible refine heap_bl hbT ?_) | (with_reducible refine heap_bl hbB ?_))) (by first | omega | (have := hPA.size; omega) | (have := hPT.size; omega) | (have := hPB.size; omega)) ?_))
      · first | omega | (have := hPA.size; omega) | (have := hPT.size; omega) | (have := hPB.size; omega)
  obtain ⟨C_h, na_h, nn_h, nc_h, oa_h, on_h, oc_h, ns_h, rfl, rfl, hbx, hns, hbd, hC⟩ := hcut
  rename World => w_18
  have hB : Below w_17.heap.size w_17 w_18 := hbd.n.row.below
  replace q_b0 := (hB.cell (show (⟨w.heap.size, 0, none⟩ : Addr).block < _ from World.block_lt_of_cell? _ _ q_b0)).trans q_b0
  replace q_b1 := (hB.cell (show (⟨w.heap.size, 1, none⟩ : Addr).block < _ from World.block_lt_of_cell? _ _ q_b1)).trans q_b1
  replace b_b : w.heap.size < w_18.heap.size := World.block_lt_of_cell? _ _ q_b0
  replace q_t0 := (hB.cell (show (⟨w.heap.size + 1, 0, none⟩ : Addr).block < _ from World.block_lt_of_cell? _ _ q_t0)).trans q_t0
  replace q_t1 := (hB.cell (show (⟨w.heap.size + 1, 1, none⟩ : Addr).block < _ from World.block_lt_of_cell? _ _ q_t1)).trans q_t1
  replace q_t2 := (hB.cell (show (⟨w.heap.size + 1, 2, none⟩ : Addr).block < _ from World.block_lt_of_cell? _ _ q_t2)).trans q_t2
  replace q_t3 := (hB.cell (show (⟨w.heap.size + 1, 3, none⟩ : Addr).block < _ from World.block_lt_of_cell? _ _ q_t3)).trans q_t3
  replace b_t : w.heap.size + 1 < w_18.heap.size := World.block_lt_of_cell? _ _ q_t0
  replace q_x0 := (hB.cell (show (⟨C_x, 0, none⟩ : Addr).block < _ from World.block_lt_of_cell? _ _ q_x0)).trans q_x0
  replace q_x1 := (hB.cell (show (⟨C_x, 1, none⟩ : Addr).block < _ from World.block_lt_of_cell? _ _ q_x1)).trans q_x1
  replace b_x : C_x < w_18.heap.size := World.block_lt_of_cell? _ _ q_x0
  replace q_y0 := (hB.cell (show (⟨w_4.heap.size, 0, none⟩ : Addr).block < _ from World.block_lt_of_cell? _ _ q_y0)).trans q_y0
  replace q_y1 := (hB.cell (show (⟨w_4.heap.size, 1, none⟩ : Addr).block < _ from World.block_lt_of_cell? _ _ q_y1)).trans q_y1
  replace b_y : w_4.heap.size < w_18.heap.size := World.block_lt_of_cell? _ _ q_y0
  replace q_u0 := (hB.cell (show (⟨w_6.heap.size, 0, none⟩ : Addr).block < _ from World.block_lt_of_cell? _ _ q_u0)).trans q_u0
  replace q_u1 := (hB.cell (show (⟨w_6.heap.size, 1, none⟩ : Addr).block < _ from World.block_lt_of_cell? _ _ q_u1)).trans q_u1
  replace q_u2 := (hB.cell (show (⟨w_6.heap.size, 2, none⟩ : Addr).block < _ from World.block_lt_of_cell? _ _ q_u2)).trans q_u2
  replace q_u3 := (hB.cell (show (⟨w_6.heap.size, 3, none⟩ : Addr).block < _ from World.block_lt_of_cell? _ _ q_u3)).trans q_u3
  replace b_u : w_6.heap.size < w_18.heap.size := World.block_lt_of_cell? _ _ q_u0
  replace q_g0 := (hB.cell (show (⟨w_8.heap.size, 0, none⟩ : Addr).block < _ from World.block_lt_of_cell? _ _ q_g0)).trans q_g0
  replace q_g1 := (hB.cell (show (⟨w_8.heap.size, 1, none⟩ : Addr).block < _ from World.block_lt_of_cell? _ _ q_g1)).trans q_g1
  replace b_g : w_8.heap.size < w_18.heap.size := World.block_lt_of_cell? _ _ q_g0
  replace Hx := Lib.hid (ownL_later Hx.out hB)
  replace Hy := Lib.hid (ownL_later Hy.out hB)
  replace Hu := Lib.hid (ownL_later Hu.out hB)
  replace Hg := Lib.hid (ownL_later Hg.out hB)
  have Hh := Lib.hid ((bdAt_own hbd.n hbd.o).1)
  have HS18 := Lib.hid hB.size
  replace HB := Lib.hid (HB.out.trans (hB.mono HB.out.size))
  have HN_h := Lib.hid (bdAt_own hbd.n hbd.o).2
  have HNS_h := Lib.hid hns
  have HNB_h := Lib.hid (bd_nobox hbx hbd)
  obtain ⟨⟨q_h0, q_h1⟩, _, _⟩ := hbx.cells
  have b_h := hbx.lt
  have HSb_h := Lib.hid b_h; have HSc_h := Lib.hid hC
  clear hB hbx hns hbd hC
  go_wp2_with fail
  refine (eqV_Builder (rwN (.slice na_h nn_h nc_h) ns_h) (rwN (.slice na_x nn_x nc_x) ns_x) (rwI (.slice oa_h on_h oc_h) OPN) (rwI (.slice oa_x on_x oc_x) OPN) _ _ _ _ rfl rfl rfl rfl _ (rwN_is _ _) (rwN_is _ _) (rwN_data _ _ (HNS_h.out.trans HNS_x.out.symm)) (rdL1 Hh.out) (rdL1 Hx.out) (rwI_is _ _) (rwI_is _ _) (rwI_data.2 rfl) (rdL2 Hh.out) (rdL2 Hx.out)).mono ?_
  rintro e w_19 ⟨rfl, hg⟩
  have hB := hg.below
  replace q_b0 := (hB.cell (show (⟨w.heap.size, 0, none⟩ : Addr).block < _ from World.block_lt_of_cell? _ _ q_b0)).trans q_b0
  replace q_b1 := (hB.cell (show (⟨w.heap.size, 1, none⟩ : Addr).block < _ from World.block_lt_of_cell? _ _ q_b1)).trans q_b1
  replace b_b : w.heap.size < w_19.heap.size := World.block_lt_of_cell? _ _ q_b0
  replace q_t0 := (hB.cell (show (⟨w.heap.size + 1, 0, none⟩ : Addr).block < _ from World.block_lt_of_cell? _ _ q_t0)).trans q_t0
  replace q_t1 := (hB.cell (show (⟨w.heap.size + 1, 1, none⟩ : Addr).block < _ from World.block_lt_of_cell? _ _ q_t1)).trans q_t1
  replace q_t2 := (hB.cell (show (⟨w.heap.size + 1, 2, none⟩ : Addr).block < _ from World.block_lt_of_cell? _ _ q_t2)).trans q_t2
  replace q_t3 := (hB.cell (show (⟨w.heap.size + 1, 3, none⟩ : Addr).block < _ from World.block_lt_of_cell? _ _ q_t3)).trans q_t3
  replace b_t : w.heap.size + 1 < w_19.heap.size := World.block_lt_of_cell? _ _ q_t0
  replace q_x0 := (hB.cell (show (⟨C_x, 0, none⟩ : Addr).block < _ from World.block_lt_of_cell? _ _ q_x0)).trans q_x0
  replace q_x1 := (hB.cell (show (⟨C_x, 1, none⟩ : Addr).block < _ from World.block_lt_of_cell? _ _ q_x1)).trans q_x1
  replace b_x : C_x < w_19.heap.size := World.block_lt_of_cell? _ _ q_x0
  replace q_y0 := (hB.cell (show (⟨w_4.heap.size, 0, none⟩ : Addr).block < _ from World.block_lt_of_cell? _ _ q_y0)).trans q_y0
  replace q_y1 := (hB.cell (show (⟨w_4.heap.size, 1, none⟩ : Addr).block < _ from World.block_lt_of_cell? _ _ q_y1)).trans q_y1
  replace b_y : w_4.heap.size < w_19.heap.size := World.block_lt_of_cell? _ _ q_y0
  replace q_u0 := (hB.cell (show (⟨w_6.heap.size, 0, none⟩ : Addr).block < _ from World.block_lt_of_cell? _ _ q_u0)).trans q_u0
  replace q_u1 := (hB.cell (show (⟨w_6.heap.size, 1, none⟩ : Addr).block < _ from World.block_lt_of_cell? _ _ q_u1)).trans q_u1
  replace q_u2 := (hB.cell (show (⟨w_6.heap.size, 2, none⟩ : Addr).block < _ from World.block_lt_of_cell? _ _ q_u2)).trans q_u2
  replace q_u3 := (hB.cell (show (⟨w_6.heap.size, 3, none⟩ : Addr).block < _ from World.block_lt_of_cell? _ _ q_u3)).trans q_u3
  replace b_u : w_6.heap.size < w_19.heap.size := World.block_lt_of_cell? _ _ q_u0
  replace q_g0 := (hB.cell (show (⟨w_8.heap.size, 0, none⟩ : Addr).block < _ from World.block_lt_of_cell? _ _ q_g0)).trans q_g0
  replace q_g1 := (hB.cell (show (⟨w_8.heap.size, 1, none⟩ : Addr).block < _ from World.block_lt_of_cell? _ _ q_g1)).trans q_g1
  replace b_g : w_8.heap.size < w_19.heap.size := World.block_lt_of_cell? _ _ q_g0
  replace q_h0 := (hB.cell (show (⟨C_h, 0, none⟩ : Addr).block < _ from World.block_lt_of_cell? _ _ q_h0)).trans q_h0
  replace q_h1 := (hB.cell (show (⟨C_h, 1, none⟩ : Addr).block < _ from World.block_lt_of_cell? _ _ q_h1)).trans q_h1
  replace b_h : C_h < w_19.heap.size := World.block_lt_of_cell? _ _ q_h0
  replace Hx := Lib.hid (ownL_later Hx.out hB)
  replace Hy := Lib.hid (ownL_later Hy.out hB)
  replace Hu := Lib.hid (ownL_later Hu.out hB)
  replace Hg := Lib.hid (ownL_later Hg.out hB)
  replace Hh := Lib.hid (ownL_later Hh.out hB)
  have HS19 := Lib.hid hB.size
  replace HB := Lib.hid (HB.out.trans (hB.mono HB.out.size))
  clear hB hg
  go_wp2_with fail
  refine (hdV_Builder (rwN (.slice na_g nn_g nc_g) ns_g) (rwI (.slice oa_g on_g oc_g) OPN) _ _ rfl rfl (rwN_is _ _) (rwI_is _ _) _ 1 _ rfl _ (ownL_read Hg.out (by have := HS0.out; have := HS1.out; have := HS2.out; have := HS3.out; have := HSb_x.out; have := HSc_x.out; have := HS4.out; have := HS5.out; have := HSb_y.out; have := HS6.out; have := HS7.out; have := HSb_u.out; have := HS8.out; have := HS9.out; have := HSb_g.out; have := HS10.out; have := HS11.out; have := HS12.out; have := HS13.out; have := HS14.out; have := HS15.out; have := HS16.out; have := HS17.out; have := HS18.out; have := HSb_h.out; have := HSc_h.out; have := HS19.out; omega)) (Nat.le_refl _) HCT_g.out).mono ?_
  rintro e w_20 ⟨rfl, hg⟩
  have hB := hg.below
  replace q_b0 := (hB.cell (show (⟨w.heap.size, 0, none⟩ : Addr).block < _ from World.block_lt_of_cell? _ _ q_b0)).trans q_b0
  replace q_b1 := (hB.cell (show (⟨w.heap.size, 1, none⟩ : Addr).block < _ from World.block_lt_of_cell? _ _ q_b1)).trans q_b1
  replace b_b : w.heap.size < w_20.heap.size := World.block_lt_of_cell? _ _ q_b0
  replace q_t0 := (hB.cell (show (⟨w.heap.size + 1, 0, none⟩ : Addr).block < _ from World.block_lt_of_cell? _ _ q_t0)).trans q_t0
  replace q_t1 := (hB.cell (show (⟨w.heap.size + 1, 1, none⟩ : Addr).block < _ from World.block_lt_of_cell? _ _ q_t1)).trans q_t1
  replace q_t2 := (hB.cell (show (⟨w.heap.size + 1, 2, none⟩ : Addr).block < _ from World.block_lt_of_cell? _ _ q_t2)).trans q_t2
  replace q_t3 := (hB.cell (show (⟨w.heap.size + 1, 3, none⟩ : Addr).block < _ from World.block_lt_of_cell? _ _ q_t3)).trans q_t3
  replace b_t : w.heap.size + 1 < w_20.heap.size := World.block_lt_of_cell? _ _ q_t0
  replace q_x0 := (hB.cell (show (⟨C_x, 0, none⟩ : Addr).block < _ from World.block_lt_of_cell? _ _ q_x0)).trans q_x0
  replace q_x1 := (hB.cell (show (⟨C_x, 1, none⟩ : Addr).block < _ from World.block_lt_of_cell? _ _ q_x1)).trans q_x1
  replace b_x : C_x < w_20.heap.size := World.block_lt_of_cell? _ _ q_x0
  replace q_y0 := (hB.cell (show (⟨w_4.heap.size, 0, none⟩ : Addr).block < _ from World.block_lt_of_cell? _ _ q_y0)).trans q_y0
  replace q_y1 := (hB.cell (show (⟨w_4.heap.size, 1, none⟩ : Addr).block < _ from World.block_lt_of_cell? _ _ q_y1)).trans q_y1
  replace b_y : w_4.heap.size < w_20.heap.size := World.block_lt_of_cell? _ _ q_y0
  replace q_u0 := (hB.cell (show (⟨w_6.heap.size, 0, none⟩ : Addr).block < _ from World.block_lt_of_cell? _ _ q_u0)).trans q_u0
  replace q_u1 := (hB.cell (show (⟨w_6.heap.size, 1, none⟩ : Addr).block < _ from World.block_lt_of_cell? _ _ q_u1)).trans q_u1
  replace q_u2 := (hB.cell (show (⟨w_6.heap.size, 2, none⟩ : Addr).block < _ from World.block_lt_of_cell? _ _ q_u2)).trans q_u2
  replace q_u3 := (hB.cell (show (⟨w_6.heap.size, 3, none⟩ : Addr).block < _ from World.block_lt_of_cell? _ _ q_u3)).trans q_u3
  replace b_u : w_6.heap.size < w_20.heap.size := World.block_lt_of_cell? _ _ q_u0
  replace q_g0 := (hB.cell (show (⟨w_8.heap.size, 0, none⟩ : Addr).block < _ from World.block_lt_of_cell? _ _ q_g0)).trans q_g0
  replace q_g1 := (hB.cell (show (⟨w_8.heap.size, 1, none⟩ : Addr).block < _ from World.block_lt_of_cell? _ _ q_g1)).trans q_g1
  replace b_g : w_8.heap.size < w_20.heap.size := World.block_lt_of_cell? _ _ q_g0
  replace q_h0 := (hB.cell (show (⟨C_h, 0, none⟩ : Addr).block < _ from World.block_lt_of_cell? _ _ q_h0)).trans q_h0
  replace q_h1 := (hB.cell (show (⟨C_h, 1, none⟩ : Addr).block < _ from World.block_lt_of_cell? _ _ q_h1)).trans q_h1
  replace b_h : C_h < w_20.heap.size := World.block_lt_of_cell? _ _ q_h0
  replace Hx := Lib.hid (ownL_later Hx.out hB)
  replace Hy := Lib.hid (ownL_later Hy.out hB)
  replace Hu := Lib.hid (ownL_later Hu.out hB)
  replace Hg := Lib.hid (ownL_later Hg.out hB)
  replace Hh := Lib.hid (ownL_later Hh.out hB)
  have HS20 := Lib.hid hB.size
  replace HB := Lib.hid (HB.out.trans (hB.mono HB.out.size))
  rw [HM.out]
  clear hB hg
  go_wp2_with fail
  go_ret
  exact ⟨rfl, HB.out⟩
end Go.Proofs.Ytjiogmbiiojhgaa

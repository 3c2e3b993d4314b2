/- The walk of the law FnExactNewBuilder: it returns true, and writes nothing that was there. -/
import Derived.Test.YtjiogmbiiojhgaaNewB
import Derived.Deep.RegionWith
import Derived.Deep.CutRange
namespace Go.Proofs.Ytjiogmbiiojhgaa
open Go.ChangeShapes Go.WideShapes Go.ChangeAt Go.RowKit

set_option maxRecDepth 100000 in
set_option maxHeartbeats 4000000 in
theorem walkNewBuilder  (w : World) :
    Calls Try.prog 5 #[] w fun e w' => e = .returned (.bool true) ∧ Below w.heap.size w w' := by
  go_enter Try.func5, Try.ntmps5
  have HB := Lib.hid (Below.refl w.heap.size w)
  go_wp2_with fail
  refine (new_spec _).mono ?_
  rintro e w_1 ⟨na_x, nn_x, nc_x, oa_x, on_x, oc_x, ns_x, rfl, hns, hbd⟩
  have hB := hbd.n.row.below
  have Hx := Lib.hid (show OwnRL w.heap.size w_1.heap.size w_1 [rwN (.slice na_x nn_x nc_x) ns_x, rwI (.slice oa_x on_x oc_x) bdNew.opn] from (bdAt_own hbd.n hbd.o).1)
  have HS1 := Lib.hid hB.size
  replace HB := Lib.hid (HB.out.trans (hB.mono HB.out.size))
  have HN_x := Lib.hid (show (blocksL [rwN (.slice na_x nn_x nc_x) ns_x, rwI (.slice oa_x on_x oc_x) bdNew.opn]).Nodup from (bdAt_own hbd.n hbd.o).2)
  have HNS_x := Lib.hid hns
  clear hB hns hbd
  go_wp2_with fail
  obtain ⟨w_2, hw⟩ : ∃ x, w_1.alloc (.cells #[.slice na_x nn_x nc_x, .slice oa_x on_x oc_x] 27) = x := ⟨_, rfl⟩
  rw [hw]
  have hB : Below w_1.heap.size w_1 w_2 := by rw [← hw]; exact (Below.refl _ _).alloc (Nat.le_refl _) _
  have q_x0 : w_2.cell? ⟨w_1.heap.size, 0, none⟩ = some (.slice na_x nn_x nc_x) := by rw [← hw]; simp
  have q_x1 : w_2.cell? ⟨w_1.heap.size, 1, none⟩ = some (.slice oa_x on_x oc_x) := by rw [← hw]; simp
  have b_x : w_1.heap.size < w_2.heap.size := World.block_lt_of_cell? _ _ q_x0
  replace Hx := Lib.hid (ownL_later Hx.out hB)
  have HS2 := Lib.hid hB.size
  replace HB := Lib.hid (HB.out.trans (hB.mono HB.out.size))
  clear hB hw
  have HSb_x := Lib.hid b_x
  go_wp2_with fail
  refine (new_impl _).mono ?_
  rintro e w_3 ⟨na_g, nn_g, nc_g, oa_g, on_g, oc_g, ns_g, rfl, hns, hbd⟩
  have hB := hbd.n.row.below
  replace q_x0 := (hB.cell (show (⟨w_1.heap.size, 0, none⟩ : Addr).block < _ from World.block_lt_of_cell? _ _ q_x0)).trans q_x0
  replace q_x1 := (hB.cell (show (⟨w_1.heap.size, 1, none⟩ : Addr).block < _ from World.block_lt_of_cell? _ _ q_x1)).trans q_x1
  replace b_x : w_1.heap.size < w_3.heap.size := World.block_lt_of_cell? _ _ q_x0
  replace Hx := Lib.hid (ownL_later Hx.out hB)
  have Hg := Lib.hid (show OwnRL w_2.heap.size w_3.heap.size w_3 [rwN (.slice na_g nn_g nc_g) ns_g, rwI (.slice oa_g on_g oc_g) bdNew.opn] from (bdAt_own hbd.n hbd.o).1)
  have HS3 := Lib.hid hB.size
  replace HB := Lib.hid (HB.out.trans (hB.mono HB.out.size))
  have HN_g := Lib.hid (show (blocksL [rwN (.slice na_g nn_g nc_g) ns_g, rwI (.slice oa_g on_g oc_g) bdNew.opn]).Nodup from (bdAt_own hbd.n hbd.o).2)
  have HNS_g := Lib.hid hns
  clear hB hns hbd
  go_wp2_with fail
  obtain ⟨w_4, hw⟩ : ∃ x, w_3.alloc (.cells #[.slice na_g nn_g nc_g, .slice oa_g on_g oc_g] 27) = x := ⟨_, rfl⟩
  rw [hw]
  have hB : Below w_3.heap.size w_3 w_4 := by rw [← hw]; exact (Below.refl _ _).alloc (Nat.le_refl _) _
  have q_g0 : w_4.cell? ⟨w_3.heap.size, 0, none⟩ = some (.slice na_g nn_g nc_g) := by rw [← hw]; simp
  have q_g1 : w_4.cell? ⟨w_3.heap.size, 1, none⟩ = some (.slice oa_g on_g oc_g) := by rw [← hw]; simp
  have b_g : w_3.heap.size < w_4.heap.size := World.block_lt_of_cell? _ _ q_g0
  replace q_x0 := (hB.cell (show (⟨w_1.heap.size, 0, none⟩ : Addr).block < _ from World.block_lt_of_cell? _ _ q_x0)).trans q_x0
  replace q_x1 := (hB.cell (show (⟨w_1.heap.size, 1, none⟩ : Addr).block < _ from World.block_lt_of_cell? _ _ q_x1)).trans q_x1
  replace b_x : w_1.heap.size < w_4.heap.size := World.block_lt_of_cell? _ _ q_x0
  replace Hx := Lib.hid (ownL_later Hx.out hB)
  replace Hg := Lib.hid (ownL_later Hg.out hB)
  have HS4 := Lib.hid hB.size
  replace HB := Lib.hid (HB.out.trans (hB.mono HB.out.size))
  clear hB hw
  have HSb_g := Lib.hid b_g
  go_wp2_with fail
  refine (eqV_Builder (rwN (.slice na_g nn_g nc_g) ns_g) (rwN (.slice na_x nn_x nc_x) ns_x) (rwI (.slice oa_g on_g oc_g) bdNew.opn) (rwI (.slice oa_x on_x oc_x) bdNew.opn) _ _ _ _ rfl rfl rfl rfl _ (rwN_is _ _) (rwN_is _ _) (rwN_data _ _ (HNS_g.out.trans HNS_x.out.symm)) (rdL1 Hg.out) (rdL1 Hx.out) (rwI_is _ _) (rwI_is _ _) (rwI_data.2 rfl) (rdL2 Hg.out) (rdL2 Hx.out)).mono ?_
  rintro e w_5 ⟨rfl, hg⟩
  have hB := hg.below
  replace q_x0 := (hB.cell (show (⟨w_1.heap.size, 0, none⟩ : Addr).block < _ from World.block_lt_of_cell? _ _ q_x0)).trans q_x0
  replace q_x1 := (hB.cell (show (⟨w_1.heap.size, 1, none⟩ : Addr).block < _ from World.block_lt_of_cell? _ _ q_x1)).trans q_x1
  replace b_x : w_1.heap.size < w_5.heap.size := World.block_lt_of_cell? _ _ q_x0
  replace q_g0 := (hB.cell (show (⟨w_3.heap.size, 0, none⟩ : Addr).block < _ from World.block_lt_of_cell? _ _ q_g0)).trans q_g0
  replace q_g1 := (hB.cell (show (⟨w_3.heap.size, 1, none⟩ : Addr).block < _ from World.block_lt_of_cell? _ _ q_g1)).trans q_g1
  replace b_g : w_3.heap.size < w_5.heap.size := World.block_lt_of_cell? _ _ q_g0
  replace Hx := Lib.hid (ownL_later Hx.out hB)
  replace Hg := Lib.hid (ownL_later Hg.out hB)
  have HS5 := Lib.hid hB.size
  replace HB := Lib.hid (HB.out.trans (hB.mono HB.out.size))
  clear hB hg
  have HCT_g := Lib.hid (show 1 + countL [(rwN (.slice na_g nn_g nc_g) ns_g), (rwI (.slice oa_g on_g oc_g) bdNew.opn)] ≤ 4611686018427387904 by
    rw [countL, countL, countL, rwN_cnt, rwI_count, HNS_g.out]; decide)
  have NOB_x_g := Lib.hid (show w_1.heap.size ∉ _ from fun hb => by have hh := ownL_lt Hg.out _ hb; have := HS1.out; have := HS2.out; have := HSb_x.out; have := HS3.out; have := HS4.out; have := HSb_g.out; have := HS5.out; omega)
  have NOB_g_g := Lib.hid (show w_3.heap.size ∉ _ from fun hb => by have hh := ownL_lt Hg.out _ hb; have := HS1.out; have := HS2.out; have := HSb_x.out; have := HS3.out; have := HS4.out; have := HSb_g.out; have := HS5.out; omega)
  go_wp2_with fail
  refine (mkV_Builder (rwN (.slice na_g nn_g nc_g) ns_g) (rwI (.slice oa_g on_g oc_g) bdNew.opn) _ _ rfl rfl (rwN_is _ _) (rwI_is _ _) _ _ 1 _ rfl _ Hg.out HN_g.out HCT_g.out).mono ?_
  rintro e w_6 ⟨rfl, hmk, hon⟩
  replace q_x0 := (cell_only (a := ⟨w_1.heap.size, 0, none⟩) hon (show w_1.heap.size ∉ _ from fun hb => NOB_x_g.out hb) (World.block_lt_of_cell? _ _ q_x0)).trans q_x0
  replace q_x1 := (cell_only (a := ⟨w_1.heap.size, 1, none⟩) hon (show w_1.heap.size ∉ _ from fun hb => NOB_x_g.out hb) (World.block_lt_of_cell? _ _ q_x1)).trans q_x1
  replace b_x : w_1.heap.size < w_6.heap.size := World.block_lt_of_cell? _ _ q_x0
  replace q_g0 := (cell_only (a := ⟨w_3.heap.size, 0, none⟩) hon (show w_3.heap.size ∉ _ from fun hb => NOB_g_g.out hb) (World.block_lt_of_cell? _ _ q_g0)).trans q_g0
  replace q_g1 := (cell_only (a := ⟨w_3.heap.size, 1, none⟩) hon (show w_3.heap.size ∉ _ from fun hb => NOB_g_g.out hb) (World.block_lt_of_cell? _ _ q_g1)).trans q_g1
  replace b_g : w_3.heap.size < w_6.heap.size := World.block_lt_of_cell? _ _ q_g0
  have hbk := ownL_back (lo := w.heap.size) HB.out (ownL_mono Hg.out (lo' := w.heap.size) (by have := HS1.out; have := HS2.out; have := HSb_x.out; have := HS3.out; have := HS4.out; have := HSb_g.out; have := HS5.out; omega) (Nat.le_refl _)) HB.out.size hon
  replace Hx := Lib.hid (ownL_apart Hx.out Hg.out (by have := HS1.out; have := HS2.out; have := HSb_x.out; have := HS3.out; have := HS4.out; have := HSb_g.out; have := HS5.out; omega) hon)
  replace Hg := Lib.hid hmk
  have HS6 := Lib.hid hon.size
  replace HB := Lib.hid hbk
  clear hbk hmk hon
  obtain ⟨m, hm⟩ : ∃ m, 1 + countL [(rwN (.slice na_g nn_g nc_g) ns_g), (rwI (.slice oa_g on_g oc_g) bdNew.opn)] = m := ⟨_, rfl⟩
  rw [hm]; have HM := Lib.hid hm
  have hmq : ((m : Int) == (m : Int)) = true := beq_self_eq_true _
  have hm0 : ¬ ((m : Int) < 0) := by omega
  clear hm
  go_wp2_with fail
  refine (hdV_Builder (rwN (.slice na_g nn_g nc_g) ns_g) (rwI (.slice oa_g on_g oc_g) bdNew.opn) _ _ rfl rfl (rwN_is _ _) (rwI_is _ _) _ 1 _ rfl _ (ownL_read Hg.out (by have := HS1.out; have := HS2.out; have := HSb_x.out; have := HS3.out; have := HS4.out; have := HSb_g.out; have := HS5.out; have := HS6.out; omega)) (Nat.le_refl _) HCT_g.out).mono ?_
  rintro e w_7 ⟨rfl, hg⟩
  have hB := hg.below
  replace q_x0 := (hB.cell (show (⟨w_1.heap.size, 0, none⟩ : Addr).block < _ from World.block_lt_of_cell? _ _ q_x0)).trans q_x0
  replace q_x1 := (hB.cell (show (⟨w_1.heap.size, 1, none⟩ : Addr).block < _ from World.block_lt_of_cell? _ _ q_x1)).trans q_x1
  replace b_x : w_1.heap.size < w_7.heap.size := World.block_lt_of_cell? _ _ q_x0
  replace q_g0 := (hB.cell (show (⟨w_3.heap.size, 0, none⟩ : Addr).block < _ from World.block_lt_of_cell? _ _ q_g0)).trans q_g0
  replace q_g1 := (hB.cell (show (⟨w_3.heap.size, 1, none⟩ : Addr).block < _ from World.block_lt_of_cell? _ _ q_g1)).trans q_g1
  replace b_g : w_3.heap.size < w_7.heap.size := World.block_lt_of_cell? _ _ q_g0
  replace Hx := Lib.hid (ownL_later Hx.out hB)
  replace Hg := Lib.hid (ownL_later Hg.out hB)
  have HS7 := Lib.hid hB.size
  replace HB := Lib.hid (HB.out.trans (hB.mono HB.out.size))
  rw [HM.out]
  clear hB hg
  go_wp2_with fail
  refine (new_impl _).mono ?_
  rintro e w_8 ⟨na_h, nn_h, nc_h, oa_h, on_h, oc_h, ns_h, rfl, hns, hbd⟩
  have hB := hbd.n.row.below
  replace q_x0 := (hB.cell (show (⟨w_1.heap.size, 0, none⟩ : Addr).block < _ from World.block_lt_of_cell? _ _ q_x0)).trans q_x0
  replace q_x1 := (hB.cell (show (⟨w_1.heap.size, 1, none⟩ : Addr).block < _ from World.block_lt_of_cell? _ _ q_x1)).trans q_x1
  replace b_x : w_1.heap.size < w_8.heap.size := World.block_lt_of_cell? _ _ q_x0
  replace q_g0 := (hB.cell (show (⟨w_3.heap.size, 0, none⟩ : Addr).block < _ from World.block_lt_of_cell? _ _ q_g0)).trans q_g0
  replace q_g1 := (hB.cell (show (⟨w_3.heap.size, 1, none⟩ : Addr).block < _ from World.block_lt_of_cell? _ _ q_g1)).trans q_g1
  replace b_g : w_3.heap.size < w_8.heap.size := World.block_lt_of_cell? _ _ q_g0
  replace Hx := Lib.hid (ownL_later Hx.out hB)
  replace Hg := Lib.hid (ownL_later Hg.out hB)
  have Hh := Lib.hid (show OwnRL w_7.heap.size w_8.heap.size w_8 [rwN (.slice na_h nn_h nc_h) ns_h, rwI (.slice oa_h on_h oc_h) bdNew.opn] from (bdAt_own hbd.n hbd.o).1)
  have HS8 := Lib.hid hB.size
  replace HB := Lib.hid (HB.out.trans (hB.mono HB.out.size))
  have HN_h := Lib.hid (show (blocksL [rwN (.slice na_h nn_h nc_h) ns_h, rwI (.slice oa_h on_h oc_h) bdNew.opn]).Nodup from (bdAt_own hbd.n hbd.o).2)
  have HNS_h := Lib.hid hns
  clear hB hns hbd
  go_wp2_with fail
  obtain ⟨w_9, hw⟩ : ∃ x, w_8.alloc (.cells #[.slice na_h nn_h nc_h, .slice oa_h on_h oc_h] 27) = x := ⟨_, rfl⟩
  rw [hw]
  have hB : Below w_8.heap.size w_8 w_9 := by rw [← hw]; exact (Below.refl _ _).alloc (Nat.le_refl _) _
  have q_h0 : w_9.cell? ⟨w_8.heap.size, 0, none⟩ = some (.slice na_h nn_h nc_h) := by rw [← hw]; simp
  have q_h1 : w_9.cell? ⟨w_8.heap.size, 1, none⟩ = some (.slice oa_h on_h oc_h) := by rw [← hw]; simp
  have b_h : w_8.heap.size < w_9.heap.size := World.block_lt_of_cell? _ _ q_h0
  replace q_x0 := (hB.cell (show (⟨w_1.heap.size, 0, none⟩ : Addr).block < _ from World.block_lt_of_cell? _ _ q_x0)).trans q_x0
  replace q_x1 := (hB.cell (show (⟨w_1.heap.size, 1, none⟩ : Addr).block < _ from World.block_lt_of_cell? _ _ q_x1)).trans q_x1
  replace b_x : w_1.heap.size < w_9.heap.size := World.block_lt_of_cell? _ _ q_x0
  replace q_g0 := (hB.cell (show (⟨w_3.heap.size, 0, none⟩ : Addr).block < _ from World.block_lt_of_cell? _ _ q_g0)).trans q_g0
  replace q_g1 := (hB.cell (show (⟨w_3.heap.size, 1, none⟩ : Addr).block < _ from World.block_lt_of_cell? _ _ q_g1)).trans q_g1
  replace b_g : w_3.heap.size < w_9.heap.size := World.block_lt_of_cell? _ _ q_g0
  replace Hx := Lib.hid (ownL_later Hx.out hB)
  replace Hg := Lib.hid (ownL_later Hg.out hB)
  replace Hh := Lib.hid (ownL_later Hh.out hB)
  have HS9 := Lib.hid hB.size
  replace HB := Lib.hid (HB.out.trans (hB.mono HB.out.size))
  clear hB hw
  have HSb_h := Lib.hid b_h
  go_wp2_with fail
  refine (eqV_Builder (rwN (.slice na_h nn_h nc_h) ns_h) (rwN (.slice na_x nn_x nc_x) ns_x) (rwI (.slice oa_h on_h oc_h) bdNew.opn) (rwI (.slice oa_x on_x oc_x) bdNew.opn) _ _ _ _ rfl rfl rfl rfl _ (rwN_is _ _) (rwN_is _ _) (rwN_data _ _ (HNS_h.out.trans HNS_x.out.symm)) (rdL1 Hh.out) (rdL1 Hx.out) (rwI_is _ _) (rwI_is _ _) (rwI_data.2 rfl) (rdL2 Hh.out) (rdL2 Hx.out)).mono ?_
  rintro e w_10 ⟨rfl, hg⟩
  have hB := hg.below
  replace q_x0 := (hB.cell (show (⟨w_1.heap.size, 0, none⟩ : Addr).block < _ from World.block_lt_of_cell? _ _ q_x0)).trans q_x0
  replace q_x1 := (hB.cell (show (⟨w_1.heap.size, 1, none⟩ : Addr).block < _ from World.block_lt_of_cell? _ _ q_x1)).trans q_x1
  replace b_x : w_1.heap.size < w_10.heap.size := World.block_lt_of_cell? _ _ q_x0
  replace q_g0 := (hB.cell (show (⟨w_3.heap.size, 0, none⟩ : Addr).block < _ from World.block_lt_of_cell? _ _ q_g0)).trans q_g0
  replace q_g1 := (hB.cell (show (⟨w_3.heap.size, 1, none⟩ : Addr).block < _ from World.block_lt_of_cell? _ _ q_g1)).trans q_g1
  replace b_g : w_3.heap.size < w_10.heap.size := World.block_lt_of_cell? _ _ q_g0
  replace q_h0 := (hB.cell (show (⟨w_8.heap.size, 0, none⟩ : Addr).block < _ from World.block_lt_of_cell? _ _ q_h0)).trans q_h0
  replace q_h1 := (hB.cell (show (⟨w_8.heap.size, 1, none⟩ : Addr).block < _ from World.block_lt_of_cell? _ _ q_h1)).trans q_h1
  replace b_h : w_8.heap.size < w_10.heap.size := World.block_lt_of_cell? _ _ q_h0
  replace Hx := Lib.hid (ownL_later Hx.out hB)
  replace Hg := Lib.hid (ownL_later Hg.out hB)
  replace Hh := Lib.hid (ownL_later Hh.out hB)
  have HS10 := Lib.hid hB.size
  replace HB := Lib.hid (HB.out.trans (hB.mono HB.out.size))
  clear hB hg
  go_wp2_with fail
  refine (hdV_Builder (rwN (.slice na_g nn_g nc_g) ns_g) (rwI (.slice oa_g on_g oc_g) bdNew.opn) _ _ rfl rfl (rwN_is _ _) (rwI_is _ _) _ 1 _ rfl _ (ownL_read Hg.out (by have := HS1.out; have := HS2.out; have := HSb_x.out; have := HS3.out; have := HS4.out; have := HSb_g.out; have := HS5.out; have := HS6.out; have := HS7.out; have := HS8.out; have := HS9.out; have := HSb_h.out; have := HS10.out; omega)) (Nat.le_refl _) HCT_g.out).mono ?_
  rintro e w_11 ⟨rfl, hg⟩
  have hB := hg.below
  replace q_x0 := (hB.cell (show (⟨w_1.heap.size, 0, none⟩ : Addr).block < _ from World.block_lt_of_cell? _ _ q_x0)).trans q_x0
  replace q_x1 := (hB.cell (show (⟨w_1.heap.size, 1, none⟩ : Addr).block < _ from World.block_lt_of_cell? _ _ q_x1)).trans q_x1
  replace b_x : w_1.heap.size < w_11.heap.size := World.block_lt_of_cell? _ _ q_x0
  replace q_g0 := (hB.cell (show (⟨w_3.heap.size, 0, none⟩ : Addr).block < _ from World.block_lt_of_cell? _ _ q_g0)).trans q_g0
  replace q_g1 := (hB.cell (show (⟨w_3.heap.size, 1, none⟩ : Addr).block < _ from World.block_lt_of_cell? _ _ q_g1)).trans q_g1
  replace b_g : w_3.heap.size < w_11.heap.size := World.block_lt_of_cell? _ _ q_g0
  replace q_h0 := (hB.cell (show (⟨w_8.heap.size, 0, none⟩ : Addr).block < _ from World.block_lt_of_cell? _ _ q_h0)).trans q_h0
  replace q_h1 := (hB.cell (show (⟨w_8.heap.size, 1, none⟩ : Addr).block < _ from World.block_lt_of_cell? _ _ q_h1)).trans q_h1
  replace b_h : w_8.heap.size < w_11.heap.size := World.block_lt_of_cell? _ _ q_h0
  replace Hx := Lib.hid (ownL_later Hx.out hB)
  replace Hg := Lib.hid (ownL_later Hg.out hB)
  replace Hh := Lib.hid (ownL_later Hh.out hB)
  have HS11 := Lib.hid hB.size
  replace HB := Lib.hid (HB.out.trans (hB.mono HB.out.size))
  rw [HM.out]
  clear hB hg
  go_wp2_with fail
  go_ret
  exact ⟨rfl, HB.out⟩
end Go.Proofs.Ytjiogmbiiojhgaa

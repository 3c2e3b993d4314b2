/- The walk of the law FnExactParsePolicy: it returns true, and writes nothing that was there. -/
import Derived.Test.YtgcdfkpidcdicaaDoorPrsK
import Derived.Test.YtgcdfkpidcdicaaDoorPrsM
import Derived.Deep.RegionWith
import Derived.Deep.CutRange
namespace Go.Proofs.YtgcdfkpidcdicaaDoor
open Go.ChangeShapes Go.WideShapes Go.ChangeAt Go.RowKit

set_option maxRecDepth 100000 in
set_option maxHeartbeats 4000000 in
theorem walkParsePolicy (a_s : ByteArray) (w : World) (hmx : Max0 w) (r_s : a_s.size ≤ 9223372036854775807) :
    Calls Tryd.prog 4 #[.string a_s] w fun e w' => e = .returned (.bool true) ∧ Below w.heap.size w w' := by
  have hrs := r_s; clear hrs
  by_cases big_s : (1048576 : Int) < (a_s.size : Int)
  · go_enter Tryd.func4, Tryd.ntmps4
    go_wp2_with fail
    go_ret
    exact ⟨rfl, Below.refl _ _⟩
  have hz : a_s.size ≤ 1048576 := by omega
  have HMX := Lib.hid hmx; clear hmx
  have hsm := prsP_sm hz
  obtain ⟨⟨⟨bo_r, xs_r, ys_r, zs_r, t_r⟩, ok⟩, hN⟩ : ∃ N, prsP a_s = N := ⟨_, rfl⟩
  rw [hN] at hsm; have HSM := Lib.hid hsm; have HN := Lib.hid hN; clear hsm hN
  have HLN := Lib.hid (show 1 + (xs_r.length + (ys_r.length + zs_r.length)) ≤ 4611686018427387904 by obtain ⟨p1, p2, p3, _⟩ := HSM.out; (try simp only at p1 p2 p3); omega)
  have hok : (ok == ok) = true := beq_self_eq_true _; have hokn : (ok != ok) = false := bne_self_eq_false _
  go_enter Tryd.func4, Tryd.ntmps4
  have HB := Lib.hid (Below.refl w.heap.size w)
  go_wp2_with fail
  refine ((HN.out ▸ prs_spec a_s hz _)).mono ?_
  rintro e w_1 ⟨xa_q, xn_q, xc_q, ya_q, yn_q, yc_q, za_q, zn_q, zc_q, rfl, how, hb⟩
  have hB := hb
  have Hq := Lib.hid ((show Own3O _ _ (.slice xa_q xn_q xc_q) (.slice ya_q yn_q yc_q) (.slice za_q zn_q zc_q) xs_r ys_r zs_r from how))
  have HS1 := Lib.hid hB.size
  replace HB := Lib.hid (HB.out.trans (hB.mono HB.out.size))
  have HBK_q := Lib.hid (own3O_blk (show Own3O _ _ (.slice xa_q xn_q xc_q) (.slice ya_q yn_q yc_q) (.slice za_q zn_q zc_q) xs_r ys_r zs_r from how))
  clear hB how hb
  go_wp2_with fail
  obtain ⟨w_2, hw⟩ : ∃ x, w_1.alloc (.cells #[.bool bo_r, .slice xa_q xn_q xc_q, .slice ya_q yn_q yc_q, .slice za_q zn_q zc_q, .string t_r] 26) = x := ⟨_, rfl⟩
  rw [hw]
  have hB : Below w_1.heap.size w_1 w_2 := by rw [← hw]; exact (Below.refl _ _).alloc (Nat.le_refl _) _
  have q_q0 : w_2.cell? ⟨w_1.heap.size, 0, none⟩ = some (.bool bo_r) := by rw [← hw]; simp
  have q_q1 : w_2.cell? ⟨w_1.heap.size, 1, none⟩ = some (.slice xa_q xn_q xc_q) := by rw [← hw]; simp
  have q_q2 : w_2.cell? ⟨w_1.heap.size, 2, none⟩ = some (.slice ya_q yn_q yc_q) := by rw [← hw]; simp
  have q_q3 : w_2.cell? ⟨w_1.heap.size, 3, none⟩ = some (.slice za_q zn_q zc_q) := by rw [← hw]; simp
  have q_q4 : w_2.cell? ⟨w_1.heap.size, 4, none⟩ = some (.string t_r) := by rw [← hw]; simp
  have b_q : w_1.heap.size < w_2.heap.size := World.block_lt_of_cell? _ _ q_q0
  replace Hq := Lib.hid (Hq.out.later hB)
  have HS2 := Lib.hid hB.size
  replace HB := Lib.hid (HB.out.trans (hB.mono HB.out.size))
  clear hB hw
  have HSb_q := Lib.hid b_q
  go_wp2_with fail
  refine ((HN.out ▸ prs_impl a_s hz _ (HMX.out.on HB.out))).mono ?_
  rintro e w_3 ⟨xa_g, xn_g, xc_g, ya_g, yn_g, yc_g, za_g, zn_g, zc_g, rfl, how, hb⟩
  have hB := hb
  replace q_q0 := (hB.cell (show (⟨w_1.heap.size, 0, none⟩ : Addr).block < _ from World.block_lt_of_cell? _ _ q_q0)).trans q_q0
  replace q_q1 := (hB.cell (show (⟨w_1.heap.size, 1, none⟩ : Addr).block < _ from World.block_lt_of_cell? _ _ q_q1)).trans q_q1
  replace q_q2 := (hB.cell (show (⟨w_1.heap.size, 2, none⟩ : Addr).block < _ from World.block_lt_of_cell? _ _ q_q2)).trans q_q2
  replace q_q3 := (hB.cell (show (⟨w_1.heap.size, 3, none⟩ : Addr).block < _ from World.block_lt_of_cell? _ _ q_q3)).trans q_q3
  replace q_q4 := (hB.cell (show (⟨w_1.heap.size, 4, none⟩ : Addr).block < _ from World.block_lt_of_cell? _ _ q_q4)).trans q_q4
  replace b_q : w_1.heap.size < w_3.heap.size := World.block_lt_of_cell? _ _ q_q0
  replace Hq := Lib.hid (Hq.out.later hB)
  have Hg := Lib.hid ((show Own3O _ _ (.slice xa_g xn_g xc_g) (.slice ya_g yn_g yc_g) (.slice za_g zn_g zc_g) xs_r ys_r zs_r from how))
  have HS3 := Lib.hid hB.size
  replace HB := Lib.hid (HB.out.trans (hB.mono HB.out.size))
  have HBK_g := Lib.hid (own3O_blk (show Own3O _ _ (.slice xa_g xn_g xc_g) (.slice ya_g yn_g yc_g) (.slice za_g zn_g zc_g) xs_r ys_r zs_r from how))
  clear hB how hb
  go_wp2_with fail
  obtain ⟨w_4, hw⟩ : ∃ x, w_3.alloc (.cells #[.bool bo_r, .slice xa_g xn_g xc_g, .slice ya_g yn_g yc_g, .slice za_g zn_g zc_g, .string t_r] 26) = x := ⟨_, rfl⟩
  rw [hw]
  have hB : Below w_3.heap.size w_3 w_4 := by rw [← hw]; exact (Below.refl _ _).alloc (Nat.le_refl _) _
  have q_g0 : w_4.cell? ⟨w_3.heap.size, 0, none⟩ = some (.bool bo_r) := by rw [← hw]; simp
  have q_g1 : w_4.cell? ⟨w_3.heap.size, 1, none⟩ = some (.slice xa_g xn_g xc_g) := by rw [← hw]; simp
  have q_g2 : w_4.cell? ⟨w_3.heap.size, 2, none⟩ = some (.slice ya_g yn_g yc_g) := by rw [← hw]; simp
  have q_g3 : w_4.cell? ⟨w_3.heap.size, 3, none⟩ = some (.slice za_g zn_g zc_g) := by rw [← hw]; simp
  have q_g4 : w_4.cell? ⟨w_3.heap.size, 4, none⟩ = some (.string t_r) := by rw [← hw]; simp
  have b_g : w_3.heap.size < w_4.heap.size := World.block_lt_of_cell? _ _ q_g0
  replace q_q0 := (hB.cell (show (⟨w_1.heap.size, 0, none⟩ : Addr).block < _ from World.block_lt_of_cell? _ _ q_q0)).trans q_q0
  replace q_q1 := (hB.cell (show (⟨w_1.heap.size, 1, none⟩ : Addr).block < _ from World.block_lt_of_cell? _ _ q_q1)).trans q_q1
  replace q_q2 := (hB.cell (show (⟨w_1.heap.size, 2, none⟩ : Addr).block < _ from World.block_lt_of_cell? _ _ q_q2)).trans q_q2
  replace q_q3 := (hB.cell (show (⟨w_1.heap.size, 3, none⟩ : Addr).block < _ from World.block_lt_of_cell? _ _ q_q3)).trans q_q3
  replace q_q4 := (hB.cell (show (⟨w_1.heap.size, 4, none⟩ : Addr).block < _ from World.block_lt_of_cell? _ _ q_q4)).trans q_q4
  replace b_q : w_1.heap.size < w_4.heap.size := World.block_lt_of_cell? _ _ q_q0
  replace Hq := Lib.hid (Hq.out.later hB)
  replace Hg := Lib.hid (Hg.out.later hB)
  have HS4 := Lib.hid hB.size
  replace HB := Lib.hid (HB.out.trans (hB.mono HB.out.size))
  clear hB hw
  have HSb_g := Lib.hid b_g
  go_wp2_with fail
  refine (eqPoR bo_r t_r (Hg.out.reads (p := ⟨bo_r, xs_r, ys_r, zs_r, t_r⟩)) (Hq.out.reads (p := ⟨bo_r, xs_r, ys_r, zs_r, t_r⟩))).mono ?_
  rintro e w_5 ⟨rfl, hg⟩
  have hB := hg.below
  replace q_q0 := (hB.cell (show (⟨w_1.heap.size, 0, none⟩ : Addr).block < _ from World.block_lt_of_cell? _ _ q_q0)).trans q_q0
  replace q_q1 := (hB.cell (show (⟨w_1.heap.size, 1, none⟩ : Addr).block < _ from World.block_lt_of_cell? _ _ q_q1)).trans q_q1
  replace q_q2 := (hB.cell (show (⟨w_1.heap.size, 2, none⟩ : Addr).block < _ from World.block_lt_of_cell? _ _ q_q2)).trans q_q2
  replace q_q3 := (hB.cell (show (⟨w_1.heap.size, 3, none⟩ : Addr).block < _ from World.block_lt_of_cell? _ _ q_q3)).trans q_q3
  replace q_q4 := (hB.cell (show (⟨w_1.heap.size, 4, none⟩ : Addr).block < _ from World.block_lt_of_cell? _ _ q_q4)).trans q_q4
  replace b_q : w_1.heap.size < w_5.heap.size := World.block_lt_of_cell? _ _ q_q0
  replace q_g0 := (hB.cell (show (⟨w_3.heap.size, 0, none⟩ : Addr).block < _ from World.block_lt_of_cell? _ _ q_g0)).trans q_g0
  replace q_g1 := (hB.cell (show (⟨w_3.heap.size, 1, none⟩ : Addr).block < _ from World.block_lt_of_cell? _ _ q_g1)).trans q_g1
  replace q_g2 := (hB.cell (show (⟨w_3.heap.size, 2, none⟩ : Addr).block < _ from World.block_lt_of_cell? _ _ q_g2)).trans q_g2
  replace q_g3 := (hB.cell (show (⟨w_3.heap.size, 3, none⟩ : Addr).block < _ from World.block_lt_of_cell? _ _ q_g3)).trans q_g3
  replace q_g4 := (hB.cell (show (⟨w_3.heap.size, 4, none⟩ : Addr).block < _ from World.block_lt_of_cell? _ _ q_g4)).trans q_g4
  replace b_g : w_3.heap.size < w_5.heap.size := World.block_lt_of_cell? _ _ q_g0
  replace Hq := Lib.hid (Hq.out.later hB)
  replace Hg := Lib.hid (Hg.out.later hB)
  have HS5 := Lib.hid hB.size
  replace HB := Lib.hid (HB.out.trans (hB.mono HB.out.size))
  clear hB hg
  have NOB_q := Lib.hid (show w_1.heap.size ∉ blkO (.slice xa_g xn_g xc_g) xs_r ++ (blkO (.slice ya_g yn_g yc_g) ys_r ++ blkO (.slice za_g zn_g zc_g) zs_r) from fun hb => by have h1 := HBK_g.out _ hb; have := HS1.out; have := HS2.out; have := HSb_q.out; have := HS3.out; have := HS4.out; have := HSb_g.out; have := HS5.out; omega)
  have NOB_g := Lib.hid (show w_3.heap.size ∉ blkO (.slice xa_g xn_g xc_g) xs_r ++ (blkO (.slice ya_g yn_g yc_g) ys_r ++ blkO (.slice za_g zn_g zc_g) zs_r) from fun hb => by have h1 := HBK_g.out _ hb; have := HS1.out; have := HS2.out; have := HSb_q.out; have := HS3.out; have := HS4.out; have := HSb_g.out; have := HS5.out; omega)
  go_wp2_with fail
  refine (mkPoO bo_r t_r _ _ _ _ _ _ _ _ _ xs_r ys_r zs_r _ 1 _ Hg.out HLN.out).mono ?_
  rintro e w_6 ⟨rfl, hmk, hon⟩
  replace q_q0 := (cell_only (a := ⟨w_1.heap.size, 0, none⟩) hon NOB_q.out (World.block_lt_of_cell? _ _ q_q0)).trans q_q0
  replace q_q1 := (cell_only (a := ⟨w_1.heap.size, 1, none⟩) hon NOB_q.out (World.block_lt_of_cell? _ _ q_q1)).trans q_q1
  replace q_q2 := (cell_only (a := ⟨w_1.heap.size, 2, none⟩) hon NOB_q.out (World.block_lt_of_cell? _ _ q_q2)).trans q_q2
  replace q_q3 := (cell_only (a := ⟨w_1.heap.size, 3, none⟩) hon NOB_q.out (World.block_lt_of_cell? _ _ q_q3)).trans q_q3
  replace q_q4 := (cell_only (a := ⟨w_1.heap.size, 4, none⟩) hon NOB_q.out (World.block_lt_of_cell? _ _ q_q4)).trans q_q4
  replace b_q : w_1.heap.size < w_6.heap.size := World.block_lt_of_cell? _ _ q_q0
  replace q_g0 := (cell_only (a := ⟨w_3.heap.size, 0, none⟩) hon NOB_g.out (World.block_lt_of_cell? _ _ q_g0)).trans q_g0
  replace q_g1 := (cell_only (a := ⟨w_3.heap.size, 1, none⟩) hon NOB_g.out (World.block_lt_of_cell? _ _ q_g1)).trans q_g1
  replace q_g2 := (cell_only (a := ⟨w_3.heap.size, 2, none⟩) hon NOB_g.out (World.block_lt_of_cell? _ _ q_g2)).trans q_g2
  replace q_g3 := (cell_only (a := ⟨w_3.heap.size, 3, none⟩) hon NOB_g.out (World.block_lt_of_cell? _ _ q_g3)).trans q_g3
  replace q_g4 := (cell_only (a := ⟨w_3.heap.size, 4, none⟩) hon NOB_g.out (World.block_lt_of_cell? _ _ q_g4)).trans q_g4
  replace b_g : w_3.heap.size < w_6.heap.size := World.block_lt_of_cell? _ _ q_g0
  replace Hq := Lib.hid (Hq.out.only2 hon (fun b hb hm => by have h1 := HBK_q.out b hb; have h2 := HBK_g.out b hm; have := HS1.out; have := HS2.out; have := HSb_q.out; have := HS3.out; have := HS4.out; have := HSb_g.out; have := HS5.out; omega))
  replace Hg := Lib.hid hmk
  have HS6 := Lib.hid hon.size
  replace HB := Lib.hid (HB.out.trans (hon.below (fun b hb => by have h1 := HBK_g.out b hb; have := HS1.out; have := HS2.out; have := HSb_q.out; have := HS3.out; have := HS4.out; have := HSb_g.out; have := HS5.out; omega) HB.out.size))
  clear hmk hon
  obtain ⟨m, hm⟩ : ∃ m, 1 + (xs_r.length + (ys_r.length + zs_r.length)) = m := ⟨_, rfl⟩
  rw [hm]; have HM := Lib.hid hm
  have hmq : ((m : Int) == (m : Int)) = true := beq_self_eq_true _
  have hm0 : ¬ ((m : Int) < 0) := by omega
  clear hm
  go_wp2_with fail
  refine (hdPoR bo_r t_r (xs := xs_r) (ys := ys_r) (zs := zs_r) 1 _ (Hg.out.reads (p := ⟨bo_r, mks 1 xs_r.length, mks (1 + xs_r.length) ys_r.length, mks (1 + xs_r.length + ys_r.length) zs_r.length, t_r⟩)) HLN.out).mono ?_
  rintro e w_7 ⟨rfl, hg⟩
  have hB := hg.below
  replace q_q0 := (hB.cell (show (⟨w_1.heap.size, 0, none⟩ : Addr).block < _ from World.block_lt_of_cell? _ _ q_q0)).trans q_q0
  replace q_q1 := (hB.cell (show (⟨w_1.heap.size, 1, none⟩ : Addr).block < _ from World.block_lt_of_cell? _ _ q_q1)).trans q_q1
  replace q_q2 := (hB.cell (show (⟨w_1.heap.size, 2, none⟩ : Addr).block < _ from World.block_lt_of_cell? _ _ q_q2)).trans q_q2
  replace q_q3 := (hB.cell (show (⟨w_1.heap.size, 3, none⟩ : Addr).block < _ from World.block_lt_of_cell? _ _ q_q3)).trans q_q3
  replace q_q4 := (hB.cell (show (⟨w_1.heap.size, 4, none⟩ : Addr).block < _ from World.block_lt_of_cell? _ _ q_q4)).trans q_q4
  replace b_q : w_1.heap.size < w_7.heap.size := World.block_lt_of_cell? _ _ q_q0
  replace q_g0 := (hB.cell (show (⟨w_3.heap.size, 0, none⟩ : Addr).block < _ from World.block_lt_of_cell? _ _ q_g0)).trans q_g0
  replace q_g1 := (hB.cell (show (⟨w_3.heap.size, 1, none⟩ : Addr).block < _ from World.block_lt_of_cell? _ _ q_g1)).trans q_g1
  replace q_g2 := (hB.cell (show (⟨w_3.heap.size, 2, none⟩ : Addr).block < _ from World.block_lt_of_cell? _ _ q_g2)).trans q_g2
  replace q_g3 := (hB.cell (show (⟨w_3.heap.size, 3, none⟩ : Addr).block < _ from World.block_lt_of_cell? _ _ q_g3)).trans q_g3
  replace q_g4 := (hB.cell (show (⟨w_3.heap.size, 4, none⟩ : Addr).block < _ from World.block_lt_of_cell? _ _ q_g4)).trans q_g4
  replace b_g : w_3.heap.size < w_7.heap.size := World.block_lt_of_cell? _ _ q_g0
  replace Hq := Lib.hid (Hq.out.later hB)
  replace Hg := Lib.hid (Hg.out.later hB)
  have HS7 := Lib.hid hB.size
  replace HB := Lib.hid (HB.out.trans (hB.mono HB.out.size))
  rw [HM.out]
  clear hB hg
  go_wp2_with fail
  refine ((HN.out ▸ prs_impl a_s hz _ (HMX.out.on HB.out))).mono ?_
  rintro e w_8 ⟨xa_h, xn_h, xc_h, ya_h, yn_h, yc_h, za_h, zn_h, zc_h, rfl, how, hb⟩
  have hB := hb
  replace q_q0 := (hB.cell (show (⟨w_1.heap.size, 0, none⟩ : Addr).block < _ from World.block_lt_of_cell? _ _ q_q0)).trans q_q0
  replace q_q1 := (hB.cell (show (⟨w_1.heap.size, 1, none⟩ : Addr).block < _ from World.block_lt_of_cell? _ _ q_q1)).trans q_q1
  replace q_q2 := (hB.cell (show (⟨w_1.heap.size, 2, none⟩ : Addr).block < _ from World.block_lt_of_cell? _ _ q_q2)).trans q_q2
  replace q_q3 := (hB.cell (show (⟨w_1.heap.size, 3, none⟩ : Addr).block < _ from World.block_lt_of_cell? _ _ q_q3)).trans q_q3
  replace q_q4 := (hB.cell (show (⟨w_1.heap.size, 4, none⟩ : Addr).block < _ from World.block_lt_of_cell? _ _ q_q4)).trans q_q4
  replace b_q : w_1.heap.size < w_8.heap.size := World.block_lt_of_cell? _ _ q_q0
  replace q_g0 := (hB.cell (show (⟨w_3.heap.size, 0, none⟩ : Addr).block < _ from World.block_lt_of_cell? _ _ q_g0)).trans q_g0
  replace q_g1 := (hB.cell (show (⟨w_3.heap.size, 1, none⟩ : Addr).block < _ from World.block_lt_of_cell? _ _ q_g1)).trans q_g1
  replace q_g2 := (hB.cell (show (⟨w_3.heap.size, 2, none⟩ : Addr).block < _ from World.block_lt_of_cell? _ _ q_g2)).trans q_g2
  replace q_g3 := (hB.cell (show (⟨w_3.heap.size, 3, none⟩ : Addr).block < _ from World.block_lt_of_cell? _ _ q_g3)).trans q_g3
  replace q_g4 := (hB.cell (show (⟨w_3.heap.size, 4, none⟩ : Addr).block < _ from World.block_lt_of_cell? _ _ q_g4)).trans q_g4
  replace b_g : w_3.heap.size < w_8.heap.size := World.block_lt_of_cell? _ _ q_g0
  replace Hq := Lib.hid (Hq.out.later hB)
  replace Hg := Lib.hid (Hg.out.later hB)
  have Hh := Lib.hid ((show Own3O _ _ (.slice xa_h xn_h xc_h) (.slice ya_h yn_h yc_h) (.slice za_h zn_h zc_h) xs_r ys_r zs_r from how))
  have HS8 := Lib.hid hB.size
  replace HB := Lib.hid (HB.out.trans (hB.mono HB.out.size))
  have HBK_h := Lib.hid (own3O_blk (show Own3O _ _ (.slice xa_h xn_h xc_h) (.slice ya_h yn_h yc_h) (.slice za_h zn_h zc_h) xs_r ys_r zs_r from how))
  clear hB how hb
  go_wp2_with fail
  obtain ⟨w_9, hw⟩ : ∃ x, w_8.alloc (.cells #[.bool bo_r, .slice xa_h xn_h xc_h, .slice ya_h yn_h yc_h, .slice za_h zn_h zc_h, .string t_r] 26) = x := ⟨_, rfl⟩
  rw [hw]
  have hB : Below w_8.heap.size w_8 w_9 := by rw [← hw]; exact (Below.refl _ _).alloc (Nat.le_refl _) _
  have q_h0 : w_9.cell? ⟨w_8.heap.size, 0, none⟩ = some (.bool bo_r) := by rw [← hw]; simp
  have q_h1 : w_9.cell? ⟨w_8.heap.size, 1, none⟩ = some (.slice xa_h xn_h xc_h) := by rw [← hw]; simp
  have q_h2 : w_9.cell? ⟨w_8.heap.size, 2, none⟩ = some (.slice ya_h yn_h yc_h) := by rw [← hw]; simp
  have q_h3 : w_9.cell? ⟨w_8.heap.size, 3, none⟩ = some (.slice za_h zn_h zc_h) := by rw [← hw]; simp
  have q_h4 : w_9.cell? ⟨w_8.heap.size, 4, none⟩ = some (.string t_r) := by rw [← hw]; simp
  have b_h : w_8.heap.size < w_9.heap.size := World.block_lt_of_cell? _ _ q_h0
  replace q_q0 := (hB.cell (show (⟨w_1.heap.size, 0, none⟩ : Addr).block < _ from World.block_lt_of_cell? _ _ q_q0)).trans q_q0
  replace q_q1 := (hB.cell (show (⟨w_1.heap.size, 1, none⟩ : Addr).block < _ from World.block_lt_of_cell? _ _ q_q1)).trans q_q1
  replace q_q2 := (hB.cell (show (⟨w_1.heap.size, 2, none⟩ : Addr).block < _ from World.block_lt_of_cell? _ _ q_q2)).trans q_q2
  replace q_q3 := (hB.cell (show (⟨w_1.heap.size, 3, none⟩ : Addr).block < _ from World.block_lt_of_cell? _ _ q_q3)).trans q_q3
  replace q_q4 := (hB.cell (show (⟨w_1.heap.size, 4, none⟩ : Addr).block < _ from World.block_lt_of_cell? _ _ q_q4)).trans q_q4
  replace b_q : w_1.heap.size < w_9.heap.size := World.block_lt_of_cell? _ _ q_q0
  replace q_g0 := (hB.cell (show (⟨w_3.heap.size, 0, none⟩ : Addr).block < _ from World.block_lt_of_cell? _ _ q_g0)).trans q_g0
  replace q_g1 := (hB.cell (show (⟨w_3.heap.size, 1, none⟩ : Addr).block < _ from World.block_lt_of_cell? _ _ q_g1)).trans q_g1
  replace q_g2 := (hB.cell (show (⟨w_3.heap.size, 2, none⟩ : Addr).block < _ from World.block_lt_of_cell? _ _ q_g2)).trans q_g2
  replace q_g3 := (hB.cell (show (⟨w_3.heap.size, 3, none⟩ : Addr).block < _ from World.block_lt_of_cell? _ _ q_g3)).trans q_g3
  replace q_g4 := (hB.cell (show (⟨w_3.heap.size, 4, none⟩ : Addr).block < _ from World.block_lt_of_cell? _ _ q_g4)).trans q_g4
  replace b_g : w_3.heap.size < w_9.heap.size := World.block_lt_of_cell? _ _ q_g0
  replace Hq := Lib.hid (Hq.out.later hB)
  replace Hg := Lib.hid (Hg.out.later hB)
  replace Hh := Lib.hid (Hh.out.later hB)
  have HS9 := Lib.hid hB.size
  replace HB := Lib.hid (HB.out.trans (hB.mono HB.out.size))
  clear hB hw
  have HSb_h := Lib.hid b_h
  go_wp2_with fail
  refine (eqPoR bo_r t_r (Hh.out.reads (p := ⟨bo_r, xs_r, ys_r, zs_r, t_r⟩)) (Hq.out.reads (p := ⟨bo_r, xs_r, ys_r, zs_r, t_r⟩))).mono ?_
  rintro e w_10 ⟨rfl, hg⟩
  have hB := hg.below
  replace q_q0 := (hB.cell (show (⟨w_1.heap.size, 0, none⟩ : Addr).block < _ from World.block_lt_of_cell? _ _ q_q0)).trans q_q0
  replace q_q1 := (hB.cell (show (⟨w_1.heap.size, 1, none⟩ : Addr).block < _ from World.block_lt_of_cell? _ _ q_q1)).trans q_q1
  replace q_q2 := (hB.cell (show (⟨w_1.heap.size, 2, none⟩ : Addr).block < _ from World.block_lt_of_cell? _ _ q_q2)).trans q_q2
  replace q_q3 := (hB.cell (show (⟨w_1.heap.size, 3, none⟩ : Addr).block < _ from World.block_lt_of_cell? _ _ q_q3)).trans q_q3
  replace q_q4 := (hB.cell (show (⟨w_1.heap.size, 4, none⟩ : Addr).block < _ from World.block_lt_of_cell? _ _ q_q4)).trans q_q4
  replace b_q : w_1.heap.size < w_10.heap.size := World.block_lt_of_cell? _ _ q_q0
  replace q_g0 := (hB.cell (show (⟨w_3.heap.size, 0, none⟩ : Addr).block < _ from World.block_lt_of_cell? _ _ q_g0)).trans q_g0
  replace q_g1 := (hB.cell (show (⟨w_3.heap.size, 1, none⟩ : Addr).block < _ from World.block_lt_of_cell? _ _ q_g1)).trans q_g1
  replace q_g2 := (hB.cell (show (⟨w_3.heap.size, 2, none⟩ : Addr).block < _ from World.block_lt_of_cell? _ _ q_g2)).trans q_g2
  replace q_g3 := (hB.cell (show (⟨w_3.heap.size, 3, none⟩ : Addr).block < _ from World.block_lt_of_cell? _ _ q_g3)).trans q_g3
  replace q_g4 := (hB.cell (show (⟨w_3.heap.size, 4, none⟩ : Addr).block < _ from World.block_lt_of_cell? _ _ q_g4)).trans q_g4
  replace b_g : w_3.heap.size < w_10.heap.size := World.block_lt_of_cell? _ _ q_g0
  replace q_h0 := (hB.cell (show (⟨w_8.heap.size, 0, none⟩ : Addr).block < _ from World.block_lt_of_cell? _ _ q_h0)).trans q_h0
  replace q_h1 := (hB.cell (show (⟨w_8.heap.size, 1, none⟩ : Addr).block < _ from World.block_lt_of_cell? _ _ q_h1)).trans q_h1
  replace q_h2 := (hB.cell (show (⟨w_8.heap.size, 2, none⟩ : Addr).block < _ from World.block_lt_of_cell? _ _ q_h2)).trans q_h2
  replace q_h3 := (hB.cell (show (⟨w_8.heap.size, 3, none⟩ : Addr).block < _ from World.block_lt_of_cell? _ _ q_h3)).trans q_h3
  replace q_h4 := (hB.cell (show (⟨w_8.heap.size, 4, none⟩ : Addr).block < _ from World.block_lt_of_cell? _ _ q_h4)).trans q_h4
  replace b_h : w_8.heap.size < w_10.heap.size := World.block_lt_of_cell? _ _ q_h0
  replace Hq := Lib.hid (Hq.out.later hB)
  replace Hg := Lib.hid (Hg.out.later hB)
  replace Hh := Lib.hid (Hh.out.later hB)
  have HS10 := Lib.hid hB.size
  replace HB := Lib.hid (HB.out.trans (hB.mono HB.out.size))
  clear hB hg
  go_wp2_with fail
  refine (hdPoR bo_r t_r (xs := xs_r) (ys := ys_r) (zs := zs_r) 1 _ (Hg.out.reads (p := ⟨bo_r, mks 1 xs_r.length, mks (1 + xs_r.length) ys_r.length, mks (1 + xs_r.length + ys_r.length) zs_r.length, t_r⟩)) HLN.out).mono ?_
  rintro e w_11 ⟨rfl, hg⟩
  have hB := hg.below
  replace q_q0 := (hB.cell (show (⟨w_1.heap.size, 0, none⟩ : Addr).block < _ from World.block_lt_of_cell? _ _ q_q0)).trans q_q0
  replace q_q1 := (hB.cell (show (⟨w_1.heap.size, 1, none⟩ : Addr).block < _ from World.block_lt_of_cell? _ _ q_q1)).trans q_q1
  replace q_q2 := (hB.cell (show (⟨w_1.heap.size, 2, none⟩ : Addr).block < _ from World.block_lt_of_cell? _ _ q_q2)).trans q_q2
  replace q_q3 := (hB.cell (show (⟨w_1.heap.size, 3, none⟩ : Addr).block < _ from World.block_lt_of_cell? _ _ q_q3)).trans q_q3
  replace q_q4 := (hB.cell (show (⟨w_1.heap.size, 4, none⟩ : Addr).block < _ from World.block_lt_of_cell? _ _ q_q4)).trans q_q4
  replace b_q : w_1.heap.size < w_11.heap.size := World.block_lt_of_cell? _ _ q_q0
  replace q_g0 := (hB.cell (show (⟨w_3.heap.size, 0, none⟩ : Addr).block < _ from World.block_lt_of_cell? _ _ q_g0)).trans q_g0
  replace q_g1 := (hB.cell (show (⟨w_3.heap.size, 1, none⟩ : Addr).block < _ from World.block_lt_of_cell? _ _ q_g1)).trans q_g1
  replace q_g2 := (hB.cell (show (⟨w_3.heap.size, 2, none⟩ : Addr).block < _ from World.block_lt_of_cell? _ _ q_g2)).trans q_g2
  replace q_g3 := (hB.cell (show (⟨w_3.heap.size, 3, none⟩ : Addr).block < _ from World.block_lt_of_cell? _ _ q_g3)).trans q_g3
  replace q_g4 := (hB.cell (show (⟨w_3.heap.size, 4, none⟩ : Addr).block < _ from World.block_lt_of_cell? _ _ q_g4)).trans q_g4
  replace b_g : w_3.heap.size < w_11.heap.size := World.block_lt_of_cell? _ _ q_g0
  replace q_h0 := (hB.cell (show (⟨w_8.heap.size, 0, none⟩ : Addr).block < _ from World.block_lt_of_cell? _ _ q_h0)).trans q_h0
  replace q_h1 := (hB.cell (show (⟨w_8.heap.size, 1, none⟩ : Addr).block < _ from World.block_lt_of_cell? _ _ q_h1)).trans q_h1
  replace q_h2 := (hB.cell (show (⟨w_8.heap.size, 2, none⟩ : Addr).block < _ from World.block_lt_of_cell? _ _ q_h2)).trans q_h2
  replace q_h3 := (hB.cell (show (⟨w_8.heap.size, 3, none⟩ : Addr).block < _ from World.block_lt_of_cell? _ _ q_h3)).trans q_h3
  replace q_h4 := (hB.cell (show (⟨w_8.heap.size, 4, none⟩ : Addr).block < _ from World.block_lt_of_cell? _ _ q_h4)).trans q_h4
  replace b_h : w_8.heap.size < w_11.heap.size := World.block_lt_of_cell? _ _ q_h0
  replace Hq := Lib.hid (Hq.out.later hB)
  replace Hg := Lib.hid (Hg.out.later hB)
  replace Hh := Lib.hid (Hh.out.later hB)
  have HS11 := Lib.hid hB.size
  replace HB := Lib.hid (HB.out.trans (hB.mono HB.out.size))
  rw [HM.out]
  clear hB hg
  go_wp2_with fail
  go_ret
  exact ⟨rfl, HB.out⟩
end Go.Proofs.YtgcdfkpidcdicaaDoor

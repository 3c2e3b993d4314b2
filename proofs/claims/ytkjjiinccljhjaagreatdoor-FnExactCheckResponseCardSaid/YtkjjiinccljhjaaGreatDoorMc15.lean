/- The walk of the law FnExactUsableBody: it returns true, and writes nothing that was there. What a row's condition on the listed variables of Go's library gives: the table of powers of ten reads as listed. Helper facts, no claim of its own. What a row's condition on the five listed variables of Go's library gives: the table of powers of ten reads as listed. Helper facts, no claim of its own. A row with listed variables whose call also leans on the shape of the world it begins in: both facts handed to the walk. Helper fact, no claim of its own. -/
import Derived.Test.YtkjjiinccljhjaaGreatDoorMc6
import Derived.Test.YtkjjiinccljhjaaGreatDoorMc7
import Derived.Test.YtkjjiinccljhjaaGreatDoorMc13
import Derived.Test.YtkjjiinccljhjaaGreatDoorMc14
import Derived.Test.YtkjjiinccljhjaaGreatDoorMc9
import Derived.Deep.RegionHeld3
import Derived.Deep.RegionWith
import Derived.Deep.CutRange
import Derived.Test.YtkjjiinccljhjaaGreatDoorRows
import Derived.ProofKit
import Derived.LaidMore
import Derived.OpenShut
import Derived.Stop.Joined
import Derived.Stop.LaidErr
import Derived.Lib.LaidTab
import Derived.Lib.ItoaNum
import Derived.LaidLaws
import Derived.Handed
namespace Go.Proofs.YtkjjiinccljhjaaGreatDoor

open Go.ChangeShapes Go.WideShapes Go.ChangeAt Go.RowKit

set_option maxRecDepth 100000 in
set_option maxHeartbeats 4000000 in
theorem walkUsableBody (bo_p : Bool) (xa_p : Option Addr) (xn_p xc_p : Nat) (ya_p : Option Addr) (yn_p yc_p : Nat) (za_p : Option Addr) (zn_p zc_p : Nat) (xs_p ys_p zs_p : List ByteArray) (t_p : ByteArray) (mk_q : Int) (mh_q mp_q mf_q mg_q : ByteArray) (ms_x mk_x : Int) (mb_x : ByteArray) (mg_x : Int) (mh_x : Bool) (mp_x : ByteArray) (w : World) (hmx : Max0 w) (htab : Lib.TabIs Tryz.prog w "internal/strconv.uint64pow10" .u64 Lib.pow10Tab) (r_p : IsPo w (.slice xa_p xn_p xc_p) (.slice ya_p yn_p yc_p) (.slice za_p zn_p zc_p) ⟨bo_p, xs_p, ys_p, zs_p, t_p⟩) (r_q : RqOk mh_q mp_q mf_q mg_q) (r_x : mb_x.size ≤ 9223372036854775807 ∧ mp_x.size ≤ 9223372036854775807) :
    Calls Tryz.prog 5 #[.agg #[.bool bo_p, .slice xa_p xn_p xc_p, .slice ya_p yn_p yc_p, .slice za_p zn_p zc_p, .string t_p], .agg #[.int .i64 mk_q, .string mh_q, .string mp_q, .string mf_q, .string mg_q], .agg #[.int .i64 ms_x, .int .i64 mk_x, .string mb_x, .int .i64 mg_x, .bool mh_x, .string mp_x]] w fun e w' => e = .returned (.bool true) ∧ Below w.heap.size w w' := by
  obtain ⟨⟨h1_p, o1_p⟩, ⟨h2_p, o2_p⟩, ⟨h3_p, o3_p⟩, ht_p⟩ := r_p
  have HR1_p := Lib.hid h1_p; have HS1_p := Lib.hid (rwSs_small (v := .slice xa_p xn_p xc_p) o1_p); clear h1_p o1_p
  have HR2_p := Lib.hid h2_p; have HS2_p := Lib.hid (rwSs_small (v := .slice ya_p yn_p yc_p) o2_p); clear h2_p o2_p
  have HR3_p := Lib.hid h3_p; have HS3_p := Lib.hid (rwSs_small (v := .slice za_p zn_p zc_p) o3_p); clear h3_p o3_p
  obtain ⟨z1_x, z2_x⟩ := r_x
  have HMX := Lib.hid hmx; have HTB := Lib.hid (Lib.tabBelow_of_tabIs htab); clear hmx htab
  go_enter Tryz.func5, Tryz.ntmps5
  go_wp2_with fail
  obtain ⟨w_0, hw_0⟩ : ∃ x, (((w.alloc (.cells #[.bool bo_p, .slice xa_p xn_p xc_p, .slice ya_p yn_p yc_p, .slice za_p zn_p zc_p, .string t_p] 48)).alloc (.cells #[.int .i64 mk_q, .string mh_q, .string mp_q, .string mf_q, .string mg_q] 51)).alloc (.cells #[.int .i64 ms_x, .int .i64 mk_x, .string mb_x, .int .i64 mg_x, .bool mh_x, .string mp_x] 52)) = x := ⟨_, rfl⟩
  rw [hw_0]
  have HB := Lib.hid (show Below w.heap.size w w_0 by rw [← hw_0]; exact ((((Below.refl w.heap.size w).alloc (by first | (simp; done) | (simp; omega)) _).alloc (by first | (simp; done) | (simp; omega)) _).alloc (by first | (simp; done) | (simp; omega)) _))
  have q_p0 : w_0.cell? ⟨w.heap.size, 0, none⟩ = some (.bool bo_p) := by rw [← hw_0]; exact box_cell (box3_0 _ _ _ _) (j := 0) rfl
  have q_p1 : w_0.cell? ⟨w.heap.size, 1, none⟩ = some (.slice xa_p xn_p xc_p) := by rw [← hw_0]; exact box_cell (box3_0 _ _ _ _) (j := 1) rfl
  have q_p2 : w_0.cell? ⟨w.heap.size, 2, none⟩ = some (.slice ya_p yn_p yc_p) := by rw [← hw_0]; exact box_cell (box3_0 _ _ _ _) (j := 2) rfl
  have q_p3 : w_0.cell? ⟨w.heap.size, 3, none⟩ = some (.slice za_p zn_p zc_p) := by rw [← hw_0]; exact box_cell (box3_0 _ _ _ _) (j := 3) rfl
  have q_p4 : w_0.cell? ⟨w.heap.size, 4, none⟩ = some (.string t_p) := by rw [← hw_0]; exact box_cell (box3_0 _ _ _ _) (j := 4) rfl
  have b_p : w.heap.size < w_0.heap.size := World.block_lt_of_cell? _ _ q_p0
  have q_q0 : w_0.cell? ⟨w.heap.size + 1, 0, none⟩ = some (.int .i64 mk_q) := by rw [← hw_0]; exact box_cell (box3_1 _ _ _ _) (j := 0) rfl
  have q_q1 : w_0.cell? ⟨w.heap.size + 1, 1, none⟩ = some (.string mh_q) := by rw [← hw_0]; exact box_cell (box3_1 _ _ _ _) (j := 1) rfl
  have q_q2 : w_0.cell? ⟨w.heap.size + 1, 2, none⟩ = some (.string mp_q) := by rw [← hw_0]; exact box_cell (box3_1 _ _ _ _) (j := 2) rfl
  have q_q3 : w_0.cell? ⟨w.heap.size + 1, 3, none⟩ = some (.string mf_q) := by rw [← hw_0]; exact box_cell (box3_1 _ _ _ _) (j := 3) rfl
  have q_q4 : w_0.cell? ⟨w.heap.size + 1, 4, none⟩ = some (.string mg_q) := by rw [← hw_0]; exact box_cell (box3_1 _ _ _ _) (j := 4) rfl
  have b_q : w.heap.size + 1 < w_0.heap.size := World.block_lt_of_cell? _ _ q_q0
  have q_x0 : w_0.cell? ⟨w.heap.size + 1 + 1, 0, none⟩ = some (.int .i64 ms_x) := by rw [← hw_0]; exact box_cell (box3_2 _ _ _ _) (j := 0) rfl
  have q_x1 : w_0.cell? ⟨w.heap.size + 1 + 1, 1, none⟩ = some (.int .i64 mk_x) := by rw [← hw_0]; exact box_cell (box3_2 _ _ _ _) (j := 1) rfl
  have q_x2 : w_0.cell? ⟨w.heap.size + 1 + 1, 2, none⟩ = some (.string mb_x) := by rw [← hw_0]; exact box_cell (box3_2 _ _ _ _) (j := 2) rfl
  have q_x3 : w_0.cell? ⟨w.heap.size + 1 + 1, 3, none⟩ = some (.int .i64 mg_x) := by rw [← hw_0]; exact box_cell (box3_2 _ _ _ _) (j := 3) rfl
  have q_x4 : w_0.cell? ⟨w.heap.size + 1 + 1, 4, none⟩ = some (.bool mh_x) := by rw [← hw_0]; exact box_cell (box3_2 _ _ _ _) (j := 4) rfl
  have q_x5 : w_0.cell? ⟨w.heap.size + 1 + 1, 5, none⟩ = some (.string mp_x) := by rw [← hw_0]; exact box_cell (box3_2 _ _ _ _) (j := 5) rfl
  have b_x : w.heap.size + 1 + 1 < w_0.heap.size := World.block_lt_of_cell? _ _ q_x0
  have HS0 := Lib.hid (show w.heap.size + 3 ≤ w_0.heap.size by rw [← hw_0]; simp)
  clear hw_0
  go_wp2_with fail
  refine (sz_Policy bo_p (rwSs (.slice xa_p xn_p xc_p) xs_p) (rwSs (.slice ya_p yn_p yc_p) ys_p) (rwSs (.slice za_p zn_p zc_p) zs_p) t_p 1048576 (by omega) (by omega) _ (rwSs_is _ _) (rwSs_reads ((HR1_p.out.below HB.out (Nat.le_refl _)).mono HB.out.size)) HS1_p.out (rwSs_is _ _) (rwSs_reads ((HR2_p.out.below HB.out (Nat.le_refl _)).mono HB.out.size)) HS2_p.out (rwSs_is _ _) (rwSs_reads ((HR3_p.out.below HB.out (Nat.le_refl _)).mono HB.out.size)) HS3_p.out ht_p).mono ?_
  rintro e w_1 ⟨r, rfl, lo_r, hi_r, hg⟩
  have hB := hg.below
  replace q_p0 := (hB.cell (show (⟨w.heap.size, 0, none⟩ : Addr).block < _ from World.block_lt_of_cell? _ _ q_p0)).trans q_p0
  replace q_p1 := (hB.cell (show (⟨w.heap.size, 1, none⟩ : Addr).block < _ from World.block_lt_of_cell? _ _ q_p1)).trans q_p1
  replace q_p2 := (hB.cell (show (⟨w.heap.size, 2, none⟩ : Addr).block < _ from World.block_lt_of_cell? _ _ q_p2)).trans q_p2
  replace q_p3 := (hB.cell (show (⟨w.heap.size, 3, none⟩ : Addr).block < _ from World.block_lt_of_cell? _ _ q_p3)).trans q_p3
  replace q_p4 := (hB.cell (show (⟨w.heap.size, 4, none⟩ : Addr).block < _ from World.block_lt_of_cell? _ _ q_p4)).trans q_p4
  replace b_p : w.heap.size < w_1.heap.size := World.block_lt_of_cell? _ _ q_p0
  replace q_q0 := (hB.cell (show (⟨w.heap.size + 1, 0, none⟩ : Addr).block < _ from World.block_lt_of_cell? _ _ q_q0)).trans q_q0
  replace q_q1 := (hB.cell (show (⟨w.heap.size + 1, 1, none⟩ : Addr).block < _ from World.block_lt_of_cell? _ _ q_q1)).trans q_q1
  replace q_q2 := (hB.cell (show (⟨w.heap.size + 1, 2, none⟩ : Addr).block < _ from World.block_lt_of_cell? _ _ q_q2)).trans q_q2
  replace q_q3 := (hB.cell (show (⟨w.heap.size + 1, 3, none⟩ : Addr).block < _ from World.block_lt_of_cell? _ _ q_q3)).trans q_q3
  replace q_q4 := (hB.cell (show (⟨w.heap.size + 1, 4, none⟩ : Addr).block < _ from World.block_lt_of_cell? _ _ q_q4)).trans q_q4
  replace b_q : w.heap.size + 1 < w_1.heap.size := World.block_lt_of_cell? _ _ q_q0
  replace q_x0 := (hB.cell (show (⟨w.heap.size + 1 + 1, 0, none⟩ : Addr).block < _ from World.block_lt_of_cell? _ _ q_x0)).trans q_x0
  replace q_x1 := (hB.cell (show (⟨w.heap.size + 1 + 1, 1, none⟩ : Addr).block < _ from World.block_lt_of_cell? _ _ q_x1)).trans q_x1
  replace q_x2 := (hB.cell (show (⟨w.heap.size + 1 + 1, 2, none⟩ : Addr).block < _ from World.block_lt_of_cell? _ _ q_x2)).trans q_x2
  replace q_x3 := (hB.cell (show (⟨w.heap.size + 1 + 1, 3, none⟩ : Addr).block < _ from World.block_lt_of_cell? _ _ q_x3)).trans q_x3
  replace q_x4 := (hB.cell (show (⟨w.heap.size + 1 + 1, 4, none⟩ : Addr).block < _ from World.block_lt_of_cell? _ _ q_x4)).trans q_x4
  replace q_x5 := (hB.cell (show (⟨w.heap.size + 1 + 1, 5, none⟩ : Addr).block < _ from World.block_lt_of_cell? _ _ q_x5)).trans q_x5
  replace b_x : w.heap.size + 1 + 1 < w_1.heap.size := World.block_lt_of_cell? _ _ q_x0
  have HS1 := Lib.hid hB.size
  replace HB := Lib.hid (HB.out.trans (hB.mono HB.out.size))
  clear hB hg
  by_cases neg_r : r < 0
  · go_wp2_with fail
    go_ret
    exact ⟨rfl, HB.out⟩
  replace hi_r := hi_r (by omega)
  have hu_r : r ≤ 1048576 := by omega
  have HW1_p := Lib.hid (show (rwSs (.slice xa_p xn_p xc_p) xs_p).weight ≤ 1048576 by omega)
  have HW2_p := Lib.hid (show (rwSs (.slice ya_p yn_p yc_p) ys_p).weight ≤ 1048576 by omega)
  have HW3_p := Lib.hid (show (rwSs (.slice za_p zn_p zc_p) zs_p).weight ≤ 1048576 by omega)
  have HTS_p := Lib.hid (show t_p.size ≤ 1048576 by omega)
  clear hi_r
  go_wp2_with fail
  refine (szQ_any mk_q mh_q mp_q mf_q mg_q r r_q (by omega) (by omega) _).mono ?_
  rintro e w_2 ⟨t, rfl, lo_t, hi_t, hb⟩
  have hB := hb
  replace q_p0 := (hB.cell (show (⟨w.heap.size, 0, none⟩ : Addr).block < _ from World.block_lt_of_cell? _ _ q_p0)).trans q_p0
  replace q_p1 := (hB.cell (show (⟨w.heap.size, 1, none⟩ : Addr).block < _ from World.block_lt_of_cell? _ _ q_p1)).trans q_p1
  replace q_p2 := (hB.cell (show (⟨w.heap.size, 2, none⟩ : Addr).block < _ from World.block_lt_of_cell? _ _ q_p2)).trans q_p2
  replace q_p3 := (hB.cell (show (⟨w.heap.size, 3, none⟩ : Addr).block < _ from World.block_lt_of_cell? _ _ q_p3)).trans q_p3
  replace q_p4 := (hB.cell (show (⟨w.heap.size, 4, none⟩ : Addr).block < _ from World.block_lt_of_cell? _ _ q_p4)).trans q_p4
  replace b_p : w.heap.size < w_2.heap.size := World.block_lt_of_cell? _ _ q_p0
  replace q_q0 := (hB.cell (show (⟨w.heap.size + 1, 0, none⟩ : Addr).block < _ from World.block_lt_of_cell? _ _ q_q0)).trans q_q0
  replace q_q1 := (hB.cell (show (⟨w.heap.size + 1, 1, none⟩ : Addr).block < _ from World.block_lt_of_cell? _ _ q_q1)).trans q_q1
  replace q_q2 := (hB.cell (show (⟨w.heap.size + 1, 2, none⟩ : Addr).block < _ from World.block_lt_of_cell? _ _ q_q2)).trans q_q2
  replace q_q3 := (hB.cell (show (⟨w.heap.size + 1, 3, none⟩ : Addr).block < _ from World.block_lt_of_cell? _ _ q_q3)).trans q_q3
  replace q_q4 := (hB.cell (show (⟨w.heap.size + 1, 4, none⟩ : Addr).block < _ from World.block_lt_of_cell? _ _ q_q4)).trans q_q4
  replace b_q : w.heap.size + 1 < w_2.heap.size := World.block_lt_of_cell? _ _ q_q0
  replace q_x0 := (hB.cell (show (⟨w.heap.size + 1 + 1, 0, none⟩ : Addr).block < _ from World.block_lt_of_cell? _ _ q_x0)).trans q_x0
  replace q_x1 := (hB.cell (show (⟨w.heap.size + 1 + 1, 1, none⟩ : Addr).block < _ from World.block_lt_of_cell? _ _ q_x1)).trans q_x1
  replace q_x2 := (hB.cell (show (⟨w.heap.size + 1 + 1, 2, none⟩ : Addr).block < _ from World.block_lt_of_cell? _ _ q_x2)).trans q_x2
  replace q_x3 := (hB.cell (show (⟨w.heap.size + 1 + 1, 3, none⟩ : Addr).block < _ from World.block_lt_of_cell? _ _ q_x3)).trans q_x3
  replace q_x4 := (hB.cell (show (⟨w.heap.size + 1 + 1, 4, none⟩ : Addr).block < _ from World.block_lt_of_cell? _ _ q_x4)).trans q_x4
  replace q_x5 := (hB.cell (show (⟨w.heap.size + 1 + 1, 5, none⟩ : Addr).block < _ from World.block_lt_of_cell? _ _ q_x5)).trans q_x5
  replace b_x : w.heap.size + 1 + 1 < w_2.heap.size := World.block_lt_of_cell? _ _ q_x0
  have HS2 := Lib.hid hB.size
  replace HB := Lib.hid (HB.out.trans (hB.mono HB.out.size))
  clear hB hb
  by_cases neg_t : t < 0
  · go_wp2_with fail
    go_ret
    exact ⟨rfl, HB.out⟩
  replace hi_t := hi_t (by omega)
  have HI_t := Lib.hid hi_t
  have up_t : t ≤ 1048576 := by omega
  clear hi_t
  go_wp2_with fail
  refine (szR_any ms_x mk_x mb_x mg_x mh_x mp_x t z1_x z2_x (by omega) (by omega) _).mono ?_
  rintro e w_3 ⟨u, rfl, lo_u, hi_u, hb⟩
  have hB := hb
  replace q_p0 := (hB.cell (show (⟨w.heap.size, 0, none⟩ : Addr).block < _ from World.block_lt_of_cell? _ _ q_p0)).trans q_p0
  replace q_p1 := (hB.cell (show (⟨w.heap.size, 1, none⟩ : Addr).block < _ from World.block_lt_of_cell? _ _ q_p1)).trans q_p1
  replace q_p2 := (hB.cell (show (⟨w.heap.size, 2, none⟩ : Addr).block < _ from World.block_lt_of_cell? _ _ q_p2)).trans q_p2
  replace q_p3 := (hB.cell (show (⟨w.heap.size, 3, none⟩ : Addr).block < _ from World.block_lt_of_cell? _ _ q_p3)).trans q_p3
  replace q_p4 := (hB.cell (show (⟨w.heap.size, 4, none⟩ : Addr).block < _ from World.block_lt_of_cell? _ _ q_p4)).trans q_p4
  replace b_p : w.heap.size < w_3.heap.size := World.block_lt_of_cell? _ _ q_p0
  replace q_q0 := (hB.cell (show (⟨w.heap.size + 1, 0, none⟩ : Addr).block < _ from World.block_lt_of_cell? _ _ q_q0)).trans q_q0
  replace q_q1 := (hB.cell (show (⟨w.heap.size + 1, 1, none⟩ : Addr).block < _ from World.block_lt_of_cell? _ _ q_q1)).trans q_q1
  replace q_q2 := (hB.cell (show (⟨w.heap.size + 1, 2, none⟩ : Addr).block < _ from World.block_lt_of_cell? _ _ q_q2)).trans q_q2
  replace q_q3 := (hB.cell (show (⟨w.heap.size + 1, 3, none⟩ : Addr).block < _ from World.block_lt_of_cell? _ _ q_q3)).trans q_q3
  replace q_q4 := (hB.cell (show (⟨w.heap.size + 1, 4, none⟩ : Addr).block < _ from World.block_lt_of_cell? _ _ q_q4)).trans q_q4
  replace b_q : w.heap.size + 1 < w_3.heap.size := World.block_lt_of_cell? _ _ q_q0
  replace q_x0 := (hB.cell (show (⟨w.heap.size + 1 + 1, 0, none⟩ : Addr).block < _ from World.block_lt_of_cell? _ _ q_x0)).trans q_x0
  replace q_x1 := (hB.cell (show (⟨w.heap.size + 1 + 1, 1, none⟩ : Addr).block < _ from World.block_lt_of_cell? _ _ q_x1)).trans q_x1
  replace q_x2 := (hB.cell (show (⟨w.heap.size + 1 + 1, 2, none⟩ : Addr).block < _ from World.block_lt_of_cell? _ _ q_x2)).trans q_x2
  replace q_x3 := (hB.cell (show (⟨w.heap.size + 1 + 1, 3, none⟩ : Addr).block < _ from World.block_lt_of_cell? _ _ q_x3)).trans q_x3
  replace q_x4 := (hB.cell (show (⟨w.heap.size + 1 + 1, 4, none⟩ : Addr).block < _ from World.block_lt_of_cell? _ _ q_x4)).trans q_x4
  replace q_x5 := (hB.cell (show (⟨w.heap.size + 1 + 1, 5, none⟩ : Addr).block < _ from World.block_lt_of_cell? _ _ q_x5)).trans q_x5
  replace b_x : w.heap.size + 1 + 1 < w_3.heap.size := World.block_lt_of_cell? _ _ q_x0
  have HS3 := Lib.hid hB.size
  replace HB := Lib.hid (HB.out.trans (hB.mono HB.out.size))
  clear hB hb
  by_cases neg_u : u < 0
  · go_wp2_with fail
    go_ret
    exact ⟨rfl, HB.out⟩
  replace hi_u := hi_u (by omega)
  have HI_u := Lib.hid hi_u
  have up_u : u ≤ 1048576 := by omega
  clear hi_u
  have HPZ := Lib.hid (show mp_x.size ≤ 1048576 by have := HI_u.out; omega); have HBZ := Lib.hid (show mb_x.size ≤ 1048576 by have := HI_u.out; omega)
  obtain ⟨M, hM⟩ : ∃ M, rsV (⟨bo_p, xs_p, ys_p, zs_p, t_p⟩ : Pol) mk_q mh_q mp_q mf_q mg_q ms_x mk_x mb_x mg_x mh_x mp_x = M := ⟨_, rfl⟩
  have HM := Lib.hid hM; clear hM
  obtain ⟨D, hD⟩ : ∃ D, decide (M = 1) = D := ⟨_, rfl⟩
  obtain ⟨T, hT⟩ : ∃ T, ubS M mb_x = T := ⟨_, rfl⟩
  have HD := Lib.hid hD; have HT := Lib.hid hT; clear hD hT
  have hDD : (D == D) = true := beq_self_eq_true _; have hDN : (D != D) = false := by rw [bne, hDD]; rfl
  have hTT : (T.toList == T.toList) = true := beq_self_eq_true _; have hTN : (T.toList != T.toList) = false := by rw [bne, hTT]; rfl
  go_upto_region 11 with (fail)
  go_cut [8, 9] from 28 to 37 (fun c0 c1 wx => c0 = .string T ∧ c1 = .bool D ∧ Below w_3.heap.size w_3 wx)
  case first =>
    have KEEP := Lib.hid (fun (w' : World) (h : Below w_3.heap.size w_3 w') => show Below w_3.heap.size w_3 w' ∧ w'.cell? ⟨w.heap.size, 0, none⟩ = some (.bool bo_p) ∧ w'.cell? ⟨w.heap.size, 1, none⟩ = some (.slice xa_p xn_p xc_p) ∧ w'.cell? ⟨w.heap.size, 2, none⟩ = some (.slice ya_p yn_p yc_p) ∧ w'.cell? ⟨w.heap.size, 3, none⟩ = some (.slice za_p zn_p zc_p) ∧ w'.cell? ⟨w.heap.size, 4, none⟩ = some (.string t_p) ∧ w'.cell? ⟨w.heap.size + 1, 0, none⟩ = some (.int .i64 mk_q) ∧ w'.cell? ⟨w.heap.size + 1, 1, none⟩ = some (.string mh_q) ∧ w'.cell? ⟨w.heap.size + 1, 2, none⟩ = some (.string mp_q) ∧ w'.cell? ⟨w.heap.size + 1, 3, none⟩ = some (.string mf_q) ∧ w'.cell? ⟨w.heap.size + 1, 4, none⟩ = some (.string mg_q) ∧ w'.cell? ⟨w.heap.size + 1 + 1, 0, none⟩ = some (.int .i64 ms_x) ∧ w'.cell? ⟨w.heap.size + 1 + 1, 1, none⟩ = some (.int .i64 mk_x) ∧ w'.cell? ⟨w.heap.size + 1 + 1, 2, none⟩ = some (.string mb_x) ∧ w'.cell? ⟨w.heap.size + 1 + 1, 3, none⟩ = some (.int .i64 mg_x) ∧ w'.cell? ⟨w.heap.size + 1 + 1, 4, none⟩ = some (.bool mh_x) ∧ w'.cell? ⟨w.heap.size + 1 + 1, 5, none⟩ = some (.string mp_x) from ⟨h, (h.cell (show (⟨w.heap.size, 0, none⟩ : Addr).block < _ from World.block_lt_of_cell? _ _ q_p0)).trans q_p0, (h.cell (show (⟨w.heap.size, 1, none⟩ : Addr).block < _ from World.block_lt_of_cell? _ _ q_p1)).trans q_p1, (h.cell (show (⟨w.heap.size, 2, none⟩ : Addr).block < _ from World.block_lt_of_cell? _ _ q_p2)).trans q_p2, (h.cell (show (⟨w.heap.size, 3, none⟩ : Addr).block < _ from World.block_lt_of_cell? _ _ q_p3)).trans q_p3, (h.cell (show (⟨w.heap.size, 4, none⟩ : Addr).block < _ from World.block_lt_of_cell? _ _ q_p4)).trans q_p4, (h.cell (show (⟨w.heap.size + 1, 0, none⟩ : Addr).block < _ from World.block_lt_of_cell? _ _ q_q0)).trans q_q0, (h.cell (show (⟨w.heap.size + 1, 1, none⟩ : Addr).block < _ from World.block_lt_of_cell? _ _ q_q1)).trans q_q1, (h.cell (show (⟨w.heap.size + 1, 2, none⟩ : Addr).block < _ from World.block_lt_of_cell? _ _ q_q2)).trans q_q2, (h.cell (show (⟨w.heap.size + 1, 3, none⟩ : Addr).block < _ from World.block_lt_of_cell? _ _ q_q3)).trans q_q3, (h.cell (show (⟨w.heap.size + 1, 4, none⟩ : Addr).block < _ from World.block_lt_of_cell? _ _ q_q4)).trans q_q4, (h.cell (show (⟨w.heap.size + 1 + 1, 0, none⟩ : Addr).block < _ from World.block_lt_of_cell? _ _ q_x0)).trans q_x0, (h.cell (show (⟨w.heap.size + 1 + 1, 1, none⟩ : Addr).block < _ from World.block_lt_of_cell? _ _ q_x1)).trans q_x1, (h.cell (show (⟨w.heap.size + 1 + 1, 2, none⟩ : Addr).block < _ from World.block_lt_of_cell? _ _ q_x2)).trans q_x2, (h.cell (show (⟨w.heap.size + 1 + 1, 3, none⟩ : Addr).block < _ from World.block_lt_of_cell? _ _ q_x3)).trans q_x3, (h.cell (show (⟨w.heap.size + 1 + 1, 4, none⟩ : Addr).block < _ from World.block_lt_of_cell? _ _ q_x4)).trans q_x4, (h.cell (show (⟨w.heap.size + 1 + 1, 5, none⟩ : Addr).block < _ from World.block_lt_of_cell? _ _ q_x5)).trans q_x5⟩)
    have HC := Lib.hid (fun (u1 : Option Addr) (m1 k1 : Nat) (u2 : Option Addr) (m2 k2 : Nat) (u3 : Option Addr) (m3 k3 : Nat) (X : World) (h : ReadP X.heap.size X (.slice u1 m1 k1) (.slice u2 m2 k2) (.slice u3 m3 k3) (⟨bo_p, xs_p, ys_p, zs_p, t_p⟩ : Pol)) => show Calls Tryz.prog 33 #[.agg #[.bool bo_p, .slice u1 m1 k1, .slice u2 m2 k2, .slice u3 m3 k3, .string t_p], .agg #[.int .i64 mk_q, .string mh_q, .string mp_q, .string mf_q, .string mg_q], .agg #[.int .i64 ms_x, .int .i64 mk_x, .string mb_x, .int .i64 mg_x, .bool mh_x, .string mp_x]] X fun e w' => e = .returned (.tuple #[.string T, .bool D]) ∧ Below X.heap.size X w' from (by rw [← HT.out, ← HD.out, ← HM.out]; exact ub_spec bo_p xs_p ys_p zs_p t_p u1 m1 k1 u2 m2 k2 u3 m3 k3 mk_q mh_q mp_q mf_q mg_q ms_x mk_x mb_x mg_x mh_x mp_x r_q HPZ.out HBZ.out X h))
    go_region_held3 (fun w' => Below w_3.heap.size w_3 w' ∧ w'.cell? ⟨w.heap.size, 0, none⟩ = some (.bool bo_p) ∧ w'.cell? ⟨w.heap.size, 1, none⟩ = some (.slice xa_p xn_p xc_p) ∧ w'.cell? ⟨w.heap.size, 2, none⟩ = some (.slice ya_p yn_p yc_p) ∧ w'.cell? ⟨w.heap.size, 3, none⟩ = some (.slice za_p zn_p zc_p) ∧ w'.cell? ⟨w.heap.size, 4, none⟩ = some (.string t_p) ∧ w'.cell? ⟨w.heap.size + 1, 0, none⟩ = some (.int .i64 mk_q) ∧ w'.cell? ⟨w.heap.size + 1, 1, none⟩ = some (.string mh_q) ∧ w'.cell? ⟨w.heap.size + 1, 2, none⟩ = some (.string mp_q) ∧ w'.cell? ⟨w.heap.size + 1, 3, none⟩ = some (.string mf_q) ∧ w'.cell? ⟨w.heap.size + 1, 4, none⟩ = some (.string mg_q) ∧ w'.cell? ⟨w.heap.size + 1 + 1, 0, none⟩ = some (.int .i64 ms_x) ∧ w'.cell? ⟨w.heap.size + 1 + 1, 1, none⟩ = some (.int .i64 mk_x) ∧ w'.cell? ⟨w.heap.size + 1 + 1, 2, none⟩ = some (.string mb_x) ∧ w'.cell? ⟨w.heap.size + 1 + 1, 3, none⟩ = some (.int .i64 mg_x) ∧ w'.cell? ⟨w.heap.size + 1 + 1, 4, none⟩ = some (.bool mh_x) ∧ w'.cell? ⟨w.heap.size + 1 + 1, 5, none⟩ = some (.string mp_x)) (exact KEEP.out _ (by repeat' (first | (with_reducible exact Below.refl _ _) | (with_reducible exact hPE) | (with_reducible exact hPB) | (with_reducible exact hPQ) | (with_reducible exact hPR) | (with_reducible refine bl_dw ?_) | (with_reducible refine bl_aw ?_ _)))) (first | (go_at_call 29; with_reducible refine (toPr_any bo_p t_p HR1_p.out HR2_p.out HR3_p.out HW1_p.out HW2_p.out HW3_p.out (bl_via HB.out HB.out.size (by repeat' (first | (with_reducible exact Below.refl _ _) | (with_reducible exact hPE) | (with_reducible exact hPC) | (with_reducible exact hPB) | (with_reducible refine bl_dw ?_) | (with_reducible refine bl_aw ?_ _))))).mono ?_; rintro e wB ⟨xaB, xnB, xcB, yaB, ynB, ycB, zaB, znB, zcB, rfl, hiB, hbB⟩; have hPB := bl_tr (show Below w_3.heap.size w_3 _ from (by repeat' (first | (with_reducible exact Below.refl _ _) | (with_reducible exact hPE) | (with_reducible exact hPC) | (with_reducible exact hPB) | (with_reducible refine bl_dw ?_) | (with_reducible refine bl_aw ?_ _)))) hbB; skip) | (go_at_call 30; with_reducible refine (toQ_any mk_q mh_q mp_q mf_q mg_q _).mono ?_; rintro e wQ ⟨rfl, hgQ⟩; have hPQ := bl_tr (show Below w_3.heap.size w_3 _ from (by repeat' (first | (with_reducible exact Below.refl _ _) | (with_reducible exact hPE) | (with_reducible exact hPB) | (with_reducible exact hPQ) | (with_reducible exact hPR) | (with_reducible refine bl_dw ?_) | (with_reducible refine bl_aw ?_ _)))) hgQ.below; have hBQ := bl_tr (show Below wB.heap.size wB _ from (by repeat' (first | (with_reducible exact Below.refl _ _) | (with_reducible exact hBQ) | (with_reducible exact hBR) | (with_reducible refine bl_dw ?_) | (with_reducible refine bl_aw ?_ _)))) hgQ.below) | (go_at_call 31; with_reducible refine (toR_any ms_x mk_x mb_x mg_x mh_x mp_x _).mono ?_; rintro e wR ⟨rfl, hgR⟩; have hPR := bl_tr (show Below w_3.heap.size w_3 _ from (by repeat' (first | (with_reducible exact Below.refl _ _) | (with_reducible exact hPE) | (with_reducible exact hPB) | (with_reducible exact hPQ) | (with_reducible exact hPR) | (with_reducible refine bl_dw ?_) | (with_reducible refine bl_aw ?_ _)))) hgR.below; have hBR := bl_tr (show Below wB.heap.size wB _ from (by repeat' (first | (with_reducible exact Below.refl _ _) | (with_reducible exact hBQ) | (with_reducible exact hBR) | (with_reducible refine bl_dw ?_) | (with_reducible refine bl_aw ?_ _)))) hgR.below) | (go_at_call 33; refine (HC.out _ _ _ _ _ _ _ _ _ _ (hiB.up (by repeat' (first | (with_reducible exact Below.refl _ _) | (with_reducible exact hBQ) | (with_reducible exact hBR) | (with_reducible refine bl_dw ?_) | (with_reducible refine bl_aw ?_ _))))).mono ?_; rintro e wE ⟨rfl, hgE⟩; have hPE := bl_tr (show Below w_3.heap.size w_3 _ from (by repeat' (first | (with_reducible exact Below.refl _ _) | (with_reducible exact hPE) | (with_reducible exact hPB) | (with_reducible exact hPQ) | (with_reducible exact hPR) | (with_reducible refine bl_dw ?_) | (with_reducible refine bl_aw ?_ _)))) hgE))
    all_goals
      go_wp2_with fail
      go_meet
      exact ⟨rfl, rfl, by repeat' (first | (with_reducible exact Below.refl _ _) | (with_reducible exact hPE) | (with_reducible exact hPB) | (with_reducible exact hPQ) | (with_reducible exact hPR) | (with_reducible refine bl_dw ?_) | (with_reducible refine bl_aw ?_ _))⟩
  obtain ⟨rfl, rfl, hB⟩ := hcut
  rename World => w_4
  replace q_p0 := (hB.cell (show (⟨w.heap.size, 0, none⟩ : Addr).block < _ from World.block_lt_of_cell? _ _ q_p0)).trans q_p0
  replace q_p1 := (hB.cell (show (⟨w.heap.size, 1, none⟩ : Addr).block < _ from World.block_lt_of_cell? _ _ q_p1)).trans q_p1
  replace q_p2 := (hB.cell (show (⟨w.heap.size, 2, none⟩ : Addr).block < _ from World.block_lt_of_cell? _ _ q_p2)).trans q_p2
  replace q_p3 := (hB.cell (show (⟨w.heap.size, 3, none⟩ : Addr).block < _ from World.block_lt_of_cell? _ _ q_p3)).trans q_p3
  replace q_p4 := (hB.cell (show (⟨w.heap.size, 4, none⟩ : Addr).block < _ from World.block_lt_of_cell? _ _ q_p4)).trans q_p4
  replace b_p : w.heap.size < w_4.heap.size := World.block_lt_of_cell? _ _ q_p0
  replace q_q0 := (hB.cell (show (⟨w.heap.size + 1, 0, none⟩ : Addr).block < _ from World.block_lt_of_cell? _ _ q_q0)).trans q_q0
  replace q_q1 := (hB.cell (show (⟨w.heap.size + 1, 1, none⟩ : Addr).block < _ from World.block_lt_of_cell? _ _ q_q1)).trans q_q1
  replace q_q2 := (hB.cell (show (⟨w.heap.size + 1, 2, none⟩ : Addr).block < _ from World.block_lt_of_cell? _ _ q_q2)).trans q_q2
  replace q_q3 := (hB.cell (show (⟨w.heap.size + 1, 3, none⟩ : Addr).block < _ from World.block_lt_of_cell? _ _ q_q3)).trans q_q3
  replace q_q4 := (hB.cell (show (⟨w.heap.size + 1, 4, none⟩ : Addr).block < _ from World.block_lt_of_cell? _ _ q_q4)).trans q_q4
  replace b_q : w.heap.size + 1 < w_4.heap.size := World.block_lt_of_cell? _ _ q_q0
  replace q_x0 := (hB.cell (show (⟨w.heap.size + 1 + 1, 0, none⟩ : Addr).block < _ from World.block_lt_of_cell? _ _ q_x0)).trans q_x0
  replace q_x1 := (hB.cell (show (⟨w.heap.size + 1 + 1, 1, none⟩ : Addr).block < _ from World.block_lt_of_cell? _ _ q_x1)).trans q_x1
  replace q_x2 := (hB.cell (show (⟨w.heap.size + 1 + 1, 2, none⟩ : Addr).block < _ from World.block_lt_of_cell? _ _ q_x2)).trans q_x2
  replace q_x3 := (hB.cell (show (⟨w.heap.size + 1 + 1, 3, none⟩ : Addr).block < _ from World.block_lt_of_cell? _ _ q_x3)).trans q_x3
  replace q_x4 := (hB.cell (show (⟨w.heap.size + 1 + 1, 4, none⟩ : Addr).block < _ from World.block_lt_of_cell? _ _ q_x4)).trans q_x4
  replace q_x5 := (hB.cell (show (⟨w.heap.size + 1 + 1, 5, none⟩ : Addr).block < _ from World.block_lt_of_cell? _ _ q_x5)).trans q_x5
  replace b_x : w.heap.size + 1 + 1 < w_4.heap.size := World.block_lt_of_cell? _ _ q_x0
  have HS4 := Lib.hid hB.size
  replace HB := Lib.hid (HB.out.trans (hB.mono HB.out.size))
  clear hB
  go_wp2_with fail
  refine (toP_any bo_p t_p ((HR1_p.out.below HB.out (Nat.le_refl _)).mono HB.out.size) ((HR2_p.out.below HB.out (Nat.le_refl _)).mono HB.out.size) ((HR3_p.out.below HB.out (Nat.le_refl _)).mono HB.out.size) HW1_p.out HW2_p.out HW3_p.out).mono ?_
  rintro e w_5 ⟨y1_y, y2_y, y3_y, xa_y, xn_y, xc_y, ya_y, yn_y, yc_y, za_y, zn_y, zc_y, rfl, hf, ho, hn, hb⟩
  have hB := hb
  replace q_p0 := (hB.cell (show (⟨w.heap.size, 0, none⟩ : Addr).block < _ from World.block_lt_of_cell? _ _ q_p0)).trans q_p0
  replace q_p1 := (hB.cell (show (⟨w.heap.size, 1, none⟩ : Addr).block < _ from World.block_lt_of_cell? _ _ q_p1)).trans q_p1
  replace q_p2 := (hB.cell (show (⟨w.heap.size, 2, none⟩ : Addr).block < _ from World.block_lt_of_cell? _ _ q_p2)).trans q_p2
  replace q_p3 := (hB.cell (show (⟨w.heap.size, 3, none⟩ : Addr).block < _ from World.block_lt_of_cell? _ _ q_p3)).trans q_p3
  replace q_p4 := (hB.cell (show (⟨w.heap.size, 4, none⟩ : Addr).block < _ from World.block_lt_of_cell? _ _ q_p4)).trans q_p4
  replace b_p : w.heap.size < w_5.heap.size := World.block_lt_of_cell? _ _ q_p0
  replace q_q0 := (hB.cell (show (⟨w.heap.size + 1, 0, none⟩ : Addr).block < _ from World.block_lt_of_cell? _ _ q_q0)).trans q_q0
  replace q_q1 := (hB.cell (show (⟨w.heap.size + 1, 1, none⟩ : Addr).block < _ from World.block_lt_of_cell? _ _ q_q1)).trans q_q1
  replace q_q2 := (hB.cell (show (⟨w.heap.size + 1, 2, none⟩ : Addr).block < _ from World.block_lt_of_cell? _ _ q_q2)).trans q_q2
  replace q_q3 := (hB.cell (show (⟨w.heap.size + 1, 3, none⟩ : Addr).block < _ from World.block_lt_of_cell? _ _ q_q3)).trans q_q3
  replace q_q4 := (hB.cell (show (⟨w.heap.size + 1, 4, none⟩ : Addr).block < _ from World.block_lt_of_cell? _ _ q_q4)).trans q_q4
  replace b_q : w.heap.size + 1 < w_5.heap.size := World.block_lt_of_cell? _ _ q_q0
  replace q_x0 := (hB.cell (show (⟨w.heap.size + 1 + 1, 0, none⟩ : Addr).block < _ from World.block_lt_of_cell? _ _ q_x0)).trans q_x0
  replace q_x1 := (hB.cell (show (⟨w.heap.size + 1 + 1, 1, none⟩ : Addr).block < _ from World.block_lt_of_cell? _ _ q_x1)).trans q_x1
  replace q_x2 := (hB.cell (show (⟨w.heap.size + 1 + 1, 2, none⟩ : Addr).block < _ from World.block_lt_of_cell? _ _ q_x2)).trans q_x2
  replace q_x3 := (hB.cell (show (⟨w.heap.size + 1 + 1, 3, none⟩ : Addr).block < _ from World.block_lt_of_cell? _ _ q_x3)).trans q_x3
  replace q_x4 := (hB.cell (show (⟨w.heap.size + 1 + 1, 4, none⟩ : Addr).block < _ from World.block_lt_of_cell? _ _ q_x4)).trans q_x4
  replace q_x5 := (hB.cell (show (⟨w.heap.size + 1 + 1, 5, none⟩ : Addr).block < _ from World.block_lt_of_cell? _ _ q_x5)).trans q_x5
  replace b_x : w.heap.size + 1 + 1 < w_5.heap.size := World.block_lt_of_cell? _ _ q_x0
  have Hy := Lib.hid (ho)
  have HS5 := Lib.hid hB.size
  replace HB := Lib.hid (HB.out.trans (hB.mono HB.out.size))
  have HF_y := Lib.hid hf; have HN_y := Lib.hid hn
  clear hB ho hn hb hf
  go_wp2_with fail
  obtain ⟨w_6, hw⟩ : ∃ x, w_5.alloc (.cells #[.bool bo_p, .slice xa_y xn_y xc_y, .slice ya_y yn_y yc_y, .slice za_y zn_y zc_y, .string t_p] 26) = x := ⟨_, rfl⟩
  rw [hw]
  have hB : Below w_5.heap.size w_5 w_6 := by rw [← hw]; exact (Below.refl _ _).alloc (Nat.le_refl _) _
  have q_y0 : w_6.cell? ⟨w_5.heap.size, 0, none⟩ = some (.bool bo_p) := by rw [← hw]; simp
  have q_y1 : w_6.cell? ⟨w_5.heap.size, 1, none⟩ = some (.slice xa_y xn_y xc_y) := by rw [← hw]; simp
  have q_y2 : w_6.cell? ⟨w_5.heap.size, 2, none⟩ = some (.slice ya_y yn_y yc_y) := by rw [← hw]; simp
  have q_y3 : w_6.cell? ⟨w_5.heap.size, 3, none⟩ = some (.slice za_y zn_y zc_y) := by rw [← hw]; simp
  have q_y4 : w_6.cell? ⟨w_5.heap.size, 4, none⟩ = some (.string t_p) := by rw [← hw]; simp
  have b_y : w_5.heap.size < w_6.heap.size := World.block_lt_of_cell? _ _ q_y0
  replace q_p0 := (hB.cell (show (⟨w.heap.size, 0, none⟩ : Addr).block < _ from World.block_lt_of_cell? _ _ q_p0)).trans q_p0
  replace q_p1 := (hB.cell (show (⟨w.heap.size, 1, none⟩ : Addr).block < _ from World.block_lt_of_cell? _ _ q_p1)).trans q_p1
  replace q_p2 := (hB.cell (show (⟨w.heap.size, 2, none⟩ : Addr).block < _ from World.block_lt_of_cell? _ _ q_p2)).trans q_p2
  replace q_p3 := (hB.cell (show (⟨w.heap.size, 3, none⟩ : Addr).block < _ from World.block_lt_of_cell? _ _ q_p3)).trans q_p3
  replace q_p4 := (hB.cell (show (⟨w.heap.size, 4, none⟩ : Addr).block < _ from World.block_lt_of_cell? _ _ q_p4)).trans q_p4
  replace b_p : w.heap.size < w_6.heap.size := World.block_lt_of_cell? _ _ q_p0
  replace q_q0 := (hB.cell (show (⟨w.heap.size + 1, 0, none⟩ : Addr).block < _ from World.block_lt_of_cell? _ _ q_q0)).trans q_q0
  replace q_q1 := (hB.cell (show (⟨w.heap.size + 1, 1, none⟩ : Addr).block < _ from World.block_lt_of_cell? _ _ q_q1)).trans q_q1
  replace q_q2 := (hB.cell (show (⟨w.heap.size + 1, 2, none⟩ : Addr).block < _ from World.block_lt_of_cell? _ _ q_q2)).trans q_q2
  replace q_q3 := (hB.cell (show (⟨w.heap.size + 1, 3, none⟩ : Addr).block < _ from World.block_lt_of_cell? _ _ q_q3)).trans q_q3
  replace q_q4 := (hB.cell (show (⟨w.heap.size + 1, 4, none⟩ : Addr).block < _ from World.block_lt_of_cell? _ _ q_q4)).trans q_q4
  replace b_q : w.heap.size + 1 < w_6.heap.size := World.block_lt_of_cell? _ _ q_q0
  replace q_x0 := (hB.cell (show (⟨w.heap.size + 1 + 1, 0, none⟩ : Addr).block < _ from World.block_lt_of_cell? _ _ q_x0)).trans q_x0
  replace q_x1 := (hB.cell (show (⟨w.heap.size + 1 + 1, 1, none⟩ : Addr).block < _ from World.block_lt_of_cell? _ _ q_x1)).trans q_x1
  replace q_x2 := (hB.cell (show (⟨w.heap.size + 1 + 1, 2, none⟩ : Addr).block < _ from World.block_lt_of_cell? _ _ q_x2)).trans q_x2
  replace q_x3 := (hB.cell (show (⟨w.heap.size + 1 + 1, 3, none⟩ : Addr).block < _ from World.block_lt_of_cell? _ _ q_x3)).trans q_x3
  replace q_x4 := (hB.cell (show (⟨w.heap.size + 1 + 1, 4, none⟩ : Addr).block < _ from World.block_lt_of_cell? _ _ q_x4)).trans q_x4
  replace q_x5 := (hB.cell (show (⟨w.heap.size + 1 + 1, 5, none⟩ : Addr).block < _ from World.block_lt_of_cell? _ _ q_x5)).trans q_x5
  replace b_x : w.heap.size + 1 + 1 < w_6.heap.size := World.block_lt_of_cell? _ _ q_x0
  replace Hy := Lib.hid (ownL_later Hy.out hB)
  have HS6 := Lib.hid hB.size
  replace HB := Lib.hid (HB.out.trans (hB.mono HB.out.size))
  clear hB hw
  have HSb_y := Lib.hid b_y
  go_upto_region 13 with (fail)
  go_cut [11, 12] from 40 to 48 (fun c0 c1 wx => c0 = .string T ∧ c1 = .bool D ∧ Below w_6.heap.size w_6 wx)
  case first =>
    have KEEP := Lib.hid (fun (w' : World) (h : Below w_6.heap.size w_6 w') => show Below w_6.heap.size w_6 w' ∧ w'.cell? ⟨w.heap.size, 0, none⟩ = some (.bool bo_p) ∧ w'.cell? ⟨w.heap.size, 1, none⟩ = some (.slice xa_p xn_p xc_p) ∧ w'.cell? ⟨w.heap.size, 2, none⟩ = some (.slice ya_p yn_p yc_p) ∧ w'.cell? ⟨w.heap.size, 3, none⟩ = some (.slice za_p zn_p zc_p) ∧ w'.cell? ⟨w.heap.size, 4, none⟩ = some (.string t_p) ∧ w'.cell? ⟨w.heap.size + 1, 0, none⟩ = some (.int .i64 mk_q) ∧ w'.cell? ⟨w.heap.size + 1, 1, none⟩ = some (.string mh_q) ∧ w'.cell? ⟨w.heap.size + 1, 2, none⟩ = some (.string mp_q) ∧ w'.cell? ⟨w.heap.size + 1, 3, none⟩ = some (.string mf_q) ∧ w'.cell? ⟨w.heap.size + 1, 4, none⟩ = some (.string mg_q) ∧ w'.cell? ⟨w.heap.size + 1 + 1, 0, none⟩ = some (.int .i64 ms_x) ∧ w'.cell? ⟨w.heap.size + 1 + 1, 1, none⟩ = some (.int .i64 mk_x) ∧ w'.cell? ⟨w.heap.size + 1 + 1, 2, none⟩ = some (.string mb_x) ∧ w'.cell? ⟨w.heap.size + 1 + 1, 3, none⟩ = some (.int .i64 mg_x) ∧ w'.cell? ⟨w.heap.size + 1 + 1, 4, none⟩ = some (.bool mh_x) ∧ w'.cell? ⟨w.heap.size + 1 + 1, 5, none⟩ = some (.string mp_x) ∧ w'.cell? ⟨w_5.heap.size, 0, none⟩ = some (.bool bo_p) ∧ w'.cell? ⟨w_5.heap.size, 1, none⟩ = some (.slice xa_y xn_y xc_y) ∧ w'.cell? ⟨w_5.heap.size, 2, none⟩ = some (.slice ya_y yn_y yc_y) ∧ w'.cell? ⟨w_5.heap.size, 3, none⟩ = some (.slice za_y zn_y zc_y) ∧ w'.cell? ⟨w_5.heap.size, 4, none⟩ = some (.string t_p) from ⟨h, (h.cell (show (⟨w.heap.size, 0, none⟩ : Addr).block < _ from World.block_lt_of_cell? _ _ q_p0)).trans q_p0, (h.cell (show (⟨w.heap.size, 1, none⟩ : Addr).block < _ from World.block_lt_of_cell? _ _ q_p1)).trans q_p1, (h.cell (show (⟨w.heap.size, 2, none⟩ : Addr).block < _ from World.block_lt_of_cell? _ _ q_p2)).trans q_p2, (h.cell (show (⟨w.heap.size, 3, none⟩ : Addr).block < _ from World.block_lt_of_cell? _ _ q_p3)).trans q_p3, (h.cell (show (⟨w.heap.size, 4, none⟩ : Addr).block < _ from World.block_lt_of_cell? _ _ q_p4)).trans q_p4, (h.cell (show (⟨w.heap.size + 1, 0, none⟩ : Addr).block < _ from World.block_lt_of_cell? _ _ q_q0)).trans q_q0, (h.cell (show (⟨w.heap.size + 1, 1, none⟩ : Addr).block < _ from World.block_lt_of_cell? _ _ q_q1)).trans q_q1, (h.cell (show (⟨w.heap.size + 1, 2, none⟩ : Addr).block < _ from World.block_lt_of_cell? _ _ q_q2)).trans q_q2, (h.cell (show (⟨w.heap.size + 1, 3, none⟩ : Addr).block < _ from World.block_lt_of_cell? _ _ q_q3)).trans q_q3, (h.cell (show (⟨w.heap.size + 1, 4, none⟩ : Addr).block < _ from World.block_lt_of_cell? _ _ q_q4)).trans q_q4, (h.cell (show (⟨w.heap.size + 1 + 1, 0, none⟩ : Addr).block < _ from World.block_lt_of_cell? _ _ q_x0)).trans q_x0, (h.cell (show (⟨w.heap.size + 1 + 1, 1, none⟩ : Addr).block < _ from World.block_lt_of_cell? _ _ q_x1)).trans q_x1, (h.cell (show (⟨w.heap.size + 1 + 1, 2, none⟩ : Addr).block < _ from World.block_lt_of_cell? _ _ q_x2)).trans q_x2, (h.cell (show (⟨w.heap.size + 1 + 1, 3, none⟩ : Addr).block < _ from World.block_lt_of_cell? _ _ q_x3)).trans q_x3, (h.cell (show (⟨w.heap.size + 1 + 1, 4, none⟩ : Addr).block < _ from World.block_lt_of_cell? _ _ q_x4)).trans q_x4, (h.cell (show (⟨w.heap.size + 1 + 1, 5, none⟩ : Addr).block < _ from World.block_lt_of_cell? _ _ q_x5)).trans q_x5, (h.cell (show (⟨w_5.heap.size, 0, none⟩ : Addr).block < _ from World.block_lt_of_cell? _ _ q_y0)).trans q_y0, (h.cell (show (⟨w_5.heap.size, 1, none⟩ : Addr).block < _ from World.block_lt_of_cell? _ _ q_y1)).trans q_y1, (h.cell (show (⟨w_5.heap.size, 2, none⟩ : Addr).block < _ from World.block_lt_of_cell? _ _ q_y2)).trans q_y2, (h.cell (show (⟨w_5.heap.size, 3, none⟩ : Addr).block < _ from World.block_lt_of_cell? _ _ q_y3)).trans q_y3, (h.cell (show (⟨w_5.heap.size, 4, none⟩ : Addr).block < _ from World.block_lt_of_cell? _ _ q_y4)).trans q_y4⟩)
    have HC := Lib.hid (fun (u1 : Option Addr) (m1 k1 : Nat) (u2 : Option Addr) (m2 k2 : Nat) (u3 : Option Addr) (m3 k3 : Nat) (X : World) (h : ReadP X.heap.size X (.slice u1 m1 k1) (.slice u2 m2 k2) (.slice u3 m3 k3) (⟨bo_p, xs_p, ys_p, zs_p, t_p⟩ : Pol)) (m0 : Max0 X) (t0 : Lib.TabIs Tryz.prog X "internal/strconv.uint64pow10" .u64 Lib.pow10Tab) => show Calls Tryz.prog 13 #[.agg #[.bool bo_p, .slice u1 m1 k1, .slice u2 m2 k2, .slice u3 m3 k3, .string t_p], .agg #[.int .i64 mk_q, .string mh_q, .string mp_q, .string mf_q, .string mg_q], .agg #[.int .i64 ms_x, .int .i64 mk_x, .string mb_x, .int .i64 mg_x, .bool mh_x, .string mp_x]] X fun e w' => e = .returned (.tuple #[.string T, .bool D]) ∧ Below X.heap.size X w' from (by rw [← HT.out, ← HD.out, ← HM.out]; exact ub_impl bo_p xs_p ys_p zs_p t_p u1 m1 k1 u2 m2 k2 u3 m3 k3 mk_q mh_q mp_q mf_q mg_q ms_x mk_x mb_x mg_x mh_x mp_x r_q HPZ.out HBZ.out X h m0 t0))
    go_region_held3 (fun w' => Below w_6.heap.size w_6 w' ∧ w'.cell? ⟨w.heap.size, 0, none⟩ = some (.bool bo_p) ∧ w'.cell? ⟨w.heap.size, 1, none⟩ = some (.slice xa_p xn_p xc_p) ∧ w'.cell? ⟨w.heap.size, 2, none⟩ = some (.slice ya_p yn_p yc_p) ∧ w'.cell? ⟨w.heap.size, 3, none⟩ = some (.slice za_p zn_p zc_p) ∧ w'.cell? ⟨w.heap.size, 4, none⟩ = some (.string t_p) ∧ w'.cell? ⟨w.heap.size + 1, 0, none⟩ = some (.int .i64 mk_q) ∧ w'.cell? ⟨w.heap.size + 1, 1, none⟩ = some (.string mh_q) ∧ w'.cell? ⟨w.heap.size + 1, 2, none⟩ = some (.string mp_q) ∧ w'.cell? ⟨w.heap.size + 1, 3, none⟩ = some (.string mf_q) ∧ w'.cell? ⟨w.heap.size + 1, 4, none⟩ = some (.string mg_q) ∧ w'.cell? ⟨w.heap.size + 1 + 1, 0, none⟩ = some (.int .i64 ms_x) ∧ w'.cell? ⟨w.heap.size + 1 + 1, 1, none⟩ = some (.int .i64 mk_x) ∧ w'.cell? ⟨w.heap.size + 1 + 1, 2, none⟩ = some (.string mb_x) ∧ w'.cell? ⟨w.heap.size + 1 + 1, 3, none⟩ = some (.int .i64 mg_x) ∧ w'.cell? ⟨w.heap.size + 1 + 1, 4, none⟩ = some (.bool mh_x) ∧ w'.cell? ⟨w.heap.size + 1 + 1, 5, none⟩ = some (.string mp_x) ∧ w'.cell? ⟨w_5.heap.size, 0, none⟩ = some (.bool bo_p) ∧ w'.cell? ⟨w_5.heap.size, 1, none⟩ = some (.slice xa_y xn_y xc_y) ∧ w'.cell? ⟨w_5.heap.size, 2, none⟩ = some (.slice ya_y yn_y yc_y) ∧ w'.cell? ⟨w_5.heap.size, 3, none⟩ = some (.slice za_y zn_y zc_y) ∧ w'.cell? ⟨w_5.heap.size, 4, none⟩ = some (.string t_p)) (exact KEEP.out _ (by repeat' (first | (with_reducible exact Below.refl _ _) | (with_reducible exact hPE) | (with_reducible exact hPB) | (with_reducible exact hPQ) | (with_reducible exact hPR) | (with_reducible refine bl_dw ?_) | (with_reducible refine bl_aw ?_ _)))) (first | (go_at_call 30; with_reducible refine (toQ_any mk_q mh_q mp_q mf_q mg_q _).mono ?_; rintro e wQ ⟨rfl, hgQ⟩; have hPQ := bl_tr (show Below w_6.heap.size w_6 _ from (by repeat' (first | (with_reducible exact Below.refl _ _) | (with_reducible exact hPE) | (with_reducible exact hPB) | (with_reducible exact hPQ) | (with_reducible exact hPR) | (with_reducible refine bl_dw ?_) | (with_reducible refine bl_aw ?_ _)))) hgQ.below) | (go_at_call 31; with_reducible refine (toR_any ms_x mk_x mb_x mg_x mh_x mp_x _).mono ?_; rintro e wR ⟨rfl, hgR⟩; have hPR := bl_tr (show Below w_6.heap.size w_6 _ from (by repeat' (first | (with_reducible exact Below.refl _ _) | (with_reducible exact hPE) | (with_reducible exact hPB) | (with_reducible exact hPQ) | (with_reducible exact hPR) | (with_reducible refine bl_dw ?_) | (with_reducible refine bl_aw ?_ _)))) hgR.below) | (go_at_call 13; refine (HC.out _ _ _ _ _ _ _ _ _ _ ((HF_y.out.reads Hy.out bo_p t_p).up (by repeat' (first | (with_reducible exact Below.refl _ _) | (with_reducible exact hPE) | (with_reducible exact hPB) | (with_reducible exact hPQ) | (with_reducible exact hPR) | (with_reducible refine bl_dw ?_) | (with_reducible refine bl_aw ?_ _)))) (HMX.out.on (bl_via HB.out HB.out.size (by repeat' (first | (with_reducible exact Below.refl _ _) | (with_reducible exact hPE) | (with_reducible exact hPB) | (with_reducible exact hPQ) | (with_reducible exact hPR) | (with_reducible refine bl_dw ?_) | (with_reducible refine bl_aw ?_ _))))) (HTB.out _ (bl_via HB.out HB.out.size (by repeat' (first | (with_reducible exact Below.refl _ _) | (with_reducible exact hPE) | (with_reducible exact hPB) | (with_reducible exact hPQ) | (with_reducible exact hPR) | (with_reducible refine bl_dw ?_) | (with_reducible refine bl_aw ?_ _)))))).mono ?_; rintro e wE ⟨rfl, hgE⟩; have hPE := bl_tr (show Below w_6.heap.size w_6 _ from (by repeat' (first | (with_reducible exact Below.refl _ _) | (with_reducible exact hPE) | (with_reducible exact hPB) | (with_reducible exact hPQ) | (with_reducible exact hPR) | (with_reducible refine bl_dw ?_) | (with_reducible refine bl_aw ?_ _)))) hgE))
    all_goals
      go_wp2_with fail
      go_meet
      exact ⟨rfl, rfl, by repeat' (first | (with_reducible exact Below.refl _ _) | (with_reducible exact hPE) | (with_reducible exact hPB) | (with_reducible exact hPQ) | (with_reducible exact hPR) | (with_reducible refine bl_dw ?_) | (with_reducible refine bl_aw ?_ _))⟩
  obtain ⟨rfl, rfl, hB⟩ := hcut
  rename World => w_7
  replace q_p0 := (hB.cell (show (⟨w.heap.size, 0, none⟩ : Addr).block < _ from World.block_lt_of_cell? _ _ q_p0)).trans q_p0
  replace q_p1 := (hB.cell (show (⟨w.heap.size, 1, none⟩ : Addr).block < _ from World.block_lt_of_cell? _ _ q_p1)).trans q_p1
  replace q_p2 := (hB.cell (show (⟨w.heap.size, 2, none⟩ : Addr).block < _ from World.block_lt_of_cell? _ _ q_p2)).trans q_p2
  replace q_p3 := (hB.cell (show (⟨w.heap.size, 3, none⟩ : Addr).block < _ from World.block_lt_of_cell? _ _ q_p3)).trans q_p3
  replace q_p4 := (hB.cell (show (⟨w.heap.size, 4, none⟩ : Addr).block < _ from World.block_lt_of_cell? _ _ q_p4)).trans q_p4
  replace b_p : w.heap.size < w_7.heap.size := World.block_lt_of_cell? _ _ q_p0
  replace q_q0 := (hB.cell (show (⟨w.heap.size + 1, 0, none⟩ : Addr).block < _ from World.block_lt_of_cell? _ _ q_q0)).trans q_q0
  replace q_q1 := (hB.cell (show (⟨w.heap.size + 1, 1, none⟩ : Addr).block < _ from World.block_lt_of_cell? _ _ q_q1)).trans q_q1
  replace q_q2 := (hB.cell (show (⟨w.heap.size + 1, 2, none⟩ : Addr).block < _ from World.block_lt_of_cell? _ _ q_q2)).trans q_q2
  replace q_q3 := (hB.cell (show (⟨w.heap.size + 1, 3, none⟩ : Addr).block < _ from World.block_lt_of_cell? _ _ q_q3)).trans q_q3
  replace q_q4 := (hB.cell (show (⟨w.heap.size + 1, 4, none⟩ : Addr).block < _ from World.block_lt_of_cell? _ _ q_q4)).trans q_q4
  replace b_q : w.heap.size + 1 < w_7.heap.size := World.block_lt_of_cell? _ _ q_q0
  replace q_x0 := (hB.cell (show (⟨w.heap.size + 1 + 1, 0, none⟩ : Addr).block < _ from World.block_lt_of_cell? _ _ q_x0)).trans q_x0
  replace q_x1 := (hB.cell (show (⟨w.heap.size + 1 + 1, 1, none⟩ : Addr).block < _ from World.block_lt_of_cell? _ _ q_x1)).trans q_x1
  replace q_x2 := (hB.cell (show (⟨w.heap.size + 1 + 1, 2, none⟩ : Addr).block < _ from World.block_lt_of_cell? _ _ q_x2)).trans q_x2
  replace q_x3 := (hB.cell (show (⟨w.heap.size + 1 + 1, 3, none⟩ : Addr).block < _ from World.block_lt_of_cell? _ _ q_x3)).trans q_x3
  replace q_x4 := (hB.cell (show (⟨w.heap.size + 1 + 1, 4, none⟩ : Addr).block < _ from World.block_lt_of_cell? _ _ q_x4)).trans q_x4
  replace q_x5 := (hB.cell (show (⟨w.heap.size + 1 + 1, 5, none⟩ : Addr).block < _ from World.block_lt_of_cell? _ _ q_x5)).trans q_x5
  replace b_x : w.heap.size + 1 + 1 < w_7.heap.size := World.block_lt_of_cell? _ _ q_x0
  replace q_y0 := (hB.cell (show (⟨w_5.heap.size, 0, none⟩ : Addr).block < _ from World.block_lt_of_cell? _ _ q_y0)).trans q_y0
  replace q_y1 := (hB.cell (show (⟨w_5.heap.size, 1, none⟩ : Addr).block < _ from World.block_lt_of_cell? _ _ q_y1)).trans q_y1
  replace q_y2 := (hB.cell (show (⟨w_5.heap.size, 2, none⟩ : Addr).block < _ from World.block_lt_of_cell? _ _ q_y2)).trans q_y2
  replace q_y3 := (hB.cell (show (⟨w_5.heap.size, 3, none⟩ : Addr).block < _ from World.block_lt_of_cell? _ _ q_y3)).trans q_y3
  replace q_y4 := (hB.cell (show (⟨w_5.heap.size, 4, none⟩ : Addr).block < _ from World.block_lt_of_cell? _ _ q_y4)).trans q_y4
  replace b_y : w_5.heap.size < w_7.heap.size := World.block_lt_of_cell? _ _ q_y0
  replace Hy := Lib.hid (ownL_later Hy.out hB)
  have HS7 := Lib.hid hB.size
  replace HB := Lib.hid (HB.out.trans (hB.mono HB.out.size))
  clear hB
  go_upto_region 16 with (fail)
  go_cut [61] from 57 to 61 (fun c wx => c = .bool false ∧ Below w_7.heap.size w_7 wx)
  case first =>
    have hread1 := (((HR1_p.out.below HB.out (Nat.le_refl _)).mono HB.out.size)).grw (Nat.le_refl _) (Grw.refl _).drew
    have hread2 := (((HR2_p.out.below HB.out (Nat.le_refl _)).mono HB.out.size)).grw (Nat.le_refl _) (Grw.refl _).drew
    have hread3 := (((HR3_p.out.below HB.out (Nat.le_refl _)).mono HB.out.size)).grw (Nat.le_refl _) (Grw.refl _).drew
    go_region_with (first | (go_at_call 29; refine (toP_any bo_p t_p ?_ ?_ ?_ HW1_p.out HW2_p.out HW3_p.out).mono ?_; (exact hread1); (exact hread2); (exact hread3); rintro e w_A ⟨y1_w, y2_w, y3_w, xa_w, xn_w, xc_w, ya_w, yn_w, yc_w, za_w, zn_w, zc_w, rfl, hf_w, ho_w, hn_w, hb_w⟩; have hO := ownL_later Hy.out (below_undrew hb_w); have hsA := (below_undrew hb_w).size; (first | have qA_p0 := (hb_w.cell (p := ⟨w.heap.size, 0, none⟩) b_p).trans q_p0 | skip); (first | have qA_p1 := (hb_w.cell (p := ⟨w.heap.size, 1, none⟩) b_p).trans q_p1 | skip); (first | have qA_p2 := (hb_w.cell (p := ⟨w.heap.size, 2, none⟩) b_p).trans q_p2 | skip); (first | have qA_p3 := (hb_w.cell (p := ⟨w.heap.size, 3, none⟩) b_p).trans q_p3 | skip); (first | have qA_p4 := (hb_w.cell (p := ⟨w.heap.size, 4, none⟩) b_p).trans q_p4 | skip); (first | have qA_q0 := (hb_w.cell (p := ⟨w.heap.size + 1, 0, none⟩) b_q).trans q_q0 | skip); (first | have qA_q1 := (hb_w.cell (p := ⟨w.heap.size + 1, 1, none⟩) b_q).trans q_q1 | skip); (first | have qA_q2 := (hb_w.cell (p := ⟨w.heap.size + 1, 2, none⟩) b_q).trans q_q2 | skip); (first | have qA_q3 := (hb_w.cell (p := ⟨w.heap.size + 1, 3, none⟩) b_q).trans q_q3 | skip); (first | have qA_q4 := (hb_w.cell (p := ⟨w.heap.size + 1, 4, none⟩) b_q).trans q_q4 | skip); (first | have qA_x0 := (hb_w.cell (p := ⟨w.heap.size + 1 + 1, 0, none⟩) b_x).trans q_x0 | skip); (first | have qA_x1 := (hb_w.cell (p := ⟨w.heap.size + 1 + 1, 1, none⟩) b_x).trans q_x1 | skip); (first | have qA_x2 := (hb_w.cell (p := ⟨w.heap.size + 1 + 1, 2, none⟩) b_x).trans q_x2 | skip); (first | have qA_x3 := (hb_w.cell (p := ⟨w.heap.size + 1 + 1, 3, none⟩) b_x).trans q_x3 | skip); (first | have qA_x4 := (hb_w.cell (p := ⟨w.heap.size + 1 + 1, 4, none⟩) b_x).trans q_x4 | skip); (first | have qA_x5 := (hb_w.cell (p := ⟨w.heap.size + 1 + 1, 5, none⟩) b_x).trans q_x5 | skip); (first | have qA_y0 := (hb_w.cell (p := ⟨w_5.heap.size, 0, none⟩) b_y).trans q_y0 | skip); (first | have qA_y1 := (hb_w.cell (p := ⟨w_5.heap.size, 1, none⟩) b_y).trans q_y1 | skip); (first | have qA_y2 := (hb_w.cell (p := ⟨w_5.heap.size, 2, none⟩) b_y).trans q_y2 | skip); (first | have qA_y3 := (hb_w.cell (p := ⟨w_5.heap.size, 3, none⟩) b_y).trans q_y3 | skip); (first | have qA_y4 := (hb_w.cell (p := ⟨w_5.heap.size, 4, none⟩) b_y).trans q_y4 | skip)) | (go_at_call 32; refine (eqPo bo_p t_p HF_y.out hf_w hO ho_w).mono ?_; rintro e w_C ⟨rfl, hgC⟩))
    all_goals
      have hB := (below_undrew hb_w).trans (hgC.below.mono hsA)
      go_wp2_with fail
      go_meet
      exact ⟨rfl, hB⟩
  obtain ⟨rfl, hB⟩ := hcut
  rename World => w_8
  replace q_p0 := (hB.cell (show (⟨w.heap.size, 0, none⟩ : Addr).block < _ from World.block_lt_of_cell? _ _ q_p0)).trans q_p0
  replace q_p1 := (hB.cell (show (⟨w.heap.size, 1, none⟩ : Addr).block < _ from World.block_lt_of_cell? _ _ q_p1)).trans q_p1
  replace q_p2 := (hB.cell (show (⟨w.heap.size, 2, none⟩ : Addr).block < _ from World.block_lt_of_cell? _ _ q_p2)).trans q_p2
  replace q_p3 := (hB.cell (show (⟨w.heap.size, 3, none⟩ : Addr).block < _ from World.block_lt_of_cell? _ _ q_p3)).trans q_p3
  replace q_p4 := (hB.cell (show (⟨w.heap.size, 4, none⟩ : Addr).block < _ from World.block_lt_of_cell? _ _ q_p4)).trans q_p4
  replace b_p : w.heap.size < w_8.heap.size := World.block_lt_of_cell? _ _ q_p0
  replace q_q0 := (hB.cell (show (⟨w.heap.size + 1, 0, none⟩ : Addr).block < _ from World.block_lt_of_cell? _ _ q_q0)).trans q_q0
  replace q_q1 := (hB.cell (show (⟨w.heap.size + 1, 1, none⟩ : Addr).block < _ from World.block_lt_of_cell? _ _ q_q1)).trans q_q1
  replace q_q2 := (hB.cell (show (⟨w.heap.size + 1, 2, none⟩ : Addr).block < _ from World.block_lt_of_cell? _ _ q_q2)).trans q_q2
  replace q_q3 := (hB.cell (show (⟨w.heap.size + 1, 3, none⟩ : Addr).block < _ from World.block_lt_of_cell? _ _ q_q3)).trans q_q3
  replace q_q4 := (hB.cell (show (⟨w.heap.size + 1, 4, none⟩ : Addr).block < _ from World.block_lt_of_cell? _ _ q_q4)).trans q_q4
  replace b_q : w.heap.size + 1 < w_8.heap.size := World.block_lt_of_cell? _ _ q_q0
  replace q_x0 := (hB.cell (show (⟨w.heap.size + 1 + 1, 0, none⟩ : Addr).block < _ from World.block_lt_of_cell? _ _ q_x0)).trans q_x0
  replace q_x1 := (hB.cell (show (⟨w.heap.size + 1 + 1, 1, none⟩ : Addr).block < _ from World.block_lt_of_cell? _ _ q_x1)).trans q_x1
  replace q_x2 := (hB.cell (show (⟨w.heap.size + 1 + 1, 2, none⟩ : Addr).block < _ from World.block_lt_of_cell? _ _ q_x2)).trans q_x2
  replace q_x3 := (hB.cell (show (⟨w.heap.size + 1 + 1, 3, none⟩ : Addr).block < _ from World.block_lt_of_cell? _ _ q_x3)).trans q_x3
  replace q_x4 := (hB.cell (show (⟨w.heap.size + 1 + 1, 4, none⟩ : Addr).block < _ from World.block_lt_of_cell? _ _ q_x4)).trans q_x4
  replace q_x5 := (hB.cell (show (⟨w.heap.size + 1 + 1, 5, none⟩ : Addr).block < _ from World.block_lt_of_cell? _ _ q_x5)).trans q_x5
  replace b_x : w.heap.size + 1 + 1 < w_8.heap.size := World.block_lt_of_cell? _ _ q_x0
  replace q_y0 := (hB.cell (show (⟨w_5.heap.size, 0, none⟩ : Addr).block < _ from World.block_lt_of_cell? _ _ q_y0)).trans q_y0
  replace q_y1 := (hB.cell (show (⟨w_5.heap.size, 1, none⟩ : Addr).block < _ from World.block_lt_of_cell? _ _ q_y1)).trans q_y1
  replace q_y2 := (hB.cell (show (⟨w_5.heap.size, 2, none⟩ : Addr).block < _ from World.block_lt_of_cell? _ _ q_y2)).trans q_y2
  replace q_y3 := (hB.cell (show (⟨w_5.heap.size, 3, none⟩ : Addr).block < _ from World.block_lt_of_cell? _ _ q_y3)).trans q_y3
  replace q_y4 := (hB.cell (show (⟨w_5.heap.size, 4, none⟩ : Addr).block < _ from World.block_lt_of_cell? _ _ q_y4)).trans q_y4
  replace b_y : w_5.heap.size < w_8.heap.size := World.block_lt_of_cell? _ _ q_y0
  replace Hy := Lib.hid (ownL_later Hy.out hB)
  have HS8 := Lib.hid hB.size
  replace HB := Lib.hid (HB.out.trans (hB.mono HB.out.size))
  clear hB
  go_wp2_with fail
  go_ret
  exact ⟨rfl, HB.out⟩

end Go.Proofs.YtkjjiinccljhjaaGreatDoor
namespace Go.Proofs.YtkjjiinccljhjaaGreatDoor
open Go.ChangeShapes Go.WideShapes Go.ChangeAt Go.RowKit

theorem gPow : Tryz.prog.globalNamed "internal/strconv.uint64pow10" = some 1 := by kernel_rfl
theorem tPow : (Tryz.prog.globals[1]?).map (·.type) = some 276 := by kernel_rfl
theorem powData {H : Type} : (Rows.laid_internal_strconv_uint64pow10 : DataW H) = Lib.tabData .u64 Lib.pow10Tab := by rfl
theorem powTab {rest : List (String × DataW Unit)} {W : World} (h : laidMet Tryz.prog (("internal/strconv.uint64pow10", Rows.laid_internal_strconv_uint64pow10) :: rest) W) : Lib.TabIs Tryz.prog W "internal/strconv.uint64pow10" .u64 Lib.pow10Tab := by
  rw [powData] at h
  exact Lib.tabIs_of_head gPow tPow Tryz.underlying276 Tryz.underlying263 (by kernel_rfl) (by kernel_rfl) h

def laid3 : List (String × DataW Unit) := [("math/bits.deBruijn32tab", Rows.laid_math_bits_deBruijn32tab), ("math/bits.deBruijn64tab", Rows.laid_math_bits_deBruijn64tab), ("internal/strconv.uint64pow10", Rows.laid_internal_strconv_uint64pow10)]
theorem plain3 {W : World} (h : laidMetH Tryz.prog laid3 W) : laidMet Tryz.prog laid3 W := by
  rw [MakeChecks.laidMetH_plain _ _ _ (by kernel_rfl)] at h; exact h
theorem tab_of_laid3 {W : World} (h : laidMetH Tryz.prog laid3 W) : Lib.TabIs Tryz.prog W "internal/strconv.uint64pow10" .u64 Lib.pow10Tab := powTab (plain3 h).tail.tail

end Go.Proofs.YtkjjiinccljhjaaGreatDoor
namespace Go.Proofs.YtkjjiinccljhjaaGreatDoor
open Go.ChangeShapes Go.WideShapes Go.ChangeAt Go.RowKit

def laid5 : List (String × DataW Unit) := [("math/bits.deBruijn32tab", Rows.laid_math_bits_deBruijn32tab), ("math/bits.deBruijn64tab", Rows.laid_math_bits_deBruijn64tab), ("internal/strconv.uint64pow10", Rows.laid_internal_strconv_uint64pow10), ("unicode/utf8.acceptRanges", Rows.laid_unicode_utf8_acceptRanges), ("unicode/utf8.first", Rows.laid_unicode_utf8_first)]
theorem plain5 {W : World} (h : laidMetH Tryz.prog laid5 W) : laidMet Tryz.prog laid5 W := by
  rw [MakeChecks.laidMetH_plain _ _ _ (by kernel_rfl)] at h; exact h
theorem tab_of_laid5 {W : World} (h : laidMetH Tryz.prog laid5 W) : Lib.TabIs Tryz.prog W "internal/strconv.uint64pow10" .u64 Lib.pow10Tab := powTab (plain5 h).tail.tail

end Go.Proofs.YtkjjiinccljhjaaGreatDoor
namespace Go.Proofs.YtkjjiinccljhjaaGreatDoor
theorem handed_both {H : Type} {enc : TypeId × Value → H} {a : Assume} {C : Checked} {os : Os} {f : FuncId} {fn : Func} {s : ChangeSpec} {conds : List PathCond} {apart fresh handsOn again : Bool} {X : World → Array Value → Prop}
    (keepX : ∀ (u v : World) (xs : Array Value), u.heap = v.heap → X u xs → X v xs) (hown : ownKnob C.prog.godebug = none) (hst : os.Started) (hni : C.prog.inits.idxOf? f = none) (hf : C.prog.funcs[f]? = some fn)
    (some_fits : ∃ (w : World) (tape : Tape) (i : Input), w.os = os ∧ (w.forCall tape i).Shaped C.prog ∧ i.vars = [] ∧ Input.okWide C.prog (w.forCall tape i) .any w.heap.size f i ∧
      ((s.pre enc C.prog fn conds apart (w.forCall tape i).memory i.args ∧ X (w.forCall tape i).memory i.args) ∧ sizedMet enc C.prog fn (OpenSpec.ofChange s) apart (w.forCall tape i).memory i.args) ∧ a.holds C.prog (lone (Frame.enter C.prog f i.args .normal) [] (w.forCall tape i)))
    (walk : ∀ (W : World) (base : Nat) (args : Array Value) (ds gs : List (DataW H)) (before : List MemPlace),
      (∀ (j : Nat) t v, fn.params[j]? = some t → args[j]? = some v → Value.okWide C.prog W .any base t v) →
      DataW.Whole enc C.prog fn.params.toList s.vars apart W args.toList ds gs before → X W args → W.ShapedOpen C.prog →
      Calls C.prog f args W fun e W' => ∃ v, e = .returned v ∧ s.post enc C.prog fn apart fresh handsOn again W args v W') :
    ReturnsInHanded a C os f .any (fun w args => (s.pre enc C.prog fn conds apart w args ∧ X w args) ∧ sizedMet enc C.prog fn (OpenSpec.ofChange s) apart w args) (s.post enc C.prog fn apart fresh handsOn again) := by
  refine returnsInHanded_of_calls hown hst hni some_fits fun w tape i _ shape _ fits met _ => ?_
  obtain ⟨_, _, _, g, hg, _, _, _, _, each⟩ := fits
  obtain rfl : g = fn := Option.some.inj (hg.symm.trans hf)
  obtain ⟨⟨⟨ds, gs, before, whole, _⟩, x0⟩, _⟩ := met
  refine (walk (w.forCall tape i) w.heap.size i.args ds gs before each (DataW.Whole.of_heap (w' := w.forCall tape i) (by rfl) whole) (keepX _ _ _ (by rfl) x0) shape).mono ?_
  rintro e W' ⟨v, rfl, hp⟩
  exact ChangeSpec.post_blind hp

end Go.Proofs.YtkjjiinccljhjaaGreatDoor

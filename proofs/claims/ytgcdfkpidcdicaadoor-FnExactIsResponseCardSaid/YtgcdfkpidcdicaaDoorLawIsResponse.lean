/- The walk of the law FnExactIsResponse: it returns true, and writes nothing that was there. -/
import Derived.Test.YtgcdfkpidcdicaaDoorRspI
import Derived.Test.YtgcdfkpidcdicaaDoorRowR
namespace Go.Proofs.YtgcdfkpidcdicaaDoor
open Go.ChangeShapes Go.WideShapes Go.ChangeAt Go.RowKit

set_option maxRecDepth 100000 in
set_option maxHeartbeats 4000000 in
theorem walkIsResponse (ms_x mk_x : Int) (mb_x : ByteArray) (mg_x : Int) (mh_x : Bool) (mp_x : ByteArray) (w : World) (hmx : Max0 w) (r_x : mb_x.size ≤ 9223372036854775807 ∧ mp_x.size ≤ 9223372036854775807) :
    Calls Tryd.prog 5 #[.agg #[.int .i64 ms_x, .int .i64 mk_x, .string mb_x, .int .i64 mg_x, .bool mh_x, .string mp_x]] w fun e w' => e = .returned (.bool true) ∧ Below w.heap.size w w' := by
  obtain ⟨z1_x, z2_x⟩ := r_x
  go_enter Tryd.func5, Tryd.ntmps5
  go_wp2_with fail
  obtain ⟨w_0, hw_0⟩ : ∃ x, (w.alloc (.cells #[.int .i64 ms_x, .int .i64 mk_x, .string mb_x, .int .i64 mg_x, .bool mh_x, .string mp_x] 42)) = x := ⟨_, rfl⟩
  rw [hw_0]
  have HB := Lib.hid (show Below w.heap.size w w_0 by rw [← hw_0]; exact ((Below.refl w.heap.size w).alloc (by first | (simp; done) | (simp; omega)) _))
  have q_x0 : w_0.cell? ⟨w.heap.size, 0, none⟩ = some (.int .i64 ms_x) := by rw [← hw_0]; simp
  have q_x1 : w_0.cell? ⟨w.heap.size, 1, none⟩ = some (.int .i64 mk_x) := by rw [← hw_0]; simp
  have q_x2 : w_0.cell? ⟨w.heap.size, 2, none⟩ = some (.string mb_x) := by rw [← hw_0]; simp
  have q_x3 : w_0.cell? ⟨w.heap.size, 3, none⟩ = some (.int .i64 mg_x) := by rw [← hw_0]; simp
  have q_x4 : w_0.cell? ⟨w.heap.size, 4, none⟩ = some (.bool mh_x) := by rw [← hw_0]; simp
  have q_x5 : w_0.cell? ⟨w.heap.size, 5, none⟩ = some (.string mp_x) := by rw [← hw_0]; simp
  have b_x : w.heap.size < w_0.heap.size := World.block_lt_of_cell? _ _ q_x0
  have HS0 := Lib.hid (show w.heap.size + 1 ≤ w_0.heap.size by rw [← hw_0]; simp)
  clear hw_0
  go_wp2_with fail
  refine (szR_any ms_x mk_x mb_x mg_x mh_x mp_x 1048576 z1_x z2_x (by omega) (by omega) _).mono ?_
  rintro e w_1 ⟨r, rfl, lo_r, hi_r, hb⟩
  have hB := hb
  replace q_x0 := (hB.cell (show (⟨w.heap.size, 0, none⟩ : Addr).block < _ from World.block_lt_of_cell? _ _ q_x0)).trans q_x0
  replace q_x1 := (hB.cell (show (⟨w.heap.size, 1, none⟩ : Addr).block < _ from World.block_lt_of_cell? _ _ q_x1)).trans q_x1
  replace q_x2 := (hB.cell (show (⟨w.heap.size, 2, none⟩ : Addr).block < _ from World.block_lt_of_cell? _ _ q_x2)).trans q_x2
  replace q_x3 := (hB.cell (show (⟨w.heap.size, 3, none⟩ : Addr).block < _ from World.block_lt_of_cell? _ _ q_x3)).trans q_x3
  replace q_x4 := (hB.cell (show (⟨w.heap.size, 4, none⟩ : Addr).block < _ from World.block_lt_of_cell? _ _ q_x4)).trans q_x4
  replace q_x5 := (hB.cell (show (⟨w.heap.size, 5, none⟩ : Addr).block < _ from World.block_lt_of_cell? _ _ q_x5)).trans q_x5
  replace b_x : w.heap.size < w_1.heap.size := World.block_lt_of_cell? _ _ q_x0
  have HS1 := Lib.hid hB.size
  replace HB := Lib.hid (HB.out.trans (hB.mono HB.out.size))
  clear hB
  by_cases neg_r : r < 0
  · go_wp2_with fail
    go_ret
    exact ⟨rfl, HB.out⟩
  replace hi_r := hi_r (by omega)
  have HI_r := Lib.hid hi_r
  have up_r : r ≤ 1048576 := by omega
  clear hi_r
  have hpz : mp_x.size ≤ 1048576 := by have := HI_r.out; omega
  have HMX := Lib.hid hmx; clear hmx
  obtain ⟨M, hM⟩ : ∃ M, isRs ms_x mk_x mb_x mg_x mp_x = M := ⟨_, rfl⟩
  have HM := Lib.hid hM; clear hM
  have hMM : (M == M) = true := beq_self_eq_true _; have hMN : (M != M) = false := bne_self_eq_false _
  go_wp2_with fail
  refine (toR_any ms_x mk_x mb_x mg_x mh_x mp_x _).mono ?_
  rintro e w_2 ⟨rfl, hg⟩
  have hB := Grw.below hg
  replace q_x0 := (hB.cell (show (⟨w.heap.size, 0, none⟩ : Addr).block < _ from World.block_lt_of_cell? _ _ q_x0)).trans q_x0
  replace q_x1 := (hB.cell (show (⟨w.heap.size, 1, none⟩ : Addr).block < _ from World.block_lt_of_cell? _ _ q_x1)).trans q_x1
  replace q_x2 := (hB.cell (show (⟨w.heap.size, 2, none⟩ : Addr).block < _ from World.block_lt_of_cell? _ _ q_x2)).trans q_x2
  replace q_x3 := (hB.cell (show (⟨w.heap.size, 3, none⟩ : Addr).block < _ from World.block_lt_of_cell? _ _ q_x3)).trans q_x3
  replace q_x4 := (hB.cell (show (⟨w.heap.size, 4, none⟩ : Addr).block < _ from World.block_lt_of_cell? _ _ q_x4)).trans q_x4
  replace q_x5 := (hB.cell (show (⟨w.heap.size, 5, none⟩ : Addr).block < _ from World.block_lt_of_cell? _ _ q_x5)).trans q_x5
  replace b_x : w.heap.size < w_2.heap.size := World.block_lt_of_cell? _ _ q_x0
  have HS2 := Lib.hid hB.size
  replace HB := Lib.hid (HB.out.trans (hB.mono HB.out.size))
  clear hB
  go_wp2_with fail
  refine ((HM.out ▸ isRs_spec ms_x mk_x mb_x mg_x mh_x mp_x hpz _)).mono ?_
  rintro e w_3 ⟨rfl, hb⟩
  have hB := hb
  replace q_x0 := (hB.cell (show (⟨w.heap.size, 0, none⟩ : Addr).block < _ from World.block_lt_of_cell? _ _ q_x0)).trans q_x0
  replace q_x1 := (hB.cell (show (⟨w.heap.size, 1, none⟩ : Addr).block < _ from World.block_lt_of_cell? _ _ q_x1)).trans q_x1
  replace q_x2 := (hB.cell (show (⟨w.heap.size, 2, none⟩ : Addr).block < _ from World.block_lt_of_cell? _ _ q_x2)).trans q_x2
  replace q_x3 := (hB.cell (show (⟨w.heap.size, 3, none⟩ : Addr).block < _ from World.block_lt_of_cell? _ _ q_x3)).trans q_x3
  replace q_x4 := (hB.cell (show (⟨w.heap.size, 4, none⟩ : Addr).block < _ from World.block_lt_of_cell? _ _ q_x4)).trans q_x4
  replace q_x5 := (hB.cell (show (⟨w.heap.size, 5, none⟩ : Addr).block < _ from World.block_lt_of_cell? _ _ q_x5)).trans q_x5
  replace b_x : w.heap.size < w_3.heap.size := World.block_lt_of_cell? _ _ q_x0
  have HS3 := Lib.hid hB.size
  replace HB := Lib.hid (HB.out.trans (hB.mono HB.out.size))
  clear hB
  go_wp2_with fail
  refine (toR_any ms_x mk_x mb_x mg_x mh_x mp_x _).mono ?_
  rintro e w_4 ⟨rfl, hg⟩
  have hB := Grw.below hg
  replace q_x0 := (hB.cell (show (⟨w.heap.size, 0, none⟩ : Addr).block < _ from World.block_lt_of_cell? _ _ q_x0)).trans q_x0
  replace q_x1 := (hB.cell (show (⟨w.heap.size, 1, none⟩ : Addr).block < _ from World.block_lt_of_cell? _ _ q_x1)).trans q_x1
  replace q_x2 := (hB.cell (show (⟨w.heap.size, 2, none⟩ : Addr).block < _ from World.block_lt_of_cell? _ _ q_x2)).trans q_x2
  replace q_x3 := (hB.cell (show (⟨w.heap.size, 3, none⟩ : Addr).block < _ from World.block_lt_of_cell? _ _ q_x3)).trans q_x3
  replace q_x4 := (hB.cell (show (⟨w.heap.size, 4, none⟩ : Addr).block < _ from World.block_lt_of_cell? _ _ q_x4)).trans q_x4
  replace q_x5 := (hB.cell (show (⟨w.heap.size, 5, none⟩ : Addr).block < _ from World.block_lt_of_cell? _ _ q_x5)).trans q_x5
  replace b_x : w.heap.size < w_4.heap.size := World.block_lt_of_cell? _ _ q_x0
  have HS4 := Lib.hid hB.size
  replace HB := Lib.hid (HB.out.trans (hB.mono HB.out.size))
  clear hB
  go_wp2_with fail
  refine ((HM.out ▸ isRs_impl ms_x mk_x mb_x mg_x mh_x mp_x hpz _ (HMX.out.on HB.out))).mono ?_
  rintro e w_5 ⟨rfl, hb⟩
  have hB := hb
  replace q_x0 := (hB.cell (show (⟨w.heap.size, 0, none⟩ : Addr).block < _ from World.block_lt_of_cell? _ _ q_x0)).trans q_x0
  replace q_x1 := (hB.cell (show (⟨w.heap.size, 1, none⟩ : Addr).block < _ from World.block_lt_of_cell? _ _ q_x1)).trans q_x1
  replace q_x2 := (hB.cell (show (⟨w.heap.size, 2, none⟩ : Addr).block < _ from World.block_lt_of_cell? _ _ q_x2)).trans q_x2
  replace q_x3 := (hB.cell (show (⟨w.heap.size, 3, none⟩ : Addr).block < _ from World.block_lt_of_cell? _ _ q_x3)).trans q_x3
  replace q_x4 := (hB.cell (show (⟨w.heap.size, 4, none⟩ : Addr).block < _ from World.block_lt_of_cell? _ _ q_x4)).trans q_x4
  replace q_x5 := (hB.cell (show (⟨w.heap.size, 5, none⟩ : Addr).block < _ from World.block_lt_of_cell? _ _ q_x5)).trans q_x5
  replace b_x : w.heap.size < w_5.heap.size := World.block_lt_of_cell? _ _ q_x0
  have HS5 := Lib.hid hB.size
  replace HB := Lib.hid (HB.out.trans (hB.mono HB.out.size))
  clear hB
  go_wp2_with fail
  go_ret
  exact ⟨rfl, HB.out⟩
end Go.Proofs.YtgcdfkpidcdicaaDoor

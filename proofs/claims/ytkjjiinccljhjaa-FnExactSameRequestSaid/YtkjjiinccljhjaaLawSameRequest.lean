/- The walk of the law FnExactSameRequest: it returns true, and writes nothing that was there. -/
import Derived.Test.YtkjjiinccljhjaaRq
import Derived.Test.YtkjjiinccljhjaaRqB
import Derived.Shelf.SlSortCmp.QuietGrown
namespace Go.Proofs.Ytkjjiinccljhjaa
open Go.ChangeShapes Go.WideShapes Go.ChangeAt Go.RowKit

set_option maxRecDepth 100000 in
set_option maxHeartbeats 4000000 in
theorem walkSameRequest (mk_a : Int) (mh_a mp_a mf_a mg_a : ByteArray) (mk_b : Int) (mh_b mp_b mf_b mg_b : ByteArray) (w : World) (r_a : RqOk mh_a mp_a mf_a mg_a) (r_b : RqOk mh_b mp_b mf_b mg_b) :
    Calls Try.prog 6 #[.agg #[.int .i64 mk_a, .string mh_a, .string mp_a, .string mf_a, .string mg_a], .agg #[.int .i64 mk_b, .string mh_b, .string mp_b, .string mf_b, .string mg_b]] w fun e w' => e = .returned (.bool true) ∧ Below w.heap.size w w' := by
  have mixed : Try.prog.follows .mixedOrders = true := by kernel_rfl
  go_enter Try.func6, Try.ntmps6
  go_wp2_with fail
  obtain ⟨w_0, hw_0⟩ : ∃ x, ((w.alloc (.cells #[.int .i64 mk_a, .string mh_a, .string mp_a, .string mf_a, .string mg_a] 25)).alloc (.cells #[.int .i64 mk_b, .string mh_b, .string mp_b, .string mf_b, .string mg_b] 25)) = x := ⟨_, rfl⟩
  rw [hw_0]
  have HB := Lib.hid (show Below w.heap.size w w_0 by rw [← hw_0]; exact (((Below.refl w.heap.size w).alloc (by first | (simp; done) | (simp; omega)) _).alloc (by first | (simp; done) | (simp; omega)) _))
  have q_a0 : w_0.cell? ⟨w.heap.size, 0, none⟩ = some (.int .i64 mk_a) := by rw [← hw_0]; simp
  have q_a1 : w_0.cell? ⟨w.heap.size, 1, none⟩ = some (.string mh_a) := by rw [← hw_0]; simp
  have q_a2 : w_0.cell? ⟨w.heap.size, 2, none⟩ = some (.string mp_a) := by rw [← hw_0]; simp
  have q_a3 : w_0.cell? ⟨w.heap.size, 3, none⟩ = some (.string mf_a) := by rw [← hw_0]; simp
  have q_a4 : w_0.cell? ⟨w.heap.size, 4, none⟩ = some (.string mg_a) := by rw [← hw_0]; simp
  have b_a : w.heap.size < w_0.heap.size := World.block_lt_of_cell? _ _ q_a0
  have q_b0 : w_0.cell? ⟨w.heap.size + 1, 0, none⟩ = some (.int .i64 mk_b) := by rw [← hw_0]; simp
  have q_b1 : w_0.cell? ⟨w.heap.size + 1, 1, none⟩ = some (.string mh_b) := by rw [← hw_0]; simp
  have q_b2 : w_0.cell? ⟨w.heap.size + 1, 2, none⟩ = some (.string mp_b) := by rw [← hw_0]; simp
  have q_b3 : w_0.cell? ⟨w.heap.size + 1, 3, none⟩ = some (.string mf_b) := by rw [← hw_0]; simp
  have q_b4 : w_0.cell? ⟨w.heap.size + 1, 4, none⟩ = some (.string mg_b) := by rw [← hw_0]; simp
  have b_b : w.heap.size + 1 < w_0.heap.size := World.block_lt_of_cell? _ _ q_b0
  have HS0 := Lib.hid (show w.heap.size + 2 ≤ w_0.heap.size by rw [← hw_0]; simp)
  clear hw_0
  go_wp2_with fail
  refine (szQ_any mk_a mh_a mp_a mf_a mg_a 1048576 r_a (by omega) (by omega) _).mono ?_
  rintro e w_1 ⟨r, rfl, lo_r, hi_r, hb⟩
  have hB := hb
  replace q_a0 := (hB.cell (show (⟨w.heap.size, 0, none⟩ : Addr).block < _ from World.block_lt_of_cell? _ _ q_a0)).trans q_a0
  replace q_a1 := (hB.cell (show (⟨w.heap.size, 1, none⟩ : Addr).block < _ from World.block_lt_of_cell? _ _ q_a1)).trans q_a1
  replace q_a2 := (hB.cell (show (⟨w.heap.size, 2, none⟩ : Addr).block < _ from World.block_lt_of_cell? _ _ q_a2)).trans q_a2
  replace q_a3 := (hB.cell (show (⟨w.heap.size, 3, none⟩ : Addr).block < _ from World.block_lt_of_cell? _ _ q_a3)).trans q_a3
  replace q_a4 := (hB.cell (show (⟨w.heap.size, 4, none⟩ : Addr).block < _ from World.block_lt_of_cell? _ _ q_a4)).trans q_a4
  replace b_a : w.heap.size < w_1.heap.size := World.block_lt_of_cell? _ _ q_a0
  replace q_b0 := (hB.cell (show (⟨w.heap.size + 1, 0, none⟩ : Addr).block < _ from World.block_lt_of_cell? _ _ q_b0)).trans q_b0
  replace q_b1 := (hB.cell (show (⟨w.heap.size + 1, 1, none⟩ : Addr).block < _ from World.block_lt_of_cell? _ _ q_b1)).trans q_b1
  replace q_b2 := (hB.cell (show (⟨w.heap.size + 1, 2, none⟩ : Addr).block < _ from World.block_lt_of_cell? _ _ q_b2)).trans q_b2
  replace q_b3 := (hB.cell (show (⟨w.heap.size + 1, 3, none⟩ : Addr).block < _ from World.block_lt_of_cell? _ _ q_b3)).trans q_b3
  replace q_b4 := (hB.cell (show (⟨w.heap.size + 1, 4, none⟩ : Addr).block < _ from World.block_lt_of_cell? _ _ q_b4)).trans q_b4
  replace b_b : w.heap.size + 1 < w_1.heap.size := World.block_lt_of_cell? _ _ q_b0
  have HS1 := Lib.hid hB.size
  replace HB := Lib.hid (HB.out.trans (hB.mono HB.out.size))
  clear hB
  by_cases neg_r : r < 0
  · go_wp2_with fail
    go_ret
    exact ⟨rfl, HB.out⟩
  replace hi_r := hi_r (by omega)
  have HI_r := Lib.hid hi_r
  have up_r : r ≤ 1048576 := by omega
  clear hi_r
  go_wp2_with fail
  refine (szQ_any mk_b mh_b mp_b mf_b mg_b r r_b (by omega) (by omega) _).mono ?_
  rintro e w_2 ⟨t, rfl, lo_t, hi_t, hb⟩
  have hB := hb
  replace q_a0 := (hB.cell (show (⟨w.heap.size, 0, none⟩ : Addr).block < _ from World.block_lt_of_cell? _ _ q_a0)).trans q_a0
  replace q_a1 := (hB.cell (show (⟨w.heap.size, 1, none⟩ : Addr).block < _ from World.block_lt_of_cell? _ _ q_a1)).trans q_a1
  replace q_a2 := (hB.cell (show (⟨w.heap.size, 2, none⟩ : Addr).block < _ from World.block_lt_of_cell? _ _ q_a2)).trans q_a2
  replace q_a3 := (hB.cell (show (⟨w.heap.size, 3, none⟩ : Addr).block < _ from World.block_lt_of_cell? _ _ q_a3)).trans q_a3
  replace q_a4 := (hB.cell (show (⟨w.heap.size, 4, none⟩ : Addr).block < _ from World.block_lt_of_cell? _ _ q_a4)).trans q_a4
  replace b_a : w.heap.size < w_2.heap.size := World.block_lt_of_cell? _ _ q_a0
  replace q_b0 := (hB.cell (show (⟨w.heap.size + 1, 0, none⟩ : Addr).block < _ from World.block_lt_of_cell? _ _ q_b0)).trans q_b0
  replace q_b1 := (hB.cell (show (⟨w.heap.size + 1, 1, none⟩ : Addr).block < _ from World.block_lt_of_cell? _ _ q_b1)).trans q_b1
  replace q_b2 := (hB.cell (show (⟨w.heap.size + 1, 2, none⟩ : Addr).block < _ from World.block_lt_of_cell? _ _ q_b2)).trans q_b2
  replace q_b3 := (hB.cell (show (⟨w.heap.size + 1, 3, none⟩ : Addr).block < _ from World.block_lt_of_cell? _ _ q_b3)).trans q_b3
  replace q_b4 := (hB.cell (show (⟨w.heap.size + 1, 4, none⟩ : Addr).block < _ from World.block_lt_of_cell? _ _ q_b4)).trans q_b4
  replace b_b : w.heap.size + 1 < w_2.heap.size := World.block_lt_of_cell? _ _ q_b0
  have HS2 := Lib.hid hB.size
  replace HB := Lib.hid (HB.out.trans (hB.mono HB.out.size))
  clear hB
  by_cases neg_t : t < 0
  · go_wp2_with fail
    go_ret
    exact ⟨rfl, HB.out⟩
  replace hi_t := hi_t (by omega)
  have HI_t := Lib.hid hi_t
  have up_t : t ≤ 1048576 := by omega
  clear hi_t
  obtain ⟨M, hM⟩ : ∃ M, smB mh_a mp_a mf_a mh_b mp_b mf_b = M := ⟨_, rfl⟩
  have HM := Lib.hid hM; clear hM
  have hMM : (M == M) = true := beq_self_eq_true _; have hMN : (M != M) = false := bne_self_eq_false _
  go_wp2_with fail
  have g_a0 := cell_grown (show (⟨w.heap.size, 0, none⟩ : Addr).block < w_2.heap.size from World.block_lt_of_cell? _ _ q_a0) q_a0
  have g_a1 := cell_grown (show (⟨w.heap.size, 1, none⟩ : Addr).block < w_2.heap.size from World.block_lt_of_cell? _ _ q_a1) q_a1
  have g_a2 := cell_grown (show (⟨w.heap.size, 2, none⟩ : Addr).block < w_2.heap.size from World.block_lt_of_cell? _ _ q_a2) q_a2
  have g_a3 := cell_grown (show (⟨w.heap.size, 3, none⟩ : Addr).block < w_2.heap.size from World.block_lt_of_cell? _ _ q_a3) q_a3
  have g_a4 := cell_grown (show (⟨w.heap.size, 4, none⟩ : Addr).block < w_2.heap.size from World.block_lt_of_cell? _ _ q_a4) q_a4
  have g_b0 := cell_grown (show (⟨w.heap.size + 1, 0, none⟩ : Addr).block < w_2.heap.size from World.block_lt_of_cell? _ _ q_b0) q_b0
  have g_b1 := cell_grown (show (⟨w.heap.size + 1, 1, none⟩ : Addr).block < w_2.heap.size from World.block_lt_of_cell? _ _ q_b1) q_b1
  have g_b2 := cell_grown (show (⟨w.heap.size + 1, 2, none⟩ : Addr).block < w_2.heap.size from World.block_lt_of_cell? _ _ q_b2) q_b2
  have g_b3 := cell_grown (show (⟨w.heap.size + 1, 3, none⟩ : Addr).block < w_2.heap.size from World.block_lt_of_cell? _ _ q_b3) q_b3
  have g_b4 := cell_grown (show (⟨w.heap.size + 1, 4, none⟩ : Addr).block < w_2.heap.size from World.block_lt_of_cell? _ _ q_b4) q_b4
  go_quiet_grown (first | (go_at_call 10; refine Calls.grown_of (toQ_any _ _ _ _ _ _)) | (go_at_call 19; refine Calls.grown_of (HM.out ▸ sm_spec mk_a mh_a mp_a mf_a mg_a mk_b mh_b mp_b mf_b mg_b _)))
  obtain ⟨w_3, hw⟩ : ∃ x, Sort.grow (w_2.drewN nq) osq = x := ⟨_, rfl⟩
  rw [hw]
  have hB : Below w_2.heap.size w_2 w_3 := by rw [← hw]; exact grow_below _ _ _
  replace q_a0 := (hB.cell (show (⟨w.heap.size, 0, none⟩ : Addr).block < _ from World.block_lt_of_cell? _ _ q_a0)).trans q_a0
  replace q_a1 := (hB.cell (show (⟨w.heap.size, 1, none⟩ : Addr).block < _ from World.block_lt_of_cell? _ _ q_a1)).trans q_a1
  replace q_a2 := (hB.cell (show (⟨w.heap.size, 2, none⟩ : Addr).block < _ from World.block_lt_of_cell? _ _ q_a2)).trans q_a2
  replace q_a3 := (hB.cell (show (⟨w.heap.size, 3, none⟩ : Addr).block < _ from World.block_lt_of_cell? _ _ q_a3)).trans q_a3
  replace q_a4 := (hB.cell (show (⟨w.heap.size, 4, none⟩ : Addr).block < _ from World.block_lt_of_cell? _ _ q_a4)).trans q_a4
  replace b_a : w.heap.size < w_3.heap.size := World.block_lt_of_cell? _ _ q_a0
  replace q_b0 := (hB.cell (show (⟨w.heap.size + 1, 0, none⟩ : Addr).block < _ from World.block_lt_of_cell? _ _ q_b0)).trans q_b0
  replace q_b1 := (hB.cell (show (⟨w.heap.size + 1, 1, none⟩ : Addr).block < _ from World.block_lt_of_cell? _ _ q_b1)).trans q_b1
  replace q_b2 := (hB.cell (show (⟨w.heap.size + 1, 2, none⟩ : Addr).block < _ from World.block_lt_of_cell? _ _ q_b2)).trans q_b2
  replace q_b3 := (hB.cell (show (⟨w.heap.size + 1, 3, none⟩ : Addr).block < _ from World.block_lt_of_cell? _ _ q_b3)).trans q_b3
  replace q_b4 := (hB.cell (show (⟨w.heap.size + 1, 4, none⟩ : Addr).block < _ from World.block_lt_of_cell? _ _ q_b4)).trans q_b4
  replace b_b : w.heap.size + 1 < w_3.heap.size := World.block_lt_of_cell? _ _ q_b0
  have HS3 := Lib.hid hB.size
  replace HB := Lib.hid (HB.out.trans (hB.mono HB.out.size))
  clear hB hw g_a0 g_a1 g_a2 g_a3 g_a4 g_b0 g_b1 g_b2 g_b3 g_b4
  go_wp2_with fail
  have g_a0 := cell_grown (show (⟨w.heap.size, 0, none⟩ : Addr).block < w_3.heap.size from World.block_lt_of_cell? _ _ q_a0) q_a0
  have g_a1 := cell_grown (show (⟨w.heap.size, 1, none⟩ : Addr).block < w_3.heap.size from World.block_lt_of_cell? _ _ q_a1) q_a1
  have g_a2 := cell_grown (show (⟨w.heap.size, 2, none⟩ : Addr).block < w_3.heap.size from World.block_lt_of_cell? _ _ q_a2) q_a2
  have g_a3 := cell_grown (show (⟨w.heap.size, 3, none⟩ : Addr).block < w_3.heap.size from World.block_lt_of_cell? _ _ q_a3) q_a3
  have g_a4 := cell_grown (show (⟨w.heap.size, 4, none⟩ : Addr).block < w_3.heap.size from World.block_lt_of_cell? _ _ q_a4) q_a4
  have g_b0 := cell_grown (show (⟨w.heap.size + 1, 0, none⟩ : Addr).block < w_3.heap.size from World.block_lt_of_cell? _ _ q_b0) q_b0
  have g_b1 := cell_grown (show (⟨w.heap.size + 1, 1, none⟩ : Addr).block < w_3.heap.size from World.block_lt_of_cell? _ _ q_b1) q_b1
  have g_b2 := cell_grown (show (⟨w.heap.size + 1, 2, none⟩ : Addr).block < w_3.heap.size from World.block_lt_of_cell? _ _ q_b2) q_b2
  have g_b3 := cell_grown (show (⟨w.heap.size + 1, 3, none⟩ : Addr).block < w_3.heap.size from World.block_lt_of_cell? _ _ q_b3) q_b3
  have g_b4 := cell_grown (show (⟨w.heap.size + 1, 4, none⟩ : Addr).block < w_3.heap.size from World.block_lt_of_cell? _ _ q_b4) q_b4
  go_quiet_grown (first | (go_at_call 10; refine Calls.grown_of (toQ_any _ _ _ _ _ _)) | (go_at_call 20; refine Calls.grown_of (HM.out ▸ sm_impl mk_a mh_a mp_a mf_a mg_a mk_b mh_b mp_b mf_b mg_b _)))
  obtain ⟨w_4, hw⟩ : ∃ x, Sort.grow (w_3.drewN nq) osq = x := ⟨_, rfl⟩
  rw [hw]
  have hB : Below w_3.heap.size w_3 w_4 := by rw [← hw]; exact grow_below _ _ _
  replace q_a0 := (hB.cell (show (⟨w.heap.size, 0, none⟩ : Addr).block < _ from World.block_lt_of_cell? _ _ q_a0)).trans q_a0
  replace q_a1 := (hB.cell (show (⟨w.heap.size, 1, none⟩ : Addr).block < _ from World.block_lt_of_cell? _ _ q_a1)).trans q_a1
  replace q_a2 := (hB.cell (show (⟨w.heap.size, 2, none⟩ : Addr).block < _ from World.block_lt_of_cell? _ _ q_a2)).trans q_a2
  replace q_a3 := (hB.cell (show (⟨w.heap.size, 3, none⟩ : Addr).block < _ from World.block_lt_of_cell? _ _ q_a3)).trans q_a3
  replace q_a4 := (hB.cell (show (⟨w.heap.size, 4, none⟩ : Addr).block < _ from World.block_lt_of_cell? _ _ q_a4)).trans q_a4
  replace b_a : w.heap.size < w_4.heap.size := World.block_lt_of_cell? _ _ q_a0
  replace q_b0 := (hB.cell (show (⟨w.heap.size + 1, 0, none⟩ : Addr).block < _ from World.block_lt_of_cell? _ _ q_b0)).trans q_b0
  replace q_b1 := (hB.cell (show (⟨w.heap.size + 1, 1, none⟩ : Addr).block < _ from World.block_lt_of_cell? _ _ q_b1)).trans q_b1
  replace q_b2 := (hB.cell (show (⟨w.heap.size + 1, 2, none⟩ : Addr).block < _ from World.block_lt_of_cell? _ _ q_b2)).trans q_b2
  replace q_b3 := (hB.cell (show (⟨w.heap.size + 1, 3, none⟩ : Addr).block < _ from World.block_lt_of_cell? _ _ q_b3)).trans q_b3
  replace q_b4 := (hB.cell (show (⟨w.heap.size + 1, 4, none⟩ : Addr).block < _ from World.block_lt_of_cell? _ _ q_b4)).trans q_b4
  replace b_b : w.heap.size + 1 < w_4.heap.size := World.block_lt_of_cell? _ _ q_b0
  have HS4 := Lib.hid hB.size
  replace HB := Lib.hid (HB.out.trans (hB.mono HB.out.size))
  clear hB hw g_a0 g_a1 g_a2 g_a3 g_a4 g_b0 g_b1 g_b2 g_b3 g_b4
  go_wp2_with fail
  go_ret
  exact ⟨rfl, HB.out⟩
end Go.Proofs.Ytkjjiinccljhjaa

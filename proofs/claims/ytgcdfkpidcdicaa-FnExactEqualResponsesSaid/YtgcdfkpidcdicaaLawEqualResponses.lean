/- The walk of the law FnExactEqualResponses: it returns true, and writes nothing that was there. -/
import Derived.Test.YtgcdfkpidcdicaaRspE
import Derived.Test.YtgcdfkpidcdicaaRowR
import Derived.Shelf.SlSortCmp.QuietGrown
namespace Go.Proofs.Ytgcdfkpidcdicaa
open Go.ChangeShapes Go.WideShapes Go.ChangeAt Go.RowKit

set_option maxRecDepth 100000 in
set_option maxHeartbeats 4000000 in
theorem walkEqualResponses (ms_a mk_a : Int) (mb_a : ByteArray) (mg_a : Int) (mh_a : Bool) (mp_a : ByteArray) (ms_b mk_b : Int) (mb_b : ByteArray) (mg_b : Int) (mh_b : Bool) (mp_b : ByteArray) (w : World) (r_a : mb_a.size ≤ 9223372036854775807 ∧ mp_a.size ≤ 9223372036854775807) (r_b : mb_b.size ≤ 9223372036854775807 ∧ mp_b.size ≤ 9223372036854775807) :
    Calls Try.prog 8 #[.agg #[.int .i64 ms_a, .int .i64 mk_a, .string mb_a, .int .i64 mg_a, .bool mh_a, .string mp_a], .agg #[.int .i64 ms_b, .int .i64 mk_b, .string mb_b, .int .i64 mg_b, .bool mh_b, .string mp_b]] w fun e w' => e = .returned (.bool true) ∧ Below w.heap.size w w' := by
  obtain ⟨z1_a, z2_a⟩ := r_a
  obtain ⟨z1_b, z2_b⟩ := r_b
  have mixed : Try.prog.follows .mixedOrders = true := by kernel_rfl
  go_enter Try.func8, Try.ntmps8
  go_wp2_with fail
  obtain ⟨w_0, hw_0⟩ : ∃ x, ((w.alloc (.cells #[.int .i64 ms_a, .int .i64 mk_a, .string mb_a, .int .i64 mg_a, .bool mh_a, .string mp_a] 39)).alloc (.cells #[.int .i64 ms_b, .int .i64 mk_b, .string mb_b, .int .i64 mg_b, .bool mh_b, .string mp_b] 39)) = x := ⟨_, rfl⟩
  rw [hw_0]
  have HB := Lib.hid (show Below w.heap.size w w_0 by rw [← hw_0]; exact (((Below.refl w.heap.size w).alloc (by first | (simp; done) | (simp; omega)) _).alloc (by first | (simp; done) | (simp; omega)) _))
  have q_a0 : w_0.cell? ⟨w.heap.size, 0, none⟩ = some (.int .i64 ms_a) := by rw [← hw_0]; simp
  have q_a1 : w_0.cell? ⟨w.heap.size, 1, none⟩ = some (.int .i64 mk_a) := by rw [← hw_0]; simp
  have q_a2 : w_0.cell? ⟨w.heap.size, 2, none⟩ = some (.string mb_a) := by rw [← hw_0]; simp
  have q_a3 : w_0.cell? ⟨w.heap.size, 3, none⟩ = some (.int .i64 mg_a) := by rw [← hw_0]; simp
  have q_a4 : w_0.cell? ⟨w.heap.size, 4, none⟩ = some (.bool mh_a) := by rw [← hw_0]; simp
  have q_a5 : w_0.cell? ⟨w.heap.size, 5, none⟩ = some (.string mp_a) := by rw [← hw_0]; simp
  have b_a : w.heap.size < w_0.heap.size := World.block_lt_of_cell? _ _ q_a0
  have q_b0 : w_0.cell? ⟨w.heap.size + 1, 0, none⟩ = some (.int .i64 ms_b) := by rw [← hw_0]; simp
  have q_b1 : w_0.cell? ⟨w.heap.size + 1, 1, none⟩ = some (.int .i64 mk_b) := by rw [← hw_0]; simp
  have q_b2 : w_0.cell? ⟨w.heap.size + 1, 2, none⟩ = some (.string mb_b) := by rw [← hw_0]; simp
  have q_b3 : w_0.cell? ⟨w.heap.size + 1, 3, none⟩ = some (.int .i64 mg_b) := by rw [← hw_0]; simp
  have q_b4 : w_0.cell? ⟨w.heap.size + 1, 4, none⟩ = some (.bool mh_b) := by rw [← hw_0]; simp
  have q_b5 : w_0.cell? ⟨w.heap.size + 1, 5, none⟩ = some (.string mp_b) := by rw [← hw_0]; simp
  have b_b : w.heap.size + 1 < w_0.heap.size := World.block_lt_of_cell? _ _ q_b0
  have HS0 := Lib.hid (show w.heap.size + 2 ≤ w_0.heap.size by rw [← hw_0]; simp)
  clear hw_0
  go_wp2_with fail
  refine (szR_any ms_a mk_a mb_a mg_a mh_a mp_a 1048576 z1_a z2_a (by omega) (by omega) _).mono ?_
  rintro e w_1 ⟨r, rfl, lo_r, hi_r, hb⟩
  have hB := hb
  replace q_a0 := (hB.cell (show (⟨w.heap.size, 0, none⟩ : Addr).block < _ from World.block_lt_of_cell? _ _ q_a0)).trans q_a0
  replace q_a1 := (hB.cell (show (⟨w.heap.size, 1, none⟩ : Addr).block < _ from World.block_lt_of_cell? _ _ q_a1)).trans q_a1
  replace q_a2 := (hB.cell (show (⟨w.heap.size, 2, none⟩ : Addr).block < _ from World.block_lt_of_cell? _ _ q_a2)).trans q_a2
  replace q_a3 := (hB.cell (show (⟨w.heap.size, 3, none⟩ : Addr).block < _ from World.block_lt_of_cell? _ _ q_a3)).trans q_a3
  replace q_a4 := (hB.cell (show (⟨w.heap.size, 4, none⟩ : Addr).block < _ from World.block_lt_of_cell? _ _ q_a4)).trans q_a4
  replace q_a5 := (hB.cell (show (⟨w.heap.size, 5, none⟩ : Addr).block < _ from World.block_lt_of_cell? _ _ q_a5)).trans q_a5
  replace b_a : w.heap.size < w_1.heap.size := World.block_lt_of_cell? _ _ q_a0
  replace q_b0 := (hB.cell (show (⟨w.heap.size + 1, 0, none⟩ : Addr).block < _ from World.block_lt_of_cell? _ _ q_b0)).trans q_b0
  replace q_b1 := (hB.cell (show (⟨w.heap.size + 1, 1, none⟩ : Addr).block < _ from World.block_lt_of_cell? _ _ q_b1)).trans q_b1
  replace q_b2 := (hB.cell (show (⟨w.heap.size + 1, 2, none⟩ : Addr).block < _ from World.block_lt_of_cell? _ _ q_b2)).trans q_b2
  replace q_b3 := (hB.cell (show (⟨w.heap.size + 1, 3, none⟩ : Addr).block < _ from World.block_lt_of_cell? _ _ q_b3)).trans q_b3
  replace q_b4 := (hB.cell (show (⟨w.heap.size + 1, 4, none⟩ : Addr).block < _ from World.block_lt_of_cell? _ _ q_b4)).trans q_b4
  replace q_b5 := (hB.cell (show (⟨w.heap.size + 1, 5, none⟩ : Addr).block < _ from World.block_lt_of_cell? _ _ q_b5)).trans q_b5
  replace b_b : w.heap.size + 1 < w_1.heap.size := World.block_lt_of_cell? _ _ q_b0
  have HS1 := Lib.hid hB.size
  replace HB := Lib.hid (HB.out.trans (hB.mono HB.out.size))
  clear hB
  by_cases neg_r : r < 0
  · go_wp2_with fail
    go_ret
    exact ⟨rfl, HB.out⟩
  replace hi_r := hi_r (by omega)
  have HI_r := Lib.hid hi_r
  have up_r : r ≤ 1048576 := by omega
  clear hi_r
  go_wp2_with fail
  refine (szR_any ms_b mk_b mb_b mg_b mh_b mp_b r z1_b z2_b (by omega) (by omega) _).mono ?_
  rintro e w_2 ⟨t, rfl, lo_t, hi_t, hb⟩
  have hB := hb
  replace q_a0 := (hB.cell (show (⟨w.heap.size, 0, none⟩ : Addr).block < _ from World.block_lt_of_cell? _ _ q_a0)).trans q_a0
  replace q_a1 := (hB.cell (show (⟨w.heap.size, 1, none⟩ : Addr).block < _ from World.block_lt_of_cell? _ _ q_a1)).trans q_a1
  replace q_a2 := (hB.cell (show (⟨w.heap.size, 2, none⟩ : Addr).block < _ from World.block_lt_of_cell? _ _ q_a2)).trans q_a2
  replace q_a3 := (hB.cell (show (⟨w.heap.size, 3, none⟩ : Addr).block < _ from World.block_lt_of_cell? _ _ q_a3)).trans q_a3
  replace q_a4 := (hB.cell (show (⟨w.heap.size, 4, none⟩ : Addr).block < _ from World.block_lt_of_cell? _ _ q_a4)).trans q_a4
  replace q_a5 := (hB.cell (show (⟨w.heap.size, 5, none⟩ : Addr).block < _ from World.block_lt_of_cell? _ _ q_a5)).trans q_a5
  replace b_a : w.heap.size < w_2.heap.size := World.block_lt_of_cell? _ _ q_a0
  replace q_b0 := (hB.cell (show (⟨w.heap.size + 1, 0, none⟩ : Addr).block < _ from World.block_lt_of_cell? _ _ q_b0)).trans q_b0
  replace q_b1 := (hB.cell (show (⟨w.heap.size + 1, 1, none⟩ : Addr).block < _ from World.block_lt_of_cell? _ _ q_b1)).trans q_b1
  replace q_b2 := (hB.cell (show (⟨w.heap.size + 1, 2, none⟩ : Addr).block < _ from World.block_lt_of_cell? _ _ q_b2)).trans q_b2
  replace q_b3 := (hB.cell (show (⟨w.heap.size + 1, 3, none⟩ : Addr).block < _ from World.block_lt_of_cell? _ _ q_b3)).trans q_b3
  replace q_b4 := (hB.cell (show (⟨w.heap.size + 1, 4, none⟩ : Addr).block < _ from World.block_lt_of_cell? _ _ q_b4)).trans q_b4
  replace q_b5 := (hB.cell (show (⟨w.heap.size + 1, 5, none⟩ : Addr).block < _ from World.block_lt_of_cell? _ _ q_b5)).trans q_b5
  replace b_b : w.heap.size + 1 < w_2.heap.size := World.block_lt_of_cell? _ _ q_b0
  have HS2 := Lib.hid hB.size
  replace HB := Lib.hid (HB.out.trans (hB.mono HB.out.size))
  clear hB
  by_cases neg_t : t < 0
  · go_wp2_with fail
    go_ret
    exact ⟨rfl, HB.out⟩
  replace hi_t := hi_t (by omega)
  have HI_t := Lib.hid hi_t
  have up_t : t ≤ 1048576 := by omega
  clear hi_t
  obtain ⟨M, hM⟩ : ∃ M, eqRB ms_a mk_a mb_a mg_a mh_a mp_a ms_b mk_b mb_b mg_b mh_b mp_b = M := ⟨_, rfl⟩
  have HM := Lib.hid hM; clear hM
  have hMM : (M == M) = true := beq_self_eq_true _; have hMN : (M != M) = false := bne_self_eq_false _
  go_wp2_with fail
  have g_a0 := cell_grown (show (⟨w.heap.size, 0, none⟩ : Addr).block < w_2.heap.size from World.block_lt_of_cell? _ _ q_a0) q_a0
  have g_a1 := cell_grown (show (⟨w.heap.size, 1, none⟩ : Addr).block < w_2.heap.size from World.block_lt_of_cell? _ _ q_a1) q_a1
  have g_a2 := cell_grown (show (⟨w.heap.size, 2, none⟩ : Addr).block < w_2.heap.size from World.block_lt_of_cell? _ _ q_a2) q_a2
  have g_a3 := cell_grown (show (⟨w.heap.size, 3, none⟩ : Addr).block < w_2.heap.size from World.block_lt_of_cell? _ _ q_a3) q_a3
  have g_a4 := cell_grown (show (⟨w.heap.size, 4, none⟩ : Addr).block < w_2.heap.size from World.block_lt_of_cell? _ _ q_a4) q_a4
  have g_a5 := cell_grown (show (⟨w.heap.size, 5, none⟩ : Addr).block < w_2.heap.size from World.block_lt_of_cell? _ _ q_a5) q_a5
  have g_b0 := cell_grown (show (⟨w.heap.size + 1, 0, none⟩ : Addr).block < w_2.heap.size from World.block_lt_of_cell? _ _ q_b0) q_b0
  have g_b1 := cell_grown (show (⟨w.heap.size + 1, 1, none⟩ : Addr).block < w_2.heap.size from World.block_lt_of_cell? _ _ q_b1) q_b1
  have g_b2 := cell_grown (show (⟨w.heap.size + 1, 2, none⟩ : Addr).block < w_2.heap.size from World.block_lt_of_cell? _ _ q_b2) q_b2
  have g_b3 := cell_grown (show (⟨w.heap.size + 1, 3, none⟩ : Addr).block < w_2.heap.size from World.block_lt_of_cell? _ _ q_b3) q_b3
  have g_b4 := cell_grown (show (⟨w.heap.size + 1, 4, none⟩ : Addr).block < w_2.heap.size from World.block_lt_of_cell? _ _ q_b4) q_b4
  have g_b5 := cell_grown (show (⟨w.heap.size + 1, 5, none⟩ : Addr).block < w_2.heap.size from World.block_lt_of_cell? _ _ q_b5) q_b5
  go_quiet_grown (first | (go_at_call 23; refine Calls.grown_of (toR_any _ _ _ _ _ _ _)) | (go_at_call 27; refine Calls.grown_of (HM.out ▸ eqRs_spec ms_a mk_a mb_a mg_a mh_a mp_a ms_b mk_b mb_b mg_b mh_b mp_b _)))
  obtain ⟨w_3, hw⟩ : ∃ x, Sort.grow (w_2.drewN nq) osq = x := ⟨_, rfl⟩
  rw [hw]
  have hB : Below w_2.heap.size w_2 w_3 := by rw [← hw]; exact grow_below _ _ _
  replace q_a0 := (hB.cell (show (⟨w.heap.size, 0, none⟩ : Addr).block < _ from World.block_lt_of_cell? _ _ q_a0)).trans q_a0
  replace q_a1 := (hB.cell (show (⟨w.heap.size, 1, none⟩ : Addr).block < _ from World.block_lt_of_cell? _ _ q_a1)).trans q_a1
  replace q_a2 := (hB.cell (show (⟨w.heap.size, 2, none⟩ : Addr).block < _ from World.block_lt_of_cell? _ _ q_a2)).trans q_a2
  replace q_a3 := (hB.cell (show (⟨w.heap.size, 3, none⟩ : Addr).block < _ from World.block_lt_of_cell? _ _ q_a3)).trans q_a3
  replace q_a4 := (hB.cell (show (⟨w.heap.size, 4, none⟩ : Addr).block < _ from World.block_lt_of_cell? _ _ q_a4)).trans q_a4
  replace q_a5 := (hB.cell (show (⟨w.heap.size, 5, none⟩ : Addr).block < _ from World.block_lt_of_cell? _ _ q_a5)).trans q_a5
  replace b_a : w.heap.size < w_3.heap.size := World.block_lt_of_cell? _ _ q_a0
  replace q_b0 := (hB.cell (show (⟨w.heap.size + 1, 0, none⟩ : Addr).block < _ from World.block_lt_of_cell? _ _ q_b0)).trans q_b0
  replace q_b1 := (hB.cell (show (⟨w.heap.size + 1, 1, none⟩ : Addr).block < _ from World.block_lt_of_cell? _ _ q_b1)).trans q_b1
  replace q_b2 := (hB.cell (show (⟨w.heap.size + 1, 2, none⟩ : Addr).block < _ from World.block_lt_of_cell? _ _ q_b2)).trans q_b2
  replace q_b3 := (hB.cell (show (⟨w.heap.size + 1, 3, none⟩ : Addr).block < _ from World.block_lt_of_cell? _ _ q_b3)).trans q_b3
  replace q_b4 := (hB.cell (show (⟨w.heap.size + 1, 4, none⟩ : Addr).block < _ from World.block_lt_of_cell? _ _ q_b4)).trans q_b4
  replace q_b5 := (hB.cell (show (⟨w.heap.size + 1, 5, none⟩ : Addr).block < _ from World.block_lt_of_cell? _ _ q_b5)).trans q_b5
  replace b_b : w.heap.size + 1 < w_3.heap.size := World.block_lt_of_cell? _ _ q_b0
  have HS3 := Lib.hid hB.size
  replace HB := Lib.hid (HB.out.trans (hB.mono HB.out.size))
  clear hB hw g_a0 g_a1 g_a2 g_a3 g_a4 g_a5 g_b0 g_b1 g_b2 g_b3 g_b4 g_b5
  go_wp2_with fail
  have g_a0 := cell_grown (show (⟨w.heap.size, 0, none⟩ : Addr).block < w_3.heap.size from World.block_lt_of_cell? _ _ q_a0) q_a0
  have g_a1 := cell_grown (show (⟨w.heap.size, 1, none⟩ : Addr).block < w_3.heap.size from World.block_lt_of_cell? _ _ q_a1) q_a1
  have g_a2 := cell_grown (show (⟨w.heap.size, 2, none⟩ : Addr).block < w_3.heap.size from World.block_lt_of_cell? _ _ q_a2) q_a2
  have g_a3 := cell_grown (show (⟨w.heap.size, 3, none⟩ : Addr).block < w_3.heap.size from World.block_lt_of_cell? _ _ q_a3) q_a3
  have g_a4 := cell_grown (show (⟨w.heap.size, 4, none⟩ : Addr).block < w_3.heap.size from World.block_lt_of_cell? _ _ q_a4) q_a4
  have g_a5 := cell_grown (show (⟨w.heap.size, 5, none⟩ : Addr).block < w_3.heap.size from World.block_lt_of_cell? _ _ q_a5) q_a5
  have g_b0 := cell_grown (show (⟨w.heap.size + 1, 0, none⟩ : Addr).block < w_3.heap.size from World.block_lt_of_cell? _ _ q_b0) q_b0
  have g_b1 := cell_grown (show (⟨w.heap.size + 1, 1, none⟩ : Addr).block < w_3.heap.size from World.block_lt_of_cell? _ _ q_b1) q_b1
  have g_b2 := cell_grown (show (⟨w.heap.size + 1, 2, none⟩ : Addr).block < w_3.heap.size from World.block_lt_of_cell? _ _ q_b2) q_b2
  have g_b3 := cell_grown (show (⟨w.heap.size + 1, 3, none⟩ : Addr).block < w_3.heap.size from World.block_lt_of_cell? _ _ q_b3) q_b3
  have g_b4 := cell_grown (show (⟨w.heap.size + 1, 4, none⟩ : Addr).block < w_3.heap.size from World.block_lt_of_cell? _ _ q_b4) q_b4
  have g_b5 := cell_grown (show (⟨w.heap.size + 1, 5, none⟩ : Addr).block < w_3.heap.size from World.block_lt_of_cell? _ _ q_b5) q_b5
  go_quiet_grown (first | (go_at_call 23; refine Calls.grown_of (toR_any _ _ _ _ _ _ _)) | (go_at_call 28; refine Calls.grown_of (HM.out ▸ eqRs_impl ms_a mk_a mb_a mg_a mh_a mp_a ms_b mk_b mb_b mg_b mh_b mp_b _)))
  obtain ⟨w_4, hw⟩ : ∃ x, Sort.grow (w_3.drewN nq) osq = x := ⟨_, rfl⟩
  rw [hw]
  have hB : Below w_3.heap.size w_3 w_4 := by rw [← hw]; exact grow_below _ _ _
  replace q_a0 := (hB.cell (show (⟨w.heap.size, 0, none⟩ : Addr).block < _ from World.block_lt_of_cell? _ _ q_a0)).trans q_a0
  replace q_a1 := (hB.cell (show (⟨w.heap.size, 1, none⟩ : Addr).block < _ from World.block_lt_of_cell? _ _ q_a1)).trans q_a1
  replace q_a2 := (hB.cell (show (⟨w.heap.size, 2, none⟩ : Addr).block < _ from World.block_lt_of_cell? _ _ q_a2)).trans q_a2
  replace q_a3 := (hB.cell (show (⟨w.heap.size, 3, none⟩ : Addr).block < _ from World.block_lt_of_cell? _ _ q_a3)).trans q_a3
  replace q_a4 := (hB.cell (show (⟨w.heap.size, 4, none⟩ : Addr).block < _ from World.block_lt_of_cell? _ _ q_a4)).trans q_a4
  replace q_a5 := (hB.cell (show (⟨w.heap.size, 5, none⟩ : Addr).block < _ from World.block_lt_of_cell? _ _ q_a5)).trans q_a5
  replace b_a : w.heap.size < w_4.heap.size := World.block_lt_of_cell? _ _ q_a0
  replace q_b0 := (hB.cell (show (⟨w.heap.size + 1, 0, none⟩ : Addr).block < _ from World.block_lt_of_cell? _ _ q_b0)).trans q_b0
  replace q_b1 := (hB.cell (show (⟨w.heap.size + 1, 1, none⟩ : Addr).block < _ from World.block_lt_of_cell? _ _ q_b1)).trans q_b1
  replace q_b2 := (hB.cell (show (⟨w.heap.size + 1, 2, none⟩ : Addr).block < _ from World.block_lt_of_cell? _ _ q_b2)).trans q_b2
  replace q_b3 := (hB.cell (show (⟨w.heap.size + 1, 3, none⟩ : Addr).block < _ from World.block_lt_of_cell? _ _ q_b3)).trans q_b3
  replace q_b4 := (hB.cell (show (⟨w.heap.size + 1, 4, none⟩ : Addr).block < _ from World.block_lt_of_cell? _ _ q_b4)).trans q_b4
  replace q_b5 := (hB.cell (show (⟨w.heap.size + 1, 5, none⟩ : Addr).block < _ from World.block_lt_of_cell? _ _ q_b5)).trans q_b5
  replace b_b : w.heap.size + 1 < w_4.heap.size := World.block_lt_of_cell? _ _ q_b0
  have HS4 := Lib.hid hB.size
  replace HB := Lib.hid (HB.out.trans (hB.mono HB.out.size))
  clear hB hw g_a0 g_a1 g_a2 g_a3 g_a4 g_a5 g_b0 g_b1 g_b2 g_b3 g_b4 g_b5
  go_wp2_with fail
  go_ret
  exact ⟨rfl, HB.out⟩
end Go.Proofs.Ytgcdfkpidcdicaa

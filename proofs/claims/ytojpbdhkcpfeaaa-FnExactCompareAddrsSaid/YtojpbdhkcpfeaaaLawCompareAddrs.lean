/- The walk of the law FnExactCompareAddrs: it returns true, and writes nothing that was there. -/
import Derived.Test.YtojpbdhkcpfeaaaPrs
import Derived.Test.YtojpbdhkcpfeaaaHas
import Derived.Test.YtojpbdhkcpfeaaaMark
import Derived.Test.YtojpbdhkcpfeaaaRowA
namespace Go.Proofs.Ytojpbdhkcpfeaaa
open Go.ChangeShapes Go.WideShapes Go.ChangeAt Go.RowKit

set_option maxRecDepth 100000 in
set_option maxHeartbeats 4000000 in
theorem walkCompareAddrs (x_a y_a : ByteArray) (x_b y_b : ByteArray) (w : World) (r_a : AdOk (x_a, y_a)) (r_b : AdOk (x_b, y_b)) :
    Calls Try.prog 8 #[.agg #[.string x_a, .string y_a], .agg #[.string x_b, .string y_b]] w fun e w' => e = .returned (.bool true) ∧ Below w.heap.size w w' := by
  obtain ⟨z1_a, z2_a⟩ := r_a
  simp only at z1_a z2_a
  obtain ⟨z1_b, z2_b⟩ := r_b
  simp only at z1_b z2_b
  have mixed : Try.prog.follows .mixedOrders = true := by kernel_rfl
  go_enter Try.func8, Try.ntmps8
  go_wp2_with fail
  obtain ⟨w_0, hw_0⟩ : ∃ x, ((w.alloc (.cells #[.string x_a, .string y_a] 41)).alloc (.cells #[.string x_b, .string y_b] 41)) = x := ⟨_, rfl⟩
  rw [hw_0]
  have HB := Lib.hid (show Below w.heap.size w w_0 by rw [← hw_0]; exact (((Below.refl w.heap.size w).alloc (by first | (simp; done) | (simp; omega)) _).alloc (by first | (simp; done) | (simp; omega)) _))
  have q_a0 : w_0.cell? ⟨w.heap.size, 0, none⟩ = some (.string x_a) := by rw [← hw_0]; simp
  have q_a1 : w_0.cell? ⟨w.heap.size, 1, none⟩ = some (.string y_a) := by rw [← hw_0]; simp
  have b_a : w.heap.size < w_0.heap.size := World.block_lt_of_cell? _ _ q_a0
  have q_b0 : w_0.cell? ⟨w.heap.size + 1, 0, none⟩ = some (.string x_b) := by rw [← hw_0]; simp
  have q_b1 : w_0.cell? ⟨w.heap.size + 1, 1, none⟩ = some (.string y_b) := by rw [← hw_0]; simp
  have b_b : w.heap.size + 1 < w_0.heap.size := World.block_lt_of_cell? _ _ q_b0
  have HS0 := Lib.hid (show w.heap.size + 2 ≤ w_0.heap.size by rw [← hw_0]; simp)
  clear hw_0
  go_wp2_with fail
  refine (szA_any x_a y_a 1048576 z1_a z2_a (by omega) (by omega) _).mono ?_
  rintro e w_1 ⟨r, rfl, lo_r, hi_r, hb⟩
  have hB := hb
  replace q_a0 := (hB.cell (show (⟨w.heap.size, 0, none⟩ : Addr).block < _ from World.block_lt_of_cell? _ _ q_a0)).trans q_a0
  replace q_a1 := (hB.cell (show (⟨w.heap.size, 1, none⟩ : Addr).block < _ from World.block_lt_of_cell? _ _ q_a1)).trans q_a1
  replace b_a : w.heap.size < w_1.heap.size := World.block_lt_of_cell? _ _ q_a0
  replace q_b0 := (hB.cell (show (⟨w.heap.size + 1, 0, none⟩ : Addr).block < _ from World.block_lt_of_cell? _ _ q_b0)).trans q_b0
  replace q_b1 := (hB.cell (show (⟨w.heap.size + 1, 1, none⟩ : Addr).block < _ from World.block_lt_of_cell? _ _ q_b1)).trans q_b1
  replace b_b : w.heap.size + 1 < w_1.heap.size := World.block_lt_of_cell? _ _ q_b0
  have HS1 := Lib.hid hB.size
  replace HB := Lib.hid (HB.out.trans (hB.mono HB.out.size))
  clear hB
  by_cases neg_r : r < 0
  · go_wp2_with fail
    go_ret
    exact ⟨rfl, HB.out⟩
  replace hi_r := hi_r (by omega)
  have HI_r := Lib.hid hi_r
  have up_r : r ≤ 1048576 := by omega
  clear hi_r
  go_wp2_with fail
  refine (szA_any x_b y_b r z1_b z2_b (by omega) (by omega) _).mono ?_
  rintro e w_2 ⟨t, rfl, lo_t, hi_t, hb⟩
  have hB := hb
  replace q_a0 := (hB.cell (show (⟨w.heap.size, 0, none⟩ : Addr).block < _ from World.block_lt_of_cell? _ _ q_a0)).trans q_a0
  replace q_a1 := (hB.cell (show (⟨w.heap.size, 1, none⟩ : Addr).block < _ from World.block_lt_of_cell? _ _ q_a1)).trans q_a1
  replace b_a : w.heap.size < w_2.heap.size := World.block_lt_of_cell? _ _ q_a0
  replace q_b0 := (hB.cell (show (⟨w.heap.size + 1, 0, none⟩ : Addr).block < _ from World.block_lt_of_cell? _ _ q_b0)).trans q_b0
  replace q_b1 := (hB.cell (show (⟨w.heap.size + 1, 1, none⟩ : Addr).block < _ from World.block_lt_of_cell? _ _ q_b1)).trans q_b1
  replace b_b : w.heap.size + 1 < w_2.heap.size := World.block_lt_of_cell? _ _ q_b0
  have HS2 := Lib.hid hB.size
  replace HB := Lib.hid (HB.out.trans (hB.mono HB.out.size))
  clear hB
  by_cases neg_t : t < 0
  · go_wp2_with fail
    go_ret
    exact ⟨rfl, HB.out⟩
  replace hi_t := hi_t (by omega)
  have HI_t := Lib.hid hi_t
  have up_t : t ≤ 1048576 := by omega
  clear hi_t
  go_wp2_with fail
  have g_a0 := cell_grown (show (⟨w.heap.size, 0, none⟩ : Addr).block < w_2.heap.size from World.block_lt_of_cell? _ _ q_a0) q_a0
  have g_a1 := cell_grown (show (⟨w.heap.size, 1, none⟩ : Addr).block < w_2.heap.size from World.block_lt_of_cell? _ _ q_a1) q_a1
  have g_b0 := cell_grown (show (⟨w.heap.size + 1, 0, none⟩ : Addr).block < w_2.heap.size from World.block_lt_of_cell? _ _ q_b0) q_b0
  have g_b1 := cell_grown (show (⟨w.heap.size + 1, 1, none⟩ : Addr).block < w_2.heap.size from World.block_lt_of_cell? _ _ q_b1) q_b1
  go_quiet_grown (first | (go_at_call 27; refine Calls.grown_of (toA_any _ _ _)) | (go_at_call 30; refine Calls.grown_of (cmp_spec x_a y_a x_b y_b _)))
  obtain ⟨w_3, hw⟩ : ∃ x, Sort.grow (w_2.drewN nq) osq = x := ⟨_, rfl⟩
  rw [hw]
  have hB : Below w_2.heap.size w_2 w_3 := by rw [← hw]; exact grow_below _ _ _
  replace q_a0 := (hB.cell (show (⟨w.heap.size, 0, none⟩ : Addr).block < _ from World.block_lt_of_cell? _ _ q_a0)).trans q_a0
  replace q_a1 := (hB.cell (show (⟨w.heap.size, 1, none⟩ : Addr).block < _ from World.block_lt_of_cell? _ _ q_a1)).trans q_a1
  replace b_a : w.heap.size < w_3.heap.size := World.block_lt_of_cell? _ _ q_a0
  replace q_b0 := (hB.cell (show (⟨w.heap.size + 1, 0, none⟩ : Addr).block < _ from World.block_lt_of_cell? _ _ q_b0)).trans q_b0
  replace q_b1 := (hB.cell (show (⟨w.heap.size + 1, 1, none⟩ : Addr).block < _ from World.block_lt_of_cell? _ _ q_b1)).trans q_b1
  replace b_b : w.heap.size + 1 < w_3.heap.size := World.block_lt_of_cell? _ _ q_b0
  have HS3 := Lib.hid hB.size
  replace HB := Lib.hid (HB.out.trans (hB.mono HB.out.size))
  clear hB hw g_a0 g_a1 g_b0 g_b1
  go_wp2_with fail
  have g_a0 := cell_grown (show (⟨w.heap.size, 0, none⟩ : Addr).block < w_3.heap.size from World.block_lt_of_cell? _ _ q_a0) q_a0
  have g_a1 := cell_grown (show (⟨w.heap.size, 1, none⟩ : Addr).block < w_3.heap.size from World.block_lt_of_cell? _ _ q_a1) q_a1
  have g_b0 := cell_grown (show (⟨w.heap.size + 1, 0, none⟩ : Addr).block < w_3.heap.size from World.block_lt_of_cell? _ _ q_b0) q_b0
  have g_b1 := cell_grown (show (⟨w.heap.size + 1, 1, none⟩ : Addr).block < w_3.heap.size from World.block_lt_of_cell? _ _ q_b1) q_b1
  go_quiet_grown (first | (go_at_call 27; refine Calls.grown_of (toA_any _ _ _)) | (go_at_call 20; refine Calls.grown_of (cmp_impl x_a y_a x_b y_b _)))
  obtain ⟨w_4, hw⟩ : ∃ x, Sort.grow (w_3.drewN nq) osq = x := ⟨_, rfl⟩
  rw [hw]
  have hB : Below w_3.heap.size w_3 w_4 := by rw [← hw]; exact grow_below _ _ _
  replace q_a0 := (hB.cell (show (⟨w.heap.size, 0, none⟩ : Addr).block < _ from World.block_lt_of_cell? _ _ q_a0)).trans q_a0
  replace q_a1 := (hB.cell (show (⟨w.heap.size, 1, none⟩ : Addr).block < _ from World.block_lt_of_cell? _ _ q_a1)).trans q_a1
  replace b_a : w.heap.size < w_4.heap.size := World.block_lt_of_cell? _ _ q_a0
  replace q_b0 := (hB.cell (show (⟨w.heap.size + 1, 0, none⟩ : Addr).block < _ from World.block_lt_of_cell? _ _ q_b0)).trans q_b0
  replace q_b1 := (hB.cell (show (⟨w.heap.size + 1, 1, none⟩ : Addr).block < _ from World.block_lt_of_cell? _ _ q_b1)).trans q_b1
  replace b_b : w.heap.size + 1 < w_4.heap.size := World.block_lt_of_cell? _ _ q_b0
  have HS4 := Lib.hid hB.size
  replace HB := Lib.hid (HB.out.trans (hB.mono HB.out.size))
  clear hB hw g_a0 g_a1 g_b0 g_b1
  go_wp2_with fail
  go_ret
  exact ⟨rfl, HB.out⟩
end Go.Proofs.Ytojpbdhkcpfeaaa

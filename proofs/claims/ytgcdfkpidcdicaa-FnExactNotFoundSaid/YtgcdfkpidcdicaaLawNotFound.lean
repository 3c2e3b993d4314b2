/- The walk of the law FnExactNotFound: it returns true, and writes nothing that was there. -/
import Derived.Test.YtgcdfkpidcdicaaRspF
import Derived.Test.YtgcdfkpidcdicaaRowR
namespace Go.Proofs.Ytgcdfkpidcdicaa
open Go.ChangeShapes Go.WideShapes Go.ChangeAt Go.RowKit

set_option maxRecDepth 100000 in
set_option maxHeartbeats 4000000 in
theorem walkNotFound  (w : World)  :
    Calls Try.prog 4 #[] w fun e w' => e = .returned (.bool true) ∧ Below w.heap.size w w' := by
  go_enter Try.func4, Try.ntmps4
  have HB := Lib.hid (Below.refl w.heap.size w)
  go_wp2_with fail
  refine (nf_spec _).mono ?_
  rintro e w_1 ⟨rfl, hg⟩
  have hB := Grw.below hg
  have HS1 := Lib.hid hB.size
  replace HB := Lib.hid (HB.out.trans (hB.mono HB.out.size))
  clear hB
  go_wp2_with fail
  obtain ⟨w_2, hw⟩ : ∃ x, w_1.alloc (.cells #[.int .i64 404, .int .i64 1, .string ⟨#[]⟩, .int .i64 0, .bool false, .string ⟨#[]⟩] 33) = x := ⟨_, rfl⟩
  rw [hw]
  have hB : Below w_1.heap.size w_1 w_2 := by rw [← hw]; exact (Below.refl _ _).alloc (Nat.le_refl _) _
  have q_w0 : w_2.cell? ⟨w_1.heap.size, 0, none⟩ = some (.int .i64 404) := by rw [← hw]; simp
  have q_w1 : w_2.cell? ⟨w_1.heap.size, 1, none⟩ = some (.int .i64 1) := by rw [← hw]; simp
  have q_w2 : w_2.cell? ⟨w_1.heap.size, 2, none⟩ = some (.string ⟨#[]⟩) := by rw [← hw]; simp
  have q_w3 : w_2.cell? ⟨w_1.heap.size, 3, none⟩ = some (.int .i64 0) := by rw [← hw]; simp
  have q_w4 : w_2.cell? ⟨w_1.heap.size, 4, none⟩ = some (.bool false) := by rw [← hw]; simp
  have q_w5 : w_2.cell? ⟨w_1.heap.size, 5, none⟩ = some (.string ⟨#[]⟩) := by rw [← hw]; simp
  have b_w : w_1.heap.size < w_2.heap.size := World.block_lt_of_cell? _ _ q_w0
  have HS2 := Lib.hid hB.size
  replace HB := Lib.hid (HB.out.trans (hB.mono HB.out.size))
  clear hB hw
  go_wp2_with fail
  refine (nf_impl _).mono ?_
  rintro e w_3 ⟨rfl, hg⟩
  have hB := Grw.below hg
  replace q_w0 := (hB.cell (show (⟨w_1.heap.size, 0, none⟩ : Addr).block < _ from World.block_lt_of_cell? _ _ q_w0)).trans q_w0
  replace q_w1 := (hB.cell (show (⟨w_1.heap.size, 1, none⟩ : Addr).block < _ from World.block_lt_of_cell? _ _ q_w1)).trans q_w1
  replace q_w2 := (hB.cell (show (⟨w_1.heap.size, 2, none⟩ : Addr).block < _ from World.block_lt_of_cell? _ _ q_w2)).trans q_w2
  replace q_w3 := (hB.cell (show (⟨w_1.heap.size, 3, none⟩ : Addr).block < _ from World.block_lt_of_cell? _ _ q_w3)).trans q_w3
  replace q_w4 := (hB.cell (show (⟨w_1.heap.size, 4, none⟩ : Addr).block < _ from World.block_lt_of_cell? _ _ q_w4)).trans q_w4
  replace q_w5 := (hB.cell (show (⟨w_1.heap.size, 5, none⟩ : Addr).block < _ from World.block_lt_of_cell? _ _ q_w5)).trans q_w5
  replace b_w : w_1.heap.size < w_3.heap.size := World.block_lt_of_cell? _ _ q_w0
  have HS3 := Lib.hid hB.size
  replace HB := Lib.hid (HB.out.trans (hB.mono HB.out.size))
  clear hB
  go_wp2_with fail
  obtain ⟨w_4, hw⟩ : ∃ x, w_3.alloc (.cells #[.int .i64 404, .int .i64 1, .string ⟨#[]⟩, .int .i64 0, .bool false, .string ⟨#[]⟩] 33) = x := ⟨_, rfl⟩
  rw [hw]
  have hB : Below w_3.heap.size w_3 w_4 := by rw [← hw]; exact (Below.refl _ _).alloc (Nat.le_refl _) _
  have q_g0 : w_4.cell? ⟨w_3.heap.size, 0, none⟩ = some (.int .i64 404) := by rw [← hw]; simp
  have q_g1 : w_4.cell? ⟨w_3.heap.size, 1, none⟩ = some (.int .i64 1) := by rw [← hw]; simp
  have q_g2 : w_4.cell? ⟨w_3.heap.size, 2, none⟩ = some (.string ⟨#[]⟩) := by rw [← hw]; simp
  have q_g3 : w_4.cell? ⟨w_3.heap.size, 3, none⟩ = some (.int .i64 0) := by rw [← hw]; simp
  have q_g4 : w_4.cell? ⟨w_3.heap.size, 4, none⟩ = some (.bool false) := by rw [← hw]; simp
  have q_g5 : w_4.cell? ⟨w_3.heap.size, 5, none⟩ = some (.string ⟨#[]⟩) := by rw [← hw]; simp
  have b_g : w_3.heap.size < w_4.heap.size := World.block_lt_of_cell? _ _ q_g0
  replace q_w0 := (hB.cell (show (⟨w_1.heap.size, 0, none⟩ : Addr).block < _ from World.block_lt_of_cell? _ _ q_w0)).trans q_w0
  replace q_w1 := (hB.cell (show (⟨w_1.heap.size, 1, none⟩ : Addr).block < _ from World.block_lt_of_cell? _ _ q_w1)).trans q_w1
  replace q_w2 := (hB.cell (show (⟨w_1.heap.size, 2, none⟩ : Addr).block < _ from World.block_lt_of_cell? _ _ q_w2)).trans q_w2
  replace q_w3 := (hB.cell (show (⟨w_1.heap.size, 3, none⟩ : Addr).block < _ from World.block_lt_of_cell? _ _ q_w3)).trans q_w3
  replace q_w4 := (hB.cell (show (⟨w_1.heap.size, 4, none⟩ : Addr).block < _ from World.block_lt_of_cell? _ _ q_w4)).trans q_w4
  replace q_w5 := (hB.cell (show (⟨w_1.heap.size, 5, none⟩ : Addr).block < _ from World.block_lt_of_cell? _ _ q_w5)).trans q_w5
  replace b_w : w_1.heap.size < w_4.heap.size := World.block_lt_of_cell? _ _ q_w0
  have HS4 := Lib.hid hB.size
  replace HB := Lib.hid (HB.out.trans (hB.mono HB.out.size))
  clear hB hw
  go_wp2_with fail
  refine (eqR_self 404 1 ⟨#[]⟩ 0 false ⟨#[]⟩ _).mono ?_
  rintro e w_5 ⟨rfl, hg⟩
  have hB := Grw.below hg
  replace q_w0 := (hB.cell (show (⟨w_1.heap.size, 0, none⟩ : Addr).block < _ from World.block_lt_of_cell? _ _ q_w0)).trans q_w0
  replace q_w1 := (hB.cell (show (⟨w_1.heap.size, 1, none⟩ : Addr).block < _ from World.block_lt_of_cell? _ _ q_w1)).trans q_w1
  replace q_w2 := (hB.cell (show (⟨w_1.heap.size, 2, none⟩ : Addr).block < _ from World.block_lt_of_cell? _ _ q_w2)).trans q_w2
  replace q_w3 := (hB.cell (show (⟨w_1.heap.size, 3, none⟩ : Addr).block < _ from World.block_lt_of_cell? _ _ q_w3)).trans q_w3
  replace q_w4 := (hB.cell (show (⟨w_1.heap.size, 4, none⟩ : Addr).block < _ from World.block_lt_of_cell? _ _ q_w4)).trans q_w4
  replace q_w5 := (hB.cell (show (⟨w_1.heap.size, 5, none⟩ : Addr).block < _ from World.block_lt_of_cell? _ _ q_w5)).trans q_w5
  replace b_w : w_1.heap.size < w_5.heap.size := World.block_lt_of_cell? _ _ q_w0
  replace q_g0 := (hB.cell (show (⟨w_3.heap.size, 0, none⟩ : Addr).block < _ from World.block_lt_of_cell? _ _ q_g0)).trans q_g0
  replace q_g1 := (hB.cell (show (⟨w_3.heap.size, 1, none⟩ : Addr).block < _ from World.block_lt_of_cell? _ _ q_g1)).trans q_g1
  replace q_g2 := (hB.cell (show (⟨w_3.heap.size, 2, none⟩ : Addr).block < _ from World.block_lt_of_cell? _ _ q_g2)).trans q_g2
  replace q_g3 := (hB.cell (show (⟨w_3.heap.size, 3, none⟩ : Addr).block < _ from World.block_lt_of_cell? _ _ q_g3)).trans q_g3
  replace q_g4 := (hB.cell (show (⟨w_3.heap.size, 4, none⟩ : Addr).block < _ from World.block_lt_of_cell? _ _ q_g4)).trans q_g4
  replace q_g5 := (hB.cell (show (⟨w_3.heap.size, 5, none⟩ : Addr).block < _ from World.block_lt_of_cell? _ _ q_g5)).trans q_g5
  replace b_g : w_3.heap.size < w_5.heap.size := World.block_lt_of_cell? _ _ q_g0
  have HS5 := Lib.hid hB.size
  replace HB := Lib.hid (HB.out.trans (hB.mono HB.out.size))
  clear hB
  go_wp2_with fail
  go_ret
  exact ⟨rfl, HB.out⟩
end Go.Proofs.Ytgcdfkpidcdicaa

/- The walk of the law FnExactIsRequest: it returns true, and writes nothing that was there. -/
import Derived.Test.YtkjjiinccljhjaaRq
import Derived.Test.YtkjjiinccljhjaaRqA
namespace Go.Proofs.Ytkjjiinccljhjaa
open Go.ChangeShapes Go.WideShapes Go.ChangeAt Go.RowKit

set_option maxRecDepth 100000 in
set_option maxHeartbeats 4000000 in
theorem walkIsRequest (mk_q : Int) (mh_q mp_q mf_q mg_q : ByteArray) (w : World) (r_q : RqOk mh_q mp_q mf_q mg_q) :
    Calls Try.prog 3 #[.agg #[.int .i64 mk_q, .string mh_q, .string mp_q, .string mf_q, .string mg_q]] w fun e w' => e = .returned (.bool true) ∧ Below w.heap.size w w' := by
  go_enter Try.func3, Try.ntmps3
  go_wp2_with fail
  obtain ⟨w_0, hw_0⟩ : ∃ x, (w.alloc (.cells #[.int .i64 mk_q, .string mh_q, .string mp_q, .string mf_q, .string mg_q] 25)) = x := ⟨_, rfl⟩
  rw [hw_0]
  have HB := Lib.hid (show Below w.heap.size w w_0 by rw [← hw_0]; exact ((Below.refl w.heap.size w).alloc (by first | (simp; done) | (simp; omega)) _))
  have q_q0 : w_0.cell? ⟨w.heap.size, 0, none⟩ = some (.int .i64 mk_q) := by rw [← hw_0]; simp
  have q_q1 : w_0.cell? ⟨w.heap.size, 1, none⟩ = some (.string mh_q) := by rw [← hw_0]; simp
  have q_q2 : w_0.cell? ⟨w.heap.size, 2, none⟩ = some (.string mp_q) := by rw [← hw_0]; simp
  have q_q3 : w_0.cell? ⟨w.heap.size, 3, none⟩ = some (.string mf_q) := by rw [← hw_0]; simp
  have q_q4 : w_0.cell? ⟨w.heap.size, 4, none⟩ = some (.string mg_q) := by rw [← hw_0]; simp
  have b_q : w.heap.size < w_0.heap.size := World.block_lt_of_cell? _ _ q_q0
  have HS0 := Lib.hid (show w.heap.size + 1 ≤ w_0.heap.size by rw [← hw_0]; simp)
  clear hw_0
  go_wp2_with fail
  refine (szQ_any mk_q mh_q mp_q mf_q mg_q 1048576 r_q (by omega) (by omega) _).mono ?_
  rintro e w_1 ⟨r, rfl, lo_r, hi_r, hb⟩
  have hB := hb
  replace q_q0 := (hB.cell (show (⟨w.heap.size, 0, none⟩ : Addr).block < _ from World.block_lt_of_cell? _ _ q_q0)).trans q_q0
  replace q_q1 := (hB.cell (show (⟨w.heap.size, 1, none⟩ : Addr).block < _ from World.block_lt_of_cell? _ _ q_q1)).trans q_q1
  replace q_q2 := (hB.cell (show (⟨w.heap.size, 2, none⟩ : Addr).block < _ from World.block_lt_of_cell? _ _ q_q2)).trans q_q2
  replace q_q3 := (hB.cell (show (⟨w.heap.size, 3, none⟩ : Addr).block < _ from World.block_lt_of_cell? _ _ q_q3)).trans q_q3
  replace q_q4 := (hB.cell (show (⟨w.heap.size, 4, none⟩ : Addr).block < _ from World.block_lt_of_cell? _ _ q_q4)).trans q_q4
  replace b_q : w.heap.size < w_1.heap.size := World.block_lt_of_cell? _ _ q_q0
  have HS1 := Lib.hid hB.size
  replace HB := Lib.hid (HB.out.trans (hB.mono HB.out.size))
  clear hB
  by_cases neg_r : r < 0
  · go_wp2_with fail
    go_ret
    exact ⟨rfl, HB.out⟩
  replace hi_r := hi_r (by omega)
  have HI_r := Lib.hid hi_r
  have up_r : r ≤ 1048576 := by omega
  clear hi_r
  obtain ⟨M, hM⟩ : ∃ M, isRq mk_q mh_q mp_q mf_q mg_q = M := ⟨_, rfl⟩
  have HM := Lib.hid hM; clear hM
  have hMM : (M == M) = true := beq_self_eq_true _; have hMN : (M != M) = false := bne_self_eq_false _
  go_wp2_with fail
  refine (toQ_any mk_q mh_q mp_q mf_q mg_q _).mono ?_
  rintro e w_2 ⟨rfl, hg⟩
  have hB := Grw.below hg
  replace q_q0 := (hB.cell (show (⟨w.heap.size, 0, none⟩ : Addr).block < _ from World.block_lt_of_cell? _ _ q_q0)).trans q_q0
  replace q_q1 := (hB.cell (show (⟨w.heap.size, 1, none⟩ : Addr).block < _ from World.block_lt_of_cell? _ _ q_q1)).trans q_q1
  replace q_q2 := (hB.cell (show (⟨w.heap.size, 2, none⟩ : Addr).block < _ from World.block_lt_of_cell? _ _ q_q2)).trans q_q2
  replace q_q3 := (hB.cell (show (⟨w.heap.size, 3, none⟩ : Addr).block < _ from World.block_lt_of_cell? _ _ q_q3)).trans q_q3
  replace q_q4 := (hB.cell (show (⟨w.heap.size, 4, none⟩ : Addr).block < _ from World.block_lt_of_cell? _ _ q_q4)).trans q_q4
  replace b_q : w.heap.size < w_2.heap.size := World.block_lt_of_cell? _ _ q_q0
  have HS2 := Lib.hid hB.size
  replace HB := Lib.hid (HB.out.trans (hB.mono HB.out.size))
  clear hB
  go_wp2_with fail
  refine ((HM.out ▸ isRq_spec mk_q mh_q mp_q mf_q mg_q r_q _)).mono ?_
  rintro e w_3 ⟨rfl, hb⟩
  have hB := hb
  replace q_q0 := (hB.cell (show (⟨w.heap.size, 0, none⟩ : Addr).block < _ from World.block_lt_of_cell? _ _ q_q0)).trans q_q0
  replace q_q1 := (hB.cell (show (⟨w.heap.size, 1, none⟩ : Addr).block < _ from World.block_lt_of_cell? _ _ q_q1)).trans q_q1
  replace q_q2 := (hB.cell (show (⟨w.heap.size, 2, none⟩ : Addr).block < _ from World.block_lt_of_cell? _ _ q_q2)).trans q_q2
  replace q_q3 := (hB.cell (show (⟨w.heap.size, 3, none⟩ : Addr).block < _ from World.block_lt_of_cell? _ _ q_q3)).trans q_q3
  replace q_q4 := (hB.cell (show (⟨w.heap.size, 4, none⟩ : Addr).block < _ from World.block_lt_of_cell? _ _ q_q4)).trans q_q4
  replace b_q : w.heap.size < w_3.heap.size := World.block_lt_of_cell? _ _ q_q0
  have HS3 := Lib.hid hB.size
  replace HB := Lib.hid (HB.out.trans (hB.mono HB.out.size))
  clear hB
  go_wp2_with fail
  refine (toQ_any mk_q mh_q mp_q mf_q mg_q _).mono ?_
  rintro e w_4 ⟨rfl, hg⟩
  have hB := Grw.below hg
  replace q_q0 := (hB.cell (show (⟨w.heap.size, 0, none⟩ : Addr).block < _ from World.block_lt_of_cell? _ _ q_q0)).trans q_q0
  replace q_q1 := (hB.cell (show (⟨w.heap.size, 1, none⟩ : Addr).block < _ from World.block_lt_of_cell? _ _ q_q1)).trans q_q1
  replace q_q2 := (hB.cell (show (⟨w.heap.size, 2, none⟩ : Addr).block < _ from World.block_lt_of_cell? _ _ q_q2)).trans q_q2
  replace q_q3 := (hB.cell (show (⟨w.heap.size, 3, none⟩ : Addr).block < _ from World.block_lt_of_cell? _ _ q_q3)).trans q_q3
  replace q_q4 := (hB.cell (show (⟨w.heap.size, 4, none⟩ : Addr).block < _ from World.block_lt_of_cell? _ _ q_q4)).trans q_q4
  replace b_q : w.heap.size < w_4.heap.size := World.block_lt_of_cell? _ _ q_q0
  have HS4 := Lib.hid hB.size
  replace HB := Lib.hid (HB.out.trans (hB.mono HB.out.size))
  clear hB
  go_wp2_with fail
  refine ((HM.out ▸ isRq_impl mk_q mh_q mp_q mf_q mg_q r_q _)).mono ?_
  rintro e w_5 ⟨rfl, hb⟩
  have hB := hb
  replace q_q0 := (hB.cell (show (⟨w.heap.size, 0, none⟩ : Addr).block < _ from World.block_lt_of_cell? _ _ q_q0)).trans q_q0
  replace q_q1 := (hB.cell (show (⟨w.heap.size, 1, none⟩ : Addr).block < _ from World.block_lt_of_cell? _ _ q_q1)).trans q_q1
  replace q_q2 := (hB.cell (show (⟨w.heap.size, 2, none⟩ : Addr).block < _ from World.block_lt_of_cell? _ _ q_q2)).trans q_q2
  replace q_q3 := (hB.cell (show (⟨w.heap.size, 3, none⟩ : Addr).block < _ from World.block_lt_of_cell? _ _ q_q3)).trans q_q3
  replace q_q4 := (hB.cell (show (⟨w.heap.size, 4, none⟩ : Addr).block < _ from World.block_lt_of_cell? _ _ q_q4)).trans q_q4
  replace b_q : w.heap.size < w_5.heap.size := World.block_lt_of_cell? _ _ q_q0
  have HS5 := Lib.hid hB.size
  replace HB := Lib.hid (HB.out.trans (hB.mono HB.out.size))
  clear hB
  go_wp2_with fail
  go_ret
  exact ⟨rfl, HB.out⟩
end Go.Proofs.Ytkjjiinccljhjaa

/- The walk of the law FnExactParseAddr: it returns true, and writes nothing that was there. -/
import Derived.Test.YtojpbdhkcpfeaaaPrs
import Derived.Test.YtojpbdhkcpfeaaaHas
import Derived.Test.YtojpbdhkcpfeaaaMark
import Derived.Test.YtojpbdhkcpfeaaaRowA
namespace Go.Proofs.Ytojpbdhkcpfeaaa
open Go.ChangeShapes Go.WideShapes Go.ChangeAt Go.RowKit

set_option maxRecDepth 100000 in
set_option maxHeartbeats 4000000 in
theorem walkParseAddr (a_s : ByteArray) (a_b : ByteArray) (w : World) (r_s : a_s.size ≤ 9223372036854775807) (r_b : a_b.size ≤ 9223372036854775807) :
    Calls Try.prog 7 #[.string a_s, .string a_b] w fun e w' => e = .returned (.bool true) ∧ Below w.heap.size w w' := by
  by_cases big_s : (1048576 : Int) < (a_s.size : Int)
  · go_enter Try.func7, Try.ntmps7
    go_wp2_with fail
    go_ret
    exact ⟨rfl, Below.refl _ _⟩
  by_cases big_b : (1048576 : Int) < (a_b.size : Int)
  · go_enter Try.func7, Try.ntmps7
    go_wp2_with fail
    go_ret
    exact ⟨rfl, Below.refl _ _⟩
  obtain ⟨X, Y, B, hR⟩ : ∃ X Y B, prsA a_s a_b = ((X, Y), B) := ⟨_, _, _, rfl⟩
  have hsp := prs_spec a_s a_b (by omega) (by omega)
  have him := prs_impl a_s a_b (by omega) (by omega)
  rw [hR] at hsp him
  simp only [prsV] at hsp him
  have HSP := Lib.hid hsp; have HIM := Lib.hid him; clear hsp him hR
  go_enter Try.func7, Try.ntmps7
  have HB := Lib.hid (Below.refl w.heap.size w)
  go_wp2_with fail
  refine (HSP.out _).mono ?_
  rintro e w_1 ⟨rfl, hb⟩
  have hB := hb
  have HS1 := Lib.hid hB.size
  replace HB := Lib.hid (HB.out.trans (hB.mono HB.out.size))
  clear hB
  go_wp2_with fail
  obtain ⟨w_2, hw⟩ : ∃ x, w_1.alloc (.cells #[.string X, .string Y] 25) = x := ⟨_, rfl⟩
  rw [hw]
  have hB : Below w_1.heap.size w_1 w_2 := by rw [← hw]; exact (Below.refl _ _).alloc (Nat.le_refl _) _
  have q_w0 : w_2.cell? ⟨w_1.heap.size, 0, none⟩ = some (.string X) := by rw [← hw]; simp
  have q_w1 : w_2.cell? ⟨w_1.heap.size, 1, none⟩ = some (.string Y) := by rw [← hw]; simp
  have b_w : w_1.heap.size < w_2.heap.size := World.block_lt_of_cell? _ _ q_w0
  have HS2 := Lib.hid hB.size
  replace HB := Lib.hid (HB.out.trans (hB.mono HB.out.size))
  clear hB hw
  go_wp2_with fail
  refine (HIM.out _).mono ?_
  rintro e w_3 ⟨rfl, hb⟩
  have hB := hb
  replace q_w0 := (hB.cell (show (⟨w_1.heap.size, 0, none⟩ : Addr).block < _ from World.block_lt_of_cell? _ _ q_w0)).trans q_w0
  replace q_w1 := (hB.cell (show (⟨w_1.heap.size, 1, none⟩ : Addr).block < _ from World.block_lt_of_cell? _ _ q_w1)).trans q_w1
  replace b_w : w_1.heap.size < w_3.heap.size := World.block_lt_of_cell? _ _ q_w0
  have HS3 := Lib.hid hB.size
  replace HB := Lib.hid (HB.out.trans (hB.mono HB.out.size))
  clear hB
  go_wp2_with fail
  obtain ⟨w_4, hw⟩ : ∃ x, w_3.alloc (.cells #[.string X, .string Y] 25) = x := ⟨_, rfl⟩
  rw [hw]
  have hB : Below w_3.heap.size w_3 w_4 := by rw [← hw]; exact (Below.refl _ _).alloc (Nat.le_refl _) _
  have q_g0 : w_4.cell? ⟨w_3.heap.size, 0, none⟩ = some (.string X) := by rw [← hw]; simp
  have q_g1 : w_4.cell? ⟨w_3.heap.size, 1, none⟩ = some (.string Y) := by rw [← hw]; simp
  have b_g : w_3.heap.size < w_4.heap.size := World.block_lt_of_cell? _ _ q_g0
  replace q_w0 := (hB.cell (show (⟨w_1.heap.size, 0, none⟩ : Addr).block < _ from World.block_lt_of_cell? _ _ q_w0)).trans q_w0
  replace q_w1 := (hB.cell (show (⟨w_1.heap.size, 1, none⟩ : Addr).block < _ from World.block_lt_of_cell? _ _ q_w1)).trans q_w1
  replace b_w : w_1.heap.size < w_4.heap.size := World.block_lt_of_cell? _ _ q_w0
  have HS4 := Lib.hid hB.size
  replace HB := Lib.hid (HB.out.trans (hB.mono HB.out.size))
  clear hB hw
  go_wp2_with fail
  refine (eqA_any X Y X Y _).mono ?_
  rintro e w_5 ⟨rfl, hg⟩
  have hB := Grw.below hg
  replace q_w0 := (hB.cell (show (⟨w_1.heap.size, 0, none⟩ : Addr).block < _ from World.block_lt_of_cell? _ _ q_w0)).trans q_w0
  replace q_w1 := (hB.cell (show (⟨w_1.heap.size, 1, none⟩ : Addr).block < _ from World.block_lt_of_cell? _ _ q_w1)).trans q_w1
  replace b_w : w_1.heap.size < w_5.heap.size := World.block_lt_of_cell? _ _ q_w0
  replace q_g0 := (hB.cell (show (⟨w_3.heap.size, 0, none⟩ : Addr).block < _ from World.block_lt_of_cell? _ _ q_g0)).trans q_g0
  replace q_g1 := (hB.cell (show (⟨w_3.heap.size, 1, none⟩ : Addr).block < _ from World.block_lt_of_cell? _ _ q_g1)).trans q_g1
  replace b_g : w_3.heap.size < w_5.heap.size := World.block_lt_of_cell? _ _ q_g0
  have HS5 := Lib.hid hB.size
  replace HB := Lib.hid (HB.out.trans (hB.mono HB.out.size))
  rw [dec_self]
  clear hB
  have hbb : (B == B) = true := beq_self_eq_true B
  go_wp2_with fail
  go_ret
  exact ⟨rfl, HB.out⟩
end Go.Proofs.Ytojpbdhkcpfeaaa

/- The walk of the law FnExactHasAddr: it returns true, and writes nothing that was there. -/
import Derived.Test.YtojpbdhkcpfeaaaPrs
import Derived.Test.YtojpbdhkcpfeaaaHas
import Derived.Test.YtojpbdhkcpfeaaaMark
import Derived.Test.YtojpbdhkcpfeaaaRowA
import Derived.Deep.RegionWith
namespace Go.Proofs.Ytojpbdhkcpfeaaa
open Go.ChangeShapes Go.WideShapes Go.ChangeAt Go.RowKit

set_option maxRecDepth 100000 in
set_option maxHeartbeats 4000000 in
theorem walkHasAddr (a_l : Option Addr) (len_l cap_l : Nat) (xs_l : List Ad) (x_a y_a : ByteArray) (w : World) (r_l : IsAds w a_l len_l cap_l xs_l) (r_a : AdOk (x_a, y_a)) :
    Calls Try.prog 10 #[.slice a_l len_l cap_l, .agg #[.string x_a, .string y_a]] w fun e w' => e = .returned (.bool true) ∧ Below w.heap.size w w' := by
  obtain ⟨z1_a, z2_a⟩ := r_a
  simp only at z1_a z2_a
  obtain ⟨rd_l, rl_l, ok_l⟩ := r_l
  have HA := Lib.hid rd_l; have HOK := Lib.hid (show ∀ x ∈ xs_l, x.1.size ≤ 9223372036854775807 ∧ x.2.size ≤ 9223372036854775807 from ok_l); have HL := Lib.hid rl_l; clear rd_l ok_l rl_l
  go_enter Try.func10, Try.ntmps10
  go_wp2_with fail
  obtain ⟨w_0, hw_0⟩ : ∃ x, (w.alloc (.cells #[.string x_a, .string y_a] 41)) = x := ⟨_, rfl⟩
  rw [hw_0]
  have HB := Lib.hid (show Below w.heap.size w w_0 by rw [← hw_0]; exact ((Below.refl w.heap.size w).alloc (by first | (simp; done) | (simp; omega)) _))
  have q_a0 : w_0.cell? ⟨w.heap.size, 0, none⟩ = some (.string x_a) := by rw [← hw_0]; simp
  have q_a1 : w_0.cell? ⟨w.heap.size, 1, none⟩ = some (.string y_a) := by rw [← hw_0]; simp
  have b_a : w.heap.size < w_0.heap.size := World.block_lt_of_cell? _ _ q_a0
  have HS0 := Lib.hid (show w.heap.size + 1 ≤ w_0.heap.size by rw [← hw_0]; simp)
  clear hw_0
  go_wp2_with fail
  refine (szS_any _ w.heap.size xs_l 1048576 _ (HA.out.below HB.out (Nat.le_refl _)) HB.out.size HOK.out (by omega) (by omega)).mono ?_
  rintro e w_1 ⟨r, rfl, lo_r, hi_r, hb⟩
  have hB := hb
  replace q_a0 := (hB.cell (show (⟨w.heap.size, 0, none⟩ : Addr).block < _ from World.block_lt_of_cell? _ _ q_a0)).trans q_a0
  replace q_a1 := (hB.cell (show (⟨w.heap.size, 1, none⟩ : Addr).block < _ from World.block_lt_of_cell? _ _ q_a1)).trans q_a1
  replace b_a : w.heap.size < w_1.heap.size := World.block_lt_of_cell? _ _ q_a0
  have HS1 := Lib.hid hB.size
  replace HB := Lib.hid (HB.out.trans (hB.mono HB.out.size))
  clear hB
  by_cases neg_r : r < 0
  · go_wp2_with fail
    go_ret
    exact ⟨rfl, HB.out⟩
  obtain ⟨hn_l, hs_l⟩ := hi_r (by omega)
  have up_r : r ≤ 1048576 := by omega
  have HN := Lib.hid (show xs_l.length ≤ 1048576 by omega); clear hn_l hs_l hi_r
  go_wp2_with fail
  refine (szA_any x_a y_a r z1_a z2_a (by omega) (by omega) _).mono ?_
  rintro e w_2 ⟨t, rfl, lo_t, hi_t, hb⟩
  have hB := hb
  replace q_a0 := (hB.cell (show (⟨w.heap.size, 0, none⟩ : Addr).block < _ from World.block_lt_of_cell? _ _ q_a0)).trans q_a0
  replace q_a1 := (hB.cell (show (⟨w.heap.size, 1, none⟩ : Addr).block < _ from World.block_lt_of_cell? _ _ q_a1)).trans q_a1
  replace b_a : w.heap.size < w_2.heap.size := World.block_lt_of_cell? _ _ q_a0
  have HS2 := Lib.hid hB.size
  replace HB := Lib.hid (HB.out.trans (hB.mono HB.out.size))
  clear hB
  by_cases neg_t : t < 0
  · go_wp2_with fail
    go_ret
    exact ⟨rfl, HB.out⟩
  replace hi_t := hi_t (by omega)
  have HI_t := Lib.hid hi_t
  have up_t : t ≤ 1048576 := by omega
  clear hi_t
  go_wp2_with fail
  have hread := HA.out.below HB.out (Nat.le_refl _)
  have hsize := HB.out.size
  go_region_with (first | (go_at_call 33; refine (toS_any _ w.heap.size xs_l _ ?_ ?_ ?_).mono ?_; (first | exact hread | exact hread.below hgB.below hsize); (first | exact hsize | exact Nat.le_trans hsize hgB.below.size); (have := HN.out; omega); rintro e w_A ⟨v_c, rfl, hoA, hbA⟩; (first | have qA0 := (hbA.cell (p := ⟨w.heap.size, 0, none⟩) b_a).trans q_a0 | skip); (first | have qA1 := (hbA.cell (p := ⟨w.heap.size, 1, none⟩) b_a).trans q_a1 | skip)) | (go_at_call 27; refine (toA_any _ _ _).mono ?_; rintro e w_B ⟨rfl, hgB⟩) | (go_at_call 37; refine (has_spec _ w_A.heap.size xs_l x_a y_a _ ?_ ?_).mono ?_; (first | exact hoA.reads encA_len | exact (hoA.later hgB.below).reads encA_len); (first | exact Nat.le_refl _ | exact hgB.below.size); rintro e w_3 ⟨rfl, hgC⟩))
  all_goals
    have hB : Below w_2.heap.size w_2 w_3 := by first | exact below_undrew (hbA.trans ((hgB.below.trans (hgC.below.mono hgB.below.size)).mono hbA.size)) | exact below_undrew (hgB.below.trans ((hbA.trans (hgC.below.mono hbA.size)).mono hgB.below.size))
    clear hread hsize hgB hgC hoA hbA
    (first | clear qA0 qA1 | skip)
    replace q_a0 := (hB.cell (show (⟨w.heap.size, 0, none⟩ : Addr).block < _ from World.block_lt_of_cell? _ _ q_a0)).trans q_a0
    replace q_a1 := (hB.cell (show (⟨w.heap.size, 1, none⟩ : Addr).block < _ from World.block_lt_of_cell? _ _ q_a1)).trans q_a1
    replace b_a : w.heap.size < w_3.heap.size := World.block_lt_of_cell? _ _ q_a0
    have HS3 := Lib.hid hB.size
    replace HB := Lib.hid (HB.out.trans (hB.mono HB.out.size))
    clear hB
    go_wp2_with fail
    refine (toS_any _ w.heap.size xs_l _ (HA.out.below HB.out (Nat.le_refl _)) HB.out.size (by have := HN.out; omega)).mono ?_
    rintro e w_4 ⟨v_x, rfl, ho, hb⟩
    have hB := hb
    replace q_a0 := (hB.cell (show (⟨w.heap.size, 0, none⟩ : Addr).block < _ from World.block_lt_of_cell? _ _ q_a0)).trans q_a0
    replace q_a1 := (hB.cell (show (⟨w.heap.size, 1, none⟩ : Addr).block < _ from World.block_lt_of_cell? _ _ q_a1)).trans q_a1
    replace b_a : w.heap.size < w_4.heap.size := World.block_lt_of_cell? _ _ q_a0
    have Hx := Lib.hid ho
    have HS4 := Lib.hid hB.size
    replace HB := Lib.hid (HB.out.trans (hB.mono HB.out.size))
    clear hB ho
    go_wp2_with fail
    refine (toA_any x_a y_a _).mono ?_
    rintro e w_5 ⟨rfl, hg⟩
    have hB := Grw.below hg
    replace q_a0 := (hB.cell (show (⟨w.heap.size, 0, none⟩ : Addr).block < _ from World.block_lt_of_cell? _ _ q_a0)).trans q_a0
    replace q_a1 := (hB.cell (show (⟨w.heap.size, 1, none⟩ : Addr).block < _ from World.block_lt_of_cell? _ _ q_a1)).trans q_a1
    replace b_a : w.heap.size < w_5.heap.size := World.block_lt_of_cell? _ _ q_a0
    replace Hx := Lib.hid (Hx.out.later hB)
    have HS5 := Lib.hid hB.size
    replace HB := Lib.hid (HB.out.trans (hB.mono HB.out.size))
    clear hB
    go_wp2_with fail
    refine (has_impl _ _ xs_l x_a y_a _ (Hx.out.reads encA_len) (by have := HS0.out; have := HS1.out; have := HS2.out; have := HS3.out; have := HS4.out; have := HS5.out; omega)).mono ?_
    rintro e w_6 ⟨rfl, hg⟩
    have hB := hg.below
    replace q_a0 := (hB.cell (show (⟨w.heap.size, 0, none⟩ : Addr).block < _ from World.block_lt_of_cell? _ _ q_a0)).trans q_a0
    replace q_a1 := (hB.cell (show (⟨w.heap.size, 1, none⟩ : Addr).block < _ from World.block_lt_of_cell? _ _ q_a1)).trans q_a1
    replace b_a : w.heap.size < w_6.heap.size := World.block_lt_of_cell? _ _ q_a0
    replace Hx := Lib.hid (Hx.out.later hB)
    have HS6 := Lib.hid hB.size
    replace HB := Lib.hid (HB.out.trans (hB.mono HB.out.size))
    clear hB
    go_wp2_with fail
    refine (toS_any _ w.heap.size xs_l _ (HA.out.below HB.out (Nat.le_refl _)) HB.out.size (by have := HN.out; omega)).mono ?_
    rintro e w_7 ⟨v_y, rfl, ho, hb⟩
    have hB := hb
    replace q_a0 := (hB.cell (show (⟨w.heap.size, 0, none⟩ : Addr).block < _ from World.block_lt_of_cell? _ _ q_a0)).trans q_a0
    replace q_a1 := (hB.cell (show (⟨w.heap.size, 1, none⟩ : Addr).block < _ from World.block_lt_of_cell? _ _ q_a1)).trans q_a1
    replace b_a : w.heap.size < w_7.heap.size := World.block_lt_of_cell? _ _ q_a0
    replace Hx := Lib.hid (Hx.out.later hB)
    have Hy := Lib.hid ho
    have HS7 := Lib.hid hB.size
    replace HB := Lib.hid (HB.out.trans (hB.mono HB.out.size))
    clear hB ho
    go_wp2_with fail
    refine (eqS_any _ _ _ _ xs_l _ (Hx.out.reads encA_len) (Hy.out.reads encA_len) (by have := HS0.out; have := HS1.out; have := HS2.out; have := HS3.out; have := HS4.out; have := HS5.out; have := HS6.out; have := HS7.out; omega) (by have := HS0.out; have := HS1.out; have := HS2.out; have := HS3.out; have := HS4.out; have := HS5.out; have := HS6.out; have := HS7.out; omega)).mono ?_
    rintro e w_8 ⟨rfl, hg⟩
    have hB := hg.below
    replace q_a0 := (hB.cell (show (⟨w.heap.size, 0, none⟩ : Addr).block < _ from World.block_lt_of_cell? _ _ q_a0)).trans q_a0
    replace q_a1 := (hB.cell (show (⟨w.heap.size, 1, none⟩ : Addr).block < _ from World.block_lt_of_cell? _ _ q_a1)).trans q_a1
    replace b_a : w.heap.size < w_8.heap.size := World.block_lt_of_cell? _ _ q_a0
    replace Hx := Lib.hid (Hx.out.later hB)
    replace Hy := Lib.hid (Hy.out.later hB)
    have HS8 := Lib.hid hB.size
    replace HB := Lib.hid (HB.out.trans (hB.mono HB.out.size))
    clear hB
    go_wp2_with fail
    go_ret
    exact ⟨rfl, HB.out⟩
end Go.Proofs.Ytojpbdhkcpfeaaa

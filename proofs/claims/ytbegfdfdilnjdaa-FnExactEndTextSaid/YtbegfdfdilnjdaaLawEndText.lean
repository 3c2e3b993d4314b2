/- The walk of the law FnExactEndText: it returns true, and writes nothing that was there. -/
import Derived.Test.YtbegfdfdilnjdaaEnd
import Derived.Test.YtbegfdfdilnjdaaLawT
import Derived.Test.YtbegfdfdilnjdaaDpTzr
import Derived.Test.YtbegfdfdilnjdaaRowT
namespace Go.Proofs.Ytbegfdfdilnjdaa
open Go.ChangeShapes Go.WideShapes Go.ChangeAt Go.RowKit

set_option maxRecDepth 100000 in
set_option maxHeartbeats 4000000 in
theorem walkEndText (x_t : ByteArray) (w : World) (r_t : x_t.size ≤ 9223372036854775807) :
    Calls Try.prog 5 #[.agg #[.string x_t]] w fun e w' => e = .returned (.bool true) ∧ Below w.heap.size w w' := by
  go_enter Try.func5, Try.ntmps5
  go_wp2_with fail
  obtain ⟨w_0, hw_0⟩ : ∃ x, (w.alloc (.cells #[.string x_t] 35)) = x := ⟨_, rfl⟩
  rw [hw_0]
  have HB := Lib.hid (show Below w.heap.size w w_0 by rw [← hw_0]; exact ((Below.refl w.heap.size w).alloc (by first | (simp; done) | (simp; omega)) _))
  have q_t0 : w_0.cell? ⟨w.heap.size, 0, none⟩ = some (.string x_t) := by rw [← hw_0]; simp
  have b_t : w.heap.size < w_0.heap.size := World.block_lt_of_cell? _ _ q_t0
  have HS0 := Lib.hid (show w.heap.size + 1 ≤ w_0.heap.size by rw [← hw_0]; simp)
  clear hw_0
  go_wp2_with fail
  refine (sz_Tokenizer x_t 1048576 (by omega) (by omega) _ r_t).mono ?_
  rintro e w_1 ⟨r, rfl, lo_r, hi_r, hg⟩
  have hB := hg.below
  replace q_t0 := (hB.cell (show (⟨w.heap.size, 0, none⟩ : Addr).block < _ from World.block_lt_of_cell? _ _ q_t0)).trans q_t0
  replace b_t : w.heap.size < w_1.heap.size := World.block_lt_of_cell? _ _ q_t0
  have HS1 := Lib.hid hB.size
  replace HB := Lib.hid (HB.out.trans (hB.mono HB.out.size))
  clear hB hg
  by_cases neg_r : r < 0
  · go_wp2_with fail
    go_ret
    exact ⟨rfl, HB.out⟩
  replace hi_r := hi_r (by omega)
  have hz_t : x_t.size ≤ 1048576 := by omega
  clear hi_r
  have HSP := Lib.hid (fun W => end_spec x_t W); have HIM := Lib.hid (fun W => end_impl x_t W)
  have HLEN := Lib.hid (show 11 * (endB x_t.data.toList).length ≤ 11 by unfold endB; split <;> simp)
  have HATT := Lib.hid (end_attrs x_t.data.toList)
  obtain ⟨T, hT⟩ : ∃ T, endB x_t.data.toList = T := ⟨_, rfl⟩
  rw [hT] at HLEN HATT HSP HIM
  clear hT
  go_wp2_with fail
  refine (to_Tokenizer x_t _).mono ?_
  rintro e w_2 ⟨rfl, hg⟩
  have hB := hg.below
  replace q_t0 := (hB.cell (show (⟨w.heap.size, 0, none⟩ : Addr).block < _ from World.block_lt_of_cell? _ _ q_t0)).trans q_t0
  replace b_t : w.heap.size < w_2.heap.size := World.block_lt_of_cell? _ _ q_t0
  have HS2 := Lib.hid hB.size
  replace HB := Lib.hid (HB.out.trans (hB.mono HB.out.size))
  clear hB hg
  go_wp2_with fail
  refine (HSP.out _).mono ?_
  rintro e w_3 ⟨v_x, t_x, rfl, hts, hM⟩
  have hB := hM.row.below
  replace q_t0 := (hB.cell (show (⟨w.heap.size, 0, none⟩ : Addr).block < _ from World.block_lt_of_cell? _ _ q_t0)).trans q_t0
  replace b_t : w.heap.size < w_3.heap.size := World.block_lt_of_cell? _ _ q_t0
  have Hx := Lib.hid (hM.own)
  have HS3 := Lib.hid hB.size
  replace HB := Lib.hid (HB.out.trans (hB.mono HB.out.size))
  have HT_x := Lib.hid hts
  have HN_x := Lib.hid hM.nodup
  clear hB hts hM
  go_wp2_with fail
  refine (to_Tokenizer x_t _).mono ?_
  rintro e w_4 ⟨rfl, hg⟩
  have hB := hg.below
  replace q_t0 := (hB.cell (show (⟨w.heap.size, 0, none⟩ : Addr).block < _ from World.block_lt_of_cell? _ _ q_t0)).trans q_t0
  replace b_t : w.heap.size < w_4.heap.size := World.block_lt_of_cell? _ _ q_t0
  replace Hx := Lib.hid (Hx.out.later hB)
  have HS4 := Lib.hid hB.size
  replace HB := Lib.hid (HB.out.trans (hB.mono HB.out.size))
  clear hB hg
  go_wp2_with fail
  refine (HIM.out _).mono ?_
  rintro e w_5 ⟨v_y, t_y, rfl, hts, hM⟩
  have hB := hM.row.below
  replace q_t0 := (hB.cell (show (⟨w.heap.size, 0, none⟩ : Addr).block < _ from World.block_lt_of_cell? _ _ q_t0)).trans q_t0
  replace b_t : w.heap.size < w_5.heap.size := World.block_lt_of_cell? _ _ q_t0
  replace Hx := Lib.hid (Hx.out.later hB)
  have Hy := Lib.hid (hM.own)
  have HS5 := Lib.hid hB.size
  replace HB := Lib.hid (HB.out.trans (hB.mono HB.out.size))
  have HT_y := Lib.hid hts
  have HN_y := Lib.hid hM.nodup
  clear hB hts hM
  go_wp2_with fail
  refine (eq_TokenS (rwT v_y t_y) (rwT v_x t_x) (rwT_is _ _) (rwT_is _ _) (rwT_data _ _ (HT_y.out.trans HT_x.out.symm)) _ (own_read Hy.out (by have := HS0.out; have := HS1.out; have := HS2.out; have := HS3.out; have := HS4.out; have := HS5.out; omega)) (own_read Hx.out (by have := HS0.out; have := HS1.out; have := HS2.out; have := HS3.out; have := HS4.out; have := HS5.out; omega))).mono ?_
  rintro e w_6 ⟨rfl, hg⟩
  have hB := hg.below
  replace q_t0 := (hB.cell (show (⟨w.heap.size, 0, none⟩ : Addr).block < _ from World.block_lt_of_cell? _ _ q_t0)).trans q_t0
  replace b_t : w.heap.size < w_6.heap.size := World.block_lt_of_cell? _ _ q_t0
  replace Hx := Lib.hid (Hx.out.later hB)
  replace Hy := Lib.hid (Hy.out.later hB)
  have HS6 := Lib.hid hB.size
  replace HB := Lib.hid (HB.out.trans (hB.mono HB.out.size))
  clear hB hg
  have HCT := Lib.hid (show 1 + (rwT v_y t_y).count ≤ 4611686018427387904 by have := rwT_small (v := v_y) HT_y.out HATT.out; have := HLEN.out; omega)
  go_wp2_with fail
  refine (mk_TokenS (rwT v_y t_y) (rwT_is _ _) _ _ 1 _ rfl _ Hy.out HN_y.out HCT.out).mono ?_
  rintro e w_7 ⟨rfl, hmk, hon⟩
  replace q_t0 := (cell_only (a := ⟨w.heap.size, 0, none⟩) hon (show w.heap.size ∉ _ from fun hb => by have hh := Rw.OwnR.lt _ Hy.out _ hb; have := HS0.out; have := HS1.out; have := HS2.out; have := HS3.out; have := HS4.out; have := HS5.out; have := HS6.out; omega) (World.block_lt_of_cell? _ _ q_t0)).trans q_t0
  replace b_t : w.heap.size < w_7.heap.size := World.block_lt_of_cell? _ _ q_t0
  have hbk := own_back (lo := w.heap.size) HB.out (own_mono Hy.out (lo' := w.heap.size) (by have := HS0.out; have := HS1.out; have := HS2.out; have := HS3.out; have := HS4.out; have := HS5.out; have := HS6.out; omega) (Nat.le_refl _)) HB.out.size hon
  replace Hx := Lib.hid (own_apart Hx.out Hy.out (by have := HS0.out; have := HS1.out; have := HS2.out; have := HS3.out; have := HS4.out; have := HS5.out; have := HS6.out; omega) hon)
  replace Hy := Lib.hid hmk
  have HS7 := Lib.hid hon.size
  replace HB := Lib.hid hbk
  clear hbk hmk hon
  obtain ⟨m, hm⟩ : ∃ m, 1 + (rwT v_y t_y).count = m := ⟨_, rfl⟩
  rw [hm]
  have HM := Lib.hid hm
  have hmq : ((m : Int) == (m : Int)) = true := beq_self_eq_true _
  have hm0 : ¬ ((m : Int) < 0) := by omega
  clear hm
  go_wp2_with fail
  refine (hd_TokenS (rwT v_y t_y) (rwT_is _ _) _ 1 _ rfl _ (mark_is_read Hy.out (Nat.le_refl _)) (by have := HS0.out; have := HS1.out; have := HS2.out; have := HS3.out; have := HS4.out; have := HS5.out; have := HS6.out; have := HS7.out; omega) HCT.out).mono ?_
  rintro e w_8 ⟨rfl, hg⟩
  have hB := hg.below
  replace q_t0 := (hB.cell (show (⟨w.heap.size, 0, none⟩ : Addr).block < _ from World.block_lt_of_cell? _ _ q_t0)).trans q_t0
  replace b_t : w.heap.size < w_8.heap.size := World.block_lt_of_cell? _ _ q_t0
  replace Hx := Lib.hid (Hx.out.later hB)
  replace Hy := Lib.hid (Hy.out.later hB)
  have HS8 := Lib.hid hB.size
  replace HB := Lib.hid (HB.out.trans (hB.mono HB.out.size))
  rw [HM.out]
  clear hB hg
  go_wp2_with fail
  refine (to_Tokenizer x_t _).mono ?_
  rintro e w_9 ⟨rfl, hg⟩
  have hB := hg.below
  replace q_t0 := (hB.cell (show (⟨w.heap.size, 0, none⟩ : Addr).block < _ from World.block_lt_of_cell? _ _ q_t0)).trans q_t0
  replace b_t : w.heap.size < w_9.heap.size := World.block_lt_of_cell? _ _ q_t0
  replace Hx := Lib.hid (Hx.out.later hB)
  replace Hy := Lib.hid (Hy.out.later hB)
  have HS9 := Lib.hid hB.size
  replace HB := Lib.hid (HB.out.trans (hB.mono HB.out.size))
  clear hB hg
  go_wp2_with fail
  refine (HIM.out _).mono ?_
  rintro e w_10 ⟨v_z, t_z, rfl, hts, hM⟩
  have hB := hM.row.below
  replace q_t0 := (hB.cell (show (⟨w.heap.size, 0, none⟩ : Addr).block < _ from World.block_lt_of_cell? _ _ q_t0)).trans q_t0
  replace b_t : w.heap.size < w_10.heap.size := World.block_lt_of_cell? _ _ q_t0
  replace Hx := Lib.hid (Hx.out.later hB)
  replace Hy := Lib.hid (Hy.out.later hB)
  have Hz := Lib.hid (hM.own)
  have HS10 := Lib.hid hB.size
  replace HB := Lib.hid (HB.out.trans (hB.mono HB.out.size))
  have HT_z := Lib.hid hts
  have HN_z := Lib.hid hM.nodup
  clear hB hts hM
  go_wp2_with fail
  refine (eq_TokenS (rwT v_z t_z) (rwT v_x t_x) (rwT_is _ _) (rwT_is _ _) (rwT_data _ _ (HT_z.out.trans HT_x.out.symm)) _ (own_read Hz.out (by have := HS0.out; have := HS1.out; have := HS2.out; have := HS3.out; have := HS4.out; have := HS5.out; have := HS6.out; have := HS7.out; have := HS8.out; have := HS9.out; have := HS10.out; omega)) (own_read Hx.out (by have := HS0.out; have := HS1.out; have := HS2.out; have := HS3.out; have := HS4.out; have := HS5.out; have := HS6.out; have := HS7.out; have := HS8.out; have := HS9.out; have := HS10.out; omega))).mono ?_
  rintro e w_11 ⟨rfl, hg⟩
  have hB := hg.below
  replace q_t0 := (hB.cell (show (⟨w.heap.size, 0, none⟩ : Addr).block < _ from World.block_lt_of_cell? _ _ q_t0)).trans q_t0
  replace b_t : w.heap.size < w_11.heap.size := World.block_lt_of_cell? _ _ q_t0
  replace Hx := Lib.hid (Hx.out.later hB)
  replace Hy := Lib.hid (Hy.out.later hB)
  replace Hz := Lib.hid (Hz.out.later hB)
  have HS11 := Lib.hid hB.size
  replace HB := Lib.hid (HB.out.trans (hB.mono HB.out.size))
  clear hB hg
  go_wp2_with fail
  refine (hd_TokenS (rwT v_y t_y) (rwT_is _ _) _ 1 _ rfl _ (mark_is_read Hy.out (Nat.le_refl _)) (by have := HS0.out; have := HS1.out; have := HS2.out; have := HS3.out; have := HS4.out; have := HS5.out; have := HS6.out; have := HS7.out; have := HS8.out; have := HS9.out; have := HS10.out; have := HS11.out; omega) HCT.out).mono ?_
  rintro e w_12 ⟨rfl, hg⟩
  have hB := hg.below
  replace q_t0 := (hB.cell (show (⟨w.heap.size, 0, none⟩ : Addr).block < _ from World.block_lt_of_cell? _ _ q_t0)).trans q_t0
  replace b_t : w.heap.size < w_12.heap.size := World.block_lt_of_cell? _ _ q_t0
  replace Hx := Lib.hid (Hx.out.later hB)
  replace Hy := Lib.hid (Hy.out.later hB)
  replace Hz := Lib.hid (Hz.out.later hB)
  have HS12 := Lib.hid hB.size
  replace HB := Lib.hid (HB.out.trans (hB.mono HB.out.size))
  rw [HM.out]
  clear hB hg
  go_wp2_with fail
  go_ret
  exact ⟨rfl, HB.out⟩
end Go.Proofs.Ytbegfdfdilnjdaa

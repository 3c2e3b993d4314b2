/- The walk of the law FnExactTagOf: it returns true, and writes nothing that was there. -/
import Derived.Test.YtbegfdfdilnjdaaDoorTagJ
import Derived.Test.YtbegfdfdilnjdaaDoorTagS
import Derived.Test.YtbegfdfdilnjdaaDoorLawT
namespace Go.Proofs.YtbegfdfdilnjdaaDoor
open Go.ChangeShapes Go.WideShapes Go.ChangeAt Go.RowKit

set_option maxRecDepth 100000 in
set_option maxHeartbeats 4000000 in
theorem walkTagOf (a_s : ByteArray) (w : World) (r_s : a_s.size ≤ 9223372036854775807) :
    Calls Tryd.prog 5 #[.string a_s] w fun e w' => e = .returned (.bool true) ∧ Below w.heap.size w w' := by
  by_cases big_s : (1048576 : Int) < (a_s.size : Int)
  · go_enter Tryd.func5, Tryd.ntmps5
    go_wp2_with fail
    go_ret
    exact ⟨rfl, by first | exact Below.refl _ _ | exact (Below.refl _ _).alloc (Nat.le_refl _) _⟩
  have hs : a_s.size ≤ 1099511627 := by omega
  have HSP := Lib.hid (fun W => tagS_any a_s hs W); have HIM := Lib.hid (fun W => tagI_any a_s hs W)
  have hatt : (tagT a_s).attrs.length ≤ 4 := by
    unfold tagT; cases h : tagB a_s.data.toList with
    | none => exact Nat.zero_le _
    | some t => exact tagB_attrs h
  have HTO := Lib.hid (fun w e w' h => (tagOut_all (s := a_s) (w := w) (e := e) (w' := w') h))
  obtain ⟨K, hK⟩ : ∃ x, (tagT a_s).kind = x := ⟨_, rfl⟩
  obtain ⟨NM, hNM⟩ : ∃ x, (tagT a_s).name = x := ⟨_, rfl⟩
  obtain ⟨TX, hTX⟩ : ∃ x, (tagT a_s).text = x := ⟨_, rfl⟩
  obtain ⟨AT, hAT⟩ : ∃ x, (tagT a_s).attrs = x := ⟨_, rfl⟩
  obtain ⟨OK, hOK⟩ : ∃ x, tagOk a_s = x := ⟨_, rfl⟩
  rw [hK, hNM, hTX, hAT, hOK] at HTO
  rw [hAT] at hatt
  have HATT := Lib.hid hatt
  have hok : (OK == OK) = true := beq_self_eq_true _
  clear hK hNM hTX hAT hOK hatt hs
  go_enter Tryd.func5, Tryd.ntmps5
  have HB := Lib.hid (Below.refl w.heap.size w)
  go_wp2_with fail
  refine ((HSP.out _).mono (HTO.out _)).mono ?_
  rintro e w_1 ⟨a_x, n_x, c_x, rfl, ho, hb⟩
  have hB := hb
  have Hx := Lib.hid (rwA_own ho)
  have HS1 := Lib.hid hB.size
  replace HB := Lib.hid (HB.out.trans (hB.mono HB.out.size))
  clear hB ho hb
  go_wp2_with fail
  obtain ⟨w_2, hw⟩ : ∃ x, w_1.alloc (.cells #[.int .i64 K, .string NM, .slice a_x n_x c_x, .string TX] 27) = x := ⟨_, rfl⟩
  rw [hw]
  have hB : Below w_1.heap.size w_1 w_2 := by rw [← hw]; exact (Below.refl _ _).alloc (Nat.le_refl _) _
  have q_x0 : w_2.cell? ⟨w_1.heap.size, 0, none⟩ = some (.int .i64 K) := by rw [← hw]; simp
  have q_x1 : w_2.cell? ⟨w_1.heap.size, 1, none⟩ = some (.string NM) := by rw [← hw]; simp
  have q_x2 : w_2.cell? ⟨w_1.heap.size, 2, none⟩ = some (.slice a_x n_x c_x) := by rw [← hw]; simp
  have q_x3 : w_2.cell? ⟨w_1.heap.size, 3, none⟩ = some (.string TX) := by rw [← hw]; simp
  have b_x : w_1.heap.size < w_2.heap.size := World.block_lt_of_cell? _ _ q_x0
  replace Hx := Lib.hid (Hx.out.later hB)
  have HS2 := Lib.hid hB.size
  replace HB := Lib.hid (HB.out.trans (hB.mono HB.out.size))
  clear hB hw
  have HSb_x := Lib.hid b_x
  go_wp2_with fail
  refine ((HIM.out _).mono (HTO.out _)).mono ?_
  rintro e w_3 ⟨a_y, n_y, c_y, rfl, ho, hb⟩
  have hB := hb
  replace q_x0 := (hB.cell (show (⟨w_1.heap.size, 0, none⟩ : Addr).block < _ from World.block_lt_of_cell? _ _ q_x0)).trans q_x0
  replace q_x1 := (hB.cell (show (⟨w_1.heap.size, 1, none⟩ : Addr).block < _ from World.block_lt_of_cell? _ _ q_x1)).trans q_x1
  replace q_x2 := (hB.cell (show (⟨w_1.heap.size, 2, none⟩ : Addr).block < _ from World.block_lt_of_cell? _ _ q_x2)).trans q_x2
  replace q_x3 := (hB.cell (show (⟨w_1.heap.size, 3, none⟩ : Addr).block < _ from World.block_lt_of_cell? _ _ q_x3)).trans q_x3
  replace b_x : w_1.heap.size < w_3.heap.size := World.block_lt_of_cell? _ _ q_x0
  replace Hx := Lib.hid (Hx.out.later hB)
  have Hy := Lib.hid (rwA_own ho)
  have HS3 := Lib.hid hB.size
  replace HB := Lib.hid (HB.out.trans (hB.mono HB.out.size))
  clear hB ho hb
  go_wp2_with fail
  obtain ⟨w_4, hw⟩ : ∃ x, w_3.alloc (.cells #[.int .i64 K, .string NM, .slice a_y n_y c_y, .string TX] 27) = x := ⟨_, rfl⟩
  rw [hw]
  have hB : Below w_3.heap.size w_3 w_4 := by rw [← hw]; exact (Below.refl _ _).alloc (Nat.le_refl _) _
  have q_y0 : w_4.cell? ⟨w_3.heap.size, 0, none⟩ = some (.int .i64 K) := by rw [← hw]; simp
  have q_y1 : w_4.cell? ⟨w_3.heap.size, 1, none⟩ = some (.string NM) := by rw [← hw]; simp
  have q_y2 : w_4.cell? ⟨w_3.heap.size, 2, none⟩ = some (.slice a_y n_y c_y) := by rw [← hw]; simp
  have q_y3 : w_4.cell? ⟨w_3.heap.size, 3, none⟩ = some (.string TX) := by rw [← hw]; simp
  have b_y : w_3.heap.size < w_4.heap.size := World.block_lt_of_cell? _ _ q_y0
  replace q_x0 := (hB.cell (show (⟨w_1.heap.size, 0, none⟩ : Addr).block < _ from World.block_lt_of_cell? _ _ q_x0)).trans q_x0
  replace q_x1 := (hB.cell (show (⟨w_1.heap.size, 1, none⟩ : Addr).block < _ from World.block_lt_of_cell? _ _ q_x1)).trans q_x1
  replace q_x2 := (hB.cell (show (⟨w_1.heap.size, 2, none⟩ : Addr).block < _ from World.block_lt_of_cell? _ _ q_x2)).trans q_x2
  replace q_x3 := (hB.cell (show (⟨w_1.heap.size, 3, none⟩ : Addr).block < _ from World.block_lt_of_cell? _ _ q_x3)).trans q_x3
  replace b_x : w_1.heap.size < w_4.heap.size := World.block_lt_of_cell? _ _ q_x0
  replace Hx := Lib.hid (Hx.out.later hB)
  replace Hy := Lib.hid (Hy.out.later hB)
  have HS4 := Lib.hid hB.size
  replace HB := Lib.hid (HB.out.trans (hB.mono HB.out.size))
  clear hB hw
  have HSb_y := Lib.hid b_y
  go_wp2_with fail
  refine (eq_Token K NM (rwA (.slice a_y n_y c_y) AT) (rwA (.slice a_x n_x c_x) AT) TX _ (rwA_is _ _) (rwA_is _ _) (rwA_data _ _ _) (own_read Hy.out (by have := HS1.out; have := HS2.out; have := HSb_x.out; have := HS3.out; have := HS4.out; have := HSb_y.out; omega)) (own_read Hx.out (by have := HS1.out; have := HS2.out; have := HSb_x.out; have := HS3.out; have := HS4.out; have := HSb_y.out; omega))).mono ?_
  rintro e w_5 ⟨rfl, hg⟩
  have hB := hg.below
  replace q_x0 := (hB.cell (show (⟨w_1.heap.size, 0, none⟩ : Addr).block < _ from World.block_lt_of_cell? _ _ q_x0)).trans q_x0
  replace q_x1 := (hB.cell (show (⟨w_1.heap.size, 1, none⟩ : Addr).block < _ from World.block_lt_of_cell? _ _ q_x1)).trans q_x1
  replace q_x2 := (hB.cell (show (⟨w_1.heap.size, 2, none⟩ : Addr).block < _ from World.block_lt_of_cell? _ _ q_x2)).trans q_x2
  replace q_x3 := (hB.cell (show (⟨w_1.heap.size, 3, none⟩ : Addr).block < _ from World.block_lt_of_cell? _ _ q_x3)).trans q_x3
  replace b_x : w_1.heap.size < w_5.heap.size := World.block_lt_of_cell? _ _ q_x0
  replace q_y0 := (hB.cell (show (⟨w_3.heap.size, 0, none⟩ : Addr).block < _ from World.block_lt_of_cell? _ _ q_y0)).trans q_y0
  replace q_y1 := (hB.cell (show (⟨w_3.heap.size, 1, none⟩ : Addr).block < _ from World.block_lt_of_cell? _ _ q_y1)).trans q_y1
  replace q_y2 := (hB.cell (show (⟨w_3.heap.size, 2, none⟩ : Addr).block < _ from World.block_lt_of_cell? _ _ q_y2)).trans q_y2
  replace q_y3 := (hB.cell (show (⟨w_3.heap.size, 3, none⟩ : Addr).block < _ from World.block_lt_of_cell? _ _ q_y3)).trans q_y3
  replace b_y : w_3.heap.size < w_5.heap.size := World.block_lt_of_cell? _ _ q_y0
  replace Hx := Lib.hid (Hx.out.later hB)
  replace Hy := Lib.hid (Hy.out.later hB)
  have HS5 := Lib.hid hB.size
  replace HB := Lib.hid (HB.out.trans (hB.mono HB.out.size))
  clear hB hg
  have HCT := Lib.hid (show 1 + (rwA (.slice a_y n_y c_y) AT).count ≤ 4611686018427387904 by rw [rwA_count]; have := HATT.out; omega)
  go_wp2_with fail
  refine (mk_Token K NM (rwA (.slice a_y n_y c_y) AT) TX (rwA_is _ _) _ _ 1 _ rfl _ Hy.out (by rw [rwA_blocks]; exact optL_nodup _) HCT.out).mono ?_
  rintro e w_6 ⟨rfl, hmk, hon⟩
  replace q_x0 := (cell_only (a := ⟨w_1.heap.size, 0, none⟩) hon (show w_1.heap.size ∉ _ from fun hb => by have hh := Rw.OwnR.lt _ Hy.out _ hb; have := HS1.out; have := HS2.out; have := HSb_x.out; have := HS3.out; have := HS4.out; have := HSb_y.out; have := HS5.out; omega) (World.block_lt_of_cell? _ _ q_x0)).trans q_x0
  replace q_x1 := (cell_only (a := ⟨w_1.heap.size, 1, none⟩) hon (show w_1.heap.size ∉ _ from fun hb => by have hh := Rw.OwnR.lt _ Hy.out _ hb; have := HS1.out; have := HS2.out; have := HSb_x.out; have := HS3.out; have := HS4.out; have := HSb_y.out; have := HS5.out; omega) (World.block_lt_of_cell? _ _ q_x1)).trans q_x1
  replace q_x2 := (cell_only (a := ⟨w_1.heap.size, 2, none⟩) hon (show w_1.heap.size ∉ _ from fun hb => by have hh := Rw.OwnR.lt _ Hy.out _ hb; have := HS1.out; have := HS2.out; have := HSb_x.out; have := HS3.out; have := HS4.out; have := HSb_y.out; have := HS5.out; omega) (World.block_lt_of_cell? _ _ q_x2)).trans q_x2
  replace q_x3 := (cell_only (a := ⟨w_1.heap.size, 3, none⟩) hon (show w_1.heap.size ∉ _ from fun hb => by have hh := Rw.OwnR.lt _ Hy.out _ hb; have := HS1.out; have := HS2.out; have := HSb_x.out; have := HS3.out; have := HS4.out; have := HSb_y.out; have := HS5.out; omega) (World.block_lt_of_cell? _ _ q_x3)).trans q_x3
  replace b_x : w_1.heap.size < w_6.heap.size := World.block_lt_of_cell? _ _ q_x0
  replace q_y0 := (cell_only (a := ⟨w_3.heap.size, 0, none⟩) hon (show w_3.heap.size ∉ _ from fun hb => by have hh := Rw.OwnR.lt _ Hy.out _ hb; have := HS1.out; have := HS2.out; have := HSb_x.out; have := HS3.out; have := HS4.out; have := HSb_y.out; have := HS5.out; omega) (World.block_lt_of_cell? _ _ q_y0)).trans q_y0
  replace q_y1 := (cell_only (a := ⟨w_3.heap.size, 1, none⟩) hon (show w_3.heap.size ∉ _ from fun hb => by have hh := Rw.OwnR.lt _ Hy.out _ hb; have := HS1.out; have := HS2.out; have := HSb_x.out; have := HS3.out; have := HS4.out; have := HSb_y.out; have := HS5.out; omega) (World.block_lt_of_cell? _ _ q_y1)).trans q_y1
  replace q_y2 := (cell_only (a := ⟨w_3.heap.size, 2, none⟩) hon (show w_3.heap.size ∉ _ from fun hb => by have hh := Rw.OwnR.lt _ Hy.out _ hb; have := HS1.out; have := HS2.out; have := HSb_x.out; have := HS3.out; have := HS4.out; have := HSb_y.out; have := HS5.out; omega) (World.block_lt_of_cell? _ _ q_y2)).trans q_y2
  replace q_y3 := (cell_only (a := ⟨w_3.heap.size, 3, none⟩) hon (show w_3.heap.size ∉ _ from fun hb => by have hh := Rw.OwnR.lt _ Hy.out _ hb; have := HS1.out; have := HS2.out; have := HSb_x.out; have := HS3.out; have := HS4.out; have := HSb_y.out; have := HS5.out; omega) (World.block_lt_of_cell? _ _ q_y3)).trans q_y3
  replace b_y : w_3.heap.size < w_6.heap.size := World.block_lt_of_cell? _ _ q_y0
  have hbk := own_back (lo := w.heap.size) HB.out (own_mono Hy.out (lo' := w.heap.size) (by have := HS1.out; have := HS2.out; have := HSb_x.out; have := HS3.out; have := HS4.out; have := HSb_y.out; have := HS5.out; omega) (Nat.le_refl _)) HB.out.size hon
  replace Hx := Lib.hid (own_apart Hx.out Hy.out (by have := HS1.out; have := HS2.out; have := HSb_x.out; have := HS3.out; have := HS4.out; have := HSb_y.out; have := HS5.out; omega) hon)
  replace Hy := Lib.hid hmk
  have HS6 := Lib.hid hon.size
  replace HB := Lib.hid hbk
  clear hbk hmk hon
  obtain ⟨m, hm⟩ : ∃ m, 1 + (rwA (.slice a_y n_y c_y) AT).count = m := ⟨_, rfl⟩
  rw [hm]
  have HM := Lib.hid hm
  have hmq : ((m : Int) == (m : Int)) = true := beq_self_eq_true _
  have hm0 : ¬ ((m : Int) < 0) := by omega
  clear hm
  go_wp2_with fail
  refine (hd_Token K NM (rwA (.slice a_y n_y c_y) AT) TX (rwA_is _ _) _ 1 _ rfl _ (mark_is_read Hy.out (Nat.le_refl _)) (by have := HS1.out; have := HS2.out; have := HSb_x.out; have := HS3.out; have := HS4.out; have := HSb_y.out; have := HS5.out; have := HS6.out; omega) HCT.out).mono ?_
  rintro e w_7 ⟨rfl, hg⟩
  have hB := hg.below
  replace q_x0 := (hB.cell (show (⟨w_1.heap.size, 0, none⟩ : Addr).block < _ from World.block_lt_of_cell? _ _ q_x0)).trans q_x0
  replace q_x1 := (hB.cell (show (⟨w_1.heap.size, 1, none⟩ : Addr).block < _ from World.block_lt_of_cell? _ _ q_x1)).trans q_x1
  replace q_x2 := (hB.cell (show (⟨w_1.heap.size, 2, none⟩ : Addr).block < _ from World.block_lt_of_cell? _ _ q_x2)).trans q_x2
  replace q_x3 := (hB.cell (show (⟨w_1.heap.size, 3, none⟩ : Addr).block < _ from World.block_lt_of_cell? _ _ q_x3)).trans q_x3
  replace b_x : w_1.heap.size < w_7.heap.size := World.block_lt_of_cell? _ _ q_x0
  replace q_y0 := (hB.cell (show (⟨w_3.heap.size, 0, none⟩ : Addr).block < _ from World.block_lt_of_cell? _ _ q_y0)).trans q_y0
  replace q_y1 := (hB.cell (show (⟨w_3.heap.size, 1, none⟩ : Addr).block < _ from World.block_lt_of_cell? _ _ q_y1)).trans q_y1
  replace q_y2 := (hB.cell (show (⟨w_3.heap.size, 2, none⟩ : Addr).block < _ from World.block_lt_of_cell? _ _ q_y2)).trans q_y2
  replace q_y3 := (hB.cell (show (⟨w_3.heap.size, 3, none⟩ : Addr).block < _ from World.block_lt_of_cell? _ _ q_y3)).trans q_y3
  replace b_y : w_3.heap.size < w_7.heap.size := World.block_lt_of_cell? _ _ q_y0
  replace Hx := Lib.hid (Hx.out.later hB)
  replace Hy := Lib.hid (Hy.out.later hB)
  have HS7 := Lib.hid hB.size
  replace HB := Lib.hid (HB.out.trans (hB.mono HB.out.size))
  rw [HM.out]
  clear hB hg
  go_wp2_with fail
  refine ((HIM.out _).mono (HTO.out _)).mono ?_
  rintro e w_8 ⟨a_z, n_z, c_z, rfl, ho, hb⟩
  have hB := hb
  replace q_x0 := (hB.cell (show (⟨w_1.heap.size, 0, none⟩ : Addr).block < _ from World.block_lt_of_cell? _ _ q_x0)).trans q_x0
  replace q_x1 := (hB.cell (show (⟨w_1.heap.size, 1, none⟩ : Addr).block < _ from World.block_lt_of_cell? _ _ q_x1)).trans q_x1
  replace q_x2 := (hB.cell (show (⟨w_1.heap.size, 2, none⟩ : Addr).block < _ from World.block_lt_of_cell? _ _ q_x2)).trans q_x2
  replace q_x3 := (hB.cell (show (⟨w_1.heap.size, 3, none⟩ : Addr).block < _ from World.block_lt_of_cell? _ _ q_x3)).trans q_x3
  replace b_x : w_1.heap.size < w_8.heap.size := World.block_lt_of_cell? _ _ q_x0
  replace q_y0 := (hB.cell (show (⟨w_3.heap.size, 0, none⟩ : Addr).block < _ from World.block_lt_of_cell? _ _ q_y0)).trans q_y0
  replace q_y1 := (hB.cell (show (⟨w_3.heap.size, 1, none⟩ : Addr).block < _ from World.block_lt_of_cell? _ _ q_y1)).trans q_y1
  replace q_y2 := (hB.cell (show (⟨w_3.heap.size, 2, none⟩ : Addr).block < _ from World.block_lt_of_cell? _ _ q_y2)).trans q_y2
  replace q_y3 := (hB.cell (show (⟨w_3.heap.size, 3, none⟩ : Addr).block < _ from World.block_lt_of_cell? _ _ q_y3)).trans q_y3
  replace b_y : w_3.heap.size < w_8.heap.size := World.block_lt_of_cell? _ _ q_y0
  replace Hx := Lib.hid (Hx.out.later hB)
  replace Hy := Lib.hid (Hy.out.later hB)
  have Hz := Lib.hid (rwA_own ho)
  have HS8 := Lib.hid hB.size
  replace HB := Lib.hid (HB.out.trans (hB.mono HB.out.size))
  clear hB ho hb
  go_wp2_with fail
  obtain ⟨w_9, hw⟩ : ∃ x, w_8.alloc (.cells #[.int .i64 K, .string NM, .slice a_z n_z c_z, .string TX] 27) = x := ⟨_, rfl⟩
  rw [hw]
  have hB : Below w_8.heap.size w_8 w_9 := by rw [← hw]; exact (Below.refl _ _).alloc (Nat.le_refl _) _
  have q_z0 : w_9.cell? ⟨w_8.heap.size, 0, none⟩ = some (.int .i64 K) := by rw [← hw]; simp
  have q_z1 : w_9.cell? ⟨w_8.heap.size, 1, none⟩ = some (.string NM) := by rw [← hw]; simp
  have q_z2 : w_9.cell? ⟨w_8.heap.size, 2, none⟩ = some (.slice a_z n_z c_z) := by rw [← hw]; simp
  have q_z3 : w_9.cell? ⟨w_8.heap.size, 3, none⟩ = some (.string TX) := by rw [← hw]; simp
  have b_z : w_8.heap.size < w_9.heap.size := World.block_lt_of_cell? _ _ q_z0
  replace q_x0 := (hB.cell (show (⟨w_1.heap.size, 0, none⟩ : Addr).block < _ from World.block_lt_of_cell? _ _ q_x0)).trans q_x0
  replace q_x1 := (hB.cell (show (⟨w_1.heap.size, 1, none⟩ : Addr).block < _ from World.block_lt_of_cell? _ _ q_x1)).trans q_x1
  replace q_x2 := (hB.cell (show (⟨w_1.heap.size, 2, none⟩ : Addr).block < _ from World.block_lt_of_cell? _ _ q_x2)).trans q_x2
  replace q_x3 := (hB.cell (show (⟨w_1.heap.size, 3, none⟩ : Addr).block < _ from World.block_lt_of_cell? _ _ q_x3)).trans q_x3
  replace b_x : w_1.heap.size < w_9.heap.size := World.block_lt_of_cell? _ _ q_x0
  replace q_y0 := (hB.cell (show (⟨w_3.heap.size, 0, none⟩ : Addr).block < _ from World.block_lt_of_cell? _ _ q_y0)).trans q_y0
  replace q_y1 := (hB.cell (show (⟨w_3.heap.size, 1, none⟩ : Addr).block < _ from World.block_lt_of_cell? _ _ q_y1)).trans q_y1
  replace q_y2 := (hB.cell (show (⟨w_3.heap.size, 2, none⟩ : Addr).block < _ from World.block_lt_of_cell? _ _ q_y2)).trans q_y2
  replace q_y3 := (hB.cell (show (⟨w_3.heap.size, 3, none⟩ : Addr).block < _ from World.block_lt_of_cell? _ _ q_y3)).trans q_y3
  replace b_y : w_3.heap.size < w_9.heap.size := World.block_lt_of_cell? _ _ q_y0
  replace Hx := Lib.hid (Hx.out.later hB)
  replace Hy := Lib.hid (Hy.out.later hB)
  replace Hz := Lib.hid (Hz.out.later hB)
  have HS9 := Lib.hid hB.size
  replace HB := Lib.hid (HB.out.trans (hB.mono HB.out.size))
  clear hB hw
  have HSb_z := Lib.hid b_z
  go_wp2_with fail
  refine (eq_Token K NM (rwA (.slice a_z n_z c_z) AT) (rwA (.slice a_x n_x c_x) AT) TX _ (rwA_is _ _) (rwA_is _ _) (rwA_data _ _ _) (own_read Hz.out (by have := HS1.out; have := HS2.out; have := HSb_x.out; have := HS3.out; have := HS4.out; have := HSb_y.out; have := HS5.out; have := HS6.out; have := HS7.out; have := HS8.out; have := HS9.out; have := HSb_z.out; omega)) (own_read Hx.out (by have := HS1.out; have := HS2.out; have := HSb_x.out; have := HS3.out; have := HS4.out; have := HSb_y.out; have := HS5.out; have := HS6.out; have := HS7.out; have := HS8.out; have := HS9.out; have := HSb_z.out; omega))).mono ?_
  rintro e w_10 ⟨rfl, hg⟩
  have hB := hg.below
  replace q_x0 := (hB.cell (show (⟨w_1.heap.size, 0, none⟩ : Addr).block < _ from World.block_lt_of_cell? _ _ q_x0)).trans q_x0
  replace q_x1 := (hB.cell (show (⟨w_1.heap.size, 1, none⟩ : Addr).block < _ from World.block_lt_of_cell? _ _ q_x1)).trans q_x1
  replace q_x2 := (hB.cell (show (⟨w_1.heap.size, 2, none⟩ : Addr).block < _ from World.block_lt_of_cell? _ _ q_x2)).trans q_x2
  replace q_x3 := (hB.cell (show (⟨w_1.heap.size, 3, none⟩ : Addr).block < _ from World.block_lt_of_cell? _ _ q_x3)).trans q_x3
  replace b_x : w_1.heap.size < w_10.heap.size := World.block_lt_of_cell? _ _ q_x0
  replace q_y0 := (hB.cell (show (⟨w_3.heap.size, 0, none⟩ : Addr).block < _ from World.block_lt_of_cell? _ _ q_y0)).trans q_y0
  replace q_y1 := (hB.cell (show (⟨w_3.heap.size, 1, none⟩ : Addr).block < _ from World.block_lt_of_cell? _ _ q_y1)).trans q_y1
  replace q_y2 := (hB.cell (show (⟨w_3.heap.size, 2, none⟩ : Addr).block < _ from World.block_lt_of_cell? _ _ q_y2)).trans q_y2
  replace q_y3 := (hB.cell (show (⟨w_3.heap.size, 3, none⟩ : Addr).block < _ from World.block_lt_of_cell? _ _ q_y3)).trans q_y3
  replace b_y : w_3.heap.size < w_10.heap.size := World.block_lt_of_cell? _ _ q_y0
  replace q_z0 := (hB.cell (show (⟨w_8.heap.size, 0, none⟩ : Addr).block < _ from World.block_lt_of_cell? _ _ q_z0)).trans q_z0
  replace q_z1 := (hB.cell (show (⟨w_8.heap.size, 1, none⟩ : Addr).block < _ from World.block_lt_of_cell? _ _ q_z1)).trans q_z1
  replace q_z2 := (hB.cell (show (⟨w_8.heap.size, 2, none⟩ : Addr).block < _ from World.block_lt_of_cell? _ _ q_z2)).trans q_z2
  replace q_z3 := (hB.cell (show (⟨w_8.heap.size, 3, none⟩ : Addr).block < _ from World.block_lt_of_cell? _ _ q_z3)).trans q_z3
  replace b_z : w_8.heap.size < w_10.heap.size := World.block_lt_of_cell? _ _ q_z0
  replace Hx := Lib.hid (Hx.out.later hB)
  replace Hy := Lib.hid (Hy.out.later hB)
  replace Hz := Lib.hid (Hz.out.later hB)
  have HS10 := Lib.hid hB.size
  replace HB := Lib.hid (HB.out.trans (hB.mono HB.out.size))
  clear hB hg
  go_wp2_with fail
  refine (hd_Token K NM (rwA (.slice a_y n_y c_y) AT) TX (rwA_is _ _) _ 1 _ rfl _ (mark_is_read Hy.out (Nat.le_refl _)) (by have := HS1.out; have := HS2.out; have := HSb_x.out; have := HS3.out; have := HS4.out; have := HSb_y.out; have := HS5.out; have := HS6.out; have := HS7.out; have := HS8.out; have := HS9.out; have := HSb_z.out; have := HS10.out; omega) HCT.out).mono ?_
  rintro e w_11 ⟨rfl, hg⟩
  have hB := hg.below
  replace q_x0 := (hB.cell (show (⟨w_1.heap.size, 0, none⟩ : Addr).block < _ from World.block_lt_of_cell? _ _ q_x0)).trans q_x0
  replace q_x1 := (hB.cell (show (⟨w_1.heap.size, 1, none⟩ : Addr).block < _ from World.block_lt_of_cell? _ _ q_x1)).trans q_x1
  replace q_x2 := (hB.cell (show (⟨w_1.heap.size, 2, none⟩ : Addr).block < _ from World.block_lt_of_cell? _ _ q_x2)).trans q_x2
  replace q_x3 := (hB.cell (show (⟨w_1.heap.size, 3, none⟩ : Addr).block < _ from World.block_lt_of_cell? _ _ q_x3)).trans q_x3
  replace b_x : w_1.heap.size < w_11.heap.size := World.block_lt_of_cell? _ _ q_x0
  replace q_y0 := (hB.cell (show (⟨w_3.heap.size, 0, none⟩ : Addr).block < _ from World.block_lt_of_cell? _ _ q_y0)).trans q_y0
  replace q_y1 := (hB.cell (show (⟨w_3.heap.size, 1, none⟩ : Addr).block < _ from World.block_lt_of_cell? _ _ q_y1)).trans q_y1
  replace q_y2 := (hB.cell (show (⟨w_3.heap.size, 2, none⟩ : Addr).block < _ from World.block_lt_of_cell? _ _ q_y2)).trans q_y2
  replace q_y3 := (hB.cell (show (⟨w_3.heap.size, 3, none⟩ : Addr).block < _ from World.block_lt_of_cell? _ _ q_y3)).trans q_y3
  replace b_y : w_3.heap.size < w_11.heap.size := World.block_lt_of_cell? _ _ q_y0
  replace q_z0 := (hB.cell (show (⟨w_8.heap.size, 0, none⟩ : Addr).block < _ from World.block_lt_of_cell? _ _ q_z0)).trans q_z0
  replace q_z1 := (hB.cell (show (⟨w_8.heap.size, 1, none⟩ : Addr).block < _ from World.block_lt_of_cell? _ _ q_z1)).trans q_z1
  replace q_z2 := (hB.cell (show (⟨w_8.heap.size, 2, none⟩ : Addr).block < _ from World.block_lt_of_cell? _ _ q_z2)).trans q_z2
  replace q_z3 := (hB.cell (show (⟨w_8.heap.size, 3, none⟩ : Addr).block < _ from World.block_lt_of_cell? _ _ q_z3)).trans q_z3
  replace b_z : w_8.heap.size < w_11.heap.size := World.block_lt_of_cell? _ _ q_z0
  replace Hx := Lib.hid (Hx.out.later hB)
  replace Hy := Lib.hid (Hy.out.later hB)
  replace Hz := Lib.hid (Hz.out.later hB)
  have HS11 := Lib.hid hB.size
  replace HB := Lib.hid (HB.out.trans (hB.mono HB.out.size))
  rw [HM.out]
  clear hB hg
  go_wp2_with fail
  go_ret
  exact ⟨rfl, HB.out⟩
end Go.Proofs.YtbegfdfdilnjdaaDoor

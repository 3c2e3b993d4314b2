/- Helper contracts over the functions with which the laws copy, compare, measure and mark slices, by program (deep.py). Asked: what lies in memory is as named. -/
import Derived.Test.YtkjjiinccljhjaaDpStr
import Derived.Test.YtkjjiinccljhjaaRawL
import Derived.Shelf.SlSortCmp.QuietGrown
namespace Go.Proofs.Ytkjjiinccljhjaa
open Go.ChangeShapes Go.WideShapes Go.ChangeAt Go.RowKit

set_option maxHeartbeats 2000000 in
theorem eq_Policy (a0 : Bool) (a1 b1 : Rw) (a2 b2 : Rw) (a3 b3 : Rw) (a4 : ByteArray) (w : World) (hx1 : IsStringS a1) (hy1 : IsStringS b1) (hd1 : a1.data = b1.data) (rx1 : a1.ReadR w.heap.size w) (ry1 : b1.ReadR w.heap.size w) (hx2 : IsStringS a2) (hy2 : IsStringS b2) (hd2 : a2.data = b2.data) (rx2 : a2.ReadR w.heap.size w) (ry2 : b2.ReadR w.heap.size w) (hx3 : IsStringS a3) (hy3 : IsStringS b3) (hd3 : a3.data = b3.data) (rx3 : a3.ReadR w.heap.size w) (ry3 : b3.ReadR w.heap.size w) :
    Calls Try.prog 16 #[.agg #[.bool a0, a1.cell, a2.cell, a3.cell, .string a4], .agg #[.bool a0, b1.cell, b2.cell, b3.cell, .string a4]] w fun e w' => e = .returned (.bool true) ∧ Grw w w' := by
  have e4 : (a4.toList == a4.toList) = true := beqL_yes rfl
  go_enter Try.func16, Try.ntmps16
  go_wp2_with fail
  obtain ⟨w0, hw0⟩ : ∃ x, ((w.alloc (.cells #[.bool a0, a1.cell, a2.cell, a3.cell, .string a4] 38)).alloc (.cells #[.bool a0, b1.cell, b2.cell, b3.cell, .string a4] 38)) = x := ⟨_, rfl⟩
  rw [hw0]
  have HG0 := Lib.hid (show Grw w w0 by rw [← hw0]; exact ((Grw.refl w).alloc _).alloc _)
  have qa2 : w0.cell? ⟨w.heap.size, 2, none⟩ = some (a2.cell) := by rw [← hw0]; simp
  have qb2 : w0.cell? ⟨w.heap.size + 1, 2, none⟩ = some (b2.cell) := by rw [← hw0]; simp
  have qa3 : w0.cell? ⟨w.heap.size, 3, none⟩ = some (a3.cell) := by rw [← hw0]; simp
  have qb3 : w0.cell? ⟨w.heap.size + 1, 3, none⟩ = some (b3.cell) := by rw [← hw0]; simp
  have qa4 : w0.cell? ⟨w.heap.size, 4, none⟩ = some (.string a4) := by rw [← hw0]; simp
  have qb4 : w0.cell? ⟨w.heap.size + 1, 4, none⟩ = some (.string a4) := by rw [← hw0]; simp
  clear hw0
  refine (eq_StringS a1 b1 hx1 hy1 hd1 _ (rx1.up HG0.out) (ry1.up HG0.out)).mono ?_
  rintro e w1 ⟨rfl, hg1⟩
  replace qa2 := (hg1.below.cell (show (⟨w.heap.size, 2, none⟩ : Addr).block < _ from World.block_lt_of_cell? _ _ qa2)).trans qa2
  replace qb2 := (hg1.below.cell (show (⟨w.heap.size + 1, 2, none⟩ : Addr).block < _ from World.block_lt_of_cell? _ _ qb2)).trans qb2
  replace qa3 := (hg1.below.cell (show (⟨w.heap.size, 3, none⟩ : Addr).block < _ from World.block_lt_of_cell? _ _ qa3)).trans qa3
  replace qb3 := (hg1.below.cell (show (⟨w.heap.size + 1, 3, none⟩ : Addr).block < _ from World.block_lt_of_cell? _ _ qb3)).trans qb3
  replace qa4 := (hg1.below.cell (show (⟨w.heap.size, 4, none⟩ : Addr).block < _ from World.block_lt_of_cell? _ _ qa4)).trans qa4
  replace qb4 := (hg1.below.cell (show (⟨w.heap.size + 1, 4, none⟩ : Addr).block < _ from World.block_lt_of_cell? _ _ qb4)).trans qb4
  have HG1 := Lib.hid (HG0.out.trans hg1); clear hg1
  go_wp2_with fail
  refine (eq_StringS a2 b2 hx2 hy2 hd2 _ (rx2.up HG1.out) (ry2.up HG1.out)).mono ?_
  rintro e w2 ⟨rfl, hg2⟩
  replace qa3 := (hg2.below.cell (show (⟨w.heap.size, 3, none⟩ : Addr).block < _ from World.block_lt_of_cell? _ _ qa3)).trans qa3
  replace qb3 := (hg2.below.cell (show (⟨w.heap.size + 1, 3, none⟩ : Addr).block < _ from World.block_lt_of_cell? _ _ qb3)).trans qb3
  replace qa4 := (hg2.below.cell (show (⟨w.heap.size, 4, none⟩ : Addr).block < _ from World.block_lt_of_cell? _ _ qa4)).trans qa4
  replace qb4 := (hg2.below.cell (show (⟨w.heap.size + 1, 4, none⟩ : Addr).block < _ from World.block_lt_of_cell? _ _ qb4)).trans qb4
  have HG2 := Lib.hid (HG1.out.trans hg2); clear hg2
  go_wp2_with fail
  refine (eq_StringS a3 b3 hx3 hy3 hd3 _ (rx3.up HG2.out) (ry3.up HG2.out)).mono ?_
  rintro e w3 ⟨rfl, hg3⟩
  replace qa4 := (hg3.below.cell (show (⟨w.heap.size, 4, none⟩ : Addr).block < _ from World.block_lt_of_cell? _ _ qa4)).trans qa4
  replace qb4 := (hg3.below.cell (show (⟨w.heap.size + 1, 4, none⟩ : Addr).block < _ from World.block_lt_of_cell? _ _ qb4)).trans qb4
  have HG3 := Lib.hid (HG2.out.trans hg3); clear hg3
  go_wp2_with fail
  go_ret
  exact ⟨rfl, HG3.out⟩

def SzPolicy (a1 : Rw) (a2 : Rw) (a3 : Rw) (a4 : ByteArray) (left : Int) (w : World) (e : Ending) (w' : World) : Prop :=
  ∃ r : Int, e = .returned (.int .i64 r) ∧ -1 ≤ r ∧ (0 ≤ r → r + (a1.weight : Nat) + (a2.weight : Nat) + (a3.weight : Nat) + (a4.size : Nat) = left) ∧ Grw w w'
set_option maxRecDepth 100000 in
set_option maxHeartbeats 4000000 in
theorem sz_Policy (a0 : Bool) (a1 : Rw) (a2 : Rw) (a3 : Rw) (a4 : ByteArray) (left : Int) (l1 : 0 ≤ left) (l2 : left ≤ 1099511627776) (w : World) (hx1 : IsStringS a1) (rx1 : a1.ReadR w.heap.size w) (z1 : a1.Small) (hx2 : IsStringS a2) (rx2 : a2.ReadR w.heap.size w) (z2 : a2.Small) (hx3 : IsStringS a3) (rx3 : a3.ReadR w.heap.size w) (z3 : a3.Small) (z4 : a4.size ≤ 9223372036854775807) :
    Calls Try.prog 12 #[.agg #[.bool a0, a1.cell, a2.cell, a3.cell, .string a4], .int .i64 left] w (SzPolicy a1 a2 a3 a4 left w) := by
  have HB := Lib.hid ((Grw.refl w).alloc (.cells #[.bool a0, a1.cell, a2.cell, a3.cell, .string a4] 35))
  have HR1 := Lib.hid (rx1.up HB.out)
  obtain ⟨xa1, xn1, xc1, hxc1⟩ := sl_form (is_sl_StringS hx1) rx1
  have HR2 := Lib.hid (rx2.up HB.out)
  obtain ⟨xa2, xn2, xc2, hxc2⟩ := sl_form (is_sl_StringS hx2) rx2
  have HR3 := Lib.hid (rx3.up HB.out)
  obtain ⟨xa3, xn3, xc3, hxc3⟩ := sl_form (is_sl_StringS hx3) rx3
  rw [hxc1, hxc2, hxc3] at HB ⊢
  have hsz1 := sz_StringS a1 hx1 (left) (by omega) (by omega) _ HR1.out z1
  simp only [hxc1, hxc2, hxc3] at hsz1
  have HSZ1 := Lib.hid hsz1; clear hsz1
  go_enter Try.func12, Try.ntmps12
  go_wp2_with fail
  refine HSZ1.out.mono ?_
  rintro e w1 ⟨r1, rfl, lo1, hr1, hg1⟩
  have q2 : w1.cell? ⟨w.heap.size, 2, none⟩ = some (.slice xa2 xn2 xc2) := by rw [hg1.below.cell (by rw [size_alloc]; show w.heap.size < _; omega)]; simp
  have q3 : w1.cell? ⟨w.heap.size, 3, none⟩ = some (.slice xa3 xn3 xc3) := by rw [hg1.below.cell (by rw [size_alloc]; show w.heap.size < _; omega)]; simp
  have q4 : w1.cell? ⟨w.heap.size, 4, none⟩ = some (.string a4) := by rw [hg1.below.cell (by rw [size_alloc]; show w.heap.size < _; omega)]; simp
  have HG1 := Lib.hid (HB.out.trans hg1); clear hg1
  by_cases d1 : r1 < 0
  · go_wp2_with fail
    go_ret
    exact ⟨-1, rfl, by omega, by omega, HG1.out⟩
  replace hr1 := hr1 (by omega)
  have hsz2 := sz_StringS a2 hx2 (r1) (by omega) (by omega) _ (rx2.up HG1.out) z2
  rw [hxc2] at hsz2
  have HSZ2 := Lib.hid hsz2; clear hsz2
  go_wp2_with fail
  refine HSZ2.out.mono ?_
  rintro e w2 ⟨r2, rfl, lo2, hr2, hg2⟩
  replace q3 := (hg2.below.cell (show (⟨w.heap.size, 3, none⟩ : Addr).block < _ from World.block_lt_of_cell? _ _ q3)).trans q3
  replace q4 := (hg2.below.cell (show (⟨w.heap.size, 4, none⟩ : Addr).block < _ from World.block_lt_of_cell? _ _ q4)).trans q4
  have HG2 := Lib.hid (HG1.out.trans hg2); clear hg2
  by_cases d2 : r2 < 0
  · go_wp2_with fail
    go_ret
    exact ⟨-1, rfl, by omega, by omega, HG2.out⟩
  replace hr2 := hr2 (by omega)
  have hsz3 := sz_StringS a3 hx3 (r2) (by omega) (by omega) _ (rx3.up HG2.out) z3
  rw [hxc3] at hsz3
  have HSZ3 := Lib.hid hsz3; clear hsz3
  go_wp2_with fail
  refine HSZ3.out.mono ?_
  rintro e w3 ⟨r3, rfl, lo3, hr3, hg3⟩
  replace q4 := (hg3.below.cell (show (⟨w.heap.size, 4, none⟩ : Addr).block < _ from World.block_lt_of_cell? _ _ q4)).trans q4
  have HG3 := Lib.hid (HG2.out.trans hg3); clear hg3
  by_cases d3 : r3 < 0
  · go_wp2_with fail
    go_ret
    exact ⟨-1, rfl, by omega, by omega, HG3.out⟩
  replace hr3 := hr3 (by omega)
  by_cases c4 : r3 - (a4.size : Int) < 0
  · go_wp2_with fail
    go_ret
    exact ⟨-1, rfl, by omega, by omega, HG3.out⟩
  go_wp2_with fail
  go_ret
  exact ⟨r3 - (a4.size : Int), rfl, by omega, by omega, HG3.out⟩

set_option maxRecDepth 100000 in
set_option maxHeartbeats 4000000 in
theorem toL_Policy (a0 : Bool) (a1 : Rw) (a2 : Rw) (a3 : Rw) (a4 : ByteArray) (w : World) (hx1 : IsStringS a1) (rx1 : a1.ReadR w.heap.size w) (hl1 : a1.weight ≤ 4398046511104) (hx2 : IsStringS a2) (rx2 : a2.ReadR w.heap.size w) (hl2 : a2.weight ≤ 4398046511104) (hx3 : IsStringS a3) (rx3 : a3.ReadR w.heap.size w) (hl3 : a3.weight ≤ 4398046511104) :
    Calls Try.prog 14 #[.agg #[.bool a0, a1.cell, a2.cell, a3.cell, .string a4]] w fun e w' => ∃ b1 b2 b3 : Rw, e = .returned (.agg #[.bool a0, b1.cell, b2.cell, b3.cell, .string a4]) ∧ IsStringS b1 ∧ b1.data = a1.data ∧ IsStringS b2 ∧ b2.data = a2.data ∧ IsStringS b3 ∧ b3.data = a3.data ∧ OwnRL w.heap.size w'.heap.size w' [b1, b2, b3] ∧ (blocksL [b1, b2, b3]).Nodup ∧ Below w.heap.size w w' := by
  obtain ⟨xa1, xn1, xc1, hxc1⟩ := sl_form (is_sl_StringS hx1) rx1
  obtain ⟨xa2, xn2, xc2, hxc2⟩ := sl_form (is_sl_StringS hx2) rx2
  obtain ⟨xa3, xn3, xc3, hxc3⟩ := sl_form (is_sl_StringS hx3) rx3
  obtain ⟨W, hW⟩ : ∃ W, ((w.alloc (.cells #[.bool a0, .slice xa1 xn1 xc1, .slice xa2 xn2 xc2, .slice xa3 xn3 xc3, .string a4] 35)).alloc (.cells #[.bool false, .slice none 0 0, .slice none 0 0, .slice none 0 0, .string ⟨#[]⟩] 38)).alloc (.cells #[.bool a0, .slice none 0 0, .slice none 0 0, .slice none 0 0, .string ⟨#[]⟩] 38) = W := ⟨_, rfl⟩
  have hg0 : Grw w W := by rw [← hW]; exact (((Grw.refl w).alloc _).alloc _).alloc _
  have ho : W.heap[w.heap.size + 2]? = some (.cells #[.bool a0, .slice none 0 0, .slice none 0 0, .slice none 0 0, .string ⟨#[]⟩] 38 (0, 0)) := by rw [← hW]; exact three_new2 w _ _ _
  have hz : W.heap[w.heap.size + 1]? = some (.cells #[.bool false, .slice none 0 0, .slice none 0 0, .slice none 0 0, .string ⟨#[]⟩] 38 (0, 0)) := by rw [← hW]; exact three_new1 w _ _ _
  have ha : W.heap[w.heap.size]? = some (.cells #[.bool a0, .slice xa1 xn1 xc1, .slice xa2 xn2 xc2, .slice xa3 xn3 xc3, .string a4] 35 (0, 0)) := by rw [← hW]; exact three_new0 w _ _ _
  have HSZ := Lib.hid (show w.heap.size + 3 ≤ W.heap.size by rw [← hW, size_alloc, size_alloc, size_alloc]; exact Nat.le_refl _)
  have HTO1 := Lib.hid (fun (V : World) (hv : Below w.heap.size w V) => by have hr := to_StringS a1 hx1 V (Rw.ReadR.mono hv.size _ (Rw.ReadR.below hv (Nat.le_refl _) _ rx1)) hl1; rw [hxc1] at hr; exact hr)
  have HTO2 := Lib.hid (fun (V : World) (hv : Below w.heap.size w V) => by have hr := to_StringS a2 hx2 V (Rw.ReadR.mono hv.size _ (Rw.ReadR.below hv (Nat.le_refl _) _ rx2)) hl2; rw [hxc2] at hr; exact hr)
  have HTO3 := Lib.hid (fun (V : World) (hv : Below w.heap.size w V) => by have hr := to_StringS a3 hx3 V (Rw.ReadR.mono hv.size _ (Rw.ReadR.below hv (Nat.le_refl _) _ rx3)) hl3; rw [hxc3] at hr; exact hr)
  rw [hxc1, hxc2, hxc3]
  have HB := Lib.hid hg0.below; have HO := Lib.hid ho; have HZ := Lib.hid hz; have HA := Lib.hid ha; have HW := Lib.hid hW
  clear rx1 hxc1 rx2 hxc2 rx3 hxc3 hg0 ho hz ha hW
  go_enter Try.func14, Try.ntmps14
  go_wp2_with fail
  rw [HW.out]
  refine (HTO1.out _ HB.out).mono ?_
  rintro e w1 ⟨y1, rfl, hy1, hd1, hn1, ho1, hb⟩
  obtain ⟨ya1, yn1, yc1, hyc1⟩ := sl_form (is_sl_StringS hy1) (Rw.OwnR.reads _ ho1)
  rw [hyc1]
  have HY1 := Lib.hid hy1; have HD1 := Lib.hid hd1; have HN1 := Lib.hid hn1; have HYC1 := Lib.hid hyc1; clear hy1 hd1 hn1 hyc1
  have HOW1 := Lib.hid (own_mono ho1 HSZ.out (Nat.le_refl _)); clear ho1
  have h1 := below_heap hb (heap_lt HO.out) HO.out; have h2 := below_heap hb (heap_lt HA.out) HA.out; have h3 := below_heap hb (heap_lt HZ.out) HZ.out
  replace HB := Lib.hid (HB.out.trans (hb.mono HB.out.size)); replace HSZ := Lib.hid (Nat.le_trans HSZ.out hb.size); clear hb
  have oq0 := box_cell h1 (j := 0) rfl; have oz0 := box_frz h1 0
  have oq1 := box_cell h1 (j := 1) rfl; have oz1 := box_frz h1 1
  have oq2 := box_cell h1 (j := 2) rfl; have oz2 := box_frz h1 2
  have oq3 := box_cell h1 (j := 3) rfl; have oz3 := box_frz h1 3
  have oq4 := box_cell h1 (j := 4) rfl; have oz4 := box_frz h1 4
  have pq0 := box_cell h2 (j := 0) rfl
  have pq1 := box_cell h2 (j := 1) rfl
  have pq2 := box_cell h2 (j := 2) rfl
  have pq3 := box_cell h2 (j := 3) rfl
  have pq4 := box_cell h2 (j := 4) rfl
  have sq0 := box_cell h3 (j := 0) rfl; have sz0 := box_frz h3 0
  have sq1 := box_cell h3 (j := 1) rfl; have sz1 := box_frz h3 1
  have sq2 := box_cell h3 (j := 2) rfl; have sz2 := box_frz h3 2
  have sq3 := box_cell h3 (j := 3) rfl; have sz3 := box_frz h3 3
  have sq4 := box_cell h3 (j := 4) rfl; have sz4 := box_frz h3 4
  replace HO := Lib.hid h1; replace HA := Lib.hid h2; replace HZ := Lib.hid h3; clear h1 h2 h3
  go_wp2_with fail
  clear oq0 oz0 pq0 sq0 sz0 oq1 oz1 pq1 sq1 sz1 oq2 oz2 pq2 sq2 sz2 oq3 oz3 pq3 sq3 sz3 oq4 oz4 pq4 sq4 sz4
  have h1 := HO.out; have h2 := HA.out; have h3 := HZ.out
  replace h1 := heap_one (o := 1) h1 (.slice ya1 yn1 yc1)
  replace h2 := box_far h2 (show w.heap.size ≠ w.heap.size + 2 by omega) 1 (.slice ya1 yn1 yc1)
  replace h3 := box_far h3 (show w.heap.size + 1 ≠ w.heap.size + 2 by omega) 1 (.slice ya1 yn1 yc1)
  replace h1 : (w1.setCell ⟨w.heap.size + 2, 1, none⟩ (.slice ya1 yn1 yc1)).heap[w.heap.size + 2]? = some (.cells #[.bool a0, .slice ya1 yn1 yc1, .slice none 0 0, .slice none 0 0, .string ⟨#[]⟩] 38 (0, 0)) := h1
  have HON := Lib.hid (show OnlyB [w.heap.size + 1, w.heap.size + 2] w1 (w1.setCell ⟨w.heap.size + 2, 1, none⟩ (.slice ya1 yn1 yc1)) from (OnlyB.refl _ w1).set (by simp))
  replace HOW1 := Lib.hid (Rw.OwnR.top (Rw.OwnR.only HON.out y1 HOW1.out fun b hb hm => by have h := (Rw.OwnR.lt y1 HOW1.out b hb).1; simp only [List.mem_cons, List.mem_nil_iff, or_false] at hm; omega))
  replace HB := Lib.hid (HB.out.trans (HON.out.below (fun b hb => by simp only [List.mem_cons, List.mem_nil_iff, or_false] at hb; omega) HB.out.size)); replace HSZ := Lib.hid (Nat.le_trans HSZ.out HON.out.size)
  clear HON
  replace HO := Lib.hid h1; replace HA := Lib.hid h2; replace HZ := Lib.hid h3; clear h1 h2 h3
  refine (HTO2.out _ HB.out).mono ?_
  rintro e w2 ⟨y2, rfl, hy2, hd2, hn2, ho2, hb⟩
  obtain ⟨ya2, yn2, yc2, hyc2⟩ := sl_form (is_sl_StringS hy2) (Rw.OwnR.reads _ ho2)
  rw [hyc2]
  have HY2 := Lib.hid hy2; have HD2 := Lib.hid hd2; have HN2 := Lib.hid hn2; have HYC2 := Lib.hid hyc2; clear hy2 hd2 hn2 hyc2
  have HX1_2 := Lib.hid (show ∀ b ∈ y1.blocks, b ∉ y2.blocks from fun b h1 h2 => by have := (Rw.OwnR.lt _ HOW1.out b h1).2.2; have := (Rw.OwnR.lt _ ho2 b h2).1; omega)
  replace HOW1 := Lib.hid (Rw.OwnR.top (Rw.OwnR.later HOW1.out hb))
  have HOW2 := Lib.hid (own_mono ho2 HSZ.out (Nat.le_refl _)); clear ho2
  have h1 := below_heap hb (heap_lt HO.out) HO.out; have h2 := below_heap hb (heap_lt HA.out) HA.out; have h3 := below_heap hb (heap_lt HZ.out) HZ.out
  replace HB := Lib.hid (HB.out.trans (hb.mono HB.out.size)); replace HSZ := Lib.hid (Nat.le_trans HSZ.out hb.size); clear hb
  have oq0 := box_cell h1 (j := 0) rfl; have oz0 := box_frz h1 0
  have oq1 := box_cell h1 (j := 1) rfl; have oz1 := box_frz h1 1
  have oq2 := box_cell h1 (j := 2) rfl; have oz2 := box_frz h1 2
  have oq3 := box_cell h1 (j := 3) rfl; have oz3 := box_frz h1 3
  have oq4 := box_cell h1 (j := 4) rfl; have oz4 := box_frz h1 4
  have pq0 := box_cell h2 (j := 0) rfl
  have pq1 := box_cell h2 (j := 1) rfl
  have pq2 := box_cell h2 (j := 2) rfl
  have pq3 := box_cell h2 (j := 3) rfl
  have pq4 := box_cell h2 (j := 4) rfl
  have sq0 := box_cell h3 (j := 0) rfl; have sz0 := box_frz h3 0
  have sq1 := box_cell h3 (j := 1) rfl; have sz1 := box_frz h3 1
  have sq2 := box_cell h3 (j := 2) rfl; have sz2 := box_frz h3 2
  have sq3 := box_cell h3 (j := 3) rfl; have sz3 := box_frz h3 3
  have sq4 := box_cell h3 (j := 4) rfl; have sz4 := box_frz h3 4
  replace HO := Lib.hid h1; replace HA := Lib.hid h2; replace HZ := Lib.hid h3; clear h1 h2 h3
  go_wp2_with fail
  clear oq0 oz0 pq0 sq0 sz0 oq1 oz1 pq1 sq1 sz1 oq2 oz2 pq2 sq2 sz2 oq3 oz3 pq3 sq3 sz3 oq4 oz4 pq4 sq4 sz4
  have h1 := HO.out; have h2 := HA.out; have h3 := HZ.out
  replace h1 := heap_one (o := 2) h1 (.slice ya2 yn2 yc2)
  replace h2 := box_far h2 (show w.heap.size ≠ w.heap.size + 2 by omega) 2 (.slice ya2 yn2 yc2)
  replace h3 := box_far h3 (show w.heap.size + 1 ≠ w.heap.size + 2 by omega) 2 (.slice ya2 yn2 yc2)
  replace h1 : (w2.setCell ⟨w.heap.size + 2, 2, none⟩ (.slice ya2 yn2 yc2)).heap[w.heap.size + 2]? = some (.cells #[.bool a0, .slice ya1 yn1 yc1, .slice ya2 yn2 yc2, .slice none 0 0, .string ⟨#[]⟩] 38 (0, 0)) := h1
  have HON := Lib.hid (show OnlyB [w.heap.size + 1, w.heap.size + 2] w2 (w2.setCell ⟨w.heap.size + 2, 2, none⟩ (.slice ya2 yn2 yc2)) from (OnlyB.refl _ w2).set (by simp))
  replace HOW1 := Lib.hid (Rw.OwnR.top (Rw.OwnR.only HON.out y1 HOW1.out fun b hb hm => by have h := (Rw.OwnR.lt y1 HOW1.out b hb).1; simp only [List.mem_cons, List.mem_nil_iff, or_false] at hm; omega))
  replace HOW2 := Lib.hid (Rw.OwnR.top (Rw.OwnR.only HON.out y2 HOW2.out fun b hb hm => by have h := (Rw.OwnR.lt y2 HOW2.out b hb).1; simp only [List.mem_cons, List.mem_nil_iff, or_false] at hm; omega))
  replace HB := Lib.hid (HB.out.trans (HON.out.below (fun b hb => by simp only [List.mem_cons, List.mem_nil_iff, or_false] at hb; omega) HB.out.size)); replace HSZ := Lib.hid (Nat.le_trans HSZ.out HON.out.size)
  clear HON
  replace HO := Lib.hid h1; replace HA := Lib.hid h2; replace HZ := Lib.hid h3; clear h1 h2 h3
  refine (HTO3.out _ HB.out).mono ?_
  rintro e w3 ⟨y3, rfl, hy3, hd3, hn3, ho3, hb⟩
  obtain ⟨ya3, yn3, yc3, hyc3⟩ := sl_form (is_sl_StringS hy3) (Rw.OwnR.reads _ ho3)
  rw [hyc3]
  have HY3 := Lib.hid hy3; have HD3 := Lib.hid hd3; have HN3 := Lib.hid hn3; have HYC3 := Lib.hid hyc3; clear hy3 hd3 hn3 hyc3
  have HX1_3 := Lib.hid (show ∀ b ∈ y1.blocks, b ∉ y3.blocks from fun b h1 h2 => by have := (Rw.OwnR.lt _ HOW1.out b h1).2.2; have := (Rw.OwnR.lt _ ho3 b h2).1; omega)
  replace HOW1 := Lib.hid (Rw.OwnR.top (Rw.OwnR.later HOW1.out hb))
  have HX2_3 := Lib.hid (show ∀ b ∈ y2.blocks, b ∉ y3.blocks from fun b h1 h2 => by have := (Rw.OwnR.lt _ HOW2.out b h1).2.2; have := (Rw.OwnR.lt _ ho3 b h2).1; omega)
  replace HOW2 := Lib.hid (Rw.OwnR.top (Rw.OwnR.later HOW2.out hb))
  have HOW3 := Lib.hid (own_mono ho3 HSZ.out (Nat.le_refl _)); clear ho3
  have h1 := below_heap hb (heap_lt HO.out) HO.out; have h2 := below_heap hb (heap_lt HA.out) HA.out; have h3 := below_heap hb (heap_lt HZ.out) HZ.out
  replace HB := Lib.hid (HB.out.trans (hb.mono HB.out.size)); replace HSZ := Lib.hid (Nat.le_trans HSZ.out hb.size); clear hb
  have oq0 := box_cell h1 (j := 0) rfl; have oz0 := box_frz h1 0
  have oq1 := box_cell h1 (j := 1) rfl; have oz1 := box_frz h1 1
  have oq2 := box_cell h1 (j := 2) rfl; have oz2 := box_frz h1 2
  have oq3 := box_cell h1 (j := 3) rfl; have oz3 := box_frz h1 3
  have oq4 := box_cell h1 (j := 4) rfl; have oz4 := box_frz h1 4
  have pq0 := box_cell h2 (j := 0) rfl
  have pq1 := box_cell h2 (j := 1) rfl
  have pq2 := box_cell h2 (j := 2) rfl
  have pq3 := box_cell h2 (j := 3) rfl
  have pq4 := box_cell h2 (j := 4) rfl
  have sq0 := box_cell h3 (j := 0) rfl; have sz0 := box_frz h3 0
  have sq1 := box_cell h3 (j := 1) rfl; have sz1 := box_frz h3 1
  have sq2 := box_cell h3 (j := 2) rfl; have sz2 := box_frz h3 2
  have sq3 := box_cell h3 (j := 3) rfl; have sz3 := box_frz h3 3
  have sq4 := box_cell h3 (j := 4) rfl; have sz4 := box_frz h3 4
  replace HO := Lib.hid h1; replace HA := Lib.hid h2; replace HZ := Lib.hid h3; clear h1 h2 h3
  go_wp2_with fail
  have h1 := HO.out; have h2 := HA.out; have h3 := HZ.out
  replace h1 := heap_one (o := 3) h1 (.slice ya3 yn3 yc3)
  replace h2 := box_far h2 (show w.heap.size ≠ w.heap.size + 2 by omega) 3 (.slice ya3 yn3 yc3)
  replace h3 := box_far h3 (show w.heap.size + 1 ≠ w.heap.size + 2 by omega) 3 (.slice ya3 yn3 yc3)
  replace h1 := heap_one (o := 4) h1 (.string a4)
  replace h2 := box_far h2 (show w.heap.size ≠ w.heap.size + 2 by omega) 4 (.string a4)
  replace h3 := box_far h3 (show w.heap.size + 1 ≠ w.heap.size + 2 by omega) 4 (.string a4)
  replace h1 : ((w3.setCell ⟨w.heap.size + 2, 3, none⟩ (.slice ya3 yn3 yc3)).setCell ⟨w.heap.size + 2, 4, none⟩ (.string a4)).heap[w.heap.size + 2]? = some (.cells #[.bool a0, .slice ya1 yn1 yc1, .slice ya2 yn2 yc2, .slice ya3 yn3 yc3, .string a4] 38 (0, 0)) := h1
  replace h3 := heap_one (o := 0) h3 (.bool a0)
  replace h3 := heap_one (o := 1) h3 (.slice ya1 yn1 yc1)
  replace h3 := heap_one (o := 2) h3 (.slice ya2 yn2 yc2)
  replace h3 := heap_one (o := 3) h3 (.slice ya3 yn3 yc3)
  replace h3 := heap_one (o := 4) h3 (.string a4)
  replace h3 : (((((((w3.setCell ⟨w.heap.size + 2, 3, none⟩ (.slice ya3 yn3 yc3)).setCell ⟨w.heap.size + 2, 4, none⟩ (.string a4)).setCell ⟨w.heap.size + 1, 0, none⟩ (.bool a0)).setCell ⟨w.heap.size + 1, 1, none⟩ (.slice ya1 yn1 yc1)).setCell ⟨w.heap.size + 1, 2, none⟩ (.slice ya2 yn2 yc2)).setCell ⟨w.heap.size + 1, 3, none⟩ (.slice ya3 yn3 yc3)).setCell ⟨w.heap.size + 1, 4, none⟩ (.string a4)).heap[w.heap.size + 1]? = some (.cells #[.bool a0, .slice ya1 yn1 yc1, .slice ya2 yn2 yc2, .slice ya3 yn3 yc3, .string a4] 38 (0, 0)) := h3
  have HON := Lib.hid (show OnlyB [w.heap.size + 1, w.heap.size + 2] w3 (((((((w3.setCell ⟨w.heap.size + 2, 3, none⟩ (.slice ya3 yn3 yc3)).setCell ⟨w.heap.size + 2, 4, none⟩ (.string a4)).setCell ⟨w.heap.size + 1, 0, none⟩ (.bool a0)).setCell ⟨w.heap.size + 1, 1, none⟩ (.slice ya1 yn1 yc1)).setCell ⟨w.heap.size + 1, 2, none⟩ (.slice ya2 yn2 yc2)).setCell ⟨w.heap.size + 1, 3, none⟩ (.slice ya3 yn3 yc3)).setCell ⟨w.heap.size + 1, 4, none⟩ (.string a4)) from (((((((OnlyB.refl _ w3).set (by simp)).set (by simp)).set (by simp)).set (by simp)).set (by simp)).set (by simp)).set (by simp))
  replace HOW1 := Lib.hid (Rw.OwnR.top (Rw.OwnR.only HON.out y1 HOW1.out fun b hb hm => by have h := (Rw.OwnR.lt y1 HOW1.out b hb).1; simp only [List.mem_cons, List.mem_nil_iff, or_false] at hm; omega))
  replace HOW2 := Lib.hid (Rw.OwnR.top (Rw.OwnR.only HON.out y2 HOW2.out fun b hb hm => by have h := (Rw.OwnR.lt y2 HOW2.out b hb).1; simp only [List.mem_cons, List.mem_nil_iff, or_false] at hm; omega))
  replace HOW3 := Lib.hid (Rw.OwnR.top (Rw.OwnR.only HON.out y3 HOW3.out fun b hb hm => by have h := (Rw.OwnR.lt y3 HOW3.out b hb).1; simp only [List.mem_cons, List.mem_nil_iff, or_false] at hm; omega))
  replace HB := Lib.hid (HB.out.trans (HON.out.below (fun b hb => by simp only [List.mem_cons, List.mem_nil_iff, or_false] at hb; omega) HB.out.size)); replace HSZ := Lib.hid (Nat.le_trans HSZ.out HON.out.size)
  clear HON
  have fq0 := box_cell h3 (j := 0) rfl
  have fq1 := box_cell h3 (j := 1) rfl
  have fq2 := box_cell h3 (j := 2) rfl
  have fq3 := box_cell h3 (j := 3) rfl
  have fq4 := box_cell h3 (j := 4) rfl
  refine bodyPost_ret (v := .agg #[.bool a0, .slice ya1 yn1 yc1, .slice ya2 yn2 yc2, .slice ya3 yn3 yc3, .string a4]) (by simp [results, Try.results14, go_sem, fq0, fq1, fq2, fq3, fq4]) rfl ?_
  refine ⟨y1, y2, y3, by rw [HYC1.out, HYC2.out, HYC3.out], HY1.out, HD1.out, HY2.out, HD2.out, HY3.out, HD3.out, ?_, ?_, HB.out⟩
  · refine ownRL_iff.2 fun c hc => ?_
    simp only [List.mem_cons, List.mem_nil_iff, or_false] at hc
    rcases hc with rfl | rfl | rfl
    · exact own_mono HOW1.out (by omega) (Nat.le_refl _)
    · exact own_mono HOW2.out (by omega) (Nat.le_refl _)
    · exact own_mono HOW3.out (by omega) (Nat.le_refl _)
  · simp only [blocksL, List.append_nil]
    exact (List.nodup_append.2 ⟨HN1.out, (List.nodup_append.2 ⟨HN2.out, HN3.out, fun a ha b hb e => by subst e; exact absurd hb (HX2_3.out a ha)⟩), fun a ha b hb e => by subst e; simp only [List.mem_append] at hb; rcases hb with hb | hb <;> first | exact absurd hb (HX1_2.out a ha) | exact absurd hb (HX1_3.out a ha)⟩)

theorem eqV_Policy (a0 : Bool) (a1 b1 : Rw) (a2 b2 : Rw) (a3 b3 : Rw) (a4 : ByteArray) (u1 u2 u3 v1 v2 v3 : Value) (e1 : a1.cell = u1) (f1 : b1.cell = v1) (e2 : a2.cell = u2) (f2 : b2.cell = v2) (e3 : a3.cell = u3) (f3 : b3.cell = v3) (w : World) (hx1 : IsStringS a1) (hy1 : IsStringS b1) (hd1 : a1.data = b1.data) (rx1 : a1.ReadR w.heap.size w) (ry1 : b1.ReadR w.heap.size w) (hx2 : IsStringS a2) (hy2 : IsStringS b2) (hd2 : a2.data = b2.data) (rx2 : a2.ReadR w.heap.size w) (ry2 : b2.ReadR w.heap.size w) (hx3 : IsStringS a3) (hy3 : IsStringS b3) (hd3 : a3.data = b3.data) (rx3 : a3.ReadR w.heap.size w) (ry3 : b3.ReadR w.heap.size w) :
    Calls Try.prog 16 #[.agg #[.bool a0, u1, u2, u3, .string a4], .agg #[.bool a0, v1, v2, v3, .string a4]] w fun e w' => e = .returned (.bool true) ∧ Grw w w' := by
  subst e1; subst f1; subst e2; subst f2; subst e3; subst f3
  exact eq_Policy a0 a1 b1 a2 b2 a3 b3 a4 w hx1 hy1 hd1 rx1 ry1 hx2 hy2 hd2 rx2 ry2 hx3 hy3 hd3 rx3 ry3

end Go.Proofs.Ytkjjiinccljhjaa

/- Helper contracts over the functions with which the laws copy, compare, measure and mark slices, by program (deep.py). Asked: what lies in memory is as named. -/
import Derived.Test.YtgcdfkpidcdicaaGreatDoorDpNodeL
import Derived.Shelf.SlSortCmp.QuietGrown
namespace Go.Proofs.YtgcdfkpidcdicaaGreatDoor
open Go.ChangeShapes Go.WideShapes Go.ChangeAt Go.RowKit

set_option maxHeartbeats 2000000 in
theorem eq_Builder (a0 b0 : Rw) (a1 b1 : Rw) (w : World) (hx0 : IsNodeS a0) (hy0 : IsNodeS b0) (hd0 : a0.data = b0.data) (rx0 : a0.ReadR w.heap.size w) (ry0 : b0.ReadR w.heap.size w) (hx1 : IsIntS a1) (hy1 : IsIntS b1) (hd1 : a1.data = b1.data) (rx1 : a1.ReadR w.heap.size w) (ry1 : b1.ReadR w.heap.size w) :
    Calls Tryz.prog 47 #[.agg #[a0.cell, a1.cell], .agg #[b0.cell, b1.cell]] w fun e w' => e = .returned (.bool true) ∧ Grw w w' := by
  go_enter Tryz.func47, Tryz.ntmps47
  go_wp2_with fail
  obtain ⟨w0, hw0⟩ : ∃ x, ((w.alloc (.cells #[a0.cell, a1.cell] 40)).alloc (.cells #[b0.cell, b1.cell] 40)) = x := ⟨_, rfl⟩
  rw [hw0]
  have HG0 := Lib.hid (show Grw w w0 by rw [← hw0]; exact ((Grw.refl w).alloc _).alloc _)
  have qa1 : w0.cell? ⟨w.heap.size, 1, none⟩ = some (a1.cell) := by rw [← hw0]; simp
  have qb1 : w0.cell? ⟨w.heap.size + 1, 1, none⟩ = some (b1.cell) := by rw [← hw0]; simp
  clear hw0
  refine (eq_NodeS a0 b0 hx0 hy0 hd0 _ (rx0.up HG0.out) (ry0.up HG0.out)).mono ?_
  rintro e w1 ⟨rfl, hg1⟩
  replace qa1 := (hg1.below.cell (show (⟨w.heap.size, 1, none⟩ : Addr).block < _ from World.block_lt_of_cell? _ _ qa1)).trans qa1
  replace qb1 := (hg1.below.cell (show (⟨w.heap.size + 1, 1, none⟩ : Addr).block < _ from World.block_lt_of_cell? _ _ qb1)).trans qb1
  have HG1 := Lib.hid (HG0.out.trans hg1); clear hg1
  go_wp2_with fail
  refine (eq_IntS a1 b1 hx1 hy1 hd1 _ (rx1.up HG1.out) (ry1.up HG1.out)).mono ?_
  rintro e w2 ⟨rfl, hg2⟩
  have HG2 := Lib.hid (HG1.out.trans hg2); clear hg2
  go_wp2_with fail
  go_ret
  exact ⟨rfl, HG2.out⟩

def SzBuilder (a0 : Rw) (a1 : Rw) (left : Int) (w : World) (e : Ending) (w' : World) : Prop :=
  ∃ r : Int, e = .returned (.int .i64 r) ∧ -1 ≤ r ∧ (0 ≤ r → r + (a0.weight : Nat) + (a1.weight : Nat) = left) ∧ Grw w w'
set_option maxRecDepth 100000 in
set_option maxHeartbeats 4000000 in
theorem sz_Builder (a0 : Rw) (a1 : Rw) (left : Int) (l1 : 0 ≤ left) (l2 : left ≤ 1099511627776) (w : World) (hx0 : IsNodeS a0) (rx0 : a0.ReadR w.heap.size w) (z0 : a0.Small) (hx1 : IsIntS a1) (rx1 : a1.ReadR w.heap.size w) (z1 : a1.Small) :
    Calls Tryz.prog 41 #[.agg #[a0.cell, a1.cell], .int .i64 left] w (SzBuilder a0 a1 left w) := by
  have HB := Lib.hid ((Grw.refl w).alloc (.cells #[a0.cell, a1.cell] 76))
  have HR0 := Lib.hid (rx0.up HB.out)
  obtain ⟨xa0, xn0, xc0, hxc0⟩ := sl_form (is_sl_NodeS hx0) rx0
  have HR1 := Lib.hid (rx1.up HB.out)
  obtain ⟨xa1, xn1, xc1, hxc1⟩ := sl_form (is_sl_IntS hx1) rx1
  rw [hxc0, hxc1] at HB ⊢
  have hsz0 := sz_NodeS a0 hx0 (left) (by omega) (by omega) _ HR0.out z0
  simp only [hxc0, hxc1] at hsz0
  have HSZ0 := Lib.hid hsz0; clear hsz0
  go_enter Tryz.func41, Tryz.ntmps41
  go_wp2_with fail
  refine HSZ0.out.mono ?_
  rintro e w0 ⟨r0, rfl, lo0, hr0, hg0⟩
  have q1 : w0.cell? ⟨w.heap.size, 1, none⟩ = some (.slice xa1 xn1 xc1) := by rw [hg0.below.cell (by rw [size_alloc]; show w.heap.size < _; omega)]; simp
  have HG0 := Lib.hid (HB.out.trans hg0); clear hg0
  by_cases d0 : r0 < 0
  · go_wp2_with fail
    go_ret
    exact ⟨-1, rfl, by omega, by omega, HG0.out⟩
  replace hr0 := hr0 (by omega)
  have hsz1 := sz_IntS a1 hx1 (r0) (by omega) (by omega) _ (rx1.up HG0.out) z1
  rw [hxc1] at hsz1
  have HSZ1 := Lib.hid hsz1; clear hsz1
  go_wp2_with fail
  refine HSZ1.out.mono ?_
  rintro e w1 ⟨r1, rfl, lo1, hr1, hg1⟩
  have HG1 := Lib.hid (HG0.out.trans hg1); clear hg1
  by_cases d1 : r1 < 0
  · go_wp2_with fail
    go_ret
    exact ⟨-1, rfl, by omega, by omega, HG1.out⟩
  replace hr1 := hr1 (by omega)
  go_wp2_with fail
  go_ret
  exact ⟨r1, rfl, by omega, by omega, HG1.out⟩

set_option maxRecDepth 100000 in
set_option maxHeartbeats 4000000 in
theorem toL_Builder (a0 : Rw) (a1 : Rw) (w : World) (hx0 : IsNodeS a0) (rx0 : a0.ReadR w.heap.size w) (hl0 : a0.weight ≤ 4398046511104) (hx1 : IsIntS a1) (rx1 : a1.ReadR w.heap.size w) (hl1 : a1.weight ≤ 4398046511104) :
    Calls Tryz.prog 44 #[.agg #[a0.cell, a1.cell]] w fun e w' => ∃ b0 b1 : Rw, e = .returned (.agg #[b0.cell, b1.cell]) ∧ IsNodeS b0 ∧ b0.data = a0.data ∧ IsIntS b1 ∧ b1.data = a1.data ∧ OwnRL w.heap.size w'.heap.size w' [b0, b1] ∧ (blocksL [b0, b1]).Nodup ∧ Below w.heap.size w w' := by
  obtain ⟨xa0, xn0, xc0, hxc0⟩ := sl_form (is_sl_NodeS hx0) rx0
  obtain ⟨xa1, xn1, xc1, hxc1⟩ := sl_form (is_sl_IntS hx1) rx1
  obtain ⟨W, hW⟩ : ∃ W, ((w.alloc (.cells #[.slice xa0 xn0 xc0, .slice xa1 xn1 xc1] 76)).alloc (.cells #[.slice none 0 0, .slice none 0 0] 40)).alloc (.cells #[.slice none 0 0, .slice none 0 0] 40) = W := ⟨_, rfl⟩
  have hg0 : Grw w W := by rw [← hW]; exact (((Grw.refl w).alloc _).alloc _).alloc _
  have ho : W.heap[w.heap.size + 2]? = some (.cells #[.slice none 0 0, .slice none 0 0] 40 (0, 0)) := by rw [← hW]; exact three_new2 w _ _ _
  have hz : W.heap[w.heap.size + 1]? = some (.cells #[.slice none 0 0, .slice none 0 0] 40 (0, 0)) := by rw [← hW]; exact three_new1 w _ _ _
  have ha : W.heap[w.heap.size]? = some (.cells #[.slice xa0 xn0 xc0, .slice xa1 xn1 xc1] 76 (0, 0)) := by rw [← hW]; exact three_new0 w _ _ _
  have HSZ := Lib.hid (show w.heap.size + 3 ≤ W.heap.size by rw [← hW, size_alloc, size_alloc, size_alloc]; exact Nat.le_refl _)
  have HTO0 := Lib.hid (fun (V : World) (hv : Below w.heap.size w V) => by have hr := to_NodeS a0 hx0 V (Rw.ReadR.mono hv.size _ (Rw.ReadR.below hv (Nat.le_refl _) _ rx0)) hl0; rw [hxc0] at hr; exact hr)
  have HTO1 := Lib.hid (fun (V : World) (hv : Below w.heap.size w V) => by have hr := to_IntS a1 hx1 V (Rw.ReadR.mono hv.size _ (Rw.ReadR.below hv (Nat.le_refl _) _ rx1)) hl1; rw [hxc1] at hr; exact hr)
  rw [hxc0, hxc1]
  have HB := Lib.hid hg0.below; have HO := Lib.hid ho; have HZ := Lib.hid hz; have HA := Lib.hid ha; have HW := Lib.hid hW
  clear rx0 hxc0 rx1 hxc1 hg0 ho hz ha hW
  go_enter Tryz.func44, Tryz.ntmps44
  go_wp2_with fail
  rw [HW.out]
  refine (HTO0.out _ HB.out).mono ?_
  rintro e w0 ⟨y0, rfl, hy0, hd0, hn0, ho0, hb⟩
  obtain ⟨ya0, yn0, yc0, hyc0⟩ := sl_form (is_sl_NodeS hy0) (Rw.OwnR.reads _ ho0)
  rw [hyc0]
  have HY0 := Lib.hid hy0; have HD0 := Lib.hid hd0; have HN0 := Lib.hid hn0; have HYC0 := Lib.hid hyc0; clear hy0 hd0 hn0 hyc0
  have HOW0 := Lib.hid (own_mono ho0 HSZ.out (Nat.le_refl _)); clear ho0
  have h1 := below_heap hb (heap_lt HO.out) HO.out; have h2 := below_heap hb (heap_lt HA.out) HA.out; have h3 := below_heap hb (heap_lt HZ.out) HZ.out
  replace HB := Lib.hid (HB.out.trans (hb.mono HB.out.size)); replace HSZ := Lib.hid (Nat.le_trans HSZ.out hb.size); clear hb
  have oq0 := box_cell h1 (j := 0) rfl; have oz0 := box_frz h1 0
  have oq1 := box_cell h1 (j := 1) rfl; have oz1 := box_frz h1 1
  have pq0 := box_cell h2 (j := 0) rfl
  have pq1 := box_cell h2 (j := 1) rfl
  have sq0 := box_cell h3 (j := 0) rfl; have sz0 := box_frz h3 0
  have sq1 := box_cell h3 (j := 1) rfl; have sz1 := box_frz h3 1
  replace HO := Lib.hid h1; replace HA := Lib.hid h2; replace HZ := Lib.hid h3; clear h1 h2 h3
  go_wp2_with fail
  clear oq0 oz0 pq0 sq0 sz0 oq1 oz1 pq1 sq1 sz1
  have h1 := HO.out; have h2 := HA.out; have h3 := HZ.out
  replace h1 := heap_one (o := 0) h1 (.slice ya0 yn0 yc0)
  replace h2 := box_far h2 (show w.heap.size ≠ w.heap.size + 2 by omega) 0 (.slice ya0 yn0 yc0)
  replace h3 := box_far h3 (show w.heap.size + 1 ≠ w.heap.size + 2 by omega) 0 (.slice ya0 yn0 yc0)
  replace h1 : (w0.setCell ⟨w.heap.size + 2, 0, none⟩ (.slice ya0 yn0 yc0)).heap[w.heap.size + 2]? = some (.cells #[.slice ya0 yn0 yc0, .slice none 0 0] 40 (0, 0)) := h1
  have HON := Lib.hid (show OnlyB [w.heap.size + 1, w.heap.size + 2] w0 (w0.setCell ⟨w.heap.size + 2, 0, none⟩ (.slice ya0 yn0 yc0)) from (OnlyB.refl _ w0).set (by simp))
  replace HOW0 := Lib.hid (Rw.OwnR.top (Rw.OwnR.only HON.out y0 HOW0.out fun b hb hm => by have h := (Rw.OwnR.lt y0 HOW0.out b hb).1; simp only [List.mem_cons, List.mem_nil_iff, or_false] at hm; omega))
  replace HB := Lib.hid (HB.out.trans (HON.out.below (fun b hb => by simp only [List.mem_cons, List.mem_nil_iff, or_false] at hb; omega) HB.out.size)); replace HSZ := Lib.hid (Nat.le_trans HSZ.out HON.out.size)
  clear HON
  replace HO := Lib.hid h1; replace HA := Lib.hid h2; replace HZ := Lib.hid h3; clear h1 h2 h3
  refine (HTO1.out _ HB.out).mono ?_
  rintro e w1 ⟨y1, rfl, hy1, hd1, hn1, ho1, hb⟩
  obtain ⟨ya1, yn1, yc1, hyc1⟩ := sl_form (is_sl_IntS hy1) (Rw.OwnR.reads _ ho1)
  rw [hyc1]
  have HY1 := Lib.hid hy1; have HD1 := Lib.hid hd1; have HN1 := Lib.hid hn1; have HYC1 := Lib.hid hyc1; clear hy1 hd1 hn1 hyc1
  have HX0_1 := Lib.hid (show ∀ b ∈ y0.blocks, b ∉ y1.blocks from fun b h1 h2 => by have := (Rw.OwnR.lt _ HOW0.out b h1).2.2; have := (Rw.OwnR.lt _ ho1 b h2).1; omega)
  replace HOW0 := Lib.hid (Rw.OwnR.top (Rw.OwnR.later HOW0.out hb))
  have HOW1 := Lib.hid (own_mono ho1 HSZ.out (Nat.le_refl _)); clear ho1
  have h1 := below_heap hb (heap_lt HO.out) HO.out; have h2 := below_heap hb (heap_lt HA.out) HA.out; have h3 := below_heap hb (heap_lt HZ.out) HZ.out
  replace HB := Lib.hid (HB.out.trans (hb.mono HB.out.size)); replace HSZ := Lib.hid (Nat.le_trans HSZ.out hb.size); clear hb
  have oq0 := box_cell h1 (j := 0) rfl; have oz0 := box_frz h1 0
  have oq1 := box_cell h1 (j := 1) rfl; have oz1 := box_frz h1 1
  have pq0 := box_cell h2 (j := 0) rfl
  have pq1 := box_cell h2 (j := 1) rfl
  have sq0 := box_cell h3 (j := 0) rfl; have sz0 := box_frz h3 0
  have sq1 := box_cell h3 (j := 1) rfl; have sz1 := box_frz h3 1
  replace HO := Lib.hid h1; replace HA := Lib.hid h2; replace HZ := Lib.hid h3; clear h1 h2 h3
  go_wp2_with fail
  have h1 := HO.out; have h2 := HA.out; have h3 := HZ.out
  replace h1 := heap_one (o := 1) h1 (.slice ya1 yn1 yc1)
  replace h2 := box_far h2 (show w.heap.size ≠ w.heap.size + 2 by omega) 1 (.slice ya1 yn1 yc1)
  replace h3 := box_far h3 (show w.heap.size + 1 ≠ w.heap.size + 2 by omega) 1 (.slice ya1 yn1 yc1)
  replace h1 : (w1.setCell ⟨w.heap.size + 2, 1, none⟩ (.slice ya1 yn1 yc1)).heap[w.heap.size + 2]? = some (.cells #[.slice ya0 yn0 yc0, .slice ya1 yn1 yc1] 40 (0, 0)) := h1
  replace h3 := heap_one (o := 0) h3 (.slice ya0 yn0 yc0)
  replace h3 := heap_one (o := 1) h3 (.slice ya1 yn1 yc1)
  replace h3 : (((w1.setCell ⟨w.heap.size + 2, 1, none⟩ (.slice ya1 yn1 yc1)).setCell ⟨w.heap.size + 1, 0, none⟩ (.slice ya0 yn0 yc0)).setCell ⟨w.heap.size + 1, 1, none⟩ (.slice ya1 yn1 yc1)).heap[w.heap.size + 1]? = some (.cells #[.slice ya0 yn0 yc0, .slice ya1 yn1 yc1] 40 (0, 0)) := h3
  have HON := Lib.hid (show OnlyB [w.heap.size + 1, w.heap.size + 2] w1 (((w1.setCell ⟨w.heap.size + 2, 1, none⟩ (.slice ya1 yn1 yc1)).setCell ⟨w.heap.size + 1, 0, none⟩ (.slice ya0 yn0 yc0)).setCell ⟨w.heap.size + 1, 1, none⟩ (.slice ya1 yn1 yc1)) from (((OnlyB.refl _ w1).set (by simp)).set (by simp)).set (by simp))
  replace HOW0 := Lib.hid (Rw.OwnR.top (Rw.OwnR.only HON.out y0 HOW0.out fun b hb hm => by have h := (Rw.OwnR.lt y0 HOW0.out b hb).1; simp only [List.mem_cons, List.mem_nil_iff, or_false] at hm; omega))
  replace HOW1 := Lib.hid (Rw.OwnR.top (Rw.OwnR.only HON.out y1 HOW1.out fun b hb hm => by have h := (Rw.OwnR.lt y1 HOW1.out b hb).1; simp only [List.mem_cons, List.mem_nil_iff, or_false] at hm; omega))
  replace HB := Lib.hid (HB.out.trans (HON.out.below (fun b hb => by simp only [List.mem_cons, List.mem_nil_iff, or_false] at hb; omega) HB.out.size)); replace HSZ := Lib.hid (Nat.le_trans HSZ.out HON.out.size)
  clear HON
  have fq0 := box_cell h3 (j := 0) rfl
  have fq1 := box_cell h3 (j := 1) rfl
  refine bodyPost_ret (v := .agg #[.slice ya0 yn0 yc0, .slice ya1 yn1 yc1]) (by simp [results, Tryz.results44, go_sem, fq0, fq1]) rfl ?_
  refine ⟨y0, y1, by rw [HYC0.out, HYC1.out], HY0.out, HD0.out, HY1.out, HD1.out, ?_, ?_, HB.out⟩
  · refine ownRL_iff.2 fun c hc => ?_
    simp only [List.mem_cons, List.mem_nil_iff, or_false] at hc
    rcases hc with rfl | rfl
    · exact own_mono HOW0.out (by omega) (Nat.le_refl _)
    · exact own_mono HOW1.out (by omega) (Nat.le_refl _)
  · simp only [blocksL, List.append_nil]
    exact (List.nodup_append.2 ⟨HN0.out, HN1.out, fun a ha b hb e => by subst e; exact absurd hb (HX0_1.out a ha)⟩)

set_option maxRecDepth 100000 in
set_option maxHeartbeats 4000000 in
theorem mkL_Builder (a0 : Rw) (a1 : Rw) (hx0 : IsNodeS a0) (hx1 : IsIntS a1) (lo hi k0 : Nat) (q : Int) (hq : q = k0) (w : World) (ho : OwnRL lo hi w [a0, a1]) (hd : (blocksL [a0, a1]).Nodup) (hk : k0 + countL [a0, a1] ≤ 4611686018427387904) :
    Calls Tryz.prog 49 #[.agg #[a0.cell, a1.cell], .int .i64 q] w fun e w' => e = .returned (.int .i64 ((k0 + countL [a0, a1] : Nat) : Int)) ∧ OwnRL lo hi w' (markL [a0, a1] k0) ∧ OnlyB (blocksL [a0, a1]) w w' := by
  subst hq
  simp only [countL, Nat.add_zero] at hk ⊢
  simp only [markL, blocksL, List.append_nil] at hd ⊢
  have hg := (Grw.refl w).alloc (.cells #[a0.cell, a1.cell] 40)
  have HO0 := Lib.hid ((ownRL_iff.1 ho a0 (by simp)).later hg.below); have HL0 := Lib.hid (Rw.OwnR.lt _ (ownRL_iff.1 ho a0 (by simp)))
  have HO1 := Lib.hid ((ownRL_iff.1 ho a1 (by simp)).later hg.below); have HL1 := Lib.hid (Rw.OwnR.lt _ (ownRL_iff.1 ho a1 (by simp)))
  have HG := Lib.hid hg; have HD := Lib.hid hd; clear ho hg hd
  obtain ⟨W, hW⟩ : ∃ W, w.alloc (.cells #[a0.cell, a1.cell] 40) = W := ⟨_, rfl⟩
  have q0 : W.cell? ⟨w.heap.size, 0, none⟩ = some (a0.cell) := by rw [← hW]; simp
  have q1 : W.cell? ⟨w.heap.size, 1, none⟩ = some (a1.cell) := by rw [← hW]; simp
  rw [hW] at HG HO0 HO1
  go_enter Tryz.func49, Tryz.ntmps49
  go_wp2_with fail
  clear hW
  refine (mk_NodeS a0 hx0 lo hi (k0) _ rfl _ HO0.out (List.nodup_append.1 HD.out).1 (by omega)).mono ?_
  rintro e w0 ⟨rfl, hoi, hon⟩
  replace q1 := (cell_only hon (show w.heap.size ∉ _ from fun hb => by have := (HL0.out _ hb).2.2; omega) (World.block_lt_of_cell? _ _ q1)).trans q1
  replace HO1 := Lib.hid (Rw.OwnR.only hon a1 HO1.out fun b hbs hbt => (List.nodup_append.1 HD.out).2.2 b hbt b (by simp [hbs]) rfl)
  have HM0 := Lib.hid hoi
  have HON0 := Lib.hid (show OnlyB (a0.blocks ++ a1.blocks) w w0 from (OnlyB.of_below HG.out.below _).trans (OnlyB.mono hon (fun i hi => by simp [hi])))
  clear hoi hon
  obtain ⟨r0, hr0⟩ : ∃ r, k0 + a0.count = r := ⟨_, rfl⟩
  rw [hr0]
  have HR0 := Lib.hid hr0
  go_wp2_with fail
  refine (mk_IntS a1 hx1 lo hi (r0) _ (by omega) _ HO1.out (List.nodup_append.1 HD.out).2.1 (by omega)).mono ?_
  rintro e w1 ⟨rfl, hoi, hon⟩
  replace HM0 := Lib.hid (Rw.OwnR.only hon _ HM0.out fun b hbs hbt => by rw [mark_blocks] at hbs; exact (List.nodup_append.1 HD.out).2.2 b hbs b (by simp [hbt]) rfl)
  have HM1 := Lib.hid hoi
  have HON1 := Lib.hid (show OnlyB (a0.blocks ++ a1.blocks) w w1 from (HON0.out).trans (OnlyB.mono hon (fun i hi => by simp [hi])))
  clear hoi hon
  obtain ⟨r1, hr1⟩ : ∃ r, r0 + a1.count = r := ⟨_, rfl⟩
  rw [hr1]
  have HR1 := Lib.hid hr1
  go_wp2_with fail
  go_ret
  refine ⟨by rw [show k0 + (a0.count + a1.count) = r1 by omega]; rfl, ownRL_iff.2 fun c hc => ?_, HON1.out⟩
  simp only [List.mem_cons, List.mem_nil_iff, or_false] at hc
  rcases hc with rfl | rfl
  · exact HM0.out
  · (try simp only [HR0.out]); exact HM1.out

set_option maxRecDepth 100000 in
set_option maxHeartbeats 4000000 in
theorem hdL_Builder (a0 : Rw) (a1 : Rw) (hx0 : IsNodeS a0) (hx1 : IsIntS a1) (hi k0 : Nat) (q : Int) (hq : q = k0) (w : World) (hr : ReadRL hi w (markL [a0, a1] k0)) (hh : hi ≤ w.heap.size) (hk : k0 + countL [a0, a1] ≤ 4611686018427387904) :
    Calls Tryz.prog 51 #[.agg #[a0.cell, a1.cell], .int .i64 q] w fun e w' => e = .returned (.int .i64 ((k0 + countL [a0, a1] : Nat) : Int)) ∧ Grw w w' := by
  subst hq
  simp only [countL, Nat.add_zero] at hk ⊢
  simp only [markL] at hr
  have hg := (Grw.refl w).alloc (.cells #[a0.cell, a1.cell] 40)
  have HR0 := Lib.hid ((readRL_iff.1 hr (a0.mark (k0)) (by simp)).grw hh hg)
  have HR1 := Lib.hid ((readRL_iff.1 hr (a1.mark (k0 + a0.count)) (by simp)).grw hh hg)
  have HG := Lib.hid hg; have HH := Lib.hid (Nat.le_trans hh hg.below.size); clear hr hg
  obtain ⟨W, hW⟩ : ∃ W, w.alloc (.cells #[a0.cell, a1.cell] 40) = W := ⟨_, rfl⟩
  have q0 : W.cell? ⟨w.heap.size, 0, none⟩ = some (a0.cell) := by rw [← hW]; simp
  have q1 : W.cell? ⟨w.heap.size, 1, none⟩ = some (a1.cell) := by rw [← hW]; simp
  rw [hW] at HG HH HR0 HR1
  go_enter Tryz.func51, Tryz.ntmps51
  go_wp2_with fail
  clear hW
  refine (hd_NodeS a0 hx0 hi (k0) _ rfl _ (HR0.out) (Nat.le_trans HH.out (Nat.le_refl _)) (by omega)).mono ?_
  rintro e w0 ⟨rfl, hg0⟩
  replace q1 := (hg0.below.cell (show (⟨w.heap.size, 1, none⟩ : Addr).block < _ from World.block_lt_of_cell? _ _ q1)).trans q1
  replace HR1 := Lib.hid (HR1.out.grw HH.out hg0)
  replace HH := Lib.hid (Nat.le_trans HH.out hg0.below.size)
  replace HG := Lib.hid (HG.out.trans hg0); clear hg0
  obtain ⟨r0, hr0⟩ : ∃ r, k0 + a0.count = r := ⟨_, rfl⟩
  rw [hr0]
  rw [hr0] at HR1
  have hn0 : ¬ ((r0 : Int) < 0) := by omega
  go_wp2_with fail
  refine (hd_IntS a1 hx1 hi (r0) _ rfl _ (HR1.out) (Nat.le_trans HH.out (Nat.le_refl _)) (by omega)).mono ?_
  rintro e w1 ⟨rfl, hg1⟩
  replace HH := Lib.hid (Nat.le_trans HH.out hg1.below.size)
  replace HG := Lib.hid (HG.out.trans hg1); clear hg1
  obtain ⟨r1, hr1⟩ : ∃ r, r0 + a1.count = r := ⟨_, rfl⟩
  rw [hr1]
  have hn1 : ¬ ((r1 : Int) < 0) := by omega
  go_wp2_with fail
  go_ret
  exact ⟨by rw [show k0 + (a0.count + a1.count) = r1 by omega]; rfl, HG.out⟩

theorem eqV_Builder (a0 b0 : Rw) (a1 b1 : Rw) (u0 u1 v0 v1 : Value) (e0 : a0.cell = u0) (f0 : b0.cell = v0) (e1 : a1.cell = u1) (f1 : b1.cell = v1) (w : World) (hx0 : IsNodeS a0) (hy0 : IsNodeS b0) (hd0 : a0.data = b0.data) (rx0 : a0.ReadR w.heap.size w) (ry0 : b0.ReadR w.heap.size w) (hx1 : IsIntS a1) (hy1 : IsIntS b1) (hd1 : a1.data = b1.data) (rx1 : a1.ReadR w.heap.size w) (ry1 : b1.ReadR w.heap.size w) :
    Calls Tryz.prog 47 #[.agg #[u0, u1], .agg #[v0, v1]] w fun e w' => e = .returned (.bool true) ∧ Grw w w' := by
  subst e0; subst f0; subst e1; subst f1
  exact eq_Builder a0 b0 a1 b1 w hx0 hy0 hd0 rx0 ry0 hx1 hy1 hd1 rx1 ry1

theorem mkV_Builder (a0 : Rw) (a1 : Rw) (u0 u1 : Value) (e0 : a0.cell = u0) (e1 : a1.cell = u1) (hx0 : IsNodeS a0) (hx1 : IsIntS a1) (lo hi k0 : Nat) (q : Int) (hq : q = k0) (w : World) (ho : OwnRL lo hi w [a0, a1]) (hd : (blocksL [a0, a1]).Nodup) (hk : k0 + countL [a0, a1] ≤ 4611686018427387904) :
    Calls Tryz.prog 49 #[.agg #[u0, u1], .int .i64 q] w fun e w' => e = .returned (.int .i64 ((k0 + countL [a0, a1] : Nat) : Int)) ∧ OwnRL lo hi w' (markL [a0, a1] k0) ∧ OnlyB (blocksL [a0, a1]) w w' := by
  subst e0; subst e1
  exact mkL_Builder a0 a1 hx0 hx1 lo hi k0 q hq w ho hd hk

theorem hdV_Builder (a0 : Rw) (a1 : Rw) (u0 u1 : Value) (e0 : a0.cell = u0) (e1 : a1.cell = u1) (hx0 : IsNodeS a0) (hx1 : IsIntS a1) (hi k0 : Nat) (q : Int) (hq : q = k0) (w : World) (hr : ReadRL hi w (markL [a0, a1] k0)) (hh : hi ≤ w.heap.size) (hk : k0 + countL [a0, a1] ≤ 4611686018427387904) :
    Calls Tryz.prog 51 #[.agg #[u0, u1], .int .i64 q] w fun e w' => e = .returned (.int .i64 ((k0 + countL [a0, a1] : Nat) : Int)) ∧ Grw w w' := by
  subst e0; subst e1
  exact hdL_Builder a0 a1 hx0 hx1 hi k0 q hq w hr hh hk
end Go.Proofs.YtgcdfkpidcdicaaGreatDoor

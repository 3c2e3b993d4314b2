/- Helper contracts over the functions with which the laws copy, compare, measure and mark slices, by program (deep.py). Asked: what lies in memory is as named. Helper contracts over the functions with which the laws copy, compare, measure and mark slices, by program (deep.py). Asked: what lies in memory is as named. Helper contracts over the functions with which the laws copy, compare, measure and mark slices, by program (deep.py). Asked: what lies in memory is as named. Helper contracts over the integer functions of the program and of the model: what InRange, l1In, Min, Max and lowAndHigh return. No conditions beyond the types. Helper contracts: IsName of the program and of the model answer alike. Asked: the string is shorter than 2^63 bytes. -/
import Derived.Test.YtpkicliimhflgaaGreatDoorMf3
import Derived.Shelf.SlSortCmp.QuietGrown
import Derived.Test.YtpkicliimhflgaaGreatDoorMf2
import Derived.Test.YtpkicliimhflgaaGreatDoorRows
import Derived.WalkKit
import Derived.ProofKit
import Derived.OpenShut
import Derived.LoopTactic
import Derived.Deep.QuietTactic
import Derived.BigQuiet
import Derived.Lib.Hide
import Derived.WalkSpells
import Derived.WalkLawsBesides
import Derived.Lib.Strings
namespace Go.Proofs.YtpkicliimhflgaaGreatDoor

open Go.ChangeShapes Go.WideShapes Go.ChangeAt Go.RowKit

def SzNode (a0 : ByteArray) (a1 : ByteArray) (a3 : Rw) (left : Int) (w : World) (e : Ending) (w' : World) : Prop :=
  ∃ r : Int, e = .returned (.int .i64 r) ∧ -1 ≤ r ∧ (0 ≤ r → r + (a0.size : Nat) + (a1.size : Nat) + (a3.weight : Nat) = left) ∧ Grw w w'
set_option maxRecDepth 100000 in
set_option maxHeartbeats 4000000 in
theorem sz_Node (a0 : ByteArray) (a1 : ByteArray) (a2 : Int) (a3 : Rw) (left : Int) (l1 : 0 ≤ left) (l2 : left ≤ 1099511627776) (w : World) (z0 : a0.size ≤ 9223372036854775807) (z1 : a1.size ≤ 9223372036854775807) (hx3 : IsAttrS a3) (rx3 : a3.ReadR w.heap.size w) (z3 : a3.Small) :
    Calls Tryz.prog 122 #[.agg #[.string a0, .string a1, .int .i64 a2, a3.cell], .int .i64 left] w (SzNode a0 a1 a3 left w) := by
  have HB := Lib.hid ((Grw.refl w).alloc (.cells #[.string a0, .string a1, .int .i64 a2, a3.cell] 184))
  have HR3 := Lib.hid (rx3.up HB.out)
  obtain ⟨xa3, xn3, xc3, hxc3⟩ := sl_form (is_sl_AttrS hx3) rx3
  rw [hxc3] at HB ⊢
  rw [hxc3] at HR3
  by_cases c0 : left - (a0.size : Int) < 0
  · go_enter Tryz.func122, Tryz.ntmps122
    go_wp2_with fail
    go_ret
    exact ⟨-1, rfl, by omega, by omega, HB.out⟩
  by_cases c1 : left - (a0.size : Int) - (a1.size : Int) < 0
  · go_enter Tryz.func122, Tryz.ntmps122
    go_wp2_with fail
    go_ret
    exact ⟨-1, rfl, by omega, by omega, HB.out⟩
  have hsz3 := sz_AttrS a3 hx3 (left - (a0.size : Int) - (a1.size : Int)) (by omega) (by omega) _ HR3.out z3
  simp only [hxc3] at hsz3
  have HSZ3 := Lib.hid hsz3; clear hsz3
  go_enter Tryz.func122, Tryz.ntmps122
  go_wp2_with fail
  refine HSZ3.out.mono ?_
  rintro e w3 ⟨r3, rfl, lo3, hr3, hg3⟩
  have HG3 := Lib.hid (HB.out.trans hg3); clear hg3
  by_cases d3 : r3 < 0
  · go_wp2_with fail
    go_ret
    exact ⟨-1, rfl, by omega, by omega, HG3.out⟩
  replace hr3 := hr3 (by omega)
  go_wp2_with fail
  go_ret
  exact ⟨r3, rfl, by omega, by omega, HG3.out⟩

set_option maxRecDepth 100000 in
set_option maxHeartbeats 4000000 in
theorem toL_Node (a0 : ByteArray) (a1 : ByteArray) (a2 : Int) (a3 : Rw) (w : World) (hx3 : IsAttrS a3) (rx3 : a3.ReadR w.heap.size w) (hl3 : a3.weight ≤ 4398046511104) :
    Calls Tryz.prog 124 #[.agg #[.string a0, .string a1, .int .i64 a2, a3.cell]] w fun e w' => ∃ b3 : Rw, e = .returned (.agg #[.string a0, .string a1, .int .i64 a2, b3.cell]) ∧ IsAttrS b3 ∧ b3.data = a3.data ∧ OwnRL w.heap.size w'.heap.size w' [b3] ∧ (blocksL [b3]).Nodup ∧ Below w.heap.size w w' := by
  obtain ⟨xa3, xn3, xc3, hxc3⟩ := sl_form (is_sl_AttrS hx3) rx3
  obtain ⟨W, hW⟩ : ∃ W, ((w.alloc (.cells #[.string a0, .string a1, .int .i64 a2, .slice xa3 xn3 xc3] 184)).alloc (.cells #[.string ⟨#[]⟩, .string ⟨#[]⟩, .int .i64 0, .slice none 0 0] 117)).alloc (.cells #[.string a0, .string a1, .int .i64 a2, .slice none 0 0] 117) = W := ⟨_, rfl⟩
  have hg0 : Grw w W := by rw [← hW]; exact (((Grw.refl w).alloc _).alloc _).alloc _
  have ho : W.heap[w.heap.size + 2]? = some (.cells #[.string a0, .string a1, .int .i64 a2, .slice none 0 0] 117 (0, 0)) := by rw [← hW]; exact three_new2 w _ _ _
  have hz : W.heap[w.heap.size + 1]? = some (.cells #[.string ⟨#[]⟩, .string ⟨#[]⟩, .int .i64 0, .slice none 0 0] 117 (0, 0)) := by rw [← hW]; exact three_new1 w _ _ _
  have ha : W.heap[w.heap.size]? = some (.cells #[.string a0, .string a1, .int .i64 a2, .slice xa3 xn3 xc3] 184 (0, 0)) := by rw [← hW]; exact three_new0 w _ _ _
  have HSZ := Lib.hid (show w.heap.size + 3 ≤ W.heap.size by rw [← hW, size_alloc, size_alloc, size_alloc]; exact Nat.le_refl _)
  have HTO3 := Lib.hid (fun (V : World) (hv : Below w.heap.size w V) => by have hr := to_AttrS a3 hx3 V (Rw.ReadR.mono hv.size _ (Rw.ReadR.below hv (Nat.le_refl _) _ rx3)) hl3; rw [hxc3] at hr; exact hr)
  rw [hxc3]
  have HB := Lib.hid hg0.below; have HO := Lib.hid ho; have HZ := Lib.hid hz; have HA := Lib.hid ha; have HW := Lib.hid hW
  clear rx3 hxc3 hg0 ho hz ha hW
  go_enter Tryz.func124, Tryz.ntmps124
  go_wp2_with fail
  rw [HW.out]
  refine (HTO3.out _ HB.out).mono ?_
  rintro e w3 ⟨y3, rfl, hy3, hd3, hn3, ho3, hb⟩
  obtain ⟨ya3, yn3, yc3, hyc3⟩ := sl_form (is_sl_AttrS hy3) (Rw.OwnR.reads _ ho3)
  rw [hyc3]
  have HY3 := Lib.hid hy3; have HD3 := Lib.hid hd3; have HN3 := Lib.hid hn3; have HYC3 := Lib.hid hyc3; clear hy3 hd3 hn3 hyc3
  have HOW3 := Lib.hid (own_mono ho3 HSZ.out (Nat.le_refl _)); clear ho3
  have h1 := below_heap hb (heap_lt HO.out) HO.out; have h2 := below_heap hb (heap_lt HA.out) HA.out; have h3 := below_heap hb (heap_lt HZ.out) HZ.out
  replace HB := Lib.hid (HB.out.trans (hb.mono HB.out.size)); replace HSZ := Lib.hid (Nat.le_trans HSZ.out hb.size); clear hb
  have oq0 := box_cell h1 (j := 0) rfl; have oz0 := box_frz h1 0
  have oq1 := box_cell h1 (j := 1) rfl; have oz1 := box_frz h1 1
  have oq2 := box_cell h1 (j := 2) rfl; have oz2 := box_frz h1 2
  have oq3 := box_cell h1 (j := 3) rfl; have oz3 := box_frz h1 3
  have pq0 := box_cell h2 (j := 0) rfl
  have pq1 := box_cell h2 (j := 1) rfl
  have pq2 := box_cell h2 (j := 2) rfl
  have pq3 := box_cell h2 (j := 3) rfl
  have sq0 := box_cell h3 (j := 0) rfl; have sz0 := box_frz h3 0
  have sq1 := box_cell h3 (j := 1) rfl; have sz1 := box_frz h3 1
  have sq2 := box_cell h3 (j := 2) rfl; have sz2 := box_frz h3 2
  have sq3 := box_cell h3 (j := 3) rfl; have sz3 := box_frz h3 3
  replace HO := Lib.hid h1; replace HA := Lib.hid h2; replace HZ := Lib.hid h3; clear h1 h2 h3
  go_wp2_with fail
  have h1 := HO.out; have h2 := HA.out; have h3 := HZ.out
  replace h1 := heap_one (o := 3) h1 (.slice ya3 yn3 yc3)
  replace h2 := box_far h2 (show w.heap.size ≠ w.heap.size + 2 by omega) 3 (.slice ya3 yn3 yc3)
  replace h3 := box_far h3 (show w.heap.size + 1 ≠ w.heap.size + 2 by omega) 3 (.slice ya3 yn3 yc3)
  replace h1 : (w3.setCell ⟨w.heap.size + 2, 3, none⟩ (.slice ya3 yn3 yc3)).heap[w.heap.size + 2]? = some (.cells #[.string a0, .string a1, .int .i64 a2, .slice ya3 yn3 yc3] 117 (0, 0)) := h1
  replace h3 := heap_one (o := 0) h3 (.string a0)
  replace h3 := heap_one (o := 1) h3 (.string a1)
  replace h3 := heap_one (o := 2) h3 (.int .i64 a2)
  replace h3 := heap_one (o := 3) h3 (.slice ya3 yn3 yc3)
  replace h3 : (((((w3.setCell ⟨w.heap.size + 2, 3, none⟩ (.slice ya3 yn3 yc3)).setCell ⟨w.heap.size + 1, 0, none⟩ (.string a0)).setCell ⟨w.heap.size + 1, 1, none⟩ (.string a1)).setCell ⟨w.heap.size + 1, 2, none⟩ (.int .i64 a2)).setCell ⟨w.heap.size + 1, 3, none⟩ (.slice ya3 yn3 yc3)).heap[w.heap.size + 1]? = some (.cells #[.string a0, .string a1, .int .i64 a2, .slice ya3 yn3 yc3] 117 (0, 0)) := h3
  have HON := Lib.hid (show OnlyB [w.heap.size + 1, w.heap.size + 2] w3 (((((w3.setCell ⟨w.heap.size + 2, 3, none⟩ (.slice ya3 yn3 yc3)).setCell ⟨w.heap.size + 1, 0, none⟩ (.string a0)).setCell ⟨w.heap.size + 1, 1, none⟩ (.string a1)).setCell ⟨w.heap.size + 1, 2, none⟩ (.int .i64 a2)).setCell ⟨w.heap.size + 1, 3, none⟩ (.slice ya3 yn3 yc3)) from (((((OnlyB.refl _ w3).set (by simp)).set (by simp)).set (by simp)).set (by simp)).set (by simp))
  replace HOW3 := Lib.hid (Rw.OwnR.top (Rw.OwnR.only HON.out y3 HOW3.out fun b hb hm => by have h := (Rw.OwnR.lt y3 HOW3.out b hb).1; simp only [List.mem_cons, List.mem_nil_iff, or_false] at hm; omega))
  replace HB := Lib.hid (HB.out.trans (HON.out.below (fun b hb => by simp only [List.mem_cons, List.mem_nil_iff, or_false] at hb; omega) HB.out.size)); replace HSZ := Lib.hid (Nat.le_trans HSZ.out HON.out.size)
  clear HON
  have fq0 := box_cell h3 (j := 0) rfl
  have fq1 := box_cell h3 (j := 1) rfl
  have fq2 := box_cell h3 (j := 2) rfl
  have fq3 := box_cell h3 (j := 3) rfl
  refine bodyPost_ret (v := .agg #[.string a0, .string a1, .int .i64 a2, .slice ya3 yn3 yc3]) (by simp [results, Tryz.results124, go_sem, fq0, fq1, fq2, fq3]) rfl ?_
  refine ⟨y3, by rw [HYC3.out], HY3.out, HD3.out, ?_, ?_, HB.out⟩
  · refine ownRL_iff.2 fun c hc => ?_
    simp only [List.mem_cons, List.mem_nil_iff, or_false] at hc
    rcases hc with rfl
    exact own_mono HOW3.out (by omega) (Nat.le_refl _)
  · simp only [blocksL, List.append_nil]
    exact HN3.out

set_option maxRecDepth 100000 in
set_option maxHeartbeats 4000000 in
theorem sz_NodeS (x : Rw) (hx : IsNodeS x) (left : Int) (l1 : 0 ≤ left) (l2 : left ≤ 1099511627776) (w : World) (rx : x.ReadR w.heap.size w) (hz : x.Small) :
    Calls Tryz.prog 75 #[x.cell, .int .i64 left] w fun e w' => ∃ r : Int, e = .returned (.int .i64 r) ∧ -1 ≤ r ∧ (0 ≤ r → r + (x.weight : Nat) = left) ∧ Grw w w' := by
  obtain ⟨v, n, e0, cs, rfl, hrow⟩ := hx
  rw [Rw.ReadR] at rx; rw [Rw.Small] at hz; rw [Rw.cell_sl, Rw.weight]
  obtain ⟨⟨a, cap, rfl, hlen, hc1, hc2, _, hcells⟩, hin⟩ := rx
  have HROW := Lib.hid hrow; have HC := Lib.hid hcells; have HIN := Lib.hid hin; have HZ := Lib.hid (smallL_iff.1 hz); have HLEN := Lib.hid hlen
  clear hrow hcells hin hz hlen
  obtain ⟨wt, hwt⟩ : ∃ f : Nat → Nat, f = fun m => weightL (cs.take m) := ⟨_, rfl⟩
  have HWT := Lib.hid hwt; clear hwt
  by_cases h0 : left - n < 0
  · go_enter Tryz.func75, Tryz.ntmps75
    go_wp2
    go_ret
    exact ⟨-1, rfl, by omega, by omega, Grw.refl _⟩
  · go_enter Tryz.func75, Tryz.ntmps75
    go_wp2
    go_loopw [1, 5] (fun q i wr => ∃ (j : Nat) (r : Int), j ≤ n ∧ i = .int .i64 j ∧ q = .int .i64 r ∧ 0 ≤ r ∧ r + n + (wt (j * 4) : Nat) = left ∧ Grw w wr)
      (fun _ i _ => n - (intOf i).toNat)
    case atStart => exact ⟨0, left - n, Nat.zero_le _, rfl, rfl, by omega, by rw [HWT.out]; (simp [weightL]; try omega), Grw.refl _⟩
    case round =>
      obtain ⟨j, r, hj, rfl, rfl, hr0, hr1, hs⟩ := hrel
      have HS := Lib.hid hs; have HR1 := Lib.hid hr1
      have hr2 : r ≤ 1099511627776 := by omega
      clear hs hr1
      by_cases hlt : (j : Int) < (n : Int)
      · rcases HC.out with hz0 | ⟨g, off, rfl, hg, hcells⟩
        · omega
        · have HCL := Lib.hid hcells; clear hcells
          obtain ⟨a0, a1, a2, a3, f0, f1, f2, f3, s3⟩ := HROW.out j (by omega)
          have c0 : wr.cell? ⟨g, off + j * 4, none⟩ = some (.string a0) := by rw [HS.out.below.cell (show g < _ by omega)]; exact HCL.out (j * 4) _ (by rw [List.getElem?_map, f0]; rfl)
          have z0 : a0.size ≤ 9223372036854775807 := by have := HZ.out _ (List.mem_of_getElem? f0); rw [Rw.Small] at this; exact this
          have hw0 : weightL (cs.take (j * 4 + 1)) = weightL (cs.take (j * 4)) + _ := weightL_more f0; rw [Rw.weight] at hw0; simp only [weightV] at hw0
          have c1 : wr.cell? ⟨g, off + j * 4 + 1, none⟩ = some (.string a1) := by rw [HS.out.below.cell (show g < _ by omega)]; rw [Nat.add_assoc]; exact HCL.out (j * 4 + 1) _ (by rw [List.getElem?_map, f1]; rfl)
          have z1 : a1.size ≤ 9223372036854775807 := by have := HZ.out _ (List.mem_of_getElem? f1); rw [Rw.Small] at this; exact this
          have hw1 : weightL (cs.take (j * 4 + 2)) = weightL (cs.take (j * 4 + 1)) + _ := weightL_more f1; rw [Rw.weight] at hw1; simp only [weightV] at hw1
          have c2 : wr.cell? ⟨g, off + j * 4 + 2, none⟩ = some (.int .i64 a2) := by rw [HS.out.below.cell (show g < _ by omega)]; rw [Nat.add_assoc]; exact HCL.out (j * 4 + 2) _ (by rw [List.getElem?_map, f2]; rfl)
          have hw2 : weightL (cs.take (j * 4 + 3)) = weightL (cs.take (j * 4 + 2)) + _ := weightL_more f2; rw [Rw.weight] at hw2; simp only [weightV] at hw2
          have c3 : wr.cell? ⟨g, off + j * 4 + 3, none⟩ = some (a3.cell) := by rw [HS.out.below.cell (show g < _ by omega)]; rw [Nat.add_assoc]; exact HCL.out (j * 4 + 3) _ (by rw [List.getElem?_map, f3]; rfl)
          have z3 := HZ.out _ (List.mem_of_getElem? f3)
          have hw3 : weightL (cs.take (j * 4 + 4)) = weightL (cs.take (j * 4 + 3)) + _ := weightL_more f3
          have HW := Lib.hid (show wt ((j + 1) * 4) = wt (j * 4) + (a0.size + a1.size + a3.weight) by rw [HWT.out, Nat.add_mul, Nat.one_mul]; show weightL (cs.take (j * 4 + 4)) = weightL (cs.take (j * 4)) + _; omega)
          clear hw0 hw1 hw2 hw3
          go_wp2_with fail
          refine (sz_Node a0 a1 a2 a3 r (by omega) hr2 _ z0 z1 s3 (HS.out.rd (readRL_iff.1 HIN.out _ (List.mem_of_getElem? f3))) z3).mono ?_
          rintro e w2 ⟨r2, rfl, hr3, hr4, hg2⟩
          have HG2 := Lib.hid (HS.out.trans hg2); clear hg2
          by_cases hneg : r2 < 0
          · go_wp2_with fail
            go_ret
            exact ⟨-1, rfl, by omega, by omega, HG2.out⟩
          · have hr5 := hr4 (by omega)
            clear hr4
            have HR5 := Lib.hid hr5; clear hr5
            go_wp2_with fail
            go_roundw
            case rel => exact ⟨j + 1, r2, by omega, by go_num, rfl, by omega, by rw [HW.out]; have := HR5.out; have := HR1.out; omega, HG2.out⟩
            case measure => simp [intOf]; omega
      · have hjn : j = n := by omega
        subst hjn
        have HF := Lib.hid (show wt (j * 4) = weightL cs by rw [HWT.out]; show weightL (cs.take (j * 4)) = _; rw [List.take_of_length_le (by have := HLEN.out; omega)])
        go_wp2_with fail
        go_ret
        exact ⟨r, rfl, by omega, fun _ => by have := HF.out; have := HR1.out; omega, HS.out⟩

theorem info_NodeS : (Tryz.prog.info? 117).map (fun i => (i.zero, i.size, i.bytes)) = some (some (.agg #[.string ⟨#[]⟩, .string ⟨#[]⟩, .int .i64 0, .slice none 0 0]), 4, 64) := by kernel_rfl
set_option maxRecDepth 100000 in
set_option maxHeartbeats 4000000 in
theorem to_NodeS (x : Rw) (hx : IsNodeS x) (w : World) (rx : x.ReadR w.heap.size w) (hl : x.weight ≤ 4398046511104) :
    Calls Tryz.prog 78 #[x.cell] w fun e w' => ∃ y : Rw, e = .returned y.cell ∧ IsNodeS y ∧ y.data = x.data ∧ y.blocks.Nodup ∧ y.OwnR w.heap.size w'.heap.size w' ∧ Below w.heap.size w w' := by
  obtain ⟨i0, hi0, hz0, hz1, hz2⟩ := info_parts info_NodeS
  obtain ⟨v, n, e0, cs, rfl, hrow⟩ := hx
  rw [Rw.ReadR] at rx; rw [Rw.weight] at hl; rw [Rw.cell_sl, Rw.data]
  obtain ⟨⟨a, cap, rfl, hlen, hc1, hc2, _, hcells⟩, hin⟩ := rx
  have hnl : n ≤ 4398046511104 := by omega
  have HWL := Lib.hid (show weightL cs ≤ 4398046511104 by omega)
  have HROW := Lib.hid hrow; have HC := Lib.hid hcells; have HLEN := Lib.hid hlen; have HI := Lib.hid hz2; have HIN := Lib.hid (readRL_iff.1 hin)
  clear hrow hcells hin hlen hz2 hl
  go_enter Tryz.func78, Tryz.ntmps78
  go_wp2_with (at_make; refine wpList_make_full _ rfl _ _ 38 rfl w.heap.size 117 i0 (.agg #[.string ⟨#[]⟩, .string ⟨#[]⟩, .int .i64 0, .slice none 0 0]) 4 Tryz.underlying38 hi0 hz0 hz1 .i64 .i64 _ _ n rfl rfl rfl rfl ?c1 ?c2 (Nat.le_refl _) ?_)
  case c1 => rw [HI.out]; omega
  case c2 => unfold maxLen; omega
  intro w1 hown1 hgr1
  have hb1 : Below w.heap.size w w1 := (Below.refl _ _).grown hgr1 (Nat.le_refl _) (fun k h => by cases h)
  have hml : (madeCells #[.string ⟨#[]⟩, .string ⟨#[]⟩, .int .i64 0, .slice none 0 0] (n * 4)).toList.length = n * 4 := by rw [Array.length_toList, size_madeCells]
  have ho1 := leaves_own hown1 (made_one (by intro u hu; have hm : u ∈ [.string ⟨#[]⟩, .string ⟨#[]⟩, .int .i64 0, .slice none 0 0] := Array.mem_toList_iff.2 hu; simp only [List.mem_cons, List.mem_nil_iff, or_false] at hm; rcases hm with rfl | rfl | rfl | rfl <;> rfl) (by decide) _)
  have hb0 := leaves_blocks (madeCells #[.string ⟨#[]⟩, .string ⟨#[]⟩, .int .i64 0, .slice none 0 0] (n * 4)).toList
  have hlf : ∀ m, m < n * 4 → ∃ u, ((madeCells #[.string ⟨#[]⟩, .string ⟨#[]⟩, .int .i64 0, .slice none 0 0] (n * 4)).toList.map Rw.leaf)[m]? = some (.leaf u) := fun m hm => ⟨_, by rw [List.getElem?_map, List.getElem?_eq_getElem (by omega)]; rfl⟩
  obtain ⟨ds0, hds0⟩ : ∃ d, (madeCells #[.string ⟨#[]⟩, .string ⟨#[]⟩, .int .i64 0, .slice none 0 0] (n * 4)).toList.map Rw.leaf = d := ⟨_, rfl⟩
  rw [hds0] at ho1 hb0 hlf; clear hds0 hml hown1 hgr1
  have HO1 := Lib.hid ho1; have HB1 := Lib.hid hb1; have HBL := Lib.hid hb0; have HLF := Lib.hid hlf; clear ho1 hb1 hb0 hlf
  go_wp2
  go_loopw [4] (fun i wr => ∃ (j : Nat) (ds : List Rw), j ≤ n ∧ i = .int .i64 j ∧ (Rw.sl (.slice (some ⟨w.heap.size, 0, none⟩) n n) n 4 117 ds).OwnR w.heap.size wr.heap.size wr ∧ (w.heap.size ∉ blocksL ds ∧ (blocksL ds).Nodup) ∧ (∀ p, p < j → ∃ (a0 : ByteArray) (a1 : ByteArray) (a2 : Int) (a3 : Rw), ds[p * 4]? = some (.leaf (.string a0)) ∧ ds[p * 4 + 1]? = some (.leaf (.string a1)) ∧ ds[p * 4 + 2]? = some (.leaf (.int .i64 a2)) ∧ ds[p * 4 + 3]? = some a3 ∧ IsAttrS a3) ∧ (∀ m, m < j * 4 → ∀ c d, ds[m]? = some c → cs[m]? = some d → c.data = d.data) ∧ (∀ m, j * 4 ≤ m → m < n * 4 → ∃ u, ds[m]? = some (.leaf u)) ∧ Below w.heap.size w wr)
    (fun i _ => n - (intOf i).toNat)
  case atStart => exact ⟨0, ds0, Nat.zero_le _, rfl, HO1.out, ⟨by rw [HBL.out]; simp, by rw [HBL.out]; simp⟩, fun p hp => by omega, fun m hm => by omega, fun m _ hm => HLF.out m hm, HB1.out⟩
  case round =>
    obtain ⟨j, ds, hj, rfl, hown, hnd, hrows, hdat, hzero, hbw⟩ := hrel
    have HO := Lib.hid hown; have HND := Lib.hid hnd; have HRS := Lib.hid hrows; have HDT := Lib.hid hdat; have HZR := Lib.hid hzero; have HB := Lib.hid hbw
    clear hown hnd hrows hdat hzero hbw HO1 HB1 HBL HLF
    have HDL := Lib.hid (show ds.length = n * 4 by have h := HO.out; rw [Rw.OwnR] at h; have := h.1.1.1; rwa [List.length_map] at this)
    by_cases hlt : (j : Int) < (n : Int)
    · rcases HC.out with h0 | ⟨g, off, rfl, hg, hcells⟩
      · omega
      · have HCL := Lib.hid hcells; clear hcells
        obtain ⟨a0, a1, a2, a3, f0, f1, f2, f3, s3⟩ := HROW.out j (by omega)
        have c0 : wr.cell? ⟨g, off + j * 4, none⟩ = some (.string a0) := by rw [HB.out.cell (show g < _ by omega)]; exact HCL.out (j * 4) _ (by rw [List.getElem?_map, f0]; rfl)
        have HM0 := Lib.hid f0; clear f0
        have c1 : wr.cell? ⟨g, off + j * 4 + 1, none⟩ = some (.string a1) := by rw [HB.out.cell (show g < _ by omega)]; rw [Nat.add_assoc]; exact HCL.out (j * 4 + 1) _ (by rw [List.getElem?_map, f1]; rfl)
        have HM1 := Lib.hid f1; clear f1
        have c2 : wr.cell? ⟨g, off + j * 4 + 2, none⟩ = some (.int .i64 a2) := by rw [HB.out.cell (show g < _ by omega)]; rw [Nat.add_assoc]; exact HCL.out (j * 4 + 2) _ (by rw [List.getElem?_map, f2]; rfl)
        have HM2 := Lib.hid f2; clear f2
        have c3 : wr.cell? ⟨g, off + j * 4 + 3, none⟩ = some (a3.cell) := by rw [HB.out.cell (show g < _ by omega)]; rw [Nat.add_assoc]; exact HCL.out (j * 4 + 3) _ (by rw [List.getElem?_map, f3]; rfl)
        have HM3 := Lib.hid f3; clear f3
        have hto := toL_Node a0 a1 a2 a3 wr s3 (Rw.ReadR.mono HB.out.size _ (Rw.ReadR.below HB.out (Nat.le_refl _) _ (HIN.out _ (List.mem_of_getElem? HM3.out)))) (Nat.le_trans (weightL_mem (List.mem_of_getElem? HM3.out)) HWL.out)
        obtain ⟨xa3, xn3, xc3, hxc3⟩ := sl_form (is_sl_AttrS s3) (HIN.out _ (List.mem_of_getElem? HM3.out))
        rw [hxc3] at hto c3
        have HTO := Lib.hid hto; clear hto
        go_wp2_with fail
        refine HTO.out.mono ?_
        rintro e w2 ⟨y3, rfl, hy3, hd3, hoy, hny, hb2⟩
        obtain ⟨ya3, yn3, yc3, hyc3⟩ := sl_form (is_sl_AttrS hy3) (Rw.OwnR.reads _ (ownRL_iff.1 hoy y3 (by simp)))
        rw [hyc3]
        have HY3 := Lib.hid hy3; have HDY3 := Lib.hid hd3; have HYC3 := Lib.hid hyc3; clear hy3 hd3 hyc3
        have HX := Lib.hid (show ∀ b ∈ blocksL [y3], b ∉ blocksL ds ∧ b ≠ w.heap.size from fun b hb => by have h1 := (ownL_lt hoy b hb).1; refine ⟨fun hm => ?_, ?_⟩; · { have h := HO.out; rw [Rw.OwnR] at h; have h2 := ownL_lt h.2 b hm; omega }; · { have h := HO.out; rw [Rw.OwnR] at h; have h2 := h.1.1.lt w.heap.size rfl; omega })
        have HO2 := Lib.hid (Rw.OwnR.top (HO.out.later hb2)); have HB2 := Lib.hid (HB.out.trans (hb2.mono HB.out.size)); have HOY := Lib.hid (own_mono_L hoy HB.out.size); have HNY := Lib.hid hny
        clear hoy hny hb2
        obtain ⟨u0, hu0⟩ := HZR.out (j * 4) (by omega) (by omega)
        have d0 : w2.cell? ⟨w.heap.size, j * 4, none⟩ = some u0 := by have h := HO2.out; rw [Rw.OwnR] at h; rw [h.1.1.cellAt (j * 4) (by omega), List.getElem?_map, hu0]; rfl
        have z0 : w2.frozen? ⟨w.heap.size, j * 4, none⟩ = false := by have h := HO2.out; rw [Rw.OwnR] at h; exact h.1.1.frozenAt _
        have HU0 := Lib.hid hu0; clear hu0
        obtain ⟨u1, hu1⟩ := HZR.out (j * 4 + 1) (by omega) (by omega)
        have d1 : w2.cell? ⟨w.heap.size, j * 4 + 1, none⟩ = some u1 := by have h := HO2.out; rw [Rw.OwnR] at h; rw [h.1.1.cellAt (j * 4 + 1) (by omega), List.getElem?_map, hu1]; rfl
        have z1 : w2.frozen? ⟨w.heap.size, j * 4 + 1, none⟩ = false := by have h := HO2.out; rw [Rw.OwnR] at h; exact h.1.1.frozenAt _
        have HU1 := Lib.hid hu1; clear hu1
        obtain ⟨u2, hu2⟩ := HZR.out (j * 4 + 2) (by omega) (by omega)
        have d2 : w2.cell? ⟨w.heap.size, j * 4 + 2, none⟩ = some u2 := by have h := HO2.out; rw [Rw.OwnR] at h; rw [h.1.1.cellAt (j * 4 + 2) (by omega), List.getElem?_map, hu2]; rfl
        have z2 : w2.frozen? ⟨w.heap.size, j * 4 + 2, none⟩ = false := by have h := HO2.out; rw [Rw.OwnR] at h; exact h.1.1.frozenAt _
        have HU2 := Lib.hid hu2; clear hu2
        obtain ⟨u3, hu3⟩ := HZR.out (j * 4 + 3) (by omega) (by omega)
        have d3 : w2.cell? ⟨w.heap.size, j * 4 + 3, none⟩ = some u3 := by have h := HO2.out; rw [Rw.OwnR] at h; rw [h.1.1.cellAt (j * 4 + 3) (by omega), List.getElem?_map, hu3]; rfl
        have z3 : w2.frozen? ⟨w.heap.size, j * 4 + 3, none⟩ = false := by have h := HO2.out; rw [Rw.OwnR] at h; exact h.1.1.frozenAt _
        have HU3 := Lib.hid hu3; clear hu3
        go_wp2
        go_roundw
        case rel =>
          have P0 := HO2.out
          have N0 := HND.out
          have D0 := HOY.out
          have Q0 := P0.put (y := .leaf (.string a0)) N0.1 (show (ds)[j * 4]? = some (.leaf u0) by exact HU0.out) (by rw [Rw.OwnR]; rfl) (by rw [Rw.blocks]; simp)
          have P1 := Rw.OwnR.top Q0.1
          have N1 : w.heap.size ∉ blocksL ((ds).set (j * 4) (.leaf (.string a0))) ∧ (blocksL ((ds).set (j * 4) (.leaf (.string a0)))).Nodup := ⟨fun h => by rcases (Q0.2.2.1 _).1 h with h | h; · { rw [Rw.blocks] at h; cases h }; · { exact N0.1 h }, Q0.2.2.2 N0.2 (by rw [Rw.blocks]; simp) (by rw [Rw.blocks]; intro b hb; cases hb)⟩
          have D1 := ownL_only (L := [y3]) D0 Q0.2.1 (fun b hb hm => by rw [List.mem_singleton] at hm; exact (HX.out b hb).2 hm)
          have Q1 := P1.put (y := .leaf (.string a1)) N1.1 (show (((ds).set (j * 4) (.leaf (.string a0))))[j * 4 + 1]? = some (.leaf u1) by rw [List.getElem?_set_ne (by omega)]; exact HU1.out) (by rw [Rw.OwnR]; rfl) (by rw [Rw.blocks]; simp)
          have P2 := Rw.OwnR.top Q1.1
          have N2 : w.heap.size ∉ blocksL ((((ds).set (j * 4) (.leaf (.string a0)))).set (j * 4 + 1) (.leaf (.string a1))) ∧ (blocksL ((((ds).set (j * 4) (.leaf (.string a0)))).set (j * 4 + 1) (.leaf (.string a1)))).Nodup := ⟨fun h => by rcases (Q1.2.2.1 _).1 h with h | h; · { rw [Rw.blocks] at h; cases h }; · { exact N1.1 h }, Q1.2.2.2 N1.2 (by rw [Rw.blocks]; simp) (by rw [Rw.blocks]; intro b hb; cases hb)⟩
          have D2 := ownL_only (L := [y3]) D1 Q1.2.1 (fun b hb hm => by rw [List.mem_singleton] at hm; exact (HX.out b hb).2 hm)
          have Q2 := P2.put (y := .leaf (.int .i64 a2)) N2.1 (show (((((ds).set (j * 4) (.leaf (.string a0)))).set (j * 4 + 1) (.leaf (.string a1))))[j * 4 + 2]? = some (.leaf u2) by rw [List.getElem?_set_ne (by omega), List.getElem?_set_ne (by omega)]; exact HU2.out) (by rw [Rw.OwnR]; rfl) (by rw [Rw.blocks]; simp)
          have P3 := Rw.OwnR.top Q2.1
          have N3 : w.heap.size ∉ blocksL ((((((ds).set (j * 4) (.leaf (.string a0)))).set (j * 4 + 1) (.leaf (.string a1)))).set (j * 4 + 2) (.leaf (.int .i64 a2))) ∧ (blocksL ((((((ds).set (j * 4) (.leaf (.string a0)))).set (j * 4 + 1) (.leaf (.string a1)))).set (j * 4 + 2) (.leaf (.int .i64 a2)))).Nodup := ⟨fun h => by rcases (Q2.2.2.1 _).1 h with h | h; · { rw [Rw.blocks] at h; cases h }; · { exact N2.1 h }, Q2.2.2.2 N2.2 (by rw [Rw.blocks]; simp) (by rw [Rw.blocks]; intro b hb; cases hb)⟩
          have D3 := ownL_only (L := [y3]) D2 Q2.2.1 (fun b hb hm => by rw [List.mem_singleton] at hm; exact (HX.out b hb).2 hm)
          have Q3 := P3.put (y := y3) N3.1 (show (((((((ds).set (j * 4) (.leaf (.string a0)))).set (j * 4 + 1) (.leaf (.string a1)))).set (j * 4 + 2) (.leaf (.int .i64 a2))))[j * 4 + 3]? = some (.leaf u3) by rw [List.getElem?_set_ne (by omega), List.getElem?_set_ne (by omega), List.getElem?_set_ne (by omega)]; exact HU3.out) (Rw.OwnR.top (ownRL_iff.1 D3 y3 (by simp))) (fun hm => (HX.out _ (blocksL_mem.2 ⟨y3, by simp, hm⟩)).2 rfl)
          rw [HYC3.out] at Q3
          have P4 := Rw.OwnR.top Q3.1
          have N4 : w.heap.size ∉ blocksL ((((((((ds).set (j * 4) (.leaf (.string a0)))).set (j * 4 + 1) (.leaf (.string a1)))).set (j * 4 + 2) (.leaf (.int .i64 a2)))).set (j * 4 + 3) (y3)) ∧ (blocksL ((((((((ds).set (j * 4) (.leaf (.string a0)))).set (j * 4 + 1) (.leaf (.string a1)))).set (j * 4 + 2) (.leaf (.int .i64 a2)))).set (j * 4 + 3) (y3))).Nodup := ⟨fun h => by rcases (Q3.2.2.1 _).1 h with h | h; · { exact (HX.out _ (blocksL_mem.2 ⟨y3, by simp, h⟩)).2 rfl }; · { exact N3.1 h }, Q3.2.2.2 N3.2 (nodup_in HNY.out (by simp)) (fun b hb hm => by rcases (Q2.2.2.1 _).1 hm with hm | hm; · { rw [Rw.blocks] at hm; cases hm }; rcases (Q1.2.2.1 _).1 hm with hm | hm; · { rw [Rw.blocks] at hm; cases hm }; rcases (Q0.2.2.1 _).1 hm with hm | hm; · { rw [Rw.blocks] at hm; cases hm }; exact (HX.out b (blocksL_mem.2 ⟨y3, by simp, hb⟩)).1 hm)⟩
          have D4 := ownL_only (L := [y3]) D3 Q3.2.1 (fun b hb hm => by rw [List.mem_singleton] at hm; exact (HX.out b hb).2 hm)
          refine ⟨j + 1, ((((((((ds).set (j * 4) (.leaf (.string a0)))).set (j * 4 + 1) (.leaf (.string a1)))).set (j * 4 + 2) (.leaf (.int .i64 a2)))).set (j * 4 + 3) (y3)), by omega, by go_num, P4, N4, fun p hp => ?_, fun m hm c d hc hd => ?_, fun m hm1 hm2 => ?_, ((((HB2.out.setCell (Nat.le_refl _) _).setCell (Nat.le_refl _) _).setCell (Nat.le_refl _) _).setCell (Nat.le_refl _) _)⟩
          · by_cases e : p = j
            · subst e
              exact ⟨a0, a1, a2, y3, by rw [List.getElem?_set_ne (by omega), List.getElem?_set_ne (by omega), List.getElem?_set_ne (by omega), List.getElem?_set_self (by have := HDL.out; first | omega | (simp only [List.length_set]; omega))], by rw [List.getElem?_set_ne (by omega), List.getElem?_set_ne (by omega), List.getElem?_set_self (by have := HDL.out; first | omega | (simp only [List.length_set]; omega))], by rw [List.getElem?_set_ne (by omega), List.getElem?_set_self (by have := HDL.out; first | omega | (simp only [List.length_set]; omega))], by rw [List.getElem?_set_self (by have := HDL.out; first | omega | (simp only [List.length_set]; omega))], HY3.out⟩
            · obtain ⟨o0, o1, o2, o3, f0, f1, f2, f3, s3⟩ := HRS.out p (by omega)
              exact ⟨o0, o1, o2, o3, by rw [List.getElem?_set_ne (by omega), List.getElem?_set_ne (by omega), List.getElem?_set_ne (by omega), List.getElem?_set_ne (by omega)]; exact f0, by rw [List.getElem?_set_ne (by omega), List.getElem?_set_ne (by omega), List.getElem?_set_ne (by omega), List.getElem?_set_ne (by omega)]; exact f1, by rw [List.getElem?_set_ne (by omega), List.getElem?_set_ne (by omega), List.getElem?_set_ne (by omega), List.getElem?_set_ne (by omega)]; exact f2, by rw [List.getElem?_set_ne (by omega), List.getElem?_set_ne (by omega), List.getElem?_set_ne (by omega), List.getElem?_set_ne (by omega)]; exact f3, s3⟩
          · have hmm : m < j * 4 ∨ m = j * 4 ∨ m = j * 4 + 1 ∨ m = j * 4 + 2 ∨ m = j * 4 + 3 := by omega
            rcases hmm with h | rfl | rfl | rfl | rfl
            · rw [List.getElem?_set_ne (by omega), List.getElem?_set_ne (by omega), List.getElem?_set_ne (by omega), List.getElem?_set_ne (by omega)] at hc; exact HDT.out m h c d hc hd
            · rw [List.getElem?_set_ne (by omega), List.getElem?_set_ne (by omega), List.getElem?_set_ne (by omega), List.getElem?_set_self (by have := HDL.out; first | omega | (simp only [List.length_set]; omega))] at hc; cases hc; rw [HM0.out] at hd; cases hd; rfl
            · rw [List.getElem?_set_ne (by omega), List.getElem?_set_ne (by omega), List.getElem?_set_self (by have := HDL.out; first | omega | (simp only [List.length_set]; omega))] at hc; cases hc; rw [HM1.out] at hd; cases hd; rfl
            · rw [List.getElem?_set_ne (by omega), List.getElem?_set_self (by have := HDL.out; first | omega | (simp only [List.length_set]; omega))] at hc; cases hc; rw [HM2.out] at hd; cases hd; rfl
            · rw [List.getElem?_set_self (by have := HDL.out; first | omega | (simp only [List.length_set]; omega))] at hc; cases hc; rw [HM3.out] at hd; cases hd; exact HDY3.out
          · obtain ⟨u, hu⟩ := HZR.out m (by omega) hm2; exact ⟨u, by rw [List.getElem?_set_ne (by omega), List.getElem?_set_ne (by omega), List.getElem?_set_ne (by omega), List.getElem?_set_ne (by omega)]; exact hu⟩
        case measure => simp [intOf]; omega
    · have hjn : j = n := by omega
      subst hjn
      go_wp2
      go_ret
      refine ⟨.sl (.slice (some ⟨w.heap.size, 0, none⟩) j j) j 4 117 ds, rfl, ⟨_, _, _, _, rfl, HRS.out⟩, ?_, ?_, HO.out, HB.out⟩
      · rw [Rw.data, dataL_ext (by rw [HDL.out, HLEN.out]) fun m c d hc hd => HDT.out m (by have := (List.getElem?_eq_some_iff.1 hc).1; have := HDL.out; omega) c d hc hd]
      · rw [Rw.blocks]; exact List.nodup_cons.2 HND.out

end Go.Proofs.YtpkicliimhflgaaGreatDoor
namespace Go.Proofs.YtpkicliimhflgaaGreatDoor
open Go.ChangeShapes Go.WideShapes Go.ChangeAt Go.RowKit

set_option maxHeartbeats 2000000 in
theorem eq_Builder (a0 b0 : Rw) (a1 b1 : Rw) (w : World) (hx0 : IsNodeS a0) (hy0 : IsNodeS b0) (hd0 : a0.data = b0.data) (rx0 : a0.ReadR w.heap.size w) (ry0 : b0.ReadR w.heap.size w) (hx1 : IsIntS a1) (hy1 : IsIntS b1) (hd1 : a1.data = b1.data) (rx1 : a1.ReadR w.heap.size w) (ry1 : b1.ReadR w.heap.size w) :
    Calls Tryz.prog 30 #[.agg #[a0.cell, a1.cell], .agg #[b0.cell, b1.cell]] w fun e w' => e = .returned (.bool true) ∧ Grw w w' := by
  go_enter Tryz.func30, Tryz.ntmps30
  go_wp2_with fail
  obtain ⟨w0, hw0⟩ : ∃ x, ((w.alloc (.cells #[a0.cell, a1.cell] 41)).alloc (.cells #[b0.cell, b1.cell] 41)) = x := ⟨_, rfl⟩
  rw [hw0]
  have HG0 := Lib.hid (show Grw w w0 by rw [← hw0]; exact ((Grw.refl w).alloc _).alloc _)
  have qa1 : w0.cell? ⟨w.heap.size, 1, none⟩ = some (a1.cell) := by rw [← hw0]; simp
  have qb1 : w0.cell? ⟨w.heap.size + 1, 1, none⟩ = some (b1.cell) := by rw [← hw0]; simp
  clear hw0
  refine (eq_NodeS a0 b0 hx0 hy0 hd0 _ (rx0.up HG0.out) (ry0.up HG0.out)).mono ?_
  rintro e w1 ⟨rfl, hg1⟩
  replace qa1 := (hg1.below.cell (show (⟨w.heap.size, 1, none⟩ : Addr).block < _ from World.block_lt_of_cell? _ _ qa1)).trans qa1
  replace qb1 := (hg1.below.cell (show (⟨w.heap.size + 1, 1, none⟩ : Addr).block < _ from World.block_lt_of_cell? _ _ qb1)).trans qb1
  have HG1 := Lib.hid (HG0.out.trans hg1); clear hg1
  go_wp2_with fail
  refine (eq_IntS a1 b1 hx1 hy1 hd1 _ (rx1.up HG1.out) (ry1.up HG1.out)).mono ?_
  rintro e w2 ⟨rfl, hg2⟩
  have HG2 := Lib.hid (HG1.out.trans hg2); clear hg2
  go_wp2_with fail
  go_ret
  exact ⟨rfl, HG2.out⟩

def SzBuilder (a0 : Rw) (a1 : Rw) (left : Int) (w : World) (e : Ending) (w' : World) : Prop :=
  ∃ r : Int, e = .returned (.int .i64 r) ∧ -1 ≤ r ∧ (0 ≤ r → r + (a0.weight : Nat) + (a1.weight : Nat) = left) ∧ Grw w w'
set_option maxRecDepth 100000 in
set_option maxHeartbeats 4000000 in
theorem sz_Builder (a0 : Rw) (a1 : Rw) (left : Int) (l1 : 0 ≤ left) (l2 : left ≤ 1099511627776) (w : World) (hx0 : IsNodeS a0) (rx0 : a0.ReadR w.heap.size w) (z0 : a0.Small) (hx1 : IsIntS a1) (rx1 : a1.ReadR w.heap.size w) (z1 : a1.Small) :
    Calls Tryz.prog 24 #[.agg #[a0.cell, a1.cell], .int .i64 left] w (SzBuilder a0 a1 left w) := by
  have HB := Lib.hid ((Grw.refl w).alloc (.cells #[a0.cell, a1.cell] 59))
  have HR0 := Lib.hid (rx0.up HB.out)
  obtain ⟨xa0, xn0, xc0, hxc0⟩ := sl_form (is_sl_NodeS hx0) rx0
  have HR1 := Lib.hid (rx1.up HB.out)
  obtain ⟨xa1, xn1, xc1, hxc1⟩ := sl_form (is_sl_IntS hx1) rx1
  rw [hxc0, hxc1] at HB ⊢
  have hsz0 := sz_NodeS a0 hx0 (left) (by omega) (by omega) _ HR0.out z0
  simp only [hxc0, hxc1] at hsz0
  have HSZ0 := Lib.hid hsz0; clear hsz0
  go_enter Tryz.func24, Tryz.ntmps24
  go_wp2_with fail
  refine HSZ0.out.mono ?_
  rintro e w0 ⟨r0, rfl, lo0, hr0, hg0⟩
  have q1 : w0.cell? ⟨w.heap.size, 1, none⟩ = some (.slice xa1 xn1 xc1) := by rw [hg0.below.cell (by rw [size_alloc]; show w.heap.size < _; omega)]; simp
  have HG0 := Lib.hid (HB.out.trans hg0); clear hg0
  by_cases d0 : r0 < 0
  · go_wp2_with fail
    go_ret
    exact ⟨-1, rfl, by omega, by omega, HG0.out⟩
  replace hr0 := hr0 (by omega)
  have hsz1 := sz_IntS a1 hx1 (r0) (by omega) (by omega) _ (rx1.up HG0.out) z1
  rw [hxc1] at hsz1
  have HSZ1 := Lib.hid hsz1; clear hsz1
  go_wp2_with fail
  refine HSZ1.out.mono ?_
  rintro e w1 ⟨r1, rfl, lo1, hr1, hg1⟩
  have HG1 := Lib.hid (HG0.out.trans hg1); clear hg1
  by_cases d1 : r1 < 0
  · go_wp2_with fail
    go_ret
    exact ⟨-1, rfl, by omega, by omega, HG1.out⟩
  replace hr1 := hr1 (by omega)
  go_wp2_with fail
  go_ret
  exact ⟨r1, rfl, by omega, by omega, HG1.out⟩

set_option maxRecDepth 100000 in
set_option maxHeartbeats 4000000 in
theorem toL_Builder (a0 : Rw) (a1 : Rw) (w : World) (hx0 : IsNodeS a0) (rx0 : a0.ReadR w.heap.size w) (hl0 : a0.weight ≤ 4398046511104) (hx1 : IsIntS a1) (rx1 : a1.ReadR w.heap.size w) (hl1 : a1.weight ≤ 4398046511104) :
    Calls Tryz.prog 27 #[.agg #[a0.cell, a1.cell]] w fun e w' => ∃ b0 b1 : Rw, e = .returned (.agg #[b0.cell, b1.cell]) ∧ IsNodeS b0 ∧ b0.data = a0.data ∧ IsIntS b1 ∧ b1.data = a1.data ∧ OwnRL w.heap.size w'.heap.size w' [b0, b1] ∧ (blocksL [b0, b1]).Nodup ∧ Below w.heap.size w w' := by
  obtain ⟨xa0, xn0, xc0, hxc0⟩ := sl_form (is_sl_NodeS hx0) rx0
  obtain ⟨xa1, xn1, xc1, hxc1⟩ := sl_form (is_sl_IntS hx1) rx1
  obtain ⟨W, hW⟩ : ∃ W, ((w.alloc (.cells #[.slice xa0 xn0 xc0, .slice xa1 xn1 xc1] 59)).alloc (.cells #[.slice none 0 0, .slice none 0 0] 41)).alloc (.cells #[.slice none 0 0, .slice none 0 0] 41) = W := ⟨_, rfl⟩
  have hg0 : Grw w W := by rw [← hW]; exact (((Grw.refl w).alloc _).alloc _).alloc _
  have ho : W.heap[w.heap.size + 2]? = some (.cells #[.slice none 0 0, .slice none 0 0] 41 (0, 0)) := by rw [← hW]; exact three_new2 w _ _ _
  have hz : W.heap[w.heap.size + 1]? = some (.cells #[.slice none 0 0, .slice none 0 0] 41 (0, 0)) := by rw [← hW]; exact three_new1 w _ _ _
  have ha : W.heap[w.heap.size]? = some (.cells #[.slice xa0 xn0 xc0, .slice xa1 xn1 xc1] 59 (0, 0)) := by rw [← hW]; exact three_new0 w _ _ _
  have HSZ := Lib.hid (show w.heap.size + 3 ≤ W.heap.size by rw [← hW, size_alloc, size_alloc, size_alloc]; exact Nat.le_refl _)
  have HTO0 := Lib.hid (fun (V : World) (hv : Below w.heap.size w V) => by have hr := to_NodeS a0 hx0 V (Rw.ReadR.mono hv.size _ (Rw.ReadR.below hv (Nat.le_refl _) _ rx0)) hl0; rw [hxc0] at hr; exact hr)
  have HTO1 := Lib.hid (fun (V : World) (hv : Below w.heap.size w V) => by have hr := to_IntS a1 hx1 V (Rw.ReadR.mono hv.size _ (Rw.ReadR.below hv (Nat.le_refl _) _ rx1)) hl1; rw [hxc1] at hr; exact hr)
  rw [hxc0, hxc1]
  have HB := Lib.hid hg0.below; have HO := Lib.hid ho; have HZ := Lib.hid hz; have HA := Lib.hid ha; have HW := Lib.hid hW
  clear rx0 hxc0 rx1 hxc1 hg0 ho hz ha hW
  go_enter Tryz.func27, Tryz.ntmps27
  go_wp2_with fail
  rw [HW.out]
  refine (HTO0.out _ HB.out).mono ?_
  rintro e w0 ⟨y0, rfl, hy0, hd0, hn0, ho0, hb⟩
  obtain ⟨ya0, yn0, yc0, hyc0⟩ := sl_form (is_sl_NodeS hy0) (Rw.OwnR.reads _ ho0)
  rw [hyc0]
  have HY0 := Lib.hid hy0; have HD0 := Lib.hid hd0; have HN0 := Lib.hid hn0; have HYC0 := Lib.hid hyc0; clear hy0 hd0 hn0 hyc0
  have HOW0 := Lib.hid (own_mono ho0 HSZ.out (Nat.le_refl _)); clear ho0
  have h1 := below_heap hb (heap_lt HO.out) HO.out; have h2 := below_heap hb (heap_lt HA.out) HA.out; have h3 := below_heap hb (heap_lt HZ.out) HZ.out
  replace HB := Lib.hid (HB.out.trans (hb.mono HB.out.size)); replace HSZ := Lib.hid (Nat.le_trans HSZ.out hb.size); clear hb
  have oq0 := box_cell h1 (j := 0) rfl; have oz0 := box_frz h1 0
  have oq1 := box_cell h1 (j := 1) rfl; have oz1 := box_frz h1 1
  have pq0 := box_cell h2 (j := 0) rfl
  have pq1 := box_cell h2 (j := 1) rfl
  have sq0 := box_cell h3 (j := 0) rfl; have sz0 := box_frz h3 0
  have sq1 := box_cell h3 (j := 1) rfl; have sz1 := box_frz h3 1
  replace HO := Lib.hid h1; replace HA := Lib.hid h2; replace HZ := Lib.hid h3; clear h1 h2 h3
  go_wp2_with fail
  clear oq0 oz0 pq0 sq0 sz0 oq1 oz1 pq1 sq1 sz1
  have h1 := HO.out; have h2 := HA.out; have h3 := HZ.out
  replace h1 := heap_one (o := 0) h1 (.slice ya0 yn0 yc0)
  replace h2 := box_far h2 (show w.heap.size ≠ w.heap.size + 2 by omega) 0 (.slice ya0 yn0 yc0)
  replace h3 := box_far h3 (show w.heap.size + 1 ≠ w.heap.size + 2 by omega) 0 (.slice ya0 yn0 yc0)
  replace h1 : (w0.setCell ⟨w.heap.size + 2, 0, none⟩ (.slice ya0 yn0 yc0)).heap[w.heap.size + 2]? = some (.cells #[.slice ya0 yn0 yc0, .slice none 0 0] 41 (0, 0)) := h1
  have HON := Lib.hid (show OnlyB [w.heap.size + 1, w.heap.size + 2] w0 (w0.setCell ⟨w.heap.size + 2, 0, none⟩ (.slice ya0 yn0 yc0)) from (OnlyB.refl _ w0).set (by simp))
  replace HOW0 := Lib.hid (Rw.OwnR.top (Rw.OwnR.only HON.out y0 HOW0.out fun b hb hm => by have h := (Rw.OwnR.lt y0 HOW0.out b hb).1; simp only [List.mem_cons, List.mem_nil_iff, or_false] at hm; omega))
  replace HB := Lib.hid (HB.out.trans (HON.out.below (fun b hb => by simp only [List.mem_cons, List.mem_nil_iff, or_false] at hb; omega) HB.out.size)); replace HSZ := Lib.hid (Nat.le_trans HSZ.out HON.out.size)
  clear HON
  replace HO := Lib.hid h1; replace HA := Lib.hid h2; replace HZ := Lib.hid h3; clear h1 h2 h3
  refine (HTO1.out _ HB.out).mono ?_
  rintro e w1 ⟨y1, rfl, hy1, hd1, hn1, ho1, hb⟩
  obtain ⟨ya1, yn1, yc1, hyc1⟩ := sl_form (is_sl_IntS hy1) (Rw.OwnR.reads _ ho1)
  rw [hyc1]
  have HY1 := Lib.hid hy1; have HD1 := Lib.hid hd1; have HN1 := Lib.hid hn1; have HYC1 := Lib.hid hyc1; clear hy1 hd1 hn1 hyc1
  have HX0_1 := Lib.hid (show ∀ b ∈ y0.blocks, b ∉ y1.blocks from fun b h1 h2 => by have := (Rw.OwnR.lt _ HOW0.out b h1).2.2; have := (Rw.OwnR.lt _ ho1 b h2).1; omega)
  replace HOW0 := Lib.hid (Rw.OwnR.top (Rw.OwnR.later HOW0.out hb))
  have HOW1 := Lib.hid (own_mono ho1 HSZ.out (Nat.le_refl _)); clear ho1
  have h1 := below_heap hb (heap_lt HO.out) HO.out; have h2 := below_heap hb (heap_lt HA.out) HA.out; have h3 := below_heap hb (heap_lt HZ.out) HZ.out
  replace HB := Lib.hid (HB.out.trans (hb.mono HB.out.size)); replace HSZ := Lib.hid (Nat.le_trans HSZ.out hb.size); clear hb
  have oq0 := box_cell h1 (j := 0) rfl; have oz0 := box_frz h1 0
  have oq1 := box_cell h1 (j := 1) rfl; have oz1 := box_frz h1 1
  have pq0 := box_cell h2 (j := 0) rfl
  have pq1 := box_cell h2 (j := 1) rfl
  have sq0 := box_cell h3 (j := 0) rfl; have sz0 := box_frz h3 0
  have sq1 := box_cell h3 (j := 1) rfl; have sz1 := box_frz h3 1
  replace HO := Lib.hid h1; replace HA := Lib.hid h2; replace HZ := Lib.hid h3; clear h1 h2 h3
  go_wp2_with fail
  have h1 := HO.out; have h2 := HA.out; have h3 := HZ.out
  replace h1 := heap_one (o := 1) h1 (.slice ya1 yn1 yc1)
  replace h2 := box_far h2 (show w.heap.size ≠ w.heap.size + 2 by omega) 1 (.slice ya1 yn1 yc1)
  replace h3 := box_far h3 (show w.heap.size + 1 ≠ w.heap.size + 2 by omega) 1 (.slice ya1 yn1 yc1)
  replace h1 : (w1.setCell ⟨w.heap.size + 2, 1, none⟩ (.slice ya1 yn1 yc1)).heap[w.heap.size + 2]? = some (.cells #[.slice ya0 yn0 yc0, .slice ya1 yn1 yc1] 41 (0, 0)) := h1
  replace h3 := heap_one (o := 0) h3 (.slice ya0 yn0 yc0)
  replace h3 := heap_one (o := 1) h3 (.slice ya1 yn1 yc1)
  replace h3 : (((w1.setCell ⟨w.heap.size + 2, 1, none⟩ (.slice ya1 yn1 yc1)).setCell ⟨w.heap.size + 1, 0, none⟩ (.slice ya0 yn0 yc0)).setCell ⟨w.heap.size + 1, 1, none⟩ (.slice ya1 yn1 yc1)).heap[w.heap.size + 1]? = some (.cells #[.slice ya0 yn0 yc0, .slice ya1 yn1 yc1] 41 (0, 0)) := h3
  have HON := Lib.hid (show OnlyB [w.heap.size + 1, w.heap.size + 2] w1 (((w1.setCell ⟨w.heap.size + 2, 1, none⟩ (.slice ya1 yn1 yc1)).setCell ⟨w.heap.size + 1, 0, none⟩ (.slice ya0 yn0 yc0)).setCell ⟨w.heap.size + 1, 1, none⟩ (.slice ya1 yn1 yc1)) from (((OnlyB.refl _ w1).set (by simp)).set (by simp)).set (by simp))
  replace HOW0 := Lib.hid (Rw.OwnR.top (Rw.OwnR.only HON.out y0 HOW0.out fun b hb hm => by have h := (Rw.OwnR.lt y0 HOW0.out b hb).1; simp only [List.mem_cons, List.mem_nil_iff, or_false] at hm; omega))
  replace HOW1 := Lib.hid (Rw.OwnR.top (Rw.OwnR.only HON.out y1 HOW1.out fun b hb hm => by have h := (Rw.OwnR.lt y1 HOW1.out b hb).1; simp only [List.mem_cons, List.mem_nil_iff, or_false] at hm; omega))
  replace HB := Lib.hid (HB.out.trans (HON.out.below (fun b hb => by simp only [List.mem_cons, List.mem_nil_iff, or_false] at hb; omega) HB.out.size)); replace HSZ := Lib.hid (Nat.le_trans HSZ.out HON.out.size)
  clear HON
  have fq0 := box_cell h3 (j := 0) rfl
  have fq1 := box_cell h3 (j := 1) rfl
  refine bodyPost_ret (v := .agg #[.slice ya0 yn0 yc0, .slice ya1 yn1 yc1]) (by simp [results, Tryz.results27, go_sem, fq0, fq1]) rfl ?_
  refine ⟨y0, y1, by rw [HYC0.out, HYC1.out], HY0.out, HD0.out, HY1.out, HD1.out, ?_, ?_, HB.out⟩
  · refine ownRL_iff.2 fun c hc => ?_
    simp only [List.mem_cons, List.mem_nil_iff, or_false] at hc
    rcases hc with rfl | rfl
    · exact own_mono HOW0.out (by omega) (Nat.le_refl _)
    · exact own_mono HOW1.out (by omega) (Nat.le_refl _)
  · simp only [blocksL, List.append_nil]
    exact (List.nodup_append.2 ⟨HN0.out, HN1.out, fun a ha b hb e => by subst e; exact absurd hb (HX0_1.out a ha)⟩)

set_option maxRecDepth 100000 in
set_option maxHeartbeats 4000000 in
theorem mkL_Builder (a0 : Rw) (a1 : Rw) (hx0 : IsNodeS a0) (hx1 : IsIntS a1) (lo hi k0 : Nat) (q : Int) (hq : q = k0) (w : World) (ho : OwnRL lo hi w [a0, a1]) (hd : (blocksL [a0, a1]).Nodup) (hk : k0 + countL [a0, a1] ≤ 4611686018427387904) :
    Calls Tryz.prog 32 #[.agg #[a0.cell, a1.cell], .int .i64 q] w fun e w' => e = .returned (.int .i64 ((k0 + countL [a0, a1] : Nat) : Int)) ∧ OwnRL lo hi w' (markL [a0, a1] k0) ∧ OnlyB (blocksL [a0, a1]) w w' := by
  subst hq
  simp only [countL, Nat.add_zero] at hk ⊢
  simp only [markL, blocksL, List.append_nil] at hd ⊢
  have hg := (Grw.refl w).alloc (.cells #[a0.cell, a1.cell] 41)
  have HO0 := Lib.hid ((ownRL_iff.1 ho a0 (by simp)).later hg.below); have HL0 := Lib.hid (Rw.OwnR.lt _ (ownRL_iff.1 ho a0 (by simp)))
  have HO1 := Lib.hid ((ownRL_iff.1 ho a1 (by simp)).later hg.below); have HL1 := Lib.hid (Rw.OwnR.lt _ (ownRL_iff.1 ho a1 (by simp)))
  have HG := Lib.hid hg; have HD := Lib.hid hd; clear ho hg hd
  obtain ⟨W, hW⟩ : ∃ W, w.alloc (.cells #[a0.cell, a1.cell] 41) = W := ⟨_, rfl⟩
  have q0 : W.cell? ⟨w.heap.size, 0, none⟩ = some (a0.cell) := by rw [← hW]; simp
  have q1 : W.cell? ⟨w.heap.size, 1, none⟩ = some (a1.cell) := by rw [← hW]; simp
  rw [hW] at HG HO0 HO1
  go_enter Tryz.func32, Tryz.ntmps32
  go_wp2_with fail
  clear hW
  refine (mk_NodeS a0 hx0 lo hi (k0) _ rfl _ HO0.out (List.nodup_append.1 HD.out).1 (by omega)).mono ?_
  rintro e w0 ⟨rfl, hoi, hon⟩
  replace q1 := (cell_only hon (show w.heap.size ∉ _ from fun hb => by have := (HL0.out _ hb).2.2; omega) (World.block_lt_of_cell? _ _ q1)).trans q1
  replace HO1 := Lib.hid (Rw.OwnR.only hon a1 HO1.out fun b hbs hbt => (List.nodup_append.1 HD.out).2.2 b hbt b (by simp [hbs]) rfl)
  have HM0 := Lib.hid hoi
  have HON0 := Lib.hid (show OnlyB (a0.blocks ++ a1.blocks) w w0 from (OnlyB.of_below HG.out.below _).trans (OnlyB.mono hon (fun i hi => by simp [hi])))
  clear hoi hon
  obtain ⟨r0, hr0⟩ : ∃ r, k0 + a0.count = r := ⟨_, rfl⟩
  rw [hr0]
  have HR0 := Lib.hid hr0
  go_wp2_with fail
  refine (mk_IntS a1 hx1 lo hi (r0) _ (by omega) _ HO1.out (List.nodup_append.1 HD.out).2.1 (by omega)).mono ?_
  rintro e w1 ⟨rfl, hoi, hon⟩
  replace HM0 := Lib.hid (Rw.OwnR.only hon _ HM0.out fun b hbs hbt => by rw [mark_blocks] at hbs; exact (List.nodup_append.1 HD.out).2.2 b hbs b (by simp [hbt]) rfl)
  have HM1 := Lib.hid hoi
  have HON1 := Lib.hid (show OnlyB (a0.blocks ++ a1.blocks) w w1 from (HON0.out).trans (OnlyB.mono hon (fun i hi => by simp [hi])))
  clear hoi hon
  obtain ⟨r1, hr1⟩ : ∃ r, r0 + a1.count = r := ⟨_, rfl⟩
  rw [hr1]
  have HR1 := Lib.hid hr1
  go_wp2_with fail
  go_ret
  refine ⟨by rw [show k0 + (a0.count + a1.count) = r1 by omega]; rfl, ownRL_iff.2 fun c hc => ?_, HON1.out⟩
  simp only [List.mem_cons, List.mem_nil_iff, or_false] at hc
  rcases hc with rfl | rfl
  · exact HM0.out
  · (try simp only [HR0.out]); exact HM1.out

set_option maxRecDepth 100000 in
set_option maxHeartbeats 4000000 in
theorem hdL_Builder (a0 : Rw) (a1 : Rw) (hx0 : IsNodeS a0) (hx1 : IsIntS a1) (hi k0 : Nat) (q : Int) (hq : q = k0) (w : World) (hr : ReadRL hi w (markL [a0, a1] k0)) (hh : hi ≤ w.heap.size) (hk : k0 + countL [a0, a1] ≤ 4611686018427387904) :
    Calls Tryz.prog 34 #[.agg #[a0.cell, a1.cell], .int .i64 q] w fun e w' => e = .returned (.int .i64 ((k0 + countL [a0, a1] : Nat) : Int)) ∧ Grw w w' := by
  subst hq
  simp only [countL, Nat.add_zero] at hk ⊢
  simp only [markL] at hr
  have hg := (Grw.refl w).alloc (.cells #[a0.cell, a1.cell] 41)
  have HR0 := Lib.hid ((readRL_iff.1 hr (a0.mark (k0)) (by simp)).grw hh hg)
  have HR1 := Lib.hid ((readRL_iff.1 hr (a1.mark (k0 + a0.count)) (by simp)).grw hh hg)
  have HG := Lib.hid hg; have HH := Lib.hid (Nat.le_trans hh hg.below.size); clear hr hg
  obtain ⟨W, hW⟩ : ∃ W, w.alloc (.cells #[a0.cell, a1.cell] 41) = W := ⟨_, rfl⟩
  have q0 : W.cell? ⟨w.heap.size, 0, none⟩ = some (a0.cell) := by rw [← hW]; simp
  have q1 : W.cell? ⟨w.heap.size, 1, none⟩ = some (a1.cell) := by rw [← hW]; simp
  rw [hW] at HG HH HR0 HR1
  go_enter Tryz.func34, Tryz.ntmps34
  go_wp2_with fail
  clear hW
  refine (hd_NodeS a0 hx0 hi (k0) _ rfl _ (HR0.out) (Nat.le_trans HH.out (Nat.le_refl _)) (by omega)).mono ?_
  rintro e w0 ⟨rfl, hg0⟩
  replace q1 := (hg0.below.cell (show (⟨w.heap.size, 1, none⟩ : Addr).block < _ from World.block_lt_of_cell? _ _ q1)).trans q1
  replace HR1 := Lib.hid (HR1.out.grw HH.out hg0)
  replace HH := Lib.hid (Nat.le_trans HH.out hg0.below.size)
  replace HG := Lib.hid (HG.out.trans hg0); clear hg0
  obtain ⟨r0, hr0⟩ : ∃ r, k0 + a0.count = r := ⟨_, rfl⟩
  rw [hr0]
  rw [hr0] at HR1
  have hn0 : ¬ ((r0 : Int) < 0) := by omega
  go_wp2_with fail
  refine (hd_IntS a1 hx1 hi (r0) _ rfl _ (HR1.out) (Nat.le_trans HH.out (Nat.le_refl _)) (by omega)).mono ?_
  rintro e w1 ⟨rfl, hg1⟩
  replace HH := Lib.hid (Nat.le_trans HH.out hg1.below.size)
  replace HG := Lib.hid (HG.out.trans hg1); clear hg1
  obtain ⟨r1, hr1⟩ : ∃ r, r0 + a1.count = r := ⟨_, rfl⟩
  rw [hr1]
  have hn1 : ¬ ((r1 : Int) < 0) := by omega
  go_wp2_with fail
  go_ret
  exact ⟨by rw [show k0 + (a0.count + a1.count) = r1 by omega]; rfl, HG.out⟩

theorem eqV_Builder (a0 b0 : Rw) (a1 b1 : Rw) (u0 u1 v0 v1 : Value) (e0 : a0.cell = u0) (f0 : b0.cell = v0) (e1 : a1.cell = u1) (f1 : b1.cell = v1) (w : World) (hx0 : IsNodeS a0) (hy0 : IsNodeS b0) (hd0 : a0.data = b0.data) (rx0 : a0.ReadR w.heap.size w) (ry0 : b0.ReadR w.heap.size w) (hx1 : IsIntS a1) (hy1 : IsIntS b1) (hd1 : a1.data = b1.data) (rx1 : a1.ReadR w.heap.size w) (ry1 : b1.ReadR w.heap.size w) :
    Calls Tryz.prog 30 #[.agg #[u0, u1], .agg #[v0, v1]] w fun e w' => e = .returned (.bool true) ∧ Grw w w' := by
  subst e0; subst f0; subst e1; subst f1
  exact eq_Builder a0 b0 a1 b1 w hx0 hy0 hd0 rx0 ry0 hx1 hy1 hd1 rx1 ry1

theorem mkV_Builder (a0 : Rw) (a1 : Rw) (u0 u1 : Value) (e0 : a0.cell = u0) (e1 : a1.cell = u1) (hx0 : IsNodeS a0) (hx1 : IsIntS a1) (lo hi k0 : Nat) (q : Int) (hq : q = k0) (w : World) (ho : OwnRL lo hi w [a0, a1]) (hd : (blocksL [a0, a1]).Nodup) (hk : k0 + countL [a0, a1] ≤ 4611686018427387904) :
    Calls Tryz.prog 32 #[.agg #[u0, u1], .int .i64 q] w fun e w' => e = .returned (.int .i64 ((k0 + countL [a0, a1] : Nat) : Int)) ∧ OwnRL lo hi w' (markL [a0, a1] k0) ∧ OnlyB (blocksL [a0, a1]) w w' := by
  subst e0; subst e1
  exact mkL_Builder a0 a1 hx0 hx1 lo hi k0 q hq w ho hd hk

theorem hdV_Builder (a0 : Rw) (a1 : Rw) (u0 u1 : Value) (e0 : a0.cell = u0) (e1 : a1.cell = u1) (hx0 : IsNodeS a0) (hx1 : IsIntS a1) (hi k0 : Nat) (q : Int) (hq : q = k0) (w : World) (hr : ReadRL hi w (markL [a0, a1] k0)) (hh : hi ≤ w.heap.size) (hk : k0 + countL [a0, a1] ≤ 4611686018427387904) :
    Calls Tryz.prog 34 #[.agg #[u0, u1], .int .i64 q] w fun e w' => e = .returned (.int .i64 ((k0 + countL [a0, a1] : Nat) : Int)) ∧ Grw w w' := by
  subst e0; subst e1
  exact hdL_Builder a0 a1 hx0 hx1 hi k0 q hq w hr hh hk

end Go.Proofs.YtpkicliimhflgaaGreatDoor
namespace Go.Proofs.YtpkicliimhflgaaGreatDoor
open Go.ChangeShapes Go.WideShapes Go.ChangeAt Go.RowKit

/-- What a slice of this type holds. -/
def IsTokenS (x : Rw) : Prop := ∃ v n e cs, x = .sl v n 4 e cs ∧ ∀ j, j < n → ∃ (a0 : Int) (a1 : ByteArray) (a2 : Rw) (a3 : ByteArray), cs[j * 4]? = some (.leaf (.int .i64 a0)) ∧ cs[j * 4 + 1]? = some (.leaf (.string a1)) ∧ cs[j * 4 + 2]? = some a2 ∧ IsAttrS a2 ∧ cs[j * 4 + 3]? = some (.leaf (.string a3))
theorem is_sl_TokenS {x : Rw} (h : IsTokenS x) : ∃ v n k e cs, x = .sl v n k e cs := by
  obtain ⟨v, n, e, cs, rfl, _⟩ := h
  exact ⟨v, n, _, e, cs, rfl⟩

end Go.Proofs.YtpkicliimhflgaaGreatDoor
namespace Go.Proofs.YtpkicliimhflgaaGreatDoor
open Go.ChangeShapes Go.WideShapes Go.ChangeAt Go.RowKit

def inB (n lo hi : Int) : Bool := decide (lo ≤ n ∧ n ≤ hi)
theorem inB_yes {n lo hi : Int} (h1 : lo ≤ n) (h2 : n ≤ hi) : inB n lo hi = true := by unfold inB; exact decide_eq_true ⟨h1, h2⟩
theorem inB_no {n lo hi : Int} (h : n < lo ∨ hi < n) : inB n lo hi = false := by unfold inB; exact decide_eq_false (by omega)
theorem ret_b {a b : Bool} (h : a = b) : Ending.returned (.bool a) = .returned (.bool b) := by rw [h]
theorem ret_i {a b : Int} (h : a = b) : Ending.returned (.int .i64 a) = .returned (.int .i64 b) := by rw [h]

theorem rin_any (n lo hi : Int) (w : World) :
    Calls Tryz.prog 120 #[.int .i64 n, .int .i64 lo, .int .i64 hi] w fun e w' => e = .returned (.bool (inB n lo hi)) ∧ w = w' := by
  by_cases h1 : lo ≤ n
  · by_cases h2 : n ≤ hi
    · go_enter Tryz.func120, Tryz.ntmps120
      go_wp2
      go_ret
      exact ⟨ret_b (inB_yes h1 h2).symm, rfl⟩
    · go_enter Tryz.func120, Tryz.ntmps120
      go_wp2
      go_ret
      exact ⟨ret_b (inB_no (by omega)).symm, rfl⟩
  · have h2 : decide (lo ≤ n) = false := decide_eq_false h1
    go_enter Tryz.func120, Tryz.ntmps120
    go_wp2
    go_ret
    exact ⟨ret_b (inB_no (by omega)).symm, rfl⟩

theorem lin_any (n lo hi : Int) (w : World) :
    Calls Tryz.prog 70 #[.int .i64 n, .int .i64 lo, .int .i64 hi] w fun e w' => e = .returned (.bool (inB n lo hi)) ∧ w = w' := by
  by_cases h1 : lo ≤ n
  · by_cases h2 : n ≤ hi
    · go_enter Tryz.func70, Tryz.ntmps70
      go_wp2
      go_ret
      exact ⟨ret_b (inB_yes h1 h2).symm, rfl⟩
    · go_enter Tryz.func70, Tryz.ntmps70
      go_wp2
      go_ret
      exact ⟨ret_b (inB_no (by omega)).symm, rfl⟩
  · have h2 : decide (lo ≤ n) = false := decide_eq_false h1
    go_enter Tryz.func70, Tryz.ntmps70
    go_wp2
    go_ret
    exact ⟨ret_b (inB_no (by omega)).symm, rfl⟩

def cdivI (a b : Int) : Int := if 0 ≤ a ∧ a ≤ 1000000000000 ∧ 1 ≤ b ∧ b ≤ 1000000000000 then (a + b - 1) / b else 0

def modI (a b : Int) : Int := if 1 ≤ b ∧ b ≤ 1000000000000 then a % b else 0
theorem tmod_neg_lt {a b : Int} (hb : 1 ≤ b) (h : a.tmod b < 0) : a.tmod b + b = a % b := by
  have := Int.emod_eq_add_self_emod (a := a) (b := b)
  rw [Int.tmod_eq_emod] at *
  split at h <;> rename_i hc
  · have := Int.emod_nonneg a (b := b) (by omega); omega
  · rw [if_neg hc]; have : (b.natAbs : Int) = b := by omega
    omega
theorem tmod_nonneg_eq {a b : Int} (hb : 1 ≤ b) (h : ¬ a.tmod b < 0) : a.tmod b = a % b := by
  rw [Int.tmod_eq_emod] at *
  split <;> rename_i hc
  · omega
  · rw [if_neg hc] at h; have : (b.natAbs : Int) = b := by omega
    have := Int.emod_lt_of_pos a (b := b) (by omega); omega
theorem tmod_bd {a b : Int} (hb : 1 ≤ b) : -b < a.tmod b ∧ a.tmod b < b := by
  have h1 := Int.emod_lt_of_pos a (b := b) (by omega)
  have h2 := Int.emod_nonneg a (b := b) (by omega)
  rw [Int.tmod_eq_emod]
  have : (b.natAbs : Int) = b := by omega
  split <;> omega

theorem add_mod_pos {a b : Int} (hb : 1 ≤ b) : (a.tmod b + b) % b = a % b := by
  rw [Int.add_emod_right, Int.tmod_eq_emod]
  split
  · simp
  · have : (b.natAbs : Int) = b := by omega
    rw [this, Int.sub_emod_right, Int.emod_emod]
def minI (a b : Int) : Int := if b < a then b else a
def maxI (a b : Int) : Int := if a < b then b else a

end Go.Proofs.YtpkicliimhflgaaGreatDoor
namespace Go.Proofs.YtpkicliimhflgaaGreatDoor
open Go.ChangeShapes Go.WideShapes Go.ChangeAt Go.RowKit

def isLow (b : UInt8) : Bool := decide (97 ≤ b.toNat ∧ b.toNat ≤ 122)
/-- A name: 1 to 8 small letters. -/
def isNm (s : ByteArray) : Bool := decide (1 ≤ s.size ∧ s.size ≤ 8) && s.data.toList.all isLow
theorem get_at {s : ByteArray} {k : Nat} (h : k < s.size) : s.data.toList[k]? = some s[k] := by
  have h2 : k < s.data.toList.length := by rw [Array.length_toList]; exact h
  rw [List.getElem?_eq_getElem h2]; rfl
/-- The first k bytes are letters. -/
def lowTo (s : ByteArray) (k : Nat) : Prop := ∀ j (h : j < s.size), j < k → isLow s[j] = true
theorem lowTo.zero (s : ByteArray) : lowTo s 0 := fun _ _ h => absurd h (Nat.not_lt_zero _)
theorem lowTo.succ {s : ByteArray} {k : Nat} (h : lowTo s k) (hk : k < s.size) (h1 : (97 : Int) ≤ (s[k].toNat : Int)) (h2 : (s[k].toNat : Int) ≤ 122) : lowTo s (k + 1) := by
  intro j hj hjk
  by_cases e : j = k
  · subst e; unfold isLow; exact decide_eq_true (by omega)
  · exact h j hj (by omega)
theorem isNm_full {s : ByteArray} {k : Nat} (h : lowTo s k) (hk : k = s.size) : isNm s = decide (1 ≤ s.size ∧ s.size ≤ 8) := by
  unfold isNm
  have : s.data.toList.all isLow = true := by
    rw [List.all_eq_true]
    intro b hb
    obtain ⟨j, hj⟩ := List.mem_iff_getElem?.1 hb
    have hjs : j < s.size := by
      have := (List.getElem?_eq_some_iff.1 hj).1
      rwa [Array.length_toList] at this
    rw [get_at hjs] at hj
    cases hj
    exact h j hjs (by omega)
  rw [this, Bool.and_true]
theorem isNm_bad {s : ByteArray} {k : Nat} (hk : k < s.size) (h : (s[k].toNat : Int) < 97 ∨ 122 < (s[k].toNat : Int)) : isNm s = false := by
  unfold isNm
  have : s.data.toList.all isLow = false := by
    rw [Bool.eq_false_iff]
    intro hall
    have := List.all_eq_true.1 hall s[k] (List.mem_iff_getElem?.2 ⟨k, get_at hk⟩)
    unfold isLow at this
    have := of_decide_eq_true this
    omega
  rw [this, Bool.and_false]
theorem isNm_len {s : ByteArray} (h : ¬ (1 ≤ s.size ∧ s.size ≤ 8)) : isNm s = false := by
  unfold isNm; rw [decide_eq_false h, Bool.false_and]

theorem inB_size (s : ByteArray) : inB s.size 1 8 = decide (1 ≤ s.size ∧ s.size ≤ 8) := by
  unfold inB
  apply decide_eq_decide.2
  omega

set_option maxHeartbeats 1000000 in
theorem nm_impl (s : ByteArray) (hs : s.size ≤ 9223372036854775807) (w : World) :
    Calls Tryz.prog 98 #[.string s] w fun e w' => e = .returned (.bool (isNm s)) ∧ w = w' := by
  by_cases hl : 1 ≤ (s.size : Int) ∧ (s.size : Int) ≤ 8
  · obtain ⟨hl1, hl2⟩ := hl
    have e1 : inB s.size 1 8 = true := inB_yes hl1 hl2
    go_enter Tryz.func98, Tryz.ntmps98
    go_wp2_with (go_at_call 120; refine (rin_any _ _ _ _).mono ?_; rintro e w' ⟨rfl, rfl⟩)
    go_loop [10] (fun i => ∃ (k : Nat), k ≤ s.size ∧ i = .int .i64 k ∧ lowTo s k) (fun i => s.size - (intOf i).toNat)
    case atStart => exact ⟨0, Nat.zero_le _, rfl, lowTo.zero s⟩
    case round =>
      obtain ⟨k, hk, rfl, hv⟩ := hrel
      have HV := Lib.hid hv; clear hv
      by_cases hlt : k < s.size
      · have hlt2 : decide ((k : Int) < (s.size : Int)) = true := by simp; omega
        have hb8 : (s[k].toNat : Int) < 256 := by have := UInt8.toNat_lt s[k]; omega
        by_cases hd1 : (s[k].toNat : Int) < 97
        · have HN := Lib.hid (isNm_bad hlt (Or.inl hd1))
          go_wp2
          go_ret
          exact ⟨ret_b HN.out.symm, rfl⟩
        · have hd1' : decide ((s[k].toNat : Int) < 97) = false := decide_eq_false hd1
          by_cases hd2 : 122 < (s[k].toNat : Int)
          · have HN := Lib.hid (isNm_bad hlt (Or.inr hd2))
            go_wp2
            go_ret
            exact ⟨ret_b HN.out.symm, rfl⟩
          · go_wp2
            go_round
            case rel => exact ⟨k + 1, by omega, by go_num, HV.out.succ hlt (by omega) (by omega)⟩
            case measure => simp [intOf]; omega
      · have HN := Lib.hid (isNm_full HV.out (by omega))
        go_wp2
        go_ret
        exact ⟨ret_b (by rw [HN.out]; exact (decide_eq_true (by omega)).symm), rfl⟩
  · have e1 : inB s.size 1 8 = false := inB_no (by omega)
    have HN := Lib.hid (isNm_len (s := s) (by omega))
    go_enter Tryz.func98, Tryz.ntmps98
    go_wp2_with (go_at_call 120; refine (rin_any _ _ _ _).mono ?_; rintro e w' ⟨rfl, rfl⟩)
    go_ret
    exact ⟨ret_b HN.out.symm, rfl⟩

set_option maxHeartbeats 1000000 in
theorem nm_spec (s : ByteArray) (hs : s.size ≤ 9223372036854775807) (w : World) :
    Calls Tryz.prog 71 #[.string s] w fun e w' => e = .returned (.bool (isNm s)) ∧ w = w' := by
  go_enter Tryz.func71, Tryz.ntmps71
  go_wp2
  go_loop [3] (fun i => ∃ (k : Nat), k ≤ s.size ∧ i = .int .i64 k ∧ lowTo s k) (fun i => s.size - (intOf i).toNat)
  case atStart => exact ⟨0, Nat.zero_le _, rfl, lowTo.zero s⟩
  case round =>
    obtain ⟨k, hk, rfl, hv⟩ := hrel
    have HV := Lib.hid hv; clear hv
    by_cases hlt : k < s.size
    · have hlt2 : decide ((k : Int) < (s.size : Int)) = true := by simp; omega
      have hb8 : (s[k].toNat : Int) < 256 := by have := UInt8.toNat_lt s[k]; omega
      by_cases hd1 : (s[k].toNat : Int) < 97
      · have HN := Lib.hid (isNm_bad hlt (Or.inl hd1))
        go_wp2
        go_ret
        exact ⟨ret_b HN.out.symm, rfl⟩
      · have hd1' : decide ((s[k].toNat : Int) < 97) = false := decide_eq_false hd1
        by_cases hd2 : 122 < (s[k].toNat : Int)
        · have HN := Lib.hid (isNm_bad hlt (Or.inr hd2))
          go_wp2
          go_ret
          exact ⟨ret_b HN.out.symm, rfl⟩
        · go_wp2
          go_round
          case rel => exact ⟨k + 1, by omega, by go_num, HV.out.succ hlt (by omega) (by omega)⟩
          case measure => simp [intOf]; omega
    · have HN := Lib.hid (isNm_full HV.out (by omega))
      have HE := Lib.hid (inB_size s)
      go_wp2_with fail
      refine (lin_any _ _ _ _).mono ?_
      rintro e w' ⟨rfl, rfl⟩
      go_wp2
      go_ret
      exact ⟨ret_b (by rw [HN.out, HE.out]), rfl⟩

end Go.Proofs.YtpkicliimhflgaaGreatDoor

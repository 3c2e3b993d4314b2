/- Helper contracts over the functions with which the laws copy, compare, measure and mark slices, by program (deep.py). Asked: what lies in memory is as named. -/
import Derived.Test.YtgcdfkpidcdicaaGreatDoorDpRule
import Derived.Test.YtgcdfkpidcdicaaGreatDoorRawL
import Derived.Shelf.SlSortCmp.QuietGrown
namespace Go.Proofs.YtgcdfkpidcdicaaGreatDoor
open Go.ChangeShapes Go.WideShapes Go.ChangeAt Go.RowKit

/-- What a slice of this type holds. -/
def IsSheetS (x : Rw) : Prop := ∃ v n e cs, x = .sl v n 1 e cs ∧ ∀ j, j < n → ∃ (a0 : Rw), cs[j]? = some a0 ∧ IsRuleS a0
theorem is_sl_SheetS {x : Rw} (h : IsSheetS x) : ∃ v n k e cs, x = .sl v n k e cs := by
  obtain ⟨v, n, e, cs, rfl, _⟩ := h
  exact ⟨v, n, _, e, cs, rfl⟩

set_option maxHeartbeats 2000000 in
theorem eq_Sheet (a0 b0 : Rw) (w : World) (hx0 : IsRuleS a0) (hy0 : IsRuleS b0) (hd0 : a0.data = b0.data) (rx0 : a0.ReadR w.heap.size w) (ry0 : b0.ReadR w.heap.size w) :
    Calls Tryz.prog 108 #[.agg #[a0.cell], .agg #[b0.cell]] w fun e w' => e = .returned (.bool true) ∧ Grw w w' := by
  go_enter Tryz.func108, Tryz.ntmps108
  go_wp2_with fail
  obtain ⟨w0, hw0⟩ : ∃ x, ((w.alloc (.cells #[a0.cell] 27)).alloc (.cells #[b0.cell] 27)) = x := ⟨_, rfl⟩
  rw [hw0]
  have HG0 := Lib.hid (show Grw w w0 by rw [← hw0]; exact ((Grw.refl w).alloc _).alloc _)
  clear hw0
  refine (eq_RuleS a0 b0 hx0 hy0 hd0 _ (rx0.up HG0.out) (ry0.up HG0.out)).mono ?_
  rintro e w1 ⟨rfl, hg1⟩
  have HG1 := Lib.hid (HG0.out.trans hg1); clear hg1
  go_wp2_with fail
  go_ret
  exact ⟨rfl, HG1.out⟩

def SzSheet (a0 : Rw) (left : Int) (w : World) (e : Ending) (w' : World) : Prop :=
  ∃ r : Int, e = .returned (.int .i64 r) ∧ -1 ≤ r ∧ (0 ≤ r → r + (a0.weight : Nat) = left) ∧ Grw w w'
set_option maxRecDepth 100000 in
set_option maxHeartbeats 4000000 in
theorem sz_Sheet (a0 : Rw) (left : Int) (l1 : 0 ≤ left) (l2 : left ≤ 1099511627776) (w : World) (hx0 : IsRuleS a0) (rx0 : a0.ReadR w.heap.size w) (z0 : a0.Small) :
    Calls Tryz.prog 102 #[.agg #[a0.cell], .int .i64 left] w (SzSheet a0 left w) := by
  have HB := Lib.hid ((Grw.refl w).alloc (.cells #[a0.cell] 148))
  have HR0 := Lib.hid (rx0.up HB.out)
  obtain ⟨xa0, xn0, xc0, hxc0⟩ := sl_form (is_sl_RuleS hx0) rx0
  rw [hxc0] at HB ⊢
  rw [hxc0] at HR0
  have hsz0 := sz_RuleS a0 hx0 (left) (by omega) (by omega) _ HR0.out z0
  simp only [hxc0] at hsz0
  have HSZ0 := Lib.hid hsz0; clear hsz0
  go_enter Tryz.func102, Tryz.ntmps102
  go_wp2_with fail
  refine HSZ0.out.mono ?_
  rintro e w0 ⟨r0, rfl, lo0, hr0, hg0⟩
  have HG0 := Lib.hid (HB.out.trans hg0); clear hg0
  by_cases d0 : r0 < 0
  · go_wp2_with fail
    go_ret
    exact ⟨-1, rfl, by omega, by omega, HG0.out⟩
  replace hr0 := hr0 (by omega)
  go_wp2_with fail
  go_ret
  exact ⟨r0, rfl, by omega, by omega, HG0.out⟩

set_option maxRecDepth 100000 in
set_option maxHeartbeats 4000000 in
theorem toL_Sheet (a0 : Rw) (w : World) (hx0 : IsRuleS a0) (rx0 : a0.ReadR w.heap.size w) (hl0 : a0.weight ≤ 4398046511104) :
    Calls Tryz.prog 105 #[.agg #[a0.cell]] w fun e w' => ∃ b0 : Rw, e = .returned (.agg #[b0.cell]) ∧ IsRuleS b0 ∧ b0.data = a0.data ∧ OwnRL w.heap.size w'.heap.size w' [b0] ∧ (blocksL [b0]).Nodup ∧ Below w.heap.size w w' := by
  obtain ⟨xa0, xn0, xc0, hxc0⟩ := sl_form (is_sl_RuleS hx0) rx0
  obtain ⟨W, hW⟩ : ∃ W, ((w.alloc (.cells #[.slice xa0 xn0 xc0] 148)).alloc (.cells #[.slice none 0 0] 27)).alloc (.cells #[.slice none 0 0] 27) = W := ⟨_, rfl⟩
  have hg0 : Grw w W := by rw [← hW]; exact (((Grw.refl w).alloc _).alloc _).alloc _
  have ho : W.heap[w.heap.size + 2]? = some (.cells #[.slice none 0 0] 27 (0, 0)) := by rw [← hW]; exact three_new2 w _ _ _
  have hz : W.heap[w.heap.size + 1]? = some (.cells #[.slice none 0 0] 27 (0, 0)) := by rw [← hW]; exact three_new1 w _ _ _
  have ha : W.heap[w.heap.size]? = some (.cells #[.slice xa0 xn0 xc0] 148 (0, 0)) := by rw [← hW]; exact three_new0 w _ _ _
  have HSZ := Lib.hid (show w.heap.size + 3 ≤ W.heap.size by rw [← hW, size_alloc, size_alloc, size_alloc]; exact Nat.le_refl _)
  have HTO0 := Lib.hid (fun (V : World) (hv : Below w.heap.size w V) => by have hr := to_RuleS a0 hx0 V (Rw.ReadR.mono hv.size _ (Rw.ReadR.below hv (Nat.le_refl _) _ rx0)) hl0; rw [hxc0] at hr; exact hr)
  rw [hxc0]
  have HB := Lib.hid hg0.below; have HO := Lib.hid ho; have HZ := Lib.hid hz; have HA := Lib.hid ha; have HW := Lib.hid hW
  clear rx0 hxc0 hg0 ho hz ha hW
  go_enter Tryz.func105, Tryz.ntmps105
  go_wp2_with fail
  rw [HW.out]
  refine (HTO0.out _ HB.out).mono ?_
  rintro e w0 ⟨y0, rfl, hy0, hd0, hn0, ho0, hb⟩
  obtain ⟨ya0, yn0, yc0, hyc0⟩ := sl_form (is_sl_RuleS hy0) (Rw.OwnR.reads _ ho0)
  rw [hyc0]
  have HY0 := Lib.hid hy0; have HD0 := Lib.hid hd0; have HN0 := Lib.hid hn0; have HYC0 := Lib.hid hyc0; clear hy0 hd0 hn0 hyc0
  have HOW0 := Lib.hid (own_mono ho0 HSZ.out (Nat.le_refl _)); clear ho0
  have h1 := below_heap hb (heap_lt HO.out) HO.out; have h2 := below_heap hb (heap_lt HA.out) HA.out; have h3 := below_heap hb (heap_lt HZ.out) HZ.out
  replace HB := Lib.hid (HB.out.trans (hb.mono HB.out.size)); replace HSZ := Lib.hid (Nat.le_trans HSZ.out hb.size); clear hb
  have oq0 := box_cell h1 (j := 0) rfl; have oz0 := box_frz h1 0
  have pq0 := box_cell h2 (j := 0) rfl
  have sq0 := box_cell h3 (j := 0) rfl; have sz0 := box_frz h3 0
  replace HO := Lib.hid h1; replace HA := Lib.hid h2; replace HZ := Lib.hid h3; clear h1 h2 h3
  go_wp2_with fail
  have h1 := HO.out; have h2 := HA.out; have h3 := HZ.out
  replace h1 := heap_one (o := 0) h1 (.slice ya0 yn0 yc0)
  replace h2 := box_far h2 (show w.heap.size ≠ w.heap.size + 2 by omega) 0 (.slice ya0 yn0 yc0)
  replace h3 := box_far h3 (show w.heap.size + 1 ≠ w.heap.size + 2 by omega) 0 (.slice ya0 yn0 yc0)
  replace h1 : (w0.setCell ⟨w.heap.size + 2, 0, none⟩ (.slice ya0 yn0 yc0)).heap[w.heap.size + 2]? = some (.cells #[.slice ya0 yn0 yc0] 27 (0, 0)) := h1
  replace h3 := heap_one (o := 0) h3 (.slice ya0 yn0 yc0)
  replace h3 : ((w0.setCell ⟨w.heap.size + 2, 0, none⟩ (.slice ya0 yn0 yc0)).setCell ⟨w.heap.size + 1, 0, none⟩ (.slice ya0 yn0 yc0)).heap[w.heap.size + 1]? = some (.cells #[.slice ya0 yn0 yc0] 27 (0, 0)) := h3
  have HON := Lib.hid (show OnlyB [w.heap.size + 1, w.heap.size + 2] w0 ((w0.setCell ⟨w.heap.size + 2, 0, none⟩ (.slice ya0 yn0 yc0)).setCell ⟨w.heap.size + 1, 0, none⟩ (.slice ya0 yn0 yc0)) from ((OnlyB.refl _ w0).set (by simp)).set (by simp))
  replace HOW0 := Lib.hid (Rw.OwnR.top (Rw.OwnR.only HON.out y0 HOW0.out fun b hb hm => by have h := (Rw.OwnR.lt y0 HOW0.out b hb).1; simp only [List.mem_cons, List.mem_nil_iff, or_false] at hm; omega))
  replace HB := Lib.hid (HB.out.trans (HON.out.below (fun b hb => by simp only [List.mem_cons, List.mem_nil_iff, or_false] at hb; omega) HB.out.size)); replace HSZ := Lib.hid (Nat.le_trans HSZ.out HON.out.size)
  clear HON
  have fq0 := box_cell h3 (j := 0) rfl
  refine bodyPost_ret (v := .agg #[.slice ya0 yn0 yc0]) (by simp [results, Tryz.results105, go_sem, fq0]) rfl ?_
  refine ⟨y0, by rw [HYC0.out], HY0.out, HD0.out, ?_, ?_, HB.out⟩
  · refine ownRL_iff.2 fun c hc => ?_
    simp only [List.mem_cons, List.mem_nil_iff, or_false] at hc
    rcases hc with rfl
    exact own_mono HOW0.out (by omega) (Nat.le_refl _)
  · simp only [blocksL, List.append_nil]
    exact HN0.out

theorem eqV_Sheet (a0 b0 : Rw) (u0 v0 : Value) (e0 : a0.cell = u0) (f0 : b0.cell = v0) (w : World) (hx0 : IsRuleS a0) (hy0 : IsRuleS b0) (hd0 : a0.data = b0.data) (rx0 : a0.ReadR w.heap.size w) (ry0 : b0.ReadR w.heap.size w) :
    Calls Tryz.prog 108 #[.agg #[u0], .agg #[v0]] w fun e w' => e = .returned (.bool true) ∧ Grw w w' := by
  subst e0; subst f0
  exact eq_Sheet a0 b0 w hx0 hy0 hd0 rx0 ry0

set_option maxRecDepth 100000 in
set_option maxHeartbeats 4000000 in
theorem eq_SheetS (x y : Rw) (hx : IsSheetS x) (hy : IsSheetS y) (hd : x.data = y.data) (w : World) (rx : x.ReadR w.heap.size w) (ry : y.ReadR w.heap.size w) :
    Calls Tryz.prog 48 #[x.cell, y.cell] w fun e w' => e = .returned (.bool true) ∧ Grw w w' := by
  have mixed : Tryz.prog.follows .mixedOrders = true := by kernel_rfl
  obtain ⟨v, n, e0, cs, rfl, hrow⟩ := hx
  obtain ⟨v', n', e0', cs', rfl, hrow'⟩ := hy
  rw [Rw.data, Rw.data] at hd
  have hdd := (Dt.sl.inj hd).2; clear hd
  rw [Rw.ReadR] at rx ry
  rw [Rw.cell_sl, Rw.cell_sl]
  obtain ⟨⟨a, cap, rfl, hlen, hc1, hc2, _, hcells⟩, hin⟩ := rx
  obtain ⟨⟨a', cap', rfl, hlen', hc1', hc2', _, hcells'⟩, hin'⟩ := ry
  have hnn : n = n' := by have := congrArg List.length hdd; rw [dataL_len, dataL_len] at this; omega
  subst hnn
  have HROW := Lib.hid hrow; have HROW' := Lib.hid hrow'; have HD := Lib.hid hdd; have HC := Lib.hid hcells; have HC' := Lib.hid hcells'; have HIN := Lib.hid hin; have HIN' := Lib.hid hin'
  clear hrow hrow' hdd hcells hcells' hin hin' hlen hlen'
  go_enter Tryz.func48, Tryz.ntmps48
  go_wp2
  go_loopw [5] (fun i wr => ∃ (j : Nat), j ≤ n ∧ i = .int .i64 j ∧ Grw w wr)
    (fun i _ => n - (intOf i).toNat)
  case atStart => exact ⟨0, Nat.zero_le _, rfl, Grw.refl _⟩
  case round =>
    obtain ⟨j, hj, rfl, hs⟩ := hrel
    have HS := Lib.hid hs
    clear hs
    by_cases hlt : (j : Int) < (n : Int)
    · rcases HC.out with h0 | ⟨g, off, rfl, hg, hcells⟩
      · omega
      · rcases HC'.out with h0 | ⟨g', off', rfl, hg', hcells'⟩
        · omega
        · have HCL := Lib.hid hcells; have HCL' := Lib.hid hcells'; clear hcells hcells'
          obtain ⟨a0, f0, s0⟩ := HROW.out j (by omega)
          obtain ⟨b0, f0', s0'⟩ := HROW'.out j (by omega)
          have hd0 := data_same HD.out f0 f0'
          have c0 : ∀ m os, (Sort.grow (wr.drewN m) os).cell? ⟨g, off + j, none⟩ = some (a0.cell) := cell_grown (show g < wr.heap.size by have := HS.out.below.size; omega) (by rw [HS.out.below.cell (show g < _ by omega)]; exact HCL.out (j) _ (by rw [List.getElem?_map, f0]; rfl))
          have c0' : ∀ m os, (Sort.grow (wr.drewN m) os).cell? ⟨g', off' + j, none⟩ = some (b0.cell) := cell_grown (show g' < wr.heap.size by have := HS.out.below.size; omega) (by rw [HS.out.below.cell (show g' < _ by omega)]; exact HCL'.out (j) _ (by rw [List.getElem?_map, f0']; rfl))
          have HE := Lib.hid (fun (n : Nat) (os : Array Obj) => (show Grw w wr from HS.out) |> fun HG0 => eq_Sheet a0 b0 (Sort.grow (wr.drewN n) os) s0 s0' hd0 ((HG0.trans ⟨n, os, rfl⟩).rd (readRL_iff.1 HIN.out _ (List.mem_of_getElem? f0))) ((HG0.trans ⟨n, os, rfl⟩).rd (readRL_iff.1 HIN'.out _ (List.mem_of_getElem? f0'))))
          clear f0 f0'
          go_wp2_with fail
          refine wp_region_quiet_grown mixed (by kernel_rfl) ?_
          repeat (go_big_quiet_step (first | (go_at_call 108; refine Calls.grown_of (HE.out _ _))))
          refine wpQuiet_nil ?_; intro _ hw'; obtain ⟨⟨nq, osq⟩, hw''⟩ := hw'; subst hw''
          have HG1 := Lib.hid (HS.out.trans ⟨nq, osq, rfl⟩)
          obtain ⟨w1, hw1⟩ : ∃ x, Sort.grow (wr.drewN nq) osq = x := ⟨_, rfl⟩
          rw [hw1] at HG1 ⊢; clear hw1 c0 c0'
          go_wp2_with fail
          go_roundw
          case rel => exact ⟨j + 1, by omega, by go_num, HG1.out⟩
          case measure => simp [intOf]; omega
    · have hkn : decide ((j : Int) < (n : Int)) = false := decide_eq_false hlt
      go_wp2_with fail
      go_ret
      exact ⟨rfl, HS.out⟩

set_option maxRecDepth 100000 in
set_option maxHeartbeats 4000000 in
theorem sz_SheetS (x : Rw) (hx : IsSheetS x) (left : Int) (l1 : 0 ≤ left) (l2 : left ≤ 1099511627776) (w : World) (rx : x.ReadR w.heap.size w) (hz : x.Small) :
    Calls Tryz.prog 42 #[x.cell, .int .i64 left] w fun e w' => ∃ r : Int, e = .returned (.int .i64 r) ∧ -1 ≤ r ∧ (0 ≤ r → r + (x.weight : Nat) = left) ∧ Grw w w' := by
  obtain ⟨v, n, e0, cs, rfl, hrow⟩ := hx
  rw [Rw.ReadR] at rx; rw [Rw.Small] at hz; rw [Rw.cell_sl, Rw.weight]
  obtain ⟨⟨a, cap, rfl, hlen, hc1, hc2, _, hcells⟩, hin⟩ := rx
  have HROW := Lib.hid hrow; have HC := Lib.hid hcells; have HIN := Lib.hid hin; have HZ := Lib.hid (smallL_iff.1 hz); have HLEN := Lib.hid hlen
  clear hrow hcells hin hz hlen
  obtain ⟨wt, hwt⟩ : ∃ f : Nat → Nat, f = fun m => weightL (cs.take m) := ⟨_, rfl⟩
  have HWT := Lib.hid hwt; clear hwt
  by_cases h0 : left - n < 0
  · go_enter Tryz.func42, Tryz.ntmps42
    go_wp2
    go_ret
    exact ⟨-1, rfl, by omega, by omega, Grw.refl _⟩
  · go_enter Tryz.func42, Tryz.ntmps42
    go_wp2
    go_loopw [1, 5] (fun q i wr => ∃ (j : Nat) (r : Int), j ≤ n ∧ i = .int .i64 j ∧ q = .int .i64 r ∧ 0 ≤ r ∧ r + n + (wt (j) : Nat) = left ∧ Grw w wr)
      (fun _ i _ => n - (intOf i).toNat)
    case atStart => exact ⟨0, left - n, Nat.zero_le _, rfl, rfl, by omega, by rw [HWT.out]; (simp [weightL]; try omega), Grw.refl _⟩
    case round =>
      obtain ⟨j, r, hj, rfl, rfl, hr0, hr1, hs⟩ := hrel
      have HS := Lib.hid hs; have HR1 := Lib.hid hr1
      have hr2 : r ≤ 1099511627776 := by omega
      clear hs hr1
      by_cases hlt : (j : Int) < (n : Int)
      · rcases HC.out with hz0 | ⟨g, off, rfl, hg, hcells⟩
        · omega
        · have HCL := Lib.hid hcells; clear hcells
          obtain ⟨a0, f0, s0⟩ := HROW.out j (by omega)
          have c0 : wr.cell? ⟨g, off + j, none⟩ = some (a0.cell) := by rw [HS.out.below.cell (show g < _ by omega)]; exact HCL.out (j) _ (by rw [List.getElem?_map, f0]; rfl)
          have z0 := HZ.out _ (List.mem_of_getElem? f0)
          have hw0 : weightL (cs.take (j + 1)) = weightL (cs.take (j)) + _ := weightL_more f0
          have HW := Lib.hid (show wt (j + 1) = wt (j) + (a0.weight) by rw [HWT.out]; show weightL (cs.take (j + 1)) = weightL (cs.take (j)) + _; omega)
          clear hw0
          go_wp2_with fail
          refine (sz_Sheet a0 r (by omega) hr2 _ s0 (HS.out.rd (readRL_iff.1 HIN.out _ (List.mem_of_getElem? f0))) z0).mono ?_
          rintro e w2 ⟨r2, rfl, hr3, hr4, hg2⟩
          have HG2 := Lib.hid (HS.out.trans hg2); clear hg2
          by_cases hneg : r2 < 0
          · go_wp2_with fail
            go_ret
            exact ⟨-1, rfl, by omega, by omega, HG2.out⟩
          · have hr5 := hr4 (by omega)
            clear hr4
            have HR5 := Lib.hid hr5; clear hr5
            go_wp2_with fail
            go_roundw
            case rel => exact ⟨j + 1, r2, by omega, by go_num, rfl, by omega, by rw [HW.out]; have := HR5.out; have := HR1.out; omega, HG2.out⟩
            case measure => simp [intOf]; omega
      · have hjn : j = n := by omega
        subst hjn
        have HF := Lib.hid (show wt (j) = weightL cs by rw [HWT.out]; show weightL (cs.take (j)) = _; rw [List.take_of_length_le (by have := HLEN.out; omega)])
        go_wp2_with fail
        go_ret
        exact ⟨r, rfl, by omega, fun _ => by have := HF.out; have := HR1.out; omega, HS.out⟩

theorem info_SheetS : (Tryz.prog.info? 27).map (fun i => (i.zero, i.size, i.bytes)) = some (some (.agg #[.slice none 0 0]), 1, 24) := by kernel_rfl
set_option maxRecDepth 100000 in
set_option maxHeartbeats 4000000 in
theorem to_SheetS (x : Rw) (hx : IsSheetS x) (w : World) (rx : x.ReadR w.heap.size w) (hl : x.weight ≤ 4398046511104) :
    Calls Tryz.prog 45 #[x.cell] w fun e w' => ∃ y : Rw, e = .returned y.cell ∧ IsSheetS y ∧ y.data = x.data ∧ y.blocks.Nodup ∧ y.OwnR w.heap.size w'.heap.size w' ∧ Below w.heap.size w w' := by
  obtain ⟨i0, hi0, hz0, hz1, hz2⟩ := info_parts info_SheetS
  obtain ⟨v, n, e0, cs, rfl, hrow⟩ := hx
  rw [Rw.ReadR] at rx; rw [Rw.weight] at hl; rw [Rw.cell_sl, Rw.data]
  obtain ⟨⟨a, cap, rfl, hlen, hc1, hc2, _, hcells⟩, hin⟩ := rx
  have hnl : n ≤ 4398046511104 := by omega
  have HWL := Lib.hid (show weightL cs ≤ 4398046511104 by omega)
  have HROW := Lib.hid hrow; have HC := Lib.hid hcells; have HLEN := Lib.hid hlen; have HI := Lib.hid hz2; have HIN := Lib.hid (readRL_iff.1 hin)
  clear hrow hcells hin hlen hz2 hl
  go_enter Tryz.func45, Tryz.ntmps45
  go_wp2_with (at_make; refine wpList_make_full _ rfl _ _ 30 rfl w.heap.size 27 i0 (.agg #[.slice none 0 0]) 1 Tryz.underlying30 hi0 hz0 hz1 .i64 .i64 _ _ n rfl rfl rfl rfl ?c1 ?c2 (Nat.le_refl _) ?_)
  case c1 => rw [HI.out]; omega
  case c2 => unfold maxLen; omega
  intro w1 hown1 hgr1
  have hb1 : Below w.heap.size w w1 := (Below.refl _ _).grown hgr1 (Nat.le_refl _) (fun k h => by cases h)
  have hml : (madeCells #[.slice none 0 0] (n)).toList.length = n := by rw [Array.length_toList, size_madeCells]
  have ho1 := leaves_own hown1 (made_one (by intro u hu; have hm : u ∈ [.slice none 0 0] := Array.mem_toList_iff.2 hu; simp only [List.mem_cons, List.mem_nil_iff, or_false] at hm; rcases hm with rfl <;> rfl) (by decide) _)
  have hb0 := leaves_blocks (madeCells #[.slice none 0 0] (n)).toList
  have hlf : ∀ m, m < n → ∃ u, ((madeCells #[.slice none 0 0] (n)).toList.map Rw.leaf)[m]? = some (.leaf u) := fun m hm => ⟨_, by rw [List.getElem?_map, List.getElem?_eq_getElem (by omega)]; rfl⟩
  obtain ⟨ds0, hds0⟩ : ∃ d, (madeCells #[.slice none 0 0] (n)).toList.map Rw.leaf = d := ⟨_, rfl⟩
  rw [hds0] at ho1 hb0 hlf; clear hds0 hml hown1 hgr1
  have HO1 := Lib.hid ho1; have HB1 := Lib.hid hb1; have HBL := Lib.hid hb0; have HLF := Lib.hid hlf; clear ho1 hb1 hb0 hlf
  go_wp2
  go_loopw [4] (fun i wr => ∃ (j : Nat) (ds : List Rw), j ≤ n ∧ i = .int .i64 j ∧ (Rw.sl (.slice (some ⟨w.heap.size, 0, none⟩) n n) n 1 27 ds).OwnR w.heap.size wr.heap.size wr ∧ (w.heap.size ∉ blocksL ds ∧ (blocksL ds).Nodup) ∧ (∀ p, p < j → ∃ (a0 : Rw), ds[p]? = some a0 ∧ IsRuleS a0) ∧ (∀ m, m < j → ∀ c d, ds[m]? = some c → cs[m]? = some d → c.data = d.data) ∧ (∀ m, j ≤ m → m < n → ∃ u, ds[m]? = some (.leaf u)) ∧ Below w.heap.size w wr)
    (fun i _ => n - (intOf i).toNat)
  case atStart => exact ⟨0, ds0, Nat.zero_le _, rfl, HO1.out, ⟨by rw [HBL.out]; simp, by rw [HBL.out]; simp⟩, fun p hp => by omega, fun m hm => by omega, fun m _ hm => HLF.out m hm, HB1.out⟩
  case round =>
    obtain ⟨j, ds, hj, rfl, hown, hnd, hrows, hdat, hzero, hbw⟩ := hrel
    have HO := Lib.hid hown; have HND := Lib.hid hnd; have HRS := Lib.hid hrows; have HDT := Lib.hid hdat; have HZR := Lib.hid hzero; have HB := Lib.hid hbw
    clear hown hnd hrows hdat hzero hbw HO1 HB1 HBL HLF
    have HDL := Lib.hid (show ds.length = n by have h := HO.out; rw [Rw.OwnR] at h; have := h.1.1.1; rw [List.length_map] at this; omega)
    by_cases hlt : (j : Int) < (n : Int)
    · rcases HC.out with h0 | ⟨g, off, rfl, hg, hcells⟩
      · omega
      · have HCL := Lib.hid hcells; clear hcells
        obtain ⟨a0, f0, s0⟩ := HROW.out j (by omega)
        have c0 : wr.cell? ⟨g, off + j, none⟩ = some (a0.cell) := by rw [HB.out.cell (show g < _ by omega)]; exact HCL.out (j) _ (by rw [List.getElem?_map, f0]; rfl)
        have HM0 := Lib.hid f0; clear f0
        have hto := toL_Sheet a0 wr s0 (Rw.ReadR.mono HB.out.size _ (Rw.ReadR.below HB.out (Nat.le_refl _) _ (HIN.out _ (List.mem_of_getElem? HM0.out)))) (Nat.le_trans (weightL_mem (List.mem_of_getElem? HM0.out)) HWL.out)
        obtain ⟨xa0, xn0, xc0, hxc0⟩ := sl_form (is_sl_RuleS s0) (HIN.out _ (List.mem_of_getElem? HM0.out))
        rw [hxc0] at hto c0
        have HTO := Lib.hid hto; clear hto
        go_wp2_with fail
        refine HTO.out.mono ?_
        rintro e w2 ⟨y0, rfl, hy0, hd0, hoy, hny, hb2⟩
        obtain ⟨ya0, yn0, yc0, hyc0⟩ := sl_form (is_sl_RuleS hy0) (Rw.OwnR.reads _ (ownRL_iff.1 hoy y0 (by simp)))
        rw [hyc0]
        have HY0 := Lib.hid hy0; have HDY0 := Lib.hid hd0; have HYC0 := Lib.hid hyc0; clear hy0 hd0 hyc0
        have HX := Lib.hid (show ∀ b ∈ blocksL [y0], b ∉ blocksL ds ∧ b ≠ w.heap.size from fun b hb => by have h1 := (ownL_lt hoy b hb).1; refine ⟨fun hm => ?_, ?_⟩; · { have h := HO.out; rw [Rw.OwnR] at h; have h2 := ownL_lt h.2 b hm; omega }; · { have h := HO.out; rw [Rw.OwnR] at h; have h2 := h.1.1.lt w.heap.size rfl; omega })
        have HO2 := Lib.hid (Rw.OwnR.top (HO.out.later hb2)); have HB2 := Lib.hid (HB.out.trans (hb2.mono HB.out.size)); have HOY := Lib.hid (own_mono_L hoy HB.out.size); have HNY := Lib.hid hny
        clear hoy hny hb2
        obtain ⟨u0, hu0⟩ := HZR.out (j) (by omega) (by omega)
        have d0 : w2.cell? ⟨w.heap.size, j, none⟩ = some u0 := by have h := HO2.out; rw [Rw.OwnR] at h; rw [h.1.1.cellAt (j) (by omega), List.getElem?_map, hu0]; rfl
        have z0 : w2.frozen? ⟨w.heap.size, j, none⟩ = false := by have h := HO2.out; rw [Rw.OwnR] at h; exact h.1.1.frozenAt _
        have HU0 := Lib.hid hu0; clear hu0
        go_wp2
        go_roundw
        case rel =>
          have P0 := HO2.out
          have N0 := HND.out
          have D0 := HOY.out
          have Q0 := P0.put (y := y0) N0.1 (show (ds)[j]? = some (.leaf u0) by exact HU0.out) (Rw.OwnR.top (ownRL_iff.1 D0 y0 (by simp))) (fun hm => (HX.out _ (blocksL_mem.2 ⟨y0, by simp, hm⟩)).2 rfl)
          rw [HYC0.out] at Q0
          have P1 := Rw.OwnR.top Q0.1
          have N1 : w.heap.size ∉ blocksL ((ds).set (j) (y0)) ∧ (blocksL ((ds).set (j) (y0))).Nodup := ⟨fun h => by rcases (Q0.2.2.1 _).1 h with h | h; · { exact (HX.out _ (blocksL_mem.2 ⟨y0, by simp, h⟩)).2 rfl }; · { exact N0.1 h }, Q0.2.2.2 N0.2 (nodup_in HNY.out (by simp)) (fun b hb hm => by exact (HX.out b (blocksL_mem.2 ⟨y0, by simp, hb⟩)).1 hm)⟩
          have D1 := ownL_only (L := [y0]) D0 Q0.2.1 (fun b hb hm => by rw [List.mem_singleton] at hm; exact (HX.out b hb).2 hm)
          refine ⟨j + 1, ((ds).set (j) (y0)), by omega, by go_num, P1, N1, fun p hp => ?_, fun m hm c d hc hd => ?_, fun m hm1 hm2 => ?_, (HB2.out.setCell (Nat.le_refl _) _)⟩
          · by_cases e : p = j
            · subst e
              exact ⟨y0, by rw [List.getElem?_set_self (by have := HDL.out; first | omega | (simp only [List.length_set]; omega))], HY0.out⟩
            · obtain ⟨o0, f0, s0⟩ := HRS.out p (by omega)
              exact ⟨o0, by rw [List.getElem?_set_ne (by omega)]; exact f0, s0⟩
          · have hmm : m < j ∨ m = j := by omega
            rcases hmm with h | rfl
            · rw [List.getElem?_set_ne (by omega)] at hc; exact HDT.out m h c d hc hd
            · rw [List.getElem?_set_self (by have := HDL.out; first | omega | (simp only [List.length_set]; omega))] at hc; cases hc; rw [HM0.out] at hd; cases hd; exact HDY0.out
          · obtain ⟨u, hu⟩ := HZR.out m (by omega) hm2; exact ⟨u, by rw [List.getElem?_set_ne (by omega)]; exact hu⟩
        case measure => simp [intOf]; omega
    · have hjn : j = n := by omega
      subst hjn
      go_wp2
      go_ret
      refine ⟨.sl (.slice (some ⟨w.heap.size, 0, none⟩) j j) j 1 27 ds, rfl, ⟨_, _, _, _, rfl, HRS.out⟩, ?_, ?_, HO.out, HB.out⟩
      · rw [Rw.data, dataL_ext (by have h1 := HDL.out; have h2 := HLEN.out; omega) fun m c d hc hd => HDT.out m (by have := (List.getElem?_eq_some_iff.1 hc).1; have := HDL.out; omega) c d hc hd]
      · rw [Rw.blocks]; exact List.nodup_cons.2 HND.out

set_option maxRecDepth 100000 in
set_option maxHeartbeats 4000000 in
theorem mk_SheetS (x : Rw) (hx : IsSheetS x) (lo hi k0 : Nat) (q : Int) (hq : q = k0) (w : World) (ho : x.OwnR lo hi w) (hd : x.blocks.Nodup) (hk : k0 + x.count ≤ 4611686018427387904) :
    Calls Tryz.prog 50 #[x.cell, .int .i64 q] w fun e w' => e = .returned (.int .i64 ((k0 + x.count : Nat) : Int)) ∧ (x.mark k0).OwnR lo hi w' ∧ OnlyB x.blocks w w' := by
  subst hq
  obtain ⟨v, n, e0, cs, rfl, hrow⟩ := hx
  rw [Rw.cell_sl]; rw [Rw.count] at hk ⊢; rw [mark_cell_sl]
  have ho2 := ho; rw [Rw.OwnR] at ho2
  have hlen : cs.length = n := by have := ho2.1.1.1; rw [List.length_map] at this; omega
  have hrw := ho2.1.1.2; clear ho2
  have HROW := Lib.hid hrow; have HD := Lib.hid hd; have HO0 := Lib.hid ho; have HLEN := Lib.hid hlen; have HK := Lib.hid hk; clear hrow hd ho hlen hk
  rcases hrw with ⟨rfl, h0⟩ | ⟨g, cap, cur, rfl, hg, _, hcap, hm, _⟩
  · subst h0
    have hz : cs = [] := List.eq_nil_of_length_eq_zero (by have := HLEN.out; omega)
    subst hz
    go_enter Tryz.func50, Tryz.ntmps50
    go_wp2
    refine wp_loop_rounds 1 ?_
    rw [rounds_succ]
    go_wp2
    go_ret
    exact ⟨by simp [countL], by rw [markL]; exact HO0.out, OnlyB.refl _ _⟩
  · unfold maxLen at hm
    obtain ⟨st, hst⟩ : ∃ f : Nat → List Rw, f = markTo cs k0 := ⟨_, rfl⟩
    obtain ⟨cn, hcn⟩ : ∃ f : Nat → Nat, f = fun m => k0 + countL (cs.take m) := ⟨_, rfl⟩
    have HST := Lib.hid hst; have HCN := Lib.hid hcn; clear hst hcn
    have HTOP := Lib.hid (fun m => show cn m ≤ 4611686018427387904 by rw [HCN.out]; have := countL_take_le cs m; have := HK.out; show k0 + countL (cs.take m) ≤ _; omega)
    have HNOT := Lib.hid (show g ∉ blocksL cs by have := HD.out; rw [Rw.blocks] at this; exact (List.nodup_cons.1 (show (g :: blocksL cs).Nodup from this)).1)
    have HOB := Lib.hid (show ∀ m, blocksL (st m) = blocksL cs from fun m => by rw [HST.out]; exact markTo_blocks cs k0 m)
    go_enter Tryz.func50, Tryz.ntmps50
    go_wp2
    go_loopw [1, 5] (fun m i wr => ∃ (j : Nat), j ≤ n ∧ i = .int .i64 j ∧ m = .int .i64 (cn (j) : Int) ∧ (Rw.sl (.slice (some ⟨g, 0, none⟩) n cap) n 1 e0 (st (j))).OwnR lo hi wr ∧ OnlyB (Rw.sl (.slice (some ⟨g, 0, none⟩) n cap) n 1 e0 cs).blocks w wr)
      (fun _ i _ => n - (intOf i).toNat)
    case atStart => exact ⟨0, Nat.zero_le _, rfl, by rw [HCN.out]; simp [countL], by rw [HST.out, markTo_zero]; exact HO0.out, OnlyB.refl _ _⟩
    case round =>
      obtain ⟨j, hj, rfl, rfl, hown, hon⟩ := hrel
      have HO := Lib.hid hown; have HN := Lib.hid hon
      clear hown hon
      by_cases hlt : (j : Int) < (n : Int)
      · obtain ⟨a0, f0, s0⟩ := HROW.out j (by omega)
        have hc0 : cn (j + 1) = cn (j) + a0.count := by rw [HCN.out]; have := countL_more f0; skip; show k0 + countL (cs.take (j + 1)) = k0 + countL (cs.take (j)) + _; omega
        have hs0 : (st (j)).set (j) (a0.mark (cn (j))) = st (j + 1) := by rw [HST.out, HCN.out]; have := markTo_next f0 k0;  exact this
        have ha0 : (st (j))[j]? = some (a0) := by rw [HST.out]; exact markTo_at f0 k0
        have HF0 := Lib.hid f0; have HC0 := Lib.hid hc0; have HS0 := Lib.hid hs0; have HA0 := Lib.hid ha0; clear hc0 hs0 ha0 f0
        obtain ⟨q0, hq0⟩ : ∃ q, cn (j) = q := ⟨_, rfl⟩
        obtain ⟨q1, hq1⟩ : ∃ q, cn (j + 1) = q := ⟨_, rfl⟩
        rw [hq0, hq1] at HC0
        rw [hq0] at HS0
        have ht0 : q0 ≤ 4611686018427387904 := by rw [← hq0]; exact HTOP.out _
        have ht1 : q1 ≤ 4611686018427387904 := by rw [← hq1]; exact HTOP.out _
        rw [hq0]
        have HE := Lib.hid (show cn (j + 1) = q1 by exact hq1)
        clear hq0 hq1
        have r0 := HO.out; rw [Rw.OwnR] at r0
        have d0 := r0.1.1.cellAt (j) (by omega); rw [List.getElem?_map, HA0.out] at d0; replace d0 := d0.trans (show _ = some a0.cell from rfl)
        have HI0 := Lib.hid (ownRL_iff.1 r0.2 _ (List.mem_of_getElem? HA0.out)); clear r0
        go_wp2_with fail
        refine (mk_RuleS a0 s0 lo hi q0 _ (by omega) _ HI0.out (inner_nodup HD.out HF0.out) (by have := HC0.out; omega)).mono ?_
        rintro e w0 ⟨rfl, hoi, hon⟩
        rw [show q0 + a0.count = q1 from HC0.out.symm]
        have HN0' := Lib.hid (HN.out.trans (hon.mono (inner_mem HF0.out)))
        have hin := HO.out.inner (by rw [blocks_same (HOB.out _)]; exact HD.out) HA0.out hon hoi (mark_cell (is_sl_RuleS s0) _) (mark_blocks _ _)
        rw [HS0.out] at hin
        have HO0' := Lib.hid hin.1; clear hin hoi hon d0
        go_wp2_with fail
        go_roundw
        case rel => exact ⟨j + 1, by omega, by go_num, by first | (rw [HE.out]; done) | (rw [HE.out]; have := HC0.out; go_num), by exact HO0'.out, HN0'.out⟩
        case measure => simp [intOf]; omega
      · have hjn : j = n := by omega
        subst hjn
        have HF := Lib.hid (show cn (j) = k0 + countL cs by rw [HCN.out]; show k0 + countL (cs.take (j)) = _; rw [List.take_of_length_le (by have := HLEN.out; omega)])
        have HG := Lib.hid (show st (j) = markL cs k0 by rw [HST.out]; exact markTo_full cs k0 (by have := HLEN.out; omega))
        go_wp2_with fail
        go_ret
        exact ⟨by rw [HF.out]; rfl, by rw [← HG.out]; exact HO.out, HN.out⟩

end Go.Proofs.YtgcdfkpidcdicaaGreatDoor

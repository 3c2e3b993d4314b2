/- Helper contracts over the functions with which the laws copy, compare, measure and mark slices, by program (deep.py). Asked: what lies in memory is as named. Style rules and sheets in memory: what it means that a slice value reads as a list of them. Helper facts, no claim of its own. Helper contract: ColorOf of the model: the color of the last rule for the name. Asked: the sheets lie in memory as named. Helper contracts: the program's map of colors by name, and its ColorOf: the color of the last rule for the name. Asked: the sheets lie in memory as named; colors are numbers of 64 bits. -/
import Derived.Test.YtpkicliimhflgaaGreatDoorMf13
import Derived.Test.YtpkicliimhflgaaGreatDoorMf3
import Derived.Shelf.SlSortCmp.QuietGrown
import Derived.Test.YtpkicliimhflgaaGreatDoorMf5
import Derived.Test.YtpkicliimhflgaaGreatDoorMf2
import Derived.Maps.Own
import Derived.Maps.OwnOps
import Derived.Maps.Views
namespace Go.Proofs.YtpkicliimhflgaaGreatDoor

open Go.ChangeShapes Go.WideShapes Go.ChangeAt Go.RowKit

/-- What a slice of this type holds. -/
def IsSheetS (x : Rw) : Prop := ∃ v n e cs, x = .sl v n 1 e cs ∧ ∀ j, j < n → ∃ (a0 : Rw), cs[j]? = some a0 ∧ IsRuleS a0
theorem is_sl_SheetS {x : Rw} (h : IsSheetS x) : ∃ v n k e cs, x = .sl v n k e cs := by
  obtain ⟨v, n, e, cs, rfl, _⟩ := h
  exact ⟨v, n, _, e, cs, rfl⟩

set_option maxHeartbeats 2000000 in
theorem eq_Sheet (a0 b0 : Rw) (w : World) (hx0 : IsRuleS a0) (hy0 : IsRuleS b0) (hd0 : a0.data = b0.data) (rx0 : a0.ReadR w.heap.size w) (ry0 : b0.ReadR w.heap.size w) :
    Calls Tryz.prog 83 #[.agg #[a0.cell], .agg #[b0.cell]] w fun e w' => e = .returned (.bool true) ∧ Grw w w' := by
  go_enter Tryz.func83, Tryz.ntmps83
  go_wp2_with fail
  obtain ⟨w0, hw0⟩ : ∃ x, ((w.alloc (.cells #[a0.cell] 131)).alloc (.cells #[b0.cell] 131)) = x := ⟨_, rfl⟩
  rw [hw0]
  have HG0 := Lib.hid (show Grw w w0 by rw [← hw0]; exact ((Grw.refl w).alloc _).alloc _)
  clear hw0
  refine (eq_RuleS a0 b0 hx0 hy0 hd0 _ (rx0.up HG0.out) (ry0.up HG0.out)).mono ?_
  rintro e w1 ⟨rfl, hg1⟩
  have HG1 := Lib.hid (HG0.out.trans hg1); clear hg1
  go_wp2_with fail
  go_ret
  exact ⟨rfl, HG1.out⟩

def SzSheet (a0 : Rw) (left : Int) (w : World) (e : Ending) (w' : World) : Prop :=
  ∃ r : Int, e = .returned (.int .i64 r) ∧ -1 ≤ r ∧ (0 ≤ r → r + (a0.weight : Nat) = left) ∧ Grw w w'
set_option maxRecDepth 100000 in
set_option maxHeartbeats 4000000 in
theorem sz_Sheet (a0 : Rw) (left : Int) (l1 : 0 ≤ left) (l2 : left ≤ 1099511627776) (w : World) (hx0 : IsRuleS a0) (rx0 : a0.ReadR w.heap.size w) (z0 : a0.Small) :
    Calls Tryz.prog 77 #[.agg #[a0.cell], .int .i64 left] w (SzSheet a0 left w) := by
  have HB := Lib.hid ((Grw.refl w).alloc (.cells #[a0.cell] 126))
  have HR0 := Lib.hid (rx0.up HB.out)
  obtain ⟨xa0, xn0, xc0, hxc0⟩ := sl_form (is_sl_RuleS hx0) rx0
  rw [hxc0] at HB ⊢
  rw [hxc0] at HR0
  have hsz0 := sz_RuleS a0 hx0 (left) (by omega) (by omega) _ HR0.out z0
  simp only [hxc0] at hsz0
  have HSZ0 := Lib.hid hsz0; clear hsz0
  go_enter Tryz.func77, Tryz.ntmps77
  go_wp2_with fail
  refine HSZ0.out.mono ?_
  rintro e w0 ⟨r0, rfl, lo0, hr0, hg0⟩
  have HG0 := Lib.hid (HB.out.trans hg0); clear hg0
  by_cases d0 : r0 < 0
  · go_wp2_with fail
    go_ret
    exact ⟨-1, rfl, by omega, by omega, HG0.out⟩
  replace hr0 := hr0 (by omega)
  go_wp2_with fail
  go_ret
  exact ⟨r0, rfl, by omega, by omega, HG0.out⟩

set_option maxRecDepth 100000 in
set_option maxHeartbeats 4000000 in
theorem toL_Sheet (a0 : Rw) (w : World) (hx0 : IsRuleS a0) (rx0 : a0.ReadR w.heap.size w) (hl0 : a0.weight ≤ 4398046511104) :
    Calls Tryz.prog 80 #[.agg #[a0.cell]] w fun e w' => ∃ b0 : Rw, e = .returned (.agg #[b0.cell]) ∧ IsRuleS b0 ∧ b0.data = a0.data ∧ OwnRL w.heap.size w'.heap.size w' [b0] ∧ (blocksL [b0]).Nodup ∧ Below w.heap.size w w' := by
  obtain ⟨xa0, xn0, xc0, hxc0⟩ := sl_form (is_sl_RuleS hx0) rx0
  obtain ⟨W, hW⟩ : ∃ W, ((w.alloc (.cells #[.slice xa0 xn0 xc0] 126)).alloc (.cells #[.slice none 0 0] 131)).alloc (.cells #[.slice none 0 0] 131) = W := ⟨_, rfl⟩
  have hg0 : Grw w W := by rw [← hW]; exact (((Grw.refl w).alloc _).alloc _).alloc _
  have ho : W.heap[w.heap.size + 2]? = some (.cells #[.slice none 0 0] 131 (0, 0)) := by rw [← hW]; exact three_new2 w _ _ _
  have hz : W.heap[w.heap.size + 1]? = some (.cells #[.slice none 0 0] 131 (0, 0)) := by rw [← hW]; exact three_new1 w _ _ _
  have ha : W.heap[w.heap.size]? = some (.cells #[.slice xa0 xn0 xc0] 126 (0, 0)) := by rw [← hW]; exact three_new0 w _ _ _
  have HSZ := Lib.hid (show w.heap.size + 3 ≤ W.heap.size by rw [← hW, size_alloc, size_alloc, size_alloc]; exact Nat.le_refl _)
  have HTO0 := Lib.hid (fun (V : World) (hv : Below w.heap.size w V) => by have hr := to_RuleS a0 hx0 V (Rw.ReadR.mono hv.size _ (Rw.ReadR.below hv (Nat.le_refl _) _ rx0)) hl0; rw [hxc0] at hr; exact hr)
  rw [hxc0]
  have HB := Lib.hid hg0.below; have HO := Lib.hid ho; have HZ := Lib.hid hz; have HA := Lib.hid ha; have HW := Lib.hid hW
  clear rx0 hxc0 hg0 ho hz ha hW
  go_enter Tryz.func80, Tryz.ntmps80
  go_wp2_with fail
  rw [HW.out]
  refine (HTO0.out _ HB.out).mono ?_
  rintro e w0 ⟨y0, rfl, hy0, hd0, hn0, ho0, hb⟩
  obtain ⟨ya0, yn0, yc0, hyc0⟩ := sl_form (is_sl_RuleS hy0) (Rw.OwnR.reads _ ho0)
  rw [hyc0]
  have HY0 := Lib.hid hy0; have HD0 := Lib.hid hd0; have HN0 := Lib.hid hn0; have HYC0 := Lib.hid hyc0; clear hy0 hd0 hn0 hyc0
  have HOW0 := Lib.hid (own_mono ho0 HSZ.out (Nat.le_refl _)); clear ho0
  have h1 := below_heap hb (heap_lt HO.out) HO.out; have h2 := below_heap hb (heap_lt HA.out) HA.out; have h3 := below_heap hb (heap_lt HZ.out) HZ.out
  replace HB := Lib.hid (HB.out.trans (hb.mono HB.out.size)); replace HSZ := Lib.hid (Nat.le_trans HSZ.out hb.size); clear hb
  have oq0 := box_cell h1 (j := 0) rfl; have oz0 := box_frz h1 0
  have pq0 := box_cell h2 (j := 0) rfl
  have sq0 := box_cell h3 (j := 0) rfl; have sz0 := box_frz h3 0
  replace HO := Lib.hid h1; replace HA := Lib.hid h2; replace HZ := Lib.hid h3; clear h1 h2 h3
  go_wp2_with fail
  have h1 := HO.out; have h2 := HA.out; have h3 := HZ.out
  replace h1 := heap_one (o := 0) h1 (.slice ya0 yn0 yc0)
  replace h2 := box_far h2 (show w.heap.size ≠ w.heap.size + 2 by omega) 0 (.slice ya0 yn0 yc0)
  replace h3 := box_far h3 (show w.heap.size + 1 ≠ w.heap.size + 2 by omega) 0 (.slice ya0 yn0 yc0)
  replace h1 : (w0.setCell ⟨w.heap.size + 2, 0, none⟩ (.slice ya0 yn0 yc0)).heap[w.heap.size + 2]? = some (.cells #[.slice ya0 yn0 yc0] 131 (0, 0)) := h1
  replace h3 := heap_one (o := 0) h3 (.slice ya0 yn0 yc0)
  replace h3 : ((w0.setCell ⟨w.heap.size + 2, 0, none⟩ (.slice ya0 yn0 yc0)).setCell ⟨w.heap.size + 1, 0, none⟩ (.slice ya0 yn0 yc0)).heap[w.heap.size + 1]? = some (.cells #[.slice ya0 yn0 yc0] 131 (0, 0)) := h3
  have HON := Lib.hid (show OnlyB [w.heap.size + 1, w.heap.size + 2] w0 ((w0.setCell ⟨w.heap.size + 2, 0, none⟩ (.slice ya0 yn0 yc0)).setCell ⟨w.heap.size + 1, 0, none⟩ (.slice ya0 yn0 yc0)) from ((OnlyB.refl _ w0).set (by simp)).set (by simp))
  replace HOW0 := Lib.hid (Rw.OwnR.top (Rw.OwnR.only HON.out y0 HOW0.out fun b hb hm => by have h := (Rw.OwnR.lt y0 HOW0.out b hb).1; simp only [List.mem_cons, List.mem_nil_iff, or_false] at hm; omega))
  replace HB := Lib.hid (HB.out.trans (HON.out.below (fun b hb => by simp only [List.mem_cons, List.mem_nil_iff, or_false] at hb; omega) HB.out.size)); replace HSZ := Lib.hid (Nat.le_trans HSZ.out HON.out.size)
  clear HON
  have fq0 := box_cell h3 (j := 0) rfl
  refine bodyPost_ret (v := .agg #[.slice ya0 yn0 yc0]) (by simp [results, Tryz.results80, go_sem, fq0]) rfl ?_
  refine ⟨y0, by rw [HYC0.out], HY0.out, HD0.out, ?_, ?_, HB.out⟩
  · refine ownRL_iff.2 fun c hc => ?_
    simp only [List.mem_cons, List.mem_nil_iff, or_false] at hc
    rcases hc with rfl
    exact own_mono HOW0.out (by omega) (Nat.le_refl _)
  · simp only [blocksL, List.append_nil]
    exact HN0.out

theorem eqV_Sheet (a0 b0 : Rw) (u0 v0 : Value) (e0 : a0.cell = u0) (f0 : b0.cell = v0) (w : World) (hx0 : IsRuleS a0) (hy0 : IsRuleS b0) (hd0 : a0.data = b0.data) (rx0 : a0.ReadR w.heap.size w) (ry0 : b0.ReadR w.heap.size w) :
    Calls Tryz.prog 83 #[.agg #[u0], .agg #[v0]] w fun e w' => e = .returned (.bool true) ∧ Grw w w' := by
  subst e0; subst f0
  exact eq_Sheet a0 b0 w hx0 hy0 hd0 rx0 ry0

set_option maxRecDepth 100000 in
set_option maxHeartbeats 4000000 in
theorem eq_SheetS (x y : Rw) (hx : IsSheetS x) (hy : IsSheetS y) (hd : x.data = y.data) (w : World) (rx : x.ReadR w.heap.size w) (ry : y.ReadR w.heap.size w) :
    Calls Tryz.prog 31 #[x.cell, y.cell] w fun e w' => e = .returned (.bool true) ∧ Grw w w' := by
  have mixed : Tryz.prog.follows .mixedOrders = true := by kernel_rfl
  obtain ⟨v, n, e0, cs, rfl, hrow⟩ := hx
  obtain ⟨v', n', e0', cs', rfl, hrow'⟩ := hy
  rw [Rw.data, Rw.data] at hd
  have hdd := (Dt.sl.inj hd).2; clear hd
  rw [Rw.ReadR] at rx ry
  rw [Rw.cell_sl, Rw.cell_sl]
  obtain ⟨⟨a, cap, rfl, hlen, hc1, hc2, _, hcells⟩, hin⟩ := rx
  obtain ⟨⟨a', cap', rfl, hlen', hc1', hc2', _, hcells'⟩, hin'⟩ := ry
  have hnn : n = n' := by have := congrArg List.length hdd; rw [dataL_len, dataL_len] at this; omega
  subst hnn
  have HROW := Lib.hid hrow; have HROW' := Lib.hid hrow'; have HD := Lib.hid hdd; have HC := Lib.hid hcells; have HC' := Lib.hid hcells'; have HIN := Lib.hid hin; have HIN' := Lib.hid hin'
  clear hrow hrow' hdd hcells hcells' hin hin' hlen hlen'
  go_enter Tryz.func31, Tryz.ntmps31
  go_wp2
  go_loopw [5] (fun i wr => ∃ (j : Nat), j ≤ n ∧ i = .int .i64 j ∧ Grw w wr)
    (fun i _ => n - (intOf i).toNat)
  case atStart => exact ⟨0, Nat.zero_le _, rfl, Grw.refl _⟩
  case round =>
    obtain ⟨j, hj, rfl, hs⟩ := hrel
    have HS := Lib.hid hs
    clear hs
    by_cases hlt : (j : Int) < (n : Int)
    · rcases HC.out with h0 | ⟨g, off, rfl, hg, hcells⟩
      · omega
      · rcases HC'.out with h0 | ⟨g', off', rfl, hg', hcells'⟩
        · omega
        · have HCL := Lib.hid hcells; have HCL' := Lib.hid hcells'; clear hcells hcells'
          obtain ⟨a0, f0, s0⟩ := HROW.out j (by omega)
          obtain ⟨b0, f0', s0'⟩ := HROW'.out j (by omega)
          have hd0 := data_same HD.out f0 f0'
          have c0 : ∀ m os, (Sort.grow (wr.drewN m) os).cell? ⟨g, off + j, none⟩ = some (a0.cell) := cell_grown (show g < wr.heap.size by have := HS.out.below.size; omega) (by rw [HS.out.below.cell (show g < _ by omega)]; exact HCL.out (j) _ (by rw [List.getElem?_map, f0]; rfl))
          have c0' : ∀ m os, (Sort.grow (wr.drewN m) os).cell? ⟨g', off' + j, none⟩ = some (b0.cell) := cell_grown (show g' < wr.heap.size by have := HS.out.below.size; omega) (by rw [HS.out.below.cell (show g' < _ by omega)]; exact HCL'.out (j) _ (by rw [List.getElem?_map, f0']; rfl))
          have HE := Lib.hid (fun (n : Nat) (os : Array Obj) => (show Grw w wr from HS.out) |> fun HG0 => eq_Sheet a0 b0 (Sort.grow (wr.drewN n) os) s0 s0' hd0 ((HG0.trans ⟨n, os, rfl⟩).rd (readRL_iff.1 HIN.out _ (List.mem_of_getElem? f0))) ((HG0.trans ⟨n, os, rfl⟩).rd (readRL_iff.1 HIN'.out _ (List.mem_of_getElem? f0'))))
          clear f0 f0'
          go_wp2_with fail
          refine wp_region_quiet_grown mixed (by kernel_rfl) ?_
          repeat (go_big_quiet_step (first | (go_at_call 83; refine Calls.grown_of (HE.out _ _))))
          refine wpQuiet_nil ?_; intro _ hw'; obtain ⟨⟨nq, osq⟩, hw''⟩ := hw'; subst hw''
          have HG1 := Lib.hid (HS.out.trans ⟨nq, osq, rfl⟩)
          obtain ⟨w1, hw1⟩ : ∃ x, Sort.grow (wr.drewN nq) osq = x := ⟨_, rfl⟩
          rw [hw1] at HG1 ⊢; clear hw1 c0 c0'
          go_wp2_with fail
          go_roundw
          case rel => exact ⟨j + 1, by omega, by go_num, HG1.out⟩
          case measure => simp [intOf]; omega
    · have hkn : decide ((j : Int) < (n : Int)) = false := decide_eq_false hlt
      go_wp2_with fail
      go_ret
      exact ⟨rfl, HS.out⟩

set_option maxRecDepth 100000 in
set_option maxHeartbeats 4000000 in
theorem sz_SheetS (x : Rw) (hx : IsSheetS x) (left : Int) (l1 : 0 ≤ left) (l2 : left ≤ 1099511627776) (w : World) (rx : x.ReadR w.heap.size w) (hz : x.Small) :
    Calls Tryz.prog 25 #[x.cell, .int .i64 left] w fun e w' => ∃ r : Int, e = .returned (.int .i64 r) ∧ -1 ≤ r ∧ (0 ≤ r → r + (x.weight : Nat) = left) ∧ Grw w w' := by
  obtain ⟨v, n, e0, cs, rfl, hrow⟩ := hx
  rw [Rw.ReadR] at rx; rw [Rw.Small] at hz; rw [Rw.cell_sl, Rw.weight]
  obtain ⟨⟨a, cap, rfl, hlen, hc1, hc2, _, hcells⟩, hin⟩ := rx
  have HROW := Lib.hid hrow; have HC := Lib.hid hcells; have HIN := Lib.hid hin; have HZ := Lib.hid (smallL_iff.1 hz); have HLEN := Lib.hid hlen
  clear hrow hcells hin hz hlen
  obtain ⟨wt, hwt⟩ : ∃ f : Nat → Nat, f = fun m => weightL (cs.take m) := ⟨_, rfl⟩
  have HWT := Lib.hid hwt; clear hwt
  by_cases h0 : left - n < 0
  · go_enter Tryz.func25, Tryz.ntmps25
    go_wp2
    go_ret
    exact ⟨-1, rfl, by omega, by omega, Grw.refl _⟩
  · go_enter Tryz.func25, Tryz.ntmps25
    go_wp2
    go_loopw [1, 5] (fun q i wr => ∃ (j : Nat) (r : Int), j ≤ n ∧ i = .int .i64 j ∧ q = .int .i64 r ∧ 0 ≤ r ∧ r + n + (wt (j) : Nat) = left ∧ Grw w wr)
      (fun _ i _ => n - (intOf i).toNat)
    case atStart => exact ⟨0, left - n, Nat.zero_le _, rfl, rfl, by omega, by rw [HWT.out]; (simp [weightL]; try omega), Grw.refl _⟩
    case round =>
      obtain ⟨j, r, hj, rfl, rfl, hr0, hr1, hs⟩ := hrel
      have HS := Lib.hid hs; have HR1 := Lib.hid hr1
      have hr2 : r ≤ 1099511627776 := by omega
      clear hs hr1
      by_cases hlt : (j : Int) < (n : Int)
      · rcases HC.out with hz0 | ⟨g, off, rfl, hg, hcells⟩
        · omega
        · have HCL := Lib.hid hcells; clear hcells
          obtain ⟨a0, f0, s0⟩ := HROW.out j (by omega)
          have c0 : wr.cell? ⟨g, off + j, none⟩ = some (a0.cell) := by rw [HS.out.below.cell (show g < _ by omega)]; exact HCL.out (j) _ (by rw [List.getElem?_map, f0]; rfl)
          have z0 := HZ.out _ (List.mem_of_getElem? f0)
          have hw0 : weightL (cs.take (j + 1)) = weightL (cs.take (j)) + _ := weightL_more f0
          have HW := Lib.hid (show wt (j + 1) = wt (j) + (a0.weight) by rw [HWT.out]; show weightL (cs.take (j + 1)) = weightL (cs.take (j)) + _; omega)
          clear hw0
          go_wp2_with fail
          refine (sz_Sheet a0 r (by omega) hr2 _ s0 (HS.out.rd (readRL_iff.1 HIN.out _ (List.mem_of_getElem? f0))) z0).mono ?_
          rintro e w2 ⟨r2, rfl, hr3, hr4, hg2⟩
          have HG2 := Lib.hid (HS.out.trans hg2); clear hg2
          by_cases hneg : r2 < 0
          · go_wp2_with fail
            go_ret
            exact ⟨-1, rfl, by omega, by omega, HG2.out⟩
          · have hr5 := hr4 (by omega)
            clear hr4
            have HR5 := Lib.hid hr5; clear hr5
            go_wp2_with fail
            go_roundw
            case rel => exact ⟨j + 1, r2, by omega, by go_num, rfl, by omega, by rw [HW.out]; have := HR5.out; have := HR1.out; omega, HG2.out⟩
            case measure => simp [intOf]; omega
      · have hjn : j = n := by omega
        subst hjn
        have HF := Lib.hid (show wt (j) = weightL cs by rw [HWT.out]; show weightL (cs.take (j)) = _; rw [List.take_of_length_le (by have := HLEN.out; omega)])
        go_wp2_with fail
        go_ret
        exact ⟨r, rfl, by omega, fun _ => by have := HF.out; have := HR1.out; omega, HS.out⟩

theorem info_SheetS : (Tryz.prog.info? 131).map (fun i => (i.zero, i.size, i.bytes)) = some (some (.agg #[.slice none 0 0]), 1, 24) := by kernel_rfl
set_option maxRecDepth 100000 in
set_option maxHeartbeats 4000000 in
theorem to_SheetS (x : Rw) (hx : IsSheetS x) (w : World) (rx : x.ReadR w.heap.size w) (hl : x.weight ≤ 4398046511104) :
    Calls Tryz.prog 28 #[x.cell] w fun e w' => ∃ y : Rw, e = .returned y.cell ∧ IsSheetS y ∧ y.data = x.data ∧ y.blocks.Nodup ∧ y.OwnR w.heap.size w'.heap.size w' ∧ Below w.heap.size w w' := by
  obtain ⟨i0, hi0, hz0, hz1, hz2⟩ := info_parts info_SheetS
  obtain ⟨v, n, e0, cs, rfl, hrow⟩ := hx
  rw [Rw.ReadR] at rx; rw [Rw.weight] at hl; rw [Rw.cell_sl, Rw.data]
  obtain ⟨⟨a, cap, rfl, hlen, hc1, hc2, _, hcells⟩, hin⟩ := rx
  have hnl : n ≤ 4398046511104 := by omega
  have HWL := Lib.hid (show weightL cs ≤ 4398046511104 by omega)
  have HROW := Lib.hid hrow; have HC := Lib.hid hcells; have HLEN := Lib.hid hlen; have HI := Lib.hid hz2; have HIN := Lib.hid (readRL_iff.1 hin)
  clear hrow hcells hin hlen hz2 hl
  go_enter Tryz.func28, Tryz.ntmps28
  go_wp2_with (at_make; refine wpList_make_full _ rfl _ _ 42 rfl w.heap.size 131 i0 (.agg #[.slice none 0 0]) 1 Tryz.underlying42 hi0 hz0 hz1 .i64 .i64 _ _ n rfl rfl rfl rfl ?c1 ?c2 (Nat.le_refl _) ?_)
  case c1 => rw [HI.out]; omega
  case c2 => unfold maxLen; omega
  intro w1 hown1 hgr1
  have hb1 : Below w.heap.size w w1 := (Below.refl _ _).grown hgr1 (Nat.le_refl _) (fun k h => by cases h)
  have hml : (madeCells #[.slice none 0 0] (n)).toList.length = n := by rw [Array.length_toList, size_madeCells]
  have ho1 := leaves_own hown1 (made_one (by intro u hu; have hm : u ∈ [.slice none 0 0] := Array.mem_toList_iff.2 hu; simp only [List.mem_cons, List.mem_nil_iff, or_false] at hm; rcases hm with rfl <;> rfl) (by decide) _)
  have hb0 := leaves_blocks (madeCells #[.slice none 0 0] (n)).toList
  have hlf : ∀ m, m < n → ∃ u, ((madeCells #[.slice none 0 0] (n)).toList.map Rw.leaf)[m]? = some (.leaf u) := fun m hm => ⟨_, by rw [List.getElem?_map, List.getElem?_eq_getElem (by omega)]; rfl⟩
  obtain ⟨ds0, hds0⟩ : ∃ d, (madeCells #[.slice none 0 0] (n)).toList.map Rw.leaf = d := ⟨_, rfl⟩
  rw [hds0] at ho1 hb0 hlf; clear hds0 hml hown1 hgr1
  have HO1 := Lib.hid ho1; have HB1 := Lib.hid hb1; have HBL := Lib.hid hb0; have HLF := Lib.hid hlf; clear ho1 hb1 hb0 hlf
  go_wp2
  go_loopw [4] (fun i wr => ∃ (j : Nat) (ds : List Rw), j ≤ n ∧ i = .int .i64 j ∧ (Rw.sl (.slice (some ⟨w.heap.size, 0, none⟩) n n) n 1 131 ds).OwnR w.heap.size wr.heap.size wr ∧ (w.heap.size ∉ blocksL ds ∧ (blocksL ds).Nodup) ∧ (∀ p, p < j → ∃ (a0 : Rw), ds[p]? = some a0 ∧ IsRuleS a0) ∧ (∀ m, m < j → ∀ c d, ds[m]? = some c → cs[m]? = some d → c.data = d.data) ∧ (∀ m, j ≤ m → m < n → ∃ u, ds[m]? = some (.leaf u)) ∧ Below w.heap.size w wr)
    (fun i _ => n - (intOf i).toNat)
  case atStart => exact ⟨0, ds0, Nat.zero_le _, rfl, HO1.out, ⟨by rw [HBL.out]; simp, by rw [HBL.out]; simp⟩, fun p hp => by omega, fun m hm => by omega, fun m _ hm => HLF.out m hm, HB1.out⟩
  case round =>
    obtain ⟨j, ds, hj, rfl, hown, hnd, hrows, hdat, hzero, hbw⟩ := hrel
    have HO := Lib.hid hown; have HND := Lib.hid hnd; have HRS := Lib.hid hrows; have HDT := Lib.hid hdat; have HZR := Lib.hid hzero; have HB := Lib.hid hbw
    clear hown hnd hrows hdat hzero hbw HO1 HB1 HBL HLF
    have HDL := Lib.hid (show ds.length = n by have h := HO.out; rw [Rw.OwnR] at h; have := h.1.1.1; rw [List.length_map] at this; omega)
    by_cases hlt : (j : Int) < (n : Int)
    · rcases HC.out with h0 | ⟨g, off, rfl, hg, hcells⟩
      · omega
      · have HCL := Lib.hid hcells; clear hcells
        obtain ⟨a0, f0, s0⟩ := HROW.out j (by omega)
        have c0 : wr.cell? ⟨g, off + j, none⟩ = some (a0.cell) := by rw [HB.out.cell (show g < _ by omega)]; exact HCL.out (j) _ (by rw [List.getElem?_map, f0]; rfl)
        have HM0 := Lib.hid f0; clear f0
        have hto := toL_Sheet a0 wr s0 (Rw.ReadR.mono HB.out.size _ (Rw.ReadR.below HB.out (Nat.le_refl _) _ (HIN.out _ (List.mem_of_getElem? HM0.out)))) (Nat.le_trans (weightL_mem (List.mem_of_getElem? HM0.out)) HWL.out)
        obtain ⟨xa0, xn0, xc0, hxc0⟩ := sl_form (is_sl_RuleS s0) (HIN.out _ (List.mem_of_getElem? HM0.out))
        rw [hxc0] at hto c0
        have HTO := Lib.hid hto; clear hto
        go_wp2_with fail
        refine HTO.out.mono ?_
        rintro e w2 ⟨y0, rfl, hy0, hd0, hoy, hny, hb2⟩
        obtain ⟨ya0, yn0, yc0, hyc0⟩ := sl_form (is_sl_RuleS hy0) (Rw.OwnR.reads _ (ownRL_iff.1 hoy y0 (by simp)))
        rw [hyc0]
        have HY0 := Lib.hid hy0; have HDY0 := Lib.hid hd0; have HYC0 := Lib.hid hyc0; clear hy0 hd0 hyc0
        have HX := Lib.hid (show ∀ b ∈ blocksL [y0], b ∉ blocksL ds ∧ b ≠ w.heap.size from fun b hb => by have h1 := (ownL_lt hoy b hb).1; refine ⟨fun hm => ?_, ?_⟩; · { have h := HO.out; rw [Rw.OwnR] at h; have h2 := ownL_lt h.2 b hm; omega }; · { have h := HO.out; rw [Rw.OwnR] at h; have h2 := h.1.1.lt w.heap.size rfl; omega })
        have HO2 := Lib.hid (Rw.OwnR.top (HO.out.later hb2)); have HB2 := Lib.hid (HB.out.trans (hb2.mono HB.out.size)); have HOY := Lib.hid (own_mono_L hoy HB.out.size); have HNY := Lib.hid hny
        clear hoy hny hb2
        obtain ⟨u0, hu0⟩ := HZR.out (j) (by omega) (by omega)
        have d0 : w2.cell? ⟨w.heap.size, j, none⟩ = some u0 := by have h := HO2.out; rw [Rw.OwnR] at h; rw [h.1.1.cellAt (j) (by omega), List.getElem?_map, hu0]; rfl
        have z0 : w2.frozen? ⟨w.heap.size, j, none⟩ = false := by have h := HO2.out; rw [Rw.OwnR] at h; exact h.1.1.frozenAt _
        have HU0 := Lib.hid hu0; clear hu0
        go_wp2
        go_roundw
        case rel =>
          have P0 := HO2.out
          have N0 := HND.out
          have D0 := HOY.out
          have Q0 := P0.put (y := y0) N0.1 (show (ds)[j]? = some (.leaf u0) by exact HU0.out) (Rw.OwnR.top (ownRL_iff.1 D0 y0 (by simp))) (fun hm => (HX.out _ (blocksL_mem.2 ⟨y0, by simp, hm⟩)).2 rfl)
          rw [HYC0.out] at Q0
          have P1 := Rw.OwnR.top Q0.1
          have N1 : w.heap.size ∉ blocksL ((ds).set (j) (y0)) ∧ (blocksL ((ds).set (j) (y0))).Nodup := ⟨fun h => by rcases (Q0.2.2.1 _).1 h with h | h; · { exact (HX.out _ (blocksL_mem.2 ⟨y0, by simp, h⟩)).2 rfl }; · { exact N0.1 h }, Q0.2.2.2 N0.2 (nodup_in HNY.out (by simp)) (fun b hb hm => by exact (HX.out b (blocksL_mem.2 ⟨y0, by simp, hb⟩)).1 hm)⟩
          have D1 := ownL_only (L := [y0]) D0 Q0.2.1 (fun b hb hm => by rw [List.mem_singleton] at hm; exact (HX.out b hb).2 hm)
          refine ⟨j + 1, ((ds).set (j) (y0)), by omega, by go_num, P1, N1, fun p hp => ?_, fun m hm c d hc hd => ?_, fun m hm1 hm2 => ?_, (HB2.out.setCell (Nat.le_refl _) _)⟩
          · by_cases e : p = j
            · subst e
              exact ⟨y0, by rw [List.getElem?_set_self (by have := HDL.out; first | omega | (simp only [List.length_set]; omega))], HY0.out⟩
            · obtain ⟨o0, f0, s0⟩ := HRS.out p (by omega)
              exact ⟨o0, by rw [List.getElem?_set_ne (by omega)]; exact f0, s0⟩
          · have hmm : m < j ∨ m = j := by omega
            rcases hmm with h | rfl
            · rw [List.getElem?_set_ne (by omega)] at hc; exact HDT.out m h c d hc hd
            · rw [List.getElem?_set_self (by have := HDL.out; first | omega | (simp only [List.length_set]; omega))] at hc; cases hc; rw [HM0.out] at hd; cases hd; exact HDY0.out
          · obtain ⟨u, hu⟩ := HZR.out m (by omega) hm2; exact ⟨u, by rw [List.getElem?_set_ne (by omega)]; exact hu⟩
        case measure => simp [intOf]; omega
    · have hjn : j = n := by omega
      subst hjn
      go_wp2
      go_ret
      refine ⟨.sl (.slice (some ⟨w.heap.size, 0, none⟩) j j) j 1 131 ds, rfl, ⟨_, _, _, _, rfl, HRS.out⟩, ?_, ?_, HO.out, HB.out⟩
      · rw [Rw.data, dataL_ext (by have h1 := HDL.out; have h2 := HLEN.out; omega) fun m c d hc hd => HDT.out m (by have := (List.getElem?_eq_some_iff.1 hc).1; have := HDL.out; omega) c d hc hd]
      · rw [Rw.blocks]; exact List.nodup_cons.2 HND.out

set_option maxRecDepth 100000 in
set_option maxHeartbeats 4000000 in
theorem mk_SheetS (x : Rw) (hx : IsSheetS x) (lo hi k0 : Nat) (q : Int) (hq : q = k0) (w : World) (ho : x.OwnR lo hi w) (hd : x.blocks.Nodup) (hk : k0 + x.count ≤ 4611686018427387904) :
    Calls Tryz.prog 33 #[x.cell, .int .i64 q] w fun e w' => e = .returned (.int .i64 ((k0 + x.count : Nat) : Int)) ∧ (x.mark k0).OwnR lo hi w' ∧ OnlyB x.blocks w w' := by
  subst hq
  obtain ⟨v, n, e0, cs, rfl, hrow⟩ := hx
  rw [Rw.cell_sl]; rw [Rw.count] at hk ⊢; rw [mark_cell_sl]
  have ho2 := ho; rw [Rw.OwnR] at ho2
  have hlen : cs.length = n := by have := ho2.1.1.1; rw [List.length_map] at this; omega
  have hrw := ho2.1.1.2; clear ho2
  have HROW := Lib.hid hrow; have HD := Lib.hid hd; have HO0 := Lib.hid ho; have HLEN := Lib.hid hlen; have HK := Lib.hid hk; clear hrow hd ho hlen hk
  rcases hrw with ⟨rfl, h0⟩ | ⟨g, cap, cur, rfl, hg, _, hcap, hm, _⟩
  · subst h0
    have hz : cs = [] := List.eq_nil_of_length_eq_zero (by have := HLEN.out; omega)
    subst hz
    go_enter Tryz.func33, Tryz.ntmps33
    go_wp2
    refine wp_loop_rounds 1 ?_
    rw [rounds_succ]
    go_wp2
    go_ret
    exact ⟨by simp [countL], by rw [markL]; exact HO0.out, OnlyB.refl _ _⟩
  · unfold maxLen at hm
    obtain ⟨st, hst⟩ : ∃ f : Nat → List Rw, f = markTo cs k0 := ⟨_, rfl⟩
    obtain ⟨cn, hcn⟩ : ∃ f : Nat → Nat, f = fun m => k0 + countL (cs.take m) := ⟨_, rfl⟩
    have HST := Lib.hid hst; have HCN := Lib.hid hcn; clear hst hcn
    have HTOP := Lib.hid (fun m => show cn m ≤ 4611686018427387904 by rw [HCN.out]; have := countL_take_le cs m; have := HK.out; show k0 + countL (cs.take m) ≤ _; omega)
    have HNOT := Lib.hid (show g ∉ blocksL cs by have := HD.out; rw [Rw.blocks] at this; exact (List.nodup_cons.1 (show (g :: blocksL cs).Nodup from this)).1)
    have HOB := Lib.hid (show ∀ m, blocksL (st m) = blocksL cs from fun m => by rw [HST.out]; exact markTo_blocks cs k0 m)
    go_enter Tryz.func33, Tryz.ntmps33
    go_wp2
    go_loopw [1, 5] (fun m i wr => ∃ (j : Nat), j ≤ n ∧ i = .int .i64 j ∧ m = .int .i64 (cn (j) : Int) ∧ (Rw.sl (.slice (some ⟨g, 0, none⟩) n cap) n 1 e0 (st (j))).OwnR lo hi wr ∧ OnlyB (Rw.sl (.slice (some ⟨g, 0, none⟩) n cap) n 1 e0 cs).blocks w wr)
      (fun _ i _ => n - (intOf i).toNat)
    case atStart => exact ⟨0, Nat.zero_le _, rfl, by rw [HCN.out]; simp [countL], by rw [HST.out, markTo_zero]; exact HO0.out, OnlyB.refl _ _⟩
    case round =>
      obtain ⟨j, hj, rfl, rfl, hown, hon⟩ := hrel
      have HO := Lib.hid hown; have HN := Lib.hid hon
      clear hown hon
      by_cases hlt : (j : Int) < (n : Int)
      · obtain ⟨a0, f0, s0⟩ := HROW.out j (by omega)
        have hc0 : cn (j + 1) = cn (j) + a0.count := by rw [HCN.out]; have := countL_more f0; skip; show k0 + countL (cs.take (j + 1)) = k0 + countL (cs.take (j)) + _; omega
        have hs0 : (st (j)).set (j) (a0.mark (cn (j))) = st (j + 1) := by rw [HST.out, HCN.out]; have := markTo_next f0 k0;  exact this
        have ha0 : (st (j))[j]? = some (a0) := by rw [HST.out]; exact markTo_at f0 k0
        have HF0 := Lib.hid f0; have HC0 := Lib.hid hc0; have HS0 := Lib.hid hs0; have HA0 := Lib.hid ha0; clear hc0 hs0 ha0 f0
        obtain ⟨q0, hq0⟩ : ∃ q, cn (j) = q := ⟨_, rfl⟩
        obtain ⟨q1, hq1⟩ : ∃ q, cn (j + 1) = q := ⟨_, rfl⟩
        rw [hq0, hq1] at HC0
        rw [hq0] at HS0
        have ht0 : q0 ≤ 4611686018427387904 := by rw [← hq0]; exact HTOP.out _
        have ht1 : q1 ≤ 4611686018427387904 := by rw [← hq1]; exact HTOP.out _
        rw [hq0]
        have HE := Lib.hid (show cn (j + 1) = q1 by exact hq1)
        clear hq0 hq1
        have r0 := HO.out; rw [Rw.OwnR] at r0
        have d0 := r0.1.1.cellAt (j) (by omega); rw [List.getElem?_map, HA0.out] at d0; replace d0 := d0.trans (show _ = some a0.cell from rfl)
        have HI0 := Lib.hid (ownRL_iff.1 r0.2 _ (List.mem_of_getElem? HA0.out)); clear r0
        go_wp2_with fail
        refine (mk_RuleS a0 s0 lo hi q0 _ (by omega) _ HI0.out (inner_nodup HD.out HF0.out) (by have := HC0.out; omega)).mono ?_
        rintro e w0 ⟨rfl, hoi, hon⟩
        rw [show q0 + a0.count = q1 from HC0.out.symm]
        have HN0' := Lib.hid (HN.out.trans (hon.mono (inner_mem HF0.out)))
        have hin := HO.out.inner (by rw [blocks_same (HOB.out _)]; exact HD.out) HA0.out hon hoi (mark_cell (is_sl_RuleS s0) _) (mark_blocks _ _)
        rw [HS0.out] at hin
        have HO0' := Lib.hid hin.1; clear hin hoi hon d0
        go_wp2_with fail
        go_roundw
        case rel => exact ⟨j + 1, by omega, by go_num, by first | (rw [HE.out]; done) | (rw [HE.out]; have := HC0.out; go_num), by exact HO0'.out, HN0'.out⟩
        case measure => simp [intOf]; omega
      · have hjn : j = n := by omega
        subst hjn
        have HF := Lib.hid (show cn (j) = k0 + countL cs by rw [HCN.out]; show k0 + countL (cs.take (j)) = _; rw [List.take_of_length_le (by have := HLEN.out; omega)])
        have HG := Lib.hid (show st (j) = markL cs k0 by rw [HST.out]; exact markTo_full cs k0 (by have := HLEN.out; omega))
        go_wp2_with fail
        go_ret
        exact ⟨by rw [HF.out]; rfl, by rw [← HG.out]; exact HO.out, HN.out⟩

end Go.Proofs.YtpkicliimhflgaaGreatDoor
namespace Go.Proofs.YtpkicliimhflgaaGreatDoor
open Go.ChangeShapes Go.WideShapes Go.ChangeAt Go.RowKit

/-- A rule: its name and its color. -/
abbrev Ru := ByteArray × Int
def encU (r : Ru) : List Value := [.string r.1, .int .i64 r.2]
theorem encU_len (r : Ru) : (encU r).length = 2 := rfl
theorem encU_one (r : Ru) : ∀ u ∈ encU r, u.oneCell' = true := by
  intro u hu
  simp only [encU, List.mem_cons, List.mem_nil_iff, or_false] at hu
  rcases hu with rfl | rfl <;> rfl
theorem infoRu : (Tryz.prog.info? 180).map (fun i => (i.zero, i.size, i.bytes)) = some (some (.agg #[.string ⟨#[]⟩, .int .i64 0]), 2, 24) := by kernel_rfl
theorem infoSh : (Tryz.prog.info? 131).map (fun i => (i.zero, i.size, i.bytes)) = some (some (.agg #[.slice none 0 0]), 1, 24) := by kernel_rfl
theorem ru_at {xs : List Ru} {j : Nat} (h : j < xs.length) : ∃ a b, xs[j]? = some (a, b) := ⟨xs[j].1, xs[j].2, List.getElem?_eq_getElem h⟩

def ruCells : List Ru → List Rw
  | [] => []
  | a :: rs => .leaf (.string a.1) :: .leaf (.int .i64 a.2) :: ruCells rs
/-- A slice of rules. -/
def rwU (v : Value) (rs : List Ru) : Rw := .sl v rs.length 2 180 (ruCells rs)
theorem rwU_cell (v : Value) (rs : List Ru) : (rwU v rs).cell = v := rfl
theorem ruCells_map : ∀ rs : List Ru, (ruCells rs).map Rw.cell = rs.flatMap encU
  | [] => rfl
  | a :: rs => by rw [ruCells, List.map_cons, List.map_cons, ruCells_map rs, List.flatMap_cons]; rfl
theorem ruCells_len : ∀ rs : List Ru, (ruCells rs).length = rs.length * 2
  | [] => rfl
  | a :: rs => by rw [ruCells, List.length_cons, List.length_cons, ruCells_len rs, List.length_cons]; omega
theorem ruCells_at : ∀ {rs : List Ru} {j : Nat} {a : Ru}, rs[j]? = some a → (ruCells rs)[j * 2]? = some (.leaf (.string a.1)) ∧ (ruCells rs)[j * 2 + 1]? = some (.leaf (.int .i64 a.2))
  | [], j, a, h => by simp at h
  | b :: rs, 0, a, h => by
    have : b = a := by simpa using h
    subst this; exact ⟨rfl, rfl⟩
  | b :: rs, j + 1, a, h => by
    have ih := ruCells_at (rs := rs) (j := j) (by simpa using h)
    rw [show (j + 1) * 2 = j * 2 + 1 + 1 by omega, ruCells]
    simpa using ih
theorem ruCells_leaf : ∀ {rs : List Ru}, ∀ c ∈ ruCells rs, ∃ v, c = .leaf v ∧ v.oneCell' = true
  | [], c, h => by cases h
  | a :: rs, c, h => by
    rw [ruCells] at h
    rcases List.mem_cons.1 h with h | h
    · exact ⟨_, h, rfl⟩
    · rcases List.mem_cons.1 h with h | h
      · exact ⟨_, h, rfl⟩
      · exact ruCells_leaf c h
theorem ruCells_blocks (rs : List Ru) : blocksL (ruCells rs) = [] := blocksL_nil fun c hc => by
  obtain ⟨s, rfl, _⟩ := ruCells_leaf c hc
  rw [Rw.blocks]
theorem rwU_blocks (v : Value) (rs : List Ru) : (rwU v rs).blocks = v.ownBlock.toList := by rw [rwU, Rw.blocks, ruCells_blocks, List.append_nil]
theorem rwU_is (v : Value) (rs : List Ru) : IsRuleS (rwU v rs) :=
  ⟨v, rs.length, _, ruCells rs, rfl, fun j hj => by
    obtain ⟨a, b, h⟩ := ru_at hj
    obtain ⟨h1, h2⟩ := ruCells_at h
    exact ⟨a, b, h1, h2⟩⟩
theorem rwU_own {lo hi : Nat} {w : World} {v : Value} {rs : List Ru} (h : OwnK encU 2 180 lo hi w v rs) : (rwU v rs).OwnR lo hi w := by
  rw [rwU, Rw.OwnR]
  exact ⟨by rw [ruCells_map]; exact h, ownRL_iff.2 fun c hc => by obtain ⟨s, rfl, hs⟩ := ruCells_leaf c hc; rw [Rw.OwnR]; exact hs⟩
theorem rwU_reads {hi : Nat} {w : World} {v : Value} {rs : List Ru} (h : ReadsK encU 2 hi w v rs) : (rwU v rs).ReadR hi w := by
  rw [rwU, Rw.ReadR]
  have h0 := h
  obtain ⟨a, cap, rfl, h1, h2, h3, h4⟩ := h
  refine ⟨⟨a, cap, rfl, ruCells_len rs, h1, h2, h3, ?_⟩, readRL_iff.2 fun c hc => by obtain ⟨s, rfl, hs⟩ := ruCells_leaf c hc; rw [Rw.ReadR]; exact hs⟩
  rcases h4 with h4 | ⟨g, off, rfl, hg, hc⟩
  · exact Or.inl h4
  · refine Or.inr ⟨g, off, rfl, hg, fun j c hj => ?_⟩
    rw [ruCells_map] at hj
    have := h0.news encU_len j c hj
    rwa [add_off] at this
theorem rwU_data (v u : Value) (rs : List Ru) : (rwU v rs).data = (rwU u rs).data := by rw [rwU, rwU, Rw.data, Rw.data]
theorem rules_of_data {x : Rw} {u : Value} {rs : List Ru} {hi : Nat} {w : World} (h : x.data = (rwU u rs).data) (hr : x.ReadR hi w) : ReadsK encU 2 hi w x.cell rs := by
  cases x with
  | leaf v => rw [rwU, Rw.data, Rw.data] at h; cases h
  | sl v n k e cs =>
    rw [rwU, Rw.data, Rw.data] at h
    obtain ⟨rfl, hd⟩ := Dt.sl.inj h
    have hl : cs.length = rs.length * 2 := by have := congrArg List.length hd; rwa [dataL_len, dataL_len, ruCells_len] at this
    rw [Rw.ReadR] at hr
    obtain ⟨⟨a, cap, rfl, h1, h2, h3, h4, h5⟩, _⟩ := hr
    have hn : n = rs.length := by omega
    subst hn
    refine ⟨a, cap, rfl, h2, h3, h4, ?_⟩
    rcases h5 with h5 | ⟨g, off, rfl, hg, hc⟩
    · exact Or.inl h5
    · refine Or.inr ⟨g, off, rfl, hg, fun j y hj i hi' => ?_⟩
      obtain ⟨k1, k2⟩ := ruCells_at hj
      have hjl := (List.getElem?_eq_some_iff.1 hj).1
      have one : ∀ (m : Nat) (s : Value), m < cs.length → (ruCells rs)[m]? = some (.leaf s) → w.cell? ⟨g, off + m, none⟩ = some s := by
        intro m s hm hs
        obtain ⟨c, hcm⟩ : ∃ c, cs[m]? = some c := ⟨_, List.getElem?_eq_getElem hm⟩
        have e1 := leaf_of_data (data_same hd hcm hs)
        refine hc m _ ?_
        rw [List.getElem?_map, hcm, e1]; rfl
      rcases (show i = 0 ∨ i = 1 by omega) with rfl | rfl
      · exact one (j * 2) _ (by omega) k1
      · rw [Nat.add_assoc]; exact one (j * 2 + 1) _ (by omega) k2

/-- A sheet: its rules and where they lie. -/
abbrev Shv := List Ru × Sv
def encH (p : Shv) : List Value := [sv p.2]
theorem encH_len (p : Shv) : (encH p).length = 1 := rfl
theorem encH_one (p : Shv) : ∀ u ∈ encH p, u.oneCell' = true := by
  intro u hu
  simp only [encH, List.mem_cons, List.mem_nil_iff, or_false] at hu
  subst hu; rfl
def shCells : List Shv → List Rw
  | [] => []
  | p :: ss => rwU (sv p.2) p.1 :: shCells ss
/-- A slice of sheets. -/
def rwH (v : Value) (ss : List Shv) : Rw := .sl v ss.length 1 131 (shCells ss)
theorem rwH_cell (v : Value) (ss : List Shv) : (rwH v ss).cell = v := rfl
theorem shCells_map : ∀ ss : List Shv, (shCells ss).map Rw.cell = ss.flatMap encH
  | [] => rfl
  | p :: ss => by rw [shCells, List.map_cons, shCells_map ss, List.flatMap_cons]; rfl
theorem shCells_len : ∀ ss : List Shv, (shCells ss).length = ss.length
  | [] => rfl
  | p :: ss => by rw [shCells, List.length_cons, shCells_len ss, List.length_cons]
theorem shCells_at : ∀ {ss : List Shv} {j : Nat} {p : Shv}, ss[j]? = some p → (shCells ss)[j]? = some (rwU (sv p.2) p.1)
  | [], j, p, h => by simp at h
  | q :: ss, 0, p, h => by
    have : q = p := by simpa using h
    subst this; rfl
  | q :: ss, j + 1, p, h => by
    have ih := shCells_at (ss := ss) (j := j) (by simpa using h)
    rw [shCells]
    simpa using ih
theorem shCells_mem : ∀ {ss : List Shv}, ∀ c ∈ shCells ss, ∃ p ∈ ss, c = rwU (sv p.2) p.1
  | [], c, h => by cases h
  | p :: ss, c, h => by
    rw [shCells] at h
    rcases List.mem_cons.1 h with h | h
    · exact ⟨p, List.mem_cons_self, h⟩
    · obtain ⟨q, hq, e⟩ := shCells_mem c h
      exact ⟨q, List.mem_cons_of_mem _ hq, e⟩
theorem sh_at {ss : List Shv} {j : Nat} (h : j < ss.length) : ∃ p, ss[j]? = some p := ⟨_, List.getElem?_eq_getElem h⟩
theorem rwH_is (v : Value) (ss : List Shv) : IsSheetS (rwH v ss) :=
  ⟨v, ss.length, _, shCells ss, rfl, fun j hj => by
    obtain ⟨p, h⟩ := sh_at hj
    exact ⟨_, shCells_at h, rwU_is _ _⟩⟩
theorem shCells_data : ∀ {ss us : List Shv}, ss.map Prod.fst = us.map Prod.fst → dataL (shCells ss) = dataL (shCells us)
  | [], [], _ => rfl
  | [], u :: us, h => by simp at h
  | t :: ss, [], h => by simp at h
  | t :: ss, u :: us, h => by
    rw [List.map_cons, List.map_cons] at h
    obtain ⟨h1, h2⟩ := List.cons.inj h
    rw [shCells, shCells, dataL, dataL, shCells_data h2, h1, rwU_data]
theorem rwH_data (v u : Value) {ss us : List Shv} (h : ss.map Prod.fst = us.map Prod.fst) : (rwH v ss).data = (rwH u us).data := by
  rw [rwH, rwH, Rw.data, Rw.data, shCells_data h]
/-- A slice of sheets, whole. -/
def ReadH (hi : Nat) (w : World) (v : Value) (ss : List Shv) : Prop := ReadsK encH 1 hi w v ss ∧ ∀ p ∈ ss, ReadsK encU 2 hi w (sv p.2) p.1
theorem ReadH.below {hi B : Nat} {w w' : World} {v : Value} {ss : List Shv} (h : ReadH hi w v ss) (hb : Below B w w') (hB : hi ≤ B) : ReadH hi w' v ss :=
  ⟨h.1.below hb hB, fun p hp => (h.2 p hp).below hb hB⟩
theorem ReadH.mono {hi hi' : Nat} {w : World} {v : Value} {ss : List Shv} (h : ReadH hi w v ss) (hh : hi ≤ hi') : ReadH hi' w v ss :=
  ⟨h.1.mono hh, fun p hp => (h.2 p hp).mono hh⟩
theorem ReadH.up {w w' : World} {v : Value} {ss : List Shv} (h : ReadH w.heap.size w v ss) (hb : Below w.heap.size w w') : ReadH w'.heap.size w' v ss :=
  (h.below hb (Nat.le_refl _)).mono hb.size
theorem rwH_reads {hi : Nat} {w : World} {v : Value} {ss : List Shv} (h : ReadH hi w v ss) : (rwH v ss).ReadR hi w := by
  rw [rwH, Rw.ReadR]
  have h0 := h.1
  obtain ⟨⟨a, cap, rfl, h1, h2, h3, h4⟩, hin⟩ := h
  refine ⟨⟨a, cap, rfl, by rw [shCells_len, Nat.mul_one], h1, h2, h3, ?_⟩, readRL_iff.2 fun c hc => ?_⟩
  · rcases h4 with h4 | ⟨g, off, rfl, hg, hc⟩
    · exact Or.inl h4
    · refine Or.inr ⟨g, off, rfl, hg, fun j c hj => ?_⟩
      rw [shCells_map] at hj
      have := h0.news encH_len j c hj
      rwa [add_off] at this
  · obtain ⟨p, hp, rfl⟩ := shCells_mem c hc
    exact rwU_reads (hin p hp)
theorem shCells_of {hi : Nat} {w : World} : ∀ {ss : List Shv} {cs : List Rw}, dataL cs = dataL (shCells ss) → ReadRL hi w cs →
    ∃ ss' : List Shv, ss'.map Prod.fst = ss.map Prod.fst ∧ cs.map Rw.cell = ss'.flatMap encH ∧ ∀ p ∈ ss', ReadsK encU 2 hi w (sv p.2) p.1
  | [], cs, h, _ => by
    cases cs with
    | nil => exact ⟨[], rfl, rfl, fun p hp => by cases hp⟩
    | cons c cs => rw [shCells, dataL, dataL] at h; cases h
  | q :: ss, cs, h, hr => by
    rw [shCells] at h
    rcases cs with _ | ⟨c0, cs⟩
    · simp [dataL] at h
    · simp only [dataL, List.cons.injEq] at h
      obtain ⟨h0, h1⟩ := h
      have hr' := readRL_iff.1 hr
      obtain ⟨ss', k1, k2, k3⟩ := shCells_of (ss := ss) (cs := cs) h1 (readRL_iff.2 fun c hc => hr' c (by simp [hc]))
      have ha := rules_of_data h0 (hr' c0 (by simp))
      obtain ⟨s, hs⟩ : ∃ s : Sv, c0.cell = sv s := by
        obtain ⟨a, cap, e, _⟩ := ha
        exact ⟨(a, _, cap), e⟩
      rw [hs] at ha
      refine ⟨(q.1, s) :: ss', by rw [List.map_cons, List.map_cons, k1], ?_, fun p hp => ?_⟩
      · rw [List.map_cons, k2, List.flatMap_cons, hs]; rfl
      · rcases List.mem_cons.1 hp with h | h
        · rw [h]; exact ha
        · exact k3 p h
theorem sheets_of_data {x : Rw} {u : Value} {ss : List Shv} {hi : Nat} {w : World} (h : x.data = (rwH u ss).data) (hr : x.ReadR hi w) : ∃ ss', ss'.map Prod.fst = ss.map Prod.fst ∧ ReadH hi w x.cell ss' := by
  cases x with
  | leaf v => rw [rwH, Rw.data, Rw.data] at h; cases h
  | sl v n k e cs =>
    rw [rwH, Rw.data, Rw.data] at h
    obtain ⟨rfl, hd⟩ := Dt.sl.inj h
    have hl : cs.length = ss.length := by have := congrArg List.length hd; rwa [dataL_len, dataL_len, shCells_len] at this
    rw [Rw.ReadR] at hr
    obtain ⟨⟨a, cap, rfl, h1, h2, h3, h4, h5⟩, hrl⟩ := hr
    obtain ⟨ss', k1, k2, k3⟩ := shCells_of hd hrl
    have hnl : ss'.length = ss.length := by have := congrArg List.length k1; simpa using this
    have hn : n = ss'.length := by omega
    subst hn
    refine ⟨ss', k1, ⟨a, cap, rfl, h2, h3, h4, ?_⟩, k3⟩
    rcases h5 with h5 | ⟨g, off, rfl, hg, hc⟩
    · exact Or.inl h5
    · refine Or.inr ⟨g, off, rfl, hg, fun j y hj i hi' => ?_⟩
      have hjl := (List.getElem?_eq_some_iff.1 hj).1
      obtain ⟨c, hcs⟩ : ∃ c, (cs.map Rw.cell)[j * 1 + i]? = some c := ⟨_, List.getElem?_eq_getElem (by rw [List.length_map]; omega)⟩
      rw [Nat.add_assoc, hc (j * 1 + i) c hcs, ← hcs, k2, flat_at encH_len hj hi']
/-- A sheet in such a slice. -/
theorem ReadH.sheet {hi n cap k : Nat} {w : World} {a : Option Addr} {ss : List Shv} {p : Shv} (h : ReadH hi w (.slice a n cap) ss) (hk : ss[k]? = some p) : ReadsK encU 2 hi w (sv p.2) p.1 := h.2 p (List.mem_of_getElem? hk)
theorem ReadH.at {hi n cap k : Nat} {w : World} {a : Option Addr} {ss : List Shv} {p : Shv} (h : ReadH hi w (.slice a n cap) ss) (hk : ss[k]? = some p) : ∃ g off, a = some ⟨g, off, none⟩ ∧ g < hi ∧ w.cell? ⟨g, off + k, none⟩ = some (sv p.2) := by
  obtain ⟨⟨a', c', e, _, _, _, hc⟩, _⟩ := h
  injection e with e1 e2 e3; subst e1
  rcases hc with h0 | ⟨g, off, rfl, hg, hc⟩
  · have := (List.getElem?_eq_some_iff.1 hk).1; omega
  · refine ⟨g, off, rfl, hg, ?_⟩
    have := hc k p hk 0 (by omega)
    rwa [Nat.mul_one] at this
theorem ReadH.form {hi : Nat} {w : World} {v : Value} {ss : List Shv} (h : ReadH hi w v ss) : ∃ a c, v = .slice a ss.length c ∧ ss.length ≤ c ∧ c ≤ 9223372036854775807 := by
  obtain ⟨⟨a, c, e, h1, h2, _⟩, _⟩ := h
  exact ⟨a, c, e, h1, h2⟩
/-- A rule in a slice of rules. -/
theorem ReadsK.rule {hi n cap k : Nat} {w : World} {a : Option Addr} {rs : List Ru} {r : Ru} (h : ReadsK encU 2 hi w (.slice a n cap) rs) (hk : rs[k]? = some r) : ∃ g off, a = some ⟨g, off, none⟩ ∧ g < hi ∧ w.cell? ⟨g, off + k * 2, none⟩ = some (.string r.1) ∧ w.cell? ⟨g, off + k * 2 + 1, none⟩ = some (.int .i64 r.2) := by
  obtain ⟨a', c', e, _, _, _, hc⟩ := h
  injection e with e1 e2 e3; subst e1
  rcases hc with h0 | ⟨g, off, rfl, hg, hc⟩
  · have := (List.getElem?_eq_some_iff.1 hk).1; omega
  · exact ⟨g, off, rfl, hg, hc k r hk 0 (by omega), hc k r hk 1 (by omega)⟩

/-- The rules of all sheets, in order. -/
def flatR (ss : List Shv) : List Ru := ss.flatMap Prod.fst
theorem flatR_take {ss : List Shv} {k : Nat} {p : Shv} (h : ss[k]? = some p) : flatR (ss.take (k + 1)) = flatR (ss.take k) ++ p.1 := by
  rw [flatR, List.take_add_one, h, List.flatMap_append]; simp [flatR]
theorem flatR_full {ss : List Shv} {k : Nat} (h : k = ss.length) : flatR (ss.take k) = flatR ss := by rw [h, List.take_length]
theorem flatR_of {ss us : List Shv} (h : ss.map Prod.fst = us.map Prod.fst) : flatR ss = flatR us := by
  rw [flatR, flatR, List.flatMap, List.flatMap, h]
/-- The color of the last rule for this name; 0 if there is none. -/
def colOf (rs : List Ru) (nm : ByteArray) : Int := rs.foldl (fun c r => if r.1 = nm then r.2 else c) 0
theorem colOf_nil (nm : ByteArray) : colOf [] nm = 0 := rfl
theorem colOf_snoc (rs : List Ru) (r : Ru) (nm : ByteArray) : colOf (rs ++ [r]) nm = if r.1 = nm then r.2 else colOf rs nm := by
  rw [colOf, List.foldl_append]; rfl
theorem take_snoc {α : Type} {xs : List α} {k : Nat} {x : α} (h : xs[k]? = some x) : xs.take (k + 1) = xs.take k ++ [x] := by
  rw [List.take_add_one, h]; rfl
/-- What a rule may be. -/
def RuOk (r : Ru) : Prop := r.1.size ≤ 9223372036854775807 ∧ -9223372036854775808 ≤ r.2 ∧ r.2 ≤ 9223372036854775807
theorem colF_range (nm : ByteArray) : ∀ (rs : List Ru) (c : Int), (-9223372036854775808 ≤ c ∧ c ≤ 9223372036854775807) → (∀ r ∈ rs, RuOk r) → -9223372036854775808 ≤ rs.foldl (fun c r => if r.1 = nm then r.2 else c) c ∧ rs.foldl (fun c r => if r.1 = nm then r.2 else c) c ≤ 9223372036854775807
  | [], _, hc, _ => hc
  | r :: rs, c, hc, h => by
    rw [List.foldl_cons]
    refine colF_range nm rs _ ?_ fun x hx => h x (List.mem_cons_of_mem _ hx)
    split
    · exact (h r List.mem_cons_self).2
    · exact hc
theorem colOf_range {rs : List Ru} {nm : ByteArray} (h : ∀ r ∈ rs, RuOk r) : -9223372036854775808 ≤ colOf rs nm ∧ colOf rs nm ≤ 9223372036854775807 :=
  colF_range nm rs 0 (by omega) h

end Go.Proofs.YtpkicliimhflgaaGreatDoor
namespace Go.Proofs.YtpkicliimhflgaaGreatDoor
open Go.ChangeShapes Go.WideShapes Go.ChangeAt Go.RowKit

/-- The rules at the places before k of sheet i, and all of the sheets before it. -/
def preR (ss : List Shv) (i : Nat) (rs : List Ru) (k : Nat) : List Ru := flatR (ss.take i) ++ rs.take k
theorem preR_zero (ss : List Shv) (i : Nat) (rs : List Ru) : preR ss i rs 0 = flatR (ss.take i) := by simp [preR]
theorem preR_full {ss : List Shv} {i k : Nat} {p : Shv} (h : ss[i]? = some p) (hk : k = p.1.length) : preR ss i p.1 k = flatR (ss.take (i + 1)) := by
  rw [flatR_take h, preR, hk, List.take_length]
theorem preR_snoc {ss : List Shv} {i k : Nat} {rs : List Ru} {r : Ru} (h : rs[k]? = some r) : preR ss i rs (k + 1) = preR ss i rs k ++ [r] := by
  rw [preR, preR, take_snoc h, List.append_assoc]

set_option maxRecDepth 100000 in
set_option maxHeartbeats 4000000 in
theorem colorOf_spec (v : Value) (ss : List Shv) (nm : ByteArray) (w : World) (h : ReadH w.heap.size w v ss) (hn : ss.length ≤ 1099511627776) (hr : ∀ p ∈ ss, p.1.length ≤ 1099511627776) :
    Calls Tryz.prog 74 #[v, .string nm] w fun e w' => e = .returned (.int .i64 (colOf (flatR ss) nm)) ∧ w = w' := by
  obtain ⟨a, cap, rfl, hc1, hc2⟩ := h.form
  obtain ⟨n, hnn⟩ : ∃ n, ss.length = n := ⟨_, rfl⟩
  rw [hnn] at h hc1 hn ⊢
  obtain ⟨C, hC⟩ : ∃ C, colOf (flatR ss) nm = C := ⟨_, rfl⟩
  rw [hC]
  have H := Lib.hid h; have HN := Lib.hid hnn; have HR := Lib.hid hr; have HC := Lib.hid hC
  clear h hnn hr hC
  go_enter Tryz.func74, Tryz.ntmps74
  go_wp2
  go_loopw [5] (fun i wr => ∃ (j : Nat), j ≤ n ∧ i = .int .i64 ((j : Int) - 1) ∧ colOf (flatR (ss.take j)) nm = C ∧ w = wr)
    (fun i _ => ((intOf i) + 1).toNat)
  case atStart => exact ⟨n, Nat.le_refl _, by go_num, by rw [flatR_full HN.out.symm]; exact HC.out, rfl⟩
  case round =>
    obtain ⟨j, hj, rfl, hcj, rfl⟩ := hrel
    have HCJ := Lib.hid hcj; clear hcj
    by_cases hlt : (0 : Int) ≤ (j : Int) - 1
    · obtain ⟨i, rfl⟩ : ∃ i, j = i + 1 := ⟨j - 1, by omega⟩
      have e1 : (((i + 1 : Nat) : Int) - 1) = (i : Int) := by omega
      rw [e1]
      have hi : i < n := by omega
      obtain ⟨p, hp⟩ := sh_at (ss := ss) (j := i) (by rw [HN.out]; omega)
      obtain ⟨g, off, rfl, hg, c0⟩ := H.out.at hp
      have hin := H.out.sheet hp
      have hpl := HR.out p (List.mem_of_getElem? hp)
      obtain ⟨rs, ⟨sa, sn, sc⟩⟩ := p
      replace c0 : w.cell? ⟨g, off + i, none⟩ = some (.slice sa sn sc) := c0
      replace hin : ReadsK encU 2 w.heap.size w (.slice sa sn sc) rs := hin
      replace hpl : rs.length ≤ 1099511627776 := hpl
      obtain ⟨_, _, e, hd1, hd2, _⟩ := id hin
      injection e with e2 e3 e4; subst e2; subst e4
      obtain ⟨m, hm⟩ : ∃ m, rs.length = m := ⟨_, rfl⟩
      rw [hm] at hpl hd1 e3
      subst e3
      have HIN := Lib.hid hin; have HM := Lib.hid hm; have HP := Lib.hid hp
      replace HCJ := Lib.hid (show colOf (preR ss i rs sn) nm = C by rw [preR_full hp hm.symm]; exact HCJ.out)
      clear hin hm hp hlt e1
      go_wp2
      go_loopw [6] (fun q wr => ∃ (k : Nat), k ≤ sn ∧ q = .int .i64 ((k : Int) - 1) ∧ colOf (preR ss i rs k) nm = C ∧ w = wr)
        (fun q _ => ((intOf q) + 1).toNat)
      case atStart => exact ⟨sn, Nat.le_refl _, by go_num, HCJ.out, rfl⟩
      case round =>
        obtain ⟨k', hk, rfl, hck, rfl⟩ := hrel
        have HCK := Lib.hid hck; clear hck
        by_cases hlt : (0 : Int) ≤ (k' : Int) - 1
        · obtain ⟨k, rfl⟩ : ∃ k, k' = k + 1 := ⟨k' - 1, by omega⟩
          have e1 : (((k + 1 : Nat) : Int) - 1) = (k : Int) := by omega
          rw [e1]
          have hk2 : k < sn := by omega
          obtain ⟨x, y, hx⟩ := ru_at (xs := rs) (j := k) (by rw [HM.out]; omega)
          obtain ⟨g', off', rfl, hg', d0, d1⟩ := HIN.out.rule hx
          replace d0 : w.cell? ⟨g', off' + k * 2, none⟩ = some (.string x) := d0
          replace d1 : w.cell? ⟨g', off' + k * 2 + 1, none⟩ = some (.int .i64 y) := d1
          have HX := Lib.hid (show (if x = nm then y else colOf (preR ss i rs k) nm) = C by have := HCK.out; rw [preR_snoc hx, colOf_snoc] at this; exact this)
          clear hx hlt e1
          by_cases e : x = nm
          · have e2 : (x.toList == nm.toList) = true := beqL_yes e
            have HY := Lib.hid (show y = C by have := HX.out; rwa [if_pos e] at this)
            clear e
            go_wp2
            go_ret
            exact ⟨by rw [HY.out]; rfl, rfl⟩
          · have e2 : (x.toList == nm.toList) = false := beqL_no e
            have HY := Lib.hid (show colOf (preR ss i rs k) nm = C by have := HX.out; rwa [if_neg e] at this)
            clear e
            go_wp2
            go_roundw
            case rel => exact ⟨k, by omega, by go_num, HY.out, by first | trivial | rfl⟩
            case measure => simp [intOf]
        · have hk0 : k' = 0 := by omega
          subst hk0
          have HY := Lib.hid (show colOf (flatR (ss.take i)) nm = C by have := HCK.out; rwa [preR_zero] at this)
          go_wp2
          go_roundw
          case rel => exact ⟨i, by omega, by go_num, HY.out, by first | trivial | rfl⟩
          case measure => simp [intOf]
    · have hj0 : j = 0 := by omega
      subst hj0
      have HY := Lib.hid (show (0 : Int) = C by have := HCJ.out; simpa [flatR, colOf] using this)
      go_wp2
      go_ret
      exact ⟨by rw [HY.out]; rfl, rfl⟩

end Go.Proofs.YtpkicliimhflgaaGreatDoor
namespace Go.Proofs.YtpkicliimhflgaaGreatDoor
open Go.ChangeShapes Go.WideShapes Go.ChangeAt Go.RowKit Go.Maps Go.WideMaps

theorem lawStr : Keyed Tryz.prog 9 := string_keyed Tryz.underlying9
theorem zeroInt (w : World) : (zeroValue 3).run Tryz.prog w = .ok (.int .i64 0) w := by kernel_rfl
def keyS (s : ByteArray) : Lit := .string s.data.toList
theorem keyS_of {s : ByteArray} (h : s.size ≤ 9223372036854775807) : keyOf Tryz.prog 9 (.string s) = some (keyS s) := keyOf_string_mk Tryz.underlying9 (by unfold maxLen; omega)
theorem keyS_ne {s t : ByteArray} (h : s ≠ t) : keyS s ≠ keyS t := fun e => h (bytesEq (Lit.string.inj e))
def numS (n : Int) : DataW Unit := .lit (.int .i64 n)
/-- What the map holds behind these rules. -/
def colD (rs : List Ru) : DataW Unit := rs.foldl (fun m r => m.put (keyS r.1) (numS r.2)) (.map [])
theorem colD_nil : colD [] = .map [] := rfl
theorem colD_snoc (rs : List Ru) (r : Ru) : colD (rs ++ [r]) = (colD rs).put (keyS r.1) (numS r.2) := by rw [colD, List.foldl_append]; rfl
theorem colF_map : ∀ (rs : List Ru) (m : DataW Unit), IsMap m → IsMap (rs.foldl (fun m r => m.put (keyS r.1) (numS r.2)) m)
  | [], _, h => h
  | _ :: rs, _, h => colF_map rs _ (h.put _ _)
theorem colD_map (rs : List Ru) : IsMap (colD rs) := colF_map rs _ isMap_empty
theorem colF_at (nm : ByteArray) : ∀ (rs : List Ru) (m : DataW Unit) (c : Int), IsMap m → m.atKey (keyS nm) (numS 0) = numS c →
    (rs.foldl (fun m r => m.put (keyS r.1) (numS r.2)) m).atKey (keyS nm) (numS 0) = numS (rs.foldl (fun c r => if r.1 = nm then r.2 else c) c)
  | [], _, _, _, h => h
  | r :: rs, m, c, hm, h => by
    rw [List.foldl_cons, List.foldl_cons]
    refine colF_at nm rs _ _ (hm.put _ _) ?_
    by_cases e : r.1 = nm
    · rw [if_pos e, e]; exact atKey_put_same hm (by unfold keyS WideAt.IsKeyLit; trivial) _ _
    · rw [if_neg e, atKey_put_other (keyS_ne (Ne.symm e))]; exact h
theorem colD_at (rs : List Ru) (nm : ByteArray) : (colD rs).atKey (keyS nm) (numS 0) = numS (colOf rs nm) := colF_at nm rs _ 0 isMap_empty rfl
theorem numS_inj {a b : Int} (h : numS a = numS b) : a = b := by
  unfold numS at h
  injection h with h
  injection h

theorem wf_int {n : Int} (h1 : -9223372036854775808 ≤ n) (h2 : n ≤ 9223372036854775807) : (Lit.int .i64 n).wf = true := by
  simp only [Lit.wf, IntKind.min, IntKind.max, IntKind.signed, IntKind.bits, Bool.and_eq_true, decide_eq_true_eq, if_true]; omega

/-- The map of these rules' colors. -/
def IsCol (w : World) (b : Nat) (rs : List Ru) : Prop := w.ownsMap Tryz.prog 9 (plainElem Tryz.prog 3) b rs.length (colD rs)
theorem IsCol.kept {w w' : World} {b : Nat} {rs : List Ru} (h : IsCol w b rs) (hb : Below w.heap.size w w') : IsCol w' b rs := by
  have hlt := World.ownsMap.lt h
  obtain ⟨es, clock, h1, h2, h3, h4⟩ := h
  exact ⟨es, clock, by rw [hb.block b hlt]; exact h1, h2, h3, h4⟩

set_option maxRecDepth 100000 in
set_option maxHeartbeats 4000000 in
theorem colors_any (v : Value) (ss : List Shv) (w : World) (h : ReadH w.heap.size w v ss) (hn : ss.length ≤ 1099511627776) (hr : ∀ p ∈ ss, p.1.length ≤ 1099511627776) (hok : ∀ p ∈ ss, ∀ r ∈ p.1, RuOk r) (htot : (flatR ss).length ≤ 1099511627776) :
    Calls Tryz.prog 201 #[v] w fun e w' => e = .returned (.map (some w.heap.size)) ∧ IsCol w' w.heap.size (flatR ss) ∧ Below w.heap.size w w' := by
  have hmm := @run_makeMap Tryz.prog
  obtain ⟨a, cap, rfl, hc1, hc2⟩ := h.form
  obtain ⟨n, hnn⟩ : ∃ n, ss.length = n := ⟨_, rfl⟩
  rw [hnn] at h hc1 hn ⊢
  have H := Lib.hid h; have HN := Lib.hid hnn; have HR := Lib.hid hr; have HOK := Lib.hid hok; have HT := Lib.hid htot
  clear h hnn hr hok htot
  go_enter Tryz.func201, Tryz.ntmps201
  go_wp2
  go_loopw [11] (fun i wr => ∃ (j : Nat), j ≤ n ∧ i = .int .i64 j ∧ IsCol wr w.heap.size (flatR (ss.take j)) ∧ Below w.heap.size w wr)
    (fun i _ => n - (intOf i).toNat)
  case atStart => exact ⟨0, Nat.zero_le _, rfl, World.ownsMap_made _ _ _ _, (Below.refl _ _).alloc (Nat.le_refl _) _⟩
  case round =>
    obtain ⟨i, hj, rfl, hown, hb⟩ := hrel
    have HO := Lib.hid hown; have HB := Lib.hid hb; clear hown hb
    by_cases hlt : (i : Int) < (n : Int)
    · obtain ⟨p, hp⟩ := sh_at (ss := ss) (j := i) (by rw [HN.out]; omega)
      obtain ⟨g, off, rfl, hg, c0⟩ := H.out.at hp
      have hin := H.out.sheet hp
      have hpl := HR.out p (List.mem_of_getElem? hp)
      have hpo := HOK.out p (List.mem_of_getElem? hp)
      obtain ⟨rs, ⟨sa, sn, sc⟩⟩ := p
      replace c0 : wr.cell? ⟨g, off + i, none⟩ = some (.slice sa sn sc) := by rw [HB.out.cell (show g < _ by omega)]; exact c0
      replace hin : ReadsK encU 2 w.heap.size w (.slice sa sn sc) rs := hin
      replace hpl : rs.length ≤ 1099511627776 := hpl
      obtain ⟨_, _, e, hd1, hd2, _⟩ := id hin
      injection e with e2 e3 e4; subst e2; subst e4
      obtain ⟨m, hm⟩ : ∃ m, rs.length = m := ⟨_, rfl⟩
      rw [hm] at hpl hd1 e3
      subst e3
      have HIN := Lib.hid hin; have HM := Lib.hid hm; have HP := Lib.hid hp; have HPO := Lib.hid hpo
      clear hin hm hp hpo
      have HTI := Lib.hid (show ∀ k, (preR ss i rs k).length ≤ 1099511627776 from fun k => by
        refine Nat.le_trans ?_ HT.out
        have h1 := flatR_take HP.out
        have h2 : (flatR (ss.take (i + 1))).length ≤ (flatR ss).length := by
          conv => rhs; rw [← List.take_append_drop (i + 1) ss, flatR, List.flatMap_append]
          rw [List.length_append]; exact Nat.le_add_right _ _
        rw [h1, List.length_append] at h2
        have h3 := List.length_take_le' k rs
        rw [preR, List.length_append]
        exact Nat.le_trans (Nat.add_le_add_left h3 _) h2)
      replace HO := Lib.hid (show IsCol wr w.heap.size (preR ss i rs 0) by rw [preR_zero]; exact HO.out)
      go_wp2
      go_loopw [18] (fun q wr => ∃ (k : Nat), k ≤ sn ∧ q = .int .i64 k ∧ IsCol wr w.heap.size (preR ss i rs k) ∧ Below w.heap.size w wr)
        (fun q _ => sn - (intOf q).toNat)
      case atStart => exact ⟨0, Nat.zero_le _, rfl, HO.out.kept ((Below.refl _ _).alloc (Nat.le_refl _) _), HB.out.alloc HB.out.size _⟩
      case round =>
        obtain ⟨k, hk, rfl, hown, hb⟩ := hrel
        clear HO HB
        have HO := Lib.hid hown; have HB := Lib.hid hb; clear hown hb
        by_cases hlt2 : (k : Int) < (sn : Int)
        · obtain ⟨x, y, hx⟩ := ru_at (xs := rs) (j := k) (by rw [HM.out]; omega)
          obtain ⟨g', off', rfl, hg', d0, d1⟩ := HIN.out.rule hx
          replace d0 : wr.cell? ⟨g', off' + k * 2, none⟩ = some (.string x) := by rw [HB.out.cell (show g' < _ by omega)]; exact d0
          replace d1 : wr.cell? ⟨g', off' + k * 2 + 1, none⟩ = some (.int .i64 y) := by rw [HB.out.cell (show g' < _ by omega)]; exact d1
          have hro := HPO.out (x, y) (List.mem_of_getElem? hx)
          have hkey : keyOf Tryz.prog 9 (.string x) = some (keyS x) := keyS_of hro.1
          have hwf := wf_int hro.2.1 hro.2.2
          have htk := HTI.out k
          have HX := Lib.hid (preR_snoc (ss := ss) (i := i) hx)
          clear hx hro
          have hownA := World.ownsMap.alloc HO.out (.cells #[.string x, .int .i64 y] 180)
          go_wp2_with (first
            | (at_mapUpdate; refine wpList_mapUpdate_own _ rfl _ _ _ 251 rfl 9 3 lawStr Tryz.underlying251 _ w.heap.size _ _ rfl hownA (by unfold maxLen; omega) _ _ _ rfl rfl hkey _ [] (plainElem_int Tryz.underlying3 hwf) ?_)
            | go_in)
          intro w1 hown1 hgrow1
          have R1 := Lib.hid (show IsCol w1 w.heap.size (preR ss i rs (k + 1)) by rw [HX.out, IsCol, colD_snoc, List.length_append]; exact hown1)
          have R2 := Lib.hid ((HB.out.alloc HB.out.size (.cells #[.string x, .int .i64 y] 180)).grown hgrow1 (Nat.le_trans HB.out.size (by rw [size_alloc]; omega)) (fun j hj => by cases hj; exact Nat.le_refl _))
          clear hown1 hgrow1 hownA hkey
          go_wp2
          go_roundw
          case rel => exact ⟨k + 1, by omega, by go_num, R1.out, R2.out⟩
          case measure => simp [intOf]; omega
        · have hkn : k = sn := by omega
          subst hkn
          have HY := Lib.hid (show IsCol wr w.heap.size (flatR (ss.take (i + 1))) by rw [← preR_full HP.out HM.out.symm]; exact HO.out)
          go_wp2
          go_roundw
          case rel => exact ⟨i + 1, by omega, by go_num, HY.out, HB.out⟩
          case measure => simp [intOf]; omega
    · have hjn : i = n := by omega
      subst hjn
      have HY := Lib.hid (show IsCol wr w.heap.size (flatR ss) by have := HO.out; rwa [flatR_full HN.out.symm] at this)
      go_wp2
      go_ret
      exact ⟨rfl, HY.out, HB.out⟩

set_option maxRecDepth 100000 in
set_option maxHeartbeats 4000000 in
theorem colorOf_impl (v : Value) (ss : List Shv) (nm : ByteArray) (hnm : nm.size ≤ 9223372036854775807) (w : World) (h : ReadH w.heap.size w v ss) (hn : ss.length ≤ 1099511627776) (hr : ∀ p ∈ ss, p.1.length ≤ 1099511627776) (hok : ∀ p ∈ ss, ∀ r ∈ p.1, RuOk r) (htot : (flatR ss).length ≤ 1099511627776) :
    Calls Tryz.prog 193 #[v, .string nm] w fun e w' => e = .returned (.int .i64 (colOf (flatR ss) nm)) ∧ Below w.heap.size w w' := by
  obtain ⟨a, cap, rfl, hc1, hc2⟩ := h.form
  have HCM := Lib.hid (colors_any _ ss w h hn hr hok htot)
  have hkey : keyOf Tryz.prog 9 (.string nm) = some (keyS nm) := keyS_of hnm
  clear h hr hok htot
  go_enter Tryz.func193, Tryz.ntmps193
  go_wp2_with (first
    | (go_at_call 201; refine HCM.out.mono ?_; rintro e w1 ⟨rfl, hcol, hb⟩)
    | (at_lookup; refine wpList_lookup_own_int _ rfl _ _ 251 rfl 9 3 .i64 lawStr Tryz.underlying251 Tryz.underlying3 (zeroInt _) _ _ _ rfl hcol _ _ rfl hkey ?_; intro c hat hwc))
  obtain rfl : colOf (flatR ss) nm = c := numS_inj ((colD_at _ _).symm.trans hat)
  go_ret
  exact ⟨rfl, hb⟩

end Go.Proofs.YtpkicliimhflgaaGreatDoor

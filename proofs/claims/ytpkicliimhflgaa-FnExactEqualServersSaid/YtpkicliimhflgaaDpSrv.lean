/- Helper contracts over the functions with which the laws copy, compare, measure and mark slices, by program (deep.py). Asked: what lies in memory is as named. -/
import Derived.Test.YtpkicliimhflgaaDpFile
import Derived.Test.YtpkicliimhflgaaRawL
import Derived.Shelf.SlSortCmp.QuietGrown
namespace Go.Proofs.Ytpkicliimhflgaa
open Go.ChangeShapes Go.WideShapes Go.ChangeAt Go.RowKit

set_option maxHeartbeats 2000000 in
theorem eq_Server (a0 : ByteArray) (a1 b1 : Rw) (w : World) (hx1 : IsFileS a1) (hy1 : IsFileS b1) (hd1 : a1.data = b1.data) (rx1 : a1.ReadR w.heap.size w) (ry1 : b1.ReadR w.heap.size w) :
    Calls Try.prog 23 #[.agg #[.string a0, a1.cell], .agg #[.string a0, b1.cell]] w fun e w' => e = .returned (.bool true) ∧ Grw w w' := by
  have e0 : (a0.toList == a0.toList) = true := beqL_yes rfl
  go_enter Try.func23, Try.ntmps23
  go_wp2_with fail
  obtain ⟨w0, hw0⟩ : ∃ x, ((w.alloc (.cells #[.string a0, a1.cell] 47)).alloc (.cells #[.string a0, b1.cell] 47)) = x := ⟨_, rfl⟩
  rw [hw0]
  have HG0 := Lib.hid (show Grw w w0 by rw [← hw0]; exact ((Grw.refl w).alloc _).alloc _)
  clear hw0
  refine (eq_FileS a1 b1 hx1 hy1 hd1 _ (rx1.up HG0.out) (ry1.up HG0.out)).mono ?_
  rintro e w1 ⟨rfl, hg1⟩
  have HG1 := Lib.hid (HG0.out.trans hg1); clear hg1
  go_wp2_with fail
  go_ret
  exact ⟨rfl, HG1.out⟩

def SzServer (a0 : ByteArray) (a1 : Rw) (left : Int) (w : World) (e : Ending) (w' : World) : Prop :=
  ∃ r : Int, e = .returned (.int .i64 r) ∧ -1 ≤ r ∧ (0 ≤ r → r + (a0.size : Nat) + (a1.weight : Nat) = left) ∧ Grw w w'
set_option maxRecDepth 100000 in
set_option maxHeartbeats 4000000 in
theorem sz_Server (a0 : ByteArray) (a1 : Rw) (left : Int) (l1 : 0 ≤ left) (l2 : left ≤ 1099511627776) (w : World) (z0 : a0.size ≤ 9223372036854775807) (hx1 : IsFileS a1) (rx1 : a1.ReadR w.heap.size w) (z1 : a1.Small) :
    Calls Try.prog 15 #[.agg #[.string a0, a1.cell], .int .i64 left] w (SzServer a0 a1 left w) := by
  have HB := Lib.hid ((Grw.refl w).alloc (.cells #[.string a0, a1.cell] 41))
  have HR1 := Lib.hid (rx1.up HB.out)
  obtain ⟨xa1, xn1, xc1, hxc1⟩ := sl_form (is_sl_FileS hx1) rx1
  rw [hxc1] at HB ⊢
  rw [hxc1] at HR1
  by_cases c0 : left - (a0.size : Int) < 0
  · go_enter Try.func15, Try.ntmps15
    go_wp2_with fail
    go_ret
    exact ⟨-1, rfl, by omega, by omega, HB.out⟩
  have hsz1 := sz_FileS a1 hx1 (left - (a0.size : Int)) (by omega) (by omega) _ HR1.out z1
  simp only [hxc1] at hsz1
  have HSZ1 := Lib.hid hsz1; clear hsz1
  go_enter Try.func15, Try.ntmps15
  go_wp2_with fail
  refine HSZ1.out.mono ?_
  rintro e w1 ⟨r1, rfl, lo1, hr1, hg1⟩
  have HG1 := Lib.hid (HB.out.trans hg1); clear hg1
  by_cases d1 : r1 < 0
  · go_wp2_with fail
    go_ret
    exact ⟨-1, rfl, by omega, by omega, HG1.out⟩
  replace hr1 := hr1 (by omega)
  go_wp2_with fail
  go_ret
  exact ⟨r1, rfl, by omega, by omega, HG1.out⟩

set_option maxRecDepth 100000 in
set_option maxHeartbeats 4000000 in
theorem toL_Server (a0 : ByteArray) (a1 : Rw) (w : World) (hx1 : IsFileS a1) (rx1 : a1.ReadR w.heap.size w) (hl1 : a1.weight ≤ 1099511627776) :
    Calls Try.prog 19 #[.agg #[.string a0, a1.cell]] w fun e w' => ∃ b1 : Rw, e = .returned (.agg #[.string a0, b1.cell]) ∧ IsFileS b1 ∧ b1.data = a1.data ∧ OwnRL w.heap.size w'.heap.size w' [b1] ∧ (blocksL [b1]).Nodup ∧ Below w.heap.size w w' := by
  obtain ⟨xa1, xn1, xc1, hxc1⟩ := sl_form (is_sl_FileS hx1) rx1
  obtain ⟨W, hW⟩ : ∃ W, ((w.alloc (.cells #[.string a0, .slice xa1 xn1 xc1] 41)).alloc (.cells #[.string ⟨#[]⟩, .slice none 0 0] 47)).alloc (.cells #[.string a0, .slice none 0 0] 47) = W := ⟨_, rfl⟩
  have hg0 : Grw w W := by rw [← hW]; exact (((Grw.refl w).alloc _).alloc _).alloc _
  have ho : W.heap[w.heap.size + 2]? = some (.cells #[.string a0, .slice none 0 0] 47 (0, 0)) := by rw [← hW]; exact three_new2 w _ _ _
  have hz : W.heap[w.heap.size + 1]? = some (.cells #[.string ⟨#[]⟩, .slice none 0 0] 47 (0, 0)) := by rw [← hW]; exact three_new1 w _ _ _
  have ha : W.heap[w.heap.size]? = some (.cells #[.string a0, .slice xa1 xn1 xc1] 41 (0, 0)) := by rw [← hW]; exact three_new0 w _ _ _
  have HSZ := Lib.hid (show w.heap.size + 3 ≤ W.heap.size by rw [← hW, size_alloc, size_alloc, size_alloc]; exact Nat.le_refl _)
  have HTO1 := Lib.hid (fun (V : World) (hv : Below w.heap.size w V) => by have hr := to_FileS a1 hx1 V (Rw.ReadR.mono hv.size _ (Rw.ReadR.below hv (Nat.le_refl _) _ rx1)) hl1; rw [hxc1] at hr; exact hr)
  rw [hxc1]
  have HB := Lib.hid hg0.below; have HO := Lib.hid ho; have HZ := Lib.hid hz; have HA := Lib.hid ha; have HW := Lib.hid hW
  clear rx1 hxc1 hg0 ho hz ha hW
  go_enter Try.func19, Try.ntmps19
  go_wp2_with fail
  rw [HW.out]
  refine (HTO1.out _ HB.out).mono ?_
  rintro e w1 ⟨y1, rfl, hy1, hd1, hn1, ho1, hb⟩
  obtain ⟨ya1, yn1, yc1, hyc1⟩ := sl_form (is_sl_FileS hy1) (Rw.OwnR.reads _ ho1)
  rw [hyc1]
  have HY1 := Lib.hid hy1; have HD1 := Lib.hid hd1; have HN1 := Lib.hid hn1; have HYC1 := Lib.hid hyc1; clear hy1 hd1 hn1 hyc1
  have HOW1 := Lib.hid (own_mono ho1 HSZ.out (Nat.le_refl _)); clear ho1
  have h1 := below_heap hb (heap_lt HO.out) HO.out; have h2 := below_heap hb (heap_lt HA.out) HA.out; have h3 := below_heap hb (heap_lt HZ.out) HZ.out
  replace HB := Lib.hid (HB.out.trans (hb.mono HB.out.size)); replace HSZ := Lib.hid (Nat.le_trans HSZ.out hb.size); clear hb
  have oq0 := box_cell h1 (j := 0) rfl; have oz0 := box_frz h1 0
  have oq1 := box_cell h1 (j := 1) rfl; have oz1 := box_frz h1 1
  have pq0 := box_cell h2 (j := 0) rfl
  have pq1 := box_cell h2 (j := 1) rfl
  have sq0 := box_cell h3 (j := 0) rfl; have sz0 := box_frz h3 0
  have sq1 := box_cell h3 (j := 1) rfl; have sz1 := box_frz h3 1
  replace HO := Lib.hid h1; replace HA := Lib.hid h2; replace HZ := Lib.hid h3; clear h1 h2 h3
  go_wp2_with fail
  have h1 := HO.out; have h2 := HA.out; have h3 := HZ.out
  replace h1 := heap_one (o := 1) h1 (.slice ya1 yn1 yc1)
  replace h2 := box_far h2 (show w.heap.size ≠ w.heap.size + 2 by omega) 1 (.slice ya1 yn1 yc1)
  replace h3 := box_far h3 (show w.heap.size + 1 ≠ w.heap.size + 2 by omega) 1 (.slice ya1 yn1 yc1)
  replace h1 : (w1.setCell ⟨w.heap.size + 2, 1, none⟩ (.slice ya1 yn1 yc1)).heap[w.heap.size + 2]? = some (.cells #[.string a0, .slice ya1 yn1 yc1] 47 (0, 0)) := h1
  replace h3 := heap_one (o := 0) h3 (.string a0)
  replace h3 := heap_one (o := 1) h3 (.slice ya1 yn1 yc1)
  replace h3 : (((w1.setCell ⟨w.heap.size + 2, 1, none⟩ (.slice ya1 yn1 yc1)).setCell ⟨w.heap.size + 1, 0, none⟩ (.string a0)).setCell ⟨w.heap.size + 1, 1, none⟩ (.slice ya1 yn1 yc1)).heap[w.heap.size + 1]? = some (.cells #[.string a0, .slice ya1 yn1 yc1] 47 (0, 0)) := h3
  have HON := Lib.hid (show OnlyB [w.heap.size + 1, w.heap.size + 2] w1 (((w1.setCell ⟨w.heap.size + 2, 1, none⟩ (.slice ya1 yn1 yc1)).setCell ⟨w.heap.size + 1, 0, none⟩ (.string a0)).setCell ⟨w.heap.size + 1, 1, none⟩ (.slice ya1 yn1 yc1)) from (((OnlyB.refl _ w1).set (by simp)).set (by simp)).set (by simp))
  replace HOW1 := Lib.hid (Rw.OwnR.top (Rw.OwnR.only HON.out y1 HOW1.out fun b hb hm => by have h := (Rw.OwnR.lt y1 HOW1.out b hb).1; simp only [List.mem_cons, List.mem_nil_iff, or_false] at hm; omega))
  replace HB := Lib.hid (HB.out.trans (HON.out.below (fun b hb => by simp only [List.mem_cons, List.mem_nil_iff, or_false] at hb; omega) HB.out.size)); replace HSZ := Lib.hid (Nat.le_trans HSZ.out HON.out.size)
  clear HON
  have fq0 := box_cell h3 (j := 0) rfl
  have fq1 := box_cell h3 (j := 1) rfl
  refine bodyPost_ret (v := .agg #[.string a0, .slice ya1 yn1 yc1]) (by simp [results, Try.results19, go_sem, fq0, fq1]) rfl ?_
  refine ⟨y1, by rw [HYC1.out], HY1.out, HD1.out, ?_, ?_, HB.out⟩
  · refine ownRL_iff.2 fun c hc => ?_
    simp only [List.mem_cons, List.mem_nil_iff, or_false] at hc
    rcases hc with rfl
    exact own_mono HOW1.out (by omega) (Nat.le_refl _)
  · simp only [blocksL, List.append_nil]
    exact HN1.out

/-- What a slice of this type holds. -/
def IsServerS (x : Rw) : Prop := ∃ v n e cs, x = .sl v n 2 e cs ∧ ∀ j, j < n → ∃ (a0 : ByteArray) (a1 : Rw), cs[j * 2]? = some (.leaf (.string a0)) ∧ cs[j * 2 + 1]? = some a1 ∧ IsFileS a1
theorem is_sl_ServerS {x : Rw} (h : IsServerS x) : ∃ v n k e cs, x = .sl v n k e cs := by
  obtain ⟨v, n, e, cs, rfl, _⟩ := h
  exact ⟨v, n, _, e, cs, rfl⟩

set_option maxRecDepth 100000 in
set_option maxHeartbeats 4000000 in
theorem eq_ServerS (x y : Rw) (hx : IsServerS x) (hy : IsServerS y) (hd : x.data = y.data) (w : World) (rx : x.ReadR w.heap.size w) (ry : y.ReadR w.heap.size w) :
    Calls Try.prog 12 #[x.cell, y.cell] w fun e w' => e = .returned (.bool true) ∧ Grw w w' := by
  have mixed : Try.prog.follows .mixedOrders = true := by kernel_rfl
  obtain ⟨v, n, e0, cs, rfl, hrow⟩ := hx
  obtain ⟨v', n', e0', cs', rfl, hrow'⟩ := hy
  rw [Rw.data, Rw.data] at hd
  have hdd := (Dt.sl.inj hd).2; clear hd
  rw [Rw.ReadR] at rx ry
  rw [Rw.cell_sl, Rw.cell_sl]
  obtain ⟨⟨a, cap, rfl, hlen, hc1, hc2, _, hcells⟩, hin⟩ := rx
  obtain ⟨⟨a', cap', rfl, hlen', hc1', hc2', _, hcells'⟩, hin'⟩ := ry
  have hnn : n = n' := by have := congrArg List.length hdd; rw [dataL_len, dataL_len] at this; omega
  subst hnn
  have HROW := Lib.hid hrow; have HROW' := Lib.hid hrow'; have HD := Lib.hid hdd; have HC := Lib.hid hcells; have HC' := Lib.hid hcells'; have HIN := Lib.hid hin; have HIN' := Lib.hid hin'
  clear hrow hrow' hdd hcells hcells' hin hin' hlen hlen'
  go_enter Try.func12, Try.ntmps12
  go_wp2
  go_loopw [5] (fun i wr => ∃ (j : Nat), j ≤ n ∧ i = .int .i64 j ∧ Grw w wr)
    (fun i _ => n - (intOf i).toNat)
  case atStart => exact ⟨0, Nat.zero_le _, rfl, Grw.refl _⟩
  case round =>
    obtain ⟨j, hj, rfl, hs⟩ := hrel
    have HS := Lib.hid hs
    clear hs
    by_cases hlt : (j : Int) < (n : Int)
    · rcases HC.out with h0 | ⟨g, off, rfl, hg, hcells⟩
      · omega
      · rcases HC'.out with h0 | ⟨g', off', rfl, hg', hcells'⟩
        · omega
        · have HCL := Lib.hid hcells; have HCL' := Lib.hid hcells'; clear hcells hcells'
          obtain ⟨a0, a1, f0, f1, s1⟩ := HROW.out j (by omega)
          obtain ⟨b0, b1, f0', f1', s1'⟩ := HROW'.out j (by omega)
          have hd0 := data_same HD.out f0 f0'
          have hv0 := leaf_same hd0; obtain rfl : a0 = b0 := by cases hv0; rfl
          clear hd0 hv0
          have c0 : ∀ m os, (Sort.grow (wr.drewN m) os).cell? ⟨g, off + j * 2, none⟩ = some (.string a0) := cell_grown (show g < wr.heap.size by have := HS.out.below.size; omega) (by rw [HS.out.below.cell (show g < _ by omega)]; exact HCL.out (j * 2) _ (by rw [List.getElem?_map, f0]; rfl))
          have c0' : ∀ m os, (Sort.grow (wr.drewN m) os).cell? ⟨g', off' + j * 2, none⟩ = some (.string a0) := cell_grown (show g' < wr.heap.size by have := HS.out.below.size; omega) (by rw [HS.out.below.cell (show g' < _ by omega)]; exact HCL'.out (j * 2) _ (by rw [List.getElem?_map, f0']; rfl))
          have hd1 := data_same HD.out f1 f1'
          have c1 : ∀ m os, (Sort.grow (wr.drewN m) os).cell? ⟨g, off + j * 2 + 1, none⟩ = some (a1.cell) := cell_grown (show g < wr.heap.size by have := HS.out.below.size; omega) (by rw [HS.out.below.cell (show g < _ by omega)]; rw [Nat.add_assoc]; exact HCL.out (j * 2 + 1) _ (by rw [List.getElem?_map, f1]; rfl))
          have c1' : ∀ m os, (Sort.grow (wr.drewN m) os).cell? ⟨g', off' + j * 2 + 1, none⟩ = some (b1.cell) := cell_grown (show g' < wr.heap.size by have := HS.out.below.size; omega) (by rw [HS.out.below.cell (show g' < _ by omega)]; rw [Nat.add_assoc]; exact HCL'.out (j * 2 + 1) _ (by rw [List.getElem?_map, f1']; rfl))
          have HE := Lib.hid (fun (n : Nat) (os : Array Obj) => (show Grw w wr from HS.out) |> fun HG0 => eq_Server a0 a1 b1 (Sort.grow (wr.drewN n) os) s1 s1' hd1 ((HG0.trans ⟨n, os, rfl⟩).rd (readRL_iff.1 HIN.out _ (List.mem_of_getElem? f1))) ((HG0.trans ⟨n, os, rfl⟩).rd (readRL_iff.1 HIN'.out _ (List.mem_of_getElem? f1'))))
          clear f0 f0' f1 f1'
          go_wp2_with fail
          refine wp_region_quiet_grown mixed (by kernel_rfl) ?_
          repeat (go_big_quiet_step (first | (go_at_call 23; refine Calls.grown_of (HE.out _ _))))
          refine wpQuiet_nil ?_; intro _ hw'; obtain ⟨⟨nq, osq⟩, hw''⟩ := hw'; subst hw''
          have HG1 := Lib.hid (HS.out.trans ⟨nq, osq, rfl⟩)
          obtain ⟨w1, hw1⟩ : ∃ x, Sort.grow (wr.drewN nq) osq = x := ⟨_, rfl⟩
          rw [hw1] at HG1 ⊢; clear hw1 c0 c0' c1 c1'
          go_wp2_with fail
          go_roundw
          case rel => exact ⟨j + 1, by omega, by go_num, HG1.out⟩
          case measure => simp [intOf]; omega
    · have hkn : decide ((j : Int) < (n : Int)) = false := decide_eq_false hlt
      go_wp2_with fail
      go_ret
      exact ⟨rfl, HS.out⟩

set_option maxRecDepth 100000 in
set_option maxHeartbeats 4000000 in
theorem sz_ServerS (x : Rw) (hx : IsServerS x) (left : Int) (l1 : 0 ≤ left) (l2 : left ≤ 1099511627776) (w : World) (rx : x.ReadR w.heap.size w) (hz : x.Small) :
    Calls Try.prog 5 #[x.cell, .int .i64 left] w fun e w' => ∃ r : Int, e = .returned (.int .i64 r) ∧ -1 ≤ r ∧ (0 ≤ r → r + (x.weight : Nat) = left) ∧ Grw w w' := by
  obtain ⟨v, n, e0, cs, rfl, hrow⟩ := hx
  rw [Rw.ReadR] at rx; rw [Rw.Small] at hz; rw [Rw.cell_sl, Rw.weight]
  obtain ⟨⟨a, cap, rfl, hlen, hc1, hc2, _, hcells⟩, hin⟩ := rx
  have HROW := Lib.hid hrow; have HC := Lib.hid hcells; have HIN := Lib.hid hin; have HZ := Lib.hid (smallL_iff.1 hz); have HLEN := Lib.hid hlen
  clear hrow hcells hin hz hlen
  obtain ⟨wt, hwt⟩ : ∃ f : Nat → Nat, f = fun m => weightL (cs.take m) := ⟨_, rfl⟩
  have HWT := Lib.hid hwt; clear hwt
  by_cases h0 : left - n < 0
  · go_enter Try.func5, Try.ntmps5
    go_wp2
    go_ret
    exact ⟨-1, rfl, by omega, by omega, Grw.refl _⟩
  · go_enter Try.func5, Try.ntmps5
    go_wp2
    go_loopw [1, 5] (fun q i wr => ∃ (j : Nat) (r : Int), j ≤ n ∧ i = .int .i64 j ∧ q = .int .i64 r ∧ 0 ≤ r ∧ r + n + (wt (j * 2) : Nat) = left ∧ Grw w wr)
      (fun _ i _ => n - (intOf i).toNat)
    case atStart => exact ⟨0, left - n, Nat.zero_le _, rfl, rfl, by omega, by rw [HWT.out]; (simp [weightL]; try omega), Grw.refl _⟩
    case round =>
      obtain ⟨j, r, hj, rfl, rfl, hr0, hr1, hs⟩ := hrel
      have HS := Lib.hid hs; have HR1 := Lib.hid hr1
      have hr2 : r ≤ 1099511627776 := by omega
      clear hs hr1
      by_cases hlt : (j : Int) < (n : Int)
      · rcases HC.out with hz0 | ⟨g, off, rfl, hg, hcells⟩
        · omega
        · have HCL := Lib.hid hcells; clear hcells
          obtain ⟨a0, a1, f0, f1, s1⟩ := HROW.out j (by omega)
          have c0 : wr.cell? ⟨g, off + j * 2, none⟩ = some (.string a0) := by rw [HS.out.below.cell (show g < _ by omega)]; exact HCL.out (j * 2) _ (by rw [List.getElem?_map, f0]; rfl)
          have z0 : a0.size ≤ 9223372036854775807 := by have := HZ.out _ (List.mem_of_getElem? f0); rw [Rw.Small] at this; exact this
          have hw0 : weightL (cs.take (j * 2 + 1)) = weightL (cs.take (j * 2)) + _ := weightL_more f0; rw [Rw.weight] at hw0; simp only [weightV] at hw0
          have c1 : wr.cell? ⟨g, off + j * 2 + 1, none⟩ = some (a1.cell) := by rw [HS.out.below.cell (show g < _ by omega)]; rw [Nat.add_assoc]; exact HCL.out (j * 2 + 1) _ (by rw [List.getElem?_map, f1]; rfl)
          have z1 := HZ.out _ (List.mem_of_getElem? f1)
          have hw1 : weightL (cs.take (j * 2 + 2)) = weightL (cs.take (j * 2 + 1)) + _ := weightL_more f1
          have HW := Lib.hid (show wt ((j + 1) * 2) = wt (j * 2) + (a0.size + a1.weight) by rw [HWT.out, Nat.add_mul, Nat.one_mul]; show weightL (cs.take (j * 2 + 2)) = weightL (cs.take (j * 2)) + _; omega)
          clear hw0 hw1
          go_wp2_with fail
          refine (sz_Server a0 a1 r (by omega) hr2 _ z0 s1 (HS.out.rd (readRL_iff.1 HIN.out _ (List.mem_of_getElem? f1))) z1).mono ?_
          rintro e w2 ⟨r2, rfl, hr3, hr4, hg2⟩
          have HG2 := Lib.hid (HS.out.trans hg2); clear hg2
          by_cases hneg : r2 < 0
          · go_wp2_with fail
            go_ret
            exact ⟨-1, rfl, by omega, by omega, HG2.out⟩
          · have hr5 := hr4 (by omega)
            clear hr4
            have HR5 := Lib.hid hr5; clear hr5
            go_wp2_with fail
            go_roundw
            case rel => exact ⟨j + 1, r2, by omega, by go_num, rfl, by omega, by rw [HW.out]; have := HR5.out; have := HR1.out; omega, HG2.out⟩
            case measure => simp [intOf]; omega
      · have hjn : j = n := by omega
        subst hjn
        have HF := Lib.hid (show wt (j * 2) = weightL cs by rw [HWT.out]; show weightL (cs.take (j * 2)) = _; rw [List.take_of_length_le (by have := HLEN.out; omega)])
        go_wp2_with fail
        go_ret
        exact ⟨r, rfl, by omega, fun _ => by have := HF.out; have := HR1.out; omega, HS.out⟩

theorem info_ServerS : (Try.prog.info? 47).map (fun i => (i.zero, i.size, i.bytes)) = some (some (.agg #[.string ⟨#[]⟩, .slice none 0 0]), 2, 40) := by kernel_rfl
set_option maxRecDepth 100000 in
set_option maxHeartbeats 4000000 in
theorem to_ServerS (x : Rw) (hx : IsServerS x) (w : World) (rx : x.ReadR w.heap.size w) (hl : x.weight ≤ 1099511627776) :
    Calls Try.prog 8 #[x.cell] w fun e w' => ∃ y : Rw, e = .returned y.cell ∧ IsServerS y ∧ y.data = x.data ∧ y.blocks.Nodup ∧ y.OwnR w.heap.size w'.heap.size w' ∧ Below w.heap.size w w' := by
  obtain ⟨i0, hi0, hz0, hz1, hz2⟩ := info_parts info_ServerS
  obtain ⟨v, n, e0, cs, rfl, hrow⟩ := hx
  rw [Rw.ReadR] at rx; rw [Rw.weight] at hl; rw [Rw.cell_sl, Rw.data]
  obtain ⟨⟨a, cap, rfl, hlen, hc1, hc2, _, hcells⟩, hin⟩ := rx
  have hnl : n ≤ 1099511627776 := by omega
  have HWL := Lib.hid (show weightL cs ≤ 1099511627776 by omega)
  have HROW := Lib.hid hrow; have HC := Lib.hid hcells; have HLEN := Lib.hid hlen; have HI := Lib.hid hz2; have HIN := Lib.hid (readRL_iff.1 hin)
  clear hrow hcells hin hlen hz2 hl
  go_enter Try.func8, Try.ntmps8
  go_wp2_with (at_make; refine wpList_make_full _ rfl _ _ 30 rfl w.heap.size 47 i0 (.agg #[.string ⟨#[]⟩, .slice none 0 0]) 2 Try.underlying30 hi0 hz0 hz1 .i64 .i64 _ _ n rfl rfl rfl rfl ?c1 ?c2 (Nat.le_refl _) ?_)
  case c1 => rw [HI.out]; omega
  case c2 => unfold maxLen; omega
  intro w1 hown1 hgr1
  have hb1 : Below w.heap.size w w1 := (Below.refl _ _).grown hgr1 (Nat.le_refl _) (fun k h => by cases h)
  have hml : (madeCells #[.string ⟨#[]⟩, .slice none 0 0] (n * 2)).toList.length = n * 2 := by rw [Array.length_toList, size_madeCells]
  have ho1 := leaves_own hown1 (made_one (by intro u hu; have hm : u ∈ [.string ⟨#[]⟩, .slice none 0 0] := Array.mem_toList_iff.2 hu; simp only [List.mem_cons, List.mem_nil_iff, or_false] at hm; rcases hm with rfl | rfl <;> rfl) (by decide) _)
  have hb0 := leaves_blocks (madeCells #[.string ⟨#[]⟩, .slice none 0 0] (n * 2)).toList
  have hlf : ∀ m, m < n * 2 → ∃ u, ((madeCells #[.string ⟨#[]⟩, .slice none 0 0] (n * 2)).toList.map Rw.leaf)[m]? = some (.leaf u) := fun m hm => ⟨_, by rw [List.getElem?_map, List.getElem?_eq_getElem (by omega)]; rfl⟩
  obtain ⟨ds0, hds0⟩ : ∃ d, (madeCells #[.string ⟨#[]⟩, .slice none 0 0] (n * 2)).toList.map Rw.leaf = d := ⟨_, rfl⟩
  rw [hds0] at ho1 hb0 hlf; clear hds0 hml hown1 hgr1
  have HO1 := Lib.hid ho1; have HB1 := Lib.hid hb1; have HBL := Lib.hid hb0; have HLF := Lib.hid hlf; clear ho1 hb1 hb0 hlf
  go_wp2
  go_loopw [4] (fun i wr => ∃ (j : Nat) (ds : List Rw), j ≤ n ∧ i = .int .i64 j ∧ (Rw.sl (.slice (some ⟨w.heap.size, 0, none⟩) n n) n 2 47 ds).OwnR w.heap.size wr.heap.size wr ∧ (w.heap.size ∉ blocksL ds ∧ (blocksL ds).Nodup) ∧ (∀ p, p < j → ∃ (a0 : ByteArray) (a1 : Rw), ds[p * 2]? = some (.leaf (.string a0)) ∧ ds[p * 2 + 1]? = some a1 ∧ IsFileS a1) ∧ (∀ m, m < j * 2 → ∀ c d, ds[m]? = some c → cs[m]? = some d → c.data = d.data) ∧ (∀ m, j * 2 ≤ m → m < n * 2 → ∃ u, ds[m]? = some (.leaf u)) ∧ Below w.heap.size w wr)
    (fun i _ => n - (intOf i).toNat)
  case atStart => exact ⟨0, ds0, Nat.zero_le _, rfl, HO1.out, ⟨by rw [HBL.out]; simp, by rw [HBL.out]; simp⟩, fun p hp => by omega, fun m hm => by omega, fun m _ hm => HLF.out m hm, HB1.out⟩
  case round =>
    obtain ⟨j, ds, hj, rfl, hown, hnd, hrows, hdat, hzero, hbw⟩ := hrel
    have HO := Lib.hid hown; have HND := Lib.hid hnd; have HRS := Lib.hid hrows; have HDT := Lib.hid hdat; have HZR := Lib.hid hzero; have HB := Lib.hid hbw
    clear hown hnd hrows hdat hzero hbw HO1 HB1 HBL HLF
    have HDL := Lib.hid (show ds.length = n * 2 by have h := HO.out; rw [Rw.OwnR] at h; have := h.1.1.1; rwa [List.length_map] at this)
    by_cases hlt : (j : Int) < (n : Int)
    · rcases HC.out with h0 | ⟨g, off, rfl, hg, hcells⟩
      · omega
      · have HCL := Lib.hid hcells; clear hcells
        obtain ⟨a0, a1, f0, f1, s1⟩ := HROW.out j (by omega)
        have c0 : wr.cell? ⟨g, off + j * 2, none⟩ = some (.string a0) := by rw [HB.out.cell (show g < _ by omega)]; exact HCL.out (j * 2) _ (by rw [List.getElem?_map, f0]; rfl)
        have HM0 := Lib.hid f0; clear f0
        have c1 : wr.cell? ⟨g, off + j * 2 + 1, none⟩ = some (a1.cell) := by rw [HB.out.cell (show g < _ by omega)]; rw [Nat.add_assoc]; exact HCL.out (j * 2 + 1) _ (by rw [List.getElem?_map, f1]; rfl)
        have HM1 := Lib.hid f1; clear f1
        have hto := toL_Server a0 a1 wr s1 (Rw.ReadR.mono HB.out.size _ (Rw.ReadR.below HB.out (Nat.le_refl _) _ (HIN.out _ (List.mem_of_getElem? HM1.out)))) (Nat.le_trans (weightL_mem (List.mem_of_getElem? HM1.out)) HWL.out)
        obtain ⟨xa1, xn1, xc1, hxc1⟩ := sl_form (is_sl_FileS s1) (HIN.out _ (List.mem_of_getElem? HM1.out))
        rw [hxc1] at hto c1
        have HTO := Lib.hid hto; clear hto
        go_wp2_with fail
        refine HTO.out.mono ?_
        rintro e w2 ⟨y1, rfl, hy1, hd1, hoy, hny, hb2⟩
        obtain ⟨ya1, yn1, yc1, hyc1⟩ := sl_form (is_sl_FileS hy1) (Rw.OwnR.reads _ (ownRL_iff.1 hoy y1 (by simp)))
        rw [hyc1]
        have HY1 := Lib.hid hy1; have HDY1 := Lib.hid hd1; have HYC1 := Lib.hid hyc1; clear hy1 hd1 hyc1
        have HX := Lib.hid (show ∀ b ∈ blocksL [y1], b ∉ blocksL ds ∧ b ≠ w.heap.size from fun b hb => by have h1 := (ownL_lt hoy b hb).1; refine ⟨fun hm => ?_, ?_⟩; · { have h := HO.out; rw [Rw.OwnR] at h; have h2 := ownL_lt h.2 b hm; omega }; · { have h := HO.out; rw [Rw.OwnR] at h; have h2 := h.1.1.lt w.heap.size rfl; omega })
        have HO2 := Lib.hid (Rw.OwnR.top (HO.out.later hb2)); have HB2 := Lib.hid (HB.out.trans (hb2.mono HB.out.size)); have HOY := Lib.hid (own_mono_L hoy HB.out.size); have HNY := Lib.hid hny
        clear hoy hny hb2
        obtain ⟨u0, hu0⟩ := HZR.out (j * 2) (by omega) (by omega)
        have d0 : w2.cell? ⟨w.heap.size, j * 2, none⟩ = some u0 := by have h := HO2.out; rw [Rw.OwnR] at h; rw [h.1.1.cellAt (j * 2) (by omega), List.getElem?_map, hu0]; rfl
        have z0 : w2.frozen? ⟨w.heap.size, j * 2, none⟩ = false := by have h := HO2.out; rw [Rw.OwnR] at h; exact h.1.1.frozenAt _
        have HU0 := Lib.hid hu0; clear hu0
        obtain ⟨u1, hu1⟩ := HZR.out (j * 2 + 1) (by omega) (by omega)
        have d1 : w2.cell? ⟨w.heap.size, j * 2 + 1, none⟩ = some u1 := by have h := HO2.out; rw [Rw.OwnR] at h; rw [h.1.1.cellAt (j * 2 + 1) (by omega), List.getElem?_map, hu1]; rfl
        have z1 : w2.frozen? ⟨w.heap.size, j * 2 + 1, none⟩ = false := by have h := HO2.out; rw [Rw.OwnR] at h; exact h.1.1.frozenAt _
        have HU1 := Lib.hid hu1; clear hu1
        go_wp2
        go_roundw
        case rel =>
          have P0 := HO2.out
          have N0 := HND.out
          have D0 := HOY.out
          have Q0 := P0.put (y := .leaf (.string a0)) N0.1 (show (ds)[j * 2]? = some (.leaf u0) by exact HU0.out) (by rw [Rw.OwnR]; rfl) (by rw [Rw.blocks]; simp)
          have P1 := Rw.OwnR.top Q0.1
          have N1 : w.heap.size ∉ blocksL ((ds).set (j * 2) (.leaf (.string a0))) ∧ (blocksL ((ds).set (j * 2) (.leaf (.string a0)))).Nodup := ⟨fun h => by rcases (Q0.2.2.1 _).1 h with h | h; · { rw [Rw.blocks] at h; cases h }; · { exact N0.1 h }, Q0.2.2.2 N0.2 (by rw [Rw.blocks]; simp) (by rw [Rw.blocks]; intro b hb; cases hb)⟩
          have D1 := ownL_only (L := [y1]) D0 Q0.2.1 (fun b hb hm => by rw [List.mem_singleton] at hm; exact (HX.out b hb).2 hm)
          have Q1 := P1.put (y := y1) N1.1 (show (((ds).set (j * 2) (.leaf (.string a0))))[j * 2 + 1]? = some (.leaf u1) by rw [List.getElem?_set_ne (by omega)]; exact HU1.out) (Rw.OwnR.top (ownRL_iff.1 D1 y1 (by simp))) (fun hm => (HX.out _ (blocksL_mem.2 ⟨y1, by simp, hm⟩)).2 rfl)
          rw [HYC1.out] at Q1
          have P2 := Rw.OwnR.top Q1.1
          have N2 : w.heap.size ∉ blocksL ((((ds).set (j * 2) (.leaf (.string a0)))).set (j * 2 + 1) (y1)) ∧ (blocksL ((((ds).set (j * 2) (.leaf (.string a0)))).set (j * 2 + 1) (y1))).Nodup := ⟨fun h => by rcases (Q1.2.2.1 _).1 h with h | h; · { exact (HX.out _ (blocksL_mem.2 ⟨y1, by simp, h⟩)).2 rfl }; · { exact N1.1 h }, Q1.2.2.2 N1.2 (nodup_in HNY.out (by simp)) (fun b hb hm => by rcases (Q0.2.2.1 _).1 hm with hm | hm; · { rw [Rw.blocks] at hm; cases hm }; exact (HX.out b (blocksL_mem.2 ⟨y1, by simp, hb⟩)).1 hm)⟩
          have D2 := ownL_only (L := [y1]) D1 Q1.2.1 (fun b hb hm => by rw [List.mem_singleton] at hm; exact (HX.out b hb).2 hm)
          refine ⟨j + 1, ((((ds).set (j * 2) (.leaf (.string a0)))).set (j * 2 + 1) (y1)), by omega, by go_num, P2, N2, fun p hp => ?_, fun m hm c d hc hd => ?_, fun m hm1 hm2 => ?_, ((HB2.out.setCell (Nat.le_refl _) _).setCell (Nat.le_refl _) _)⟩
          · by_cases e : p = j
            · subst e
              exact ⟨a0, y1, by rw [List.getElem?_set_ne (by omega), List.getElem?_set_self (by have := HDL.out; first | omega | (simp only [List.length_set]; omega))], by rw [List.getElem?_set_self (by have := HDL.out; first | omega | (simp only [List.length_set]; omega))], HY1.out⟩
            · obtain ⟨o0, o1, f0, f1, s1⟩ := HRS.out p (by omega)
              exact ⟨o0, o1, by rw [List.getElem?_set_ne (by omega), List.getElem?_set_ne (by omega)]; exact f0, by rw [List.getElem?_set_ne (by omega), List.getElem?_set_ne (by omega)]; exact f1, s1⟩
          · have hmm : m < j * 2 ∨ m = j * 2 ∨ m = j * 2 + 1 := by omega
            rcases hmm with h | rfl | rfl
            · rw [List.getElem?_set_ne (by omega), List.getElem?_set_ne (by omega)] at hc; exact HDT.out m h c d hc hd
            · rw [List.getElem?_set_ne (by omega), List.getElem?_set_self (by have := HDL.out; first | omega | (simp only [List.length_set]; omega))] at hc; cases hc; rw [HM0.out] at hd; cases hd; rfl
            · rw [List.getElem?_set_self (by have := HDL.out; first | omega | (simp only [List.length_set]; omega))] at hc; cases hc; rw [HM1.out] at hd; cases hd; exact HDY1.out
          · obtain ⟨u, hu⟩ := HZR.out m (by omega) hm2; exact ⟨u, by rw [List.getElem?_set_ne (by omega), List.getElem?_set_ne (by omega)]; exact hu⟩
        case measure => simp [intOf]; omega
    · have hjn : j = n := by omega
      subst hjn
      go_wp2
      go_ret
      refine ⟨.sl (.slice (some ⟨w.heap.size, 0, none⟩) j j) j 2 47 ds, rfl, ⟨_, _, _, _, rfl, HRS.out⟩, ?_, ?_, HO.out, HB.out⟩
      · rw [Rw.data, dataL_ext (by rw [HDL.out, HLEN.out]) fun m c d hc hd => HDT.out m (by have := (List.getElem?_eq_some_iff.1 hc).1; have := HDL.out; omega) c d hc hd]
      · rw [Rw.blocks]; exact List.nodup_cons.2 HND.out

end Go.Proofs.Ytpkicliimhflgaa

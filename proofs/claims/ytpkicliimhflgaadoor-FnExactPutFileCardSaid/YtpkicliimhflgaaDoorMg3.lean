/- Helper contracts over the functions with which the laws copy, compare, measure and mark slices, by program (deep.py). Asked: what lies in memory is as named. Strings as elements of slices; a new slice of the call's own. Helper facts, no claim of its own. Slices whose elements are plain structs (no slice among their cells), for any such struct: what it means that a slice value reads as a list of them, as data. Helper facts, no claim of its own. Helper contracts over the functions with which the laws copy, compare, measure and mark slices, by program (deep.py). Asked: what lies in memory is as named. Helper contracts over the integer functions of the program and of the model: what InRange, l1In, Min, Max and lowAndHigh return. No conditions beyond the types. Helper contracts: IsName of the program and of the model answer alike. Asked: the string is shorter than 2^63 bytes. Tokens as plain values: what a tag is, what its form is, how a text is divided, and that the pieces of a text do not matter. No program. Tokens and their attributes in memory: what it means that a slice value reads as a list of them, that a call owns all of it, and append to such a slice. Helper facts, no claim of its own. -/
import Derived.Test.YtpkicliimhflgaaDoorMg2
import Derived.Shelf.SlSortCmp.QuietGrown
import Derived.Test.YtpkicliimhflgaaDoorMg1
import Derived.Test.YtpkicliimhflgaaDoorRows
import Derived.WalkKit
import Derived.ProofKit
import Derived.OpenShut
import Derived.LoopTactic
import Derived.Deep.QuietTactic
import Derived.BigQuiet
import Derived.Lib.Hide
import Derived.WalkSpells
import Derived.WalkLawsBesides
import Derived.Lib.Strings
namespace Go.Proofs.YtpkicliimhflgaaDoor

open Go.ChangeShapes Go.WideShapes Go.ChangeAt Go.RowKit

set_option maxHeartbeats 2000000 in
theorem eq_Server (a0 : ByteArray) (a1 b1 : Rw) (w : World) (hx1 : IsFileS a1) (hy1 : IsFileS b1) (hd1 : a1.data = b1.data) (rx1 : a1.ReadR w.heap.size w) (ry1 : b1.ReadR w.heap.size w) :
    Calls Tryd.prog 10 #[.agg #[.string a0, a1.cell], .agg #[.string a0, b1.cell]] w fun e w' => e = .returned (.bool true) ∧ Grw w w' := by
  have e0 : (a0.toList == a0.toList) = true := beqL_yes rfl
  go_enter Tryd.func10, Tryd.ntmps10
  go_wp2_with fail
  obtain ⟨w0, hw0⟩ : ∃ x, ((w.alloc (.cells #[.string a0, a1.cell] 29)).alloc (.cells #[.string a0, b1.cell] 29)) = x := ⟨_, rfl⟩
  rw [hw0]
  have HG0 := Lib.hid (show Grw w w0 by rw [← hw0]; exact ((Grw.refl w).alloc _).alloc _)
  clear hw0
  refine (eq_FileS a1 b1 hx1 hy1 hd1 _ (rx1.up HG0.out) (ry1.up HG0.out)).mono ?_
  rintro e w1 ⟨rfl, hg1⟩
  have HG1 := Lib.hid (HG0.out.trans hg1); clear hg1
  go_wp2_with fail
  go_ret
  exact ⟨rfl, HG1.out⟩

def SzServer (a0 : ByteArray) (a1 : Rw) (left : Int) (w : World) (e : Ending) (w' : World) : Prop :=
  ∃ r : Int, e = .returned (.int .i64 r) ∧ -1 ≤ r ∧ (0 ≤ r → r + (a0.size : Nat) + (a1.weight : Nat) = left) ∧ Grw w w'
set_option maxRecDepth 100000 in
set_option maxHeartbeats 4000000 in
theorem sz_Server (a0 : ByteArray) (a1 : Rw) (left : Int) (l1 : 0 ≤ left) (l2 : left ≤ 1099511627776) (w : World) (z0 : a0.size ≤ 9223372036854775807) (hx1 : IsFileS a1) (rx1 : a1.ReadR w.heap.size w) (z1 : a1.Small) :
    Calls Tryd.prog 6 #[.agg #[.string a0, a1.cell], .int .i64 left] w (SzServer a0 a1 left w) := by
  have HB := Lib.hid ((Grw.refl w).alloc (.cells #[.string a0, a1.cell] 24))
  have HR1 := Lib.hid (rx1.up HB.out)
  obtain ⟨xa1, xn1, xc1, hxc1⟩ := sl_form (is_sl_FileS hx1) rx1
  rw [hxc1] at HB ⊢
  rw [hxc1] at HR1
  by_cases c0 : left - (a0.size : Int) < 0
  · go_enter Tryd.func6, Tryd.ntmps6
    go_wp2_with fail
    go_ret
    exact ⟨-1, rfl, by omega, by omega, HB.out⟩
  have hsz1 := sz_FileS a1 hx1 (left - (a0.size : Int)) (by omega) (by omega) _ HR1.out z1
  simp only [hxc1] at hsz1
  have HSZ1 := Lib.hid hsz1; clear hsz1
  go_enter Tryd.func6, Tryd.ntmps6
  go_wp2_with fail
  refine HSZ1.out.mono ?_
  rintro e w1 ⟨r1, rfl, lo1, hr1, hg1⟩
  have HG1 := Lib.hid (HB.out.trans hg1); clear hg1
  by_cases d1 : r1 < 0
  · go_wp2_with fail
    go_ret
    exact ⟨-1, rfl, by omega, by omega, HG1.out⟩
  replace hr1 := hr1 (by omega)
  go_wp2_with fail
  go_ret
  exact ⟨r1, rfl, by omega, by omega, HG1.out⟩

set_option maxRecDepth 100000 in
set_option maxHeartbeats 4000000 in
theorem toL_Server (a0 : ByteArray) (a1 : Rw) (w : World) (hx1 : IsFileS a1) (rx1 : a1.ReadR w.heap.size w) (hl1 : a1.weight ≤ 1099511627776) :
    Calls Tryd.prog 8 #[.agg #[.string a0, a1.cell]] w fun e w' => ∃ b1 : Rw, e = .returned (.agg #[.string a0, b1.cell]) ∧ IsFileS b1 ∧ b1.data = a1.data ∧ OwnRL w.heap.size w'.heap.size w' [b1] ∧ (blocksL [b1]).Nodup ∧ Below w.heap.size w w' := by
  obtain ⟨xa1, xn1, xc1, hxc1⟩ := sl_form (is_sl_FileS hx1) rx1
  obtain ⟨W, hW⟩ : ∃ W, ((w.alloc (.cells #[.string a0, .slice xa1 xn1 xc1] 24)).alloc (.cells #[.string ⟨#[]⟩, .slice none 0 0] 29)).alloc (.cells #[.string a0, .slice none 0 0] 29) = W := ⟨_, rfl⟩
  have hg0 : Grw w W := by rw [← hW]; exact (((Grw.refl w).alloc _).alloc _).alloc _
  have ho : W.heap[w.heap.size + 2]? = some (.cells #[.string a0, .slice none 0 0] 29 (0, 0)) := by rw [← hW]; exact three_new2 w _ _ _
  have hz : W.heap[w.heap.size + 1]? = some (.cells #[.string ⟨#[]⟩, .slice none 0 0] 29 (0, 0)) := by rw [← hW]; exact three_new1 w _ _ _
  have ha : W.heap[w.heap.size]? = some (.cells #[.string a0, .slice xa1 xn1 xc1] 24 (0, 0)) := by rw [← hW]; exact three_new0 w _ _ _
  have HSZ := Lib.hid (show w.heap.size + 3 ≤ W.heap.size by rw [← hW, size_alloc, size_alloc, size_alloc]; exact Nat.le_refl _)
  have HTO1 := Lib.hid (fun (V : World) (hv : Below w.heap.size w V) => by have hr := to_FileS a1 hx1 V (Rw.ReadR.mono hv.size _ (Rw.ReadR.below hv (Nat.le_refl _) _ rx1)) hl1; rw [hxc1] at hr; exact hr)
  rw [hxc1]
  have HB := Lib.hid hg0.below; have HO := Lib.hid ho; have HZ := Lib.hid hz; have HA := Lib.hid ha; have HW := Lib.hid hW
  clear rx1 hxc1 hg0 ho hz ha hW
  go_enter Tryd.func8, Tryd.ntmps8
  go_wp2_with fail
  rw [HW.out]
  refine (HTO1.out _ HB.out).mono ?_
  rintro e w1 ⟨y1, rfl, hy1, hd1, hn1, ho1, hb⟩
  obtain ⟨ya1, yn1, yc1, hyc1⟩ := sl_form (is_sl_FileS hy1) (Rw.OwnR.reads _ ho1)
  rw [hyc1]
  have HY1 := Lib.hid hy1; have HD1 := Lib.hid hd1; have HN1 := Lib.hid hn1; have HYC1 := Lib.hid hyc1; clear hy1 hd1 hn1 hyc1
  have HOW1 := Lib.hid (own_mono ho1 HSZ.out (Nat.le_refl _)); clear ho1
  have h1 := below_heap hb (heap_lt HO.out) HO.out; have h2 := below_heap hb (heap_lt HA.out) HA.out; have h3 := below_heap hb (heap_lt HZ.out) HZ.out
  replace HB := Lib.hid (HB.out.trans (hb.mono HB.out.size)); replace HSZ := Lib.hid (Nat.le_trans HSZ.out hb.size); clear hb
  have oq0 := box_cell h1 (j := 0) rfl; have oz0 := box_frz h1 0
  have oq1 := box_cell h1 (j := 1) rfl; have oz1 := box_frz h1 1
  have pq0 := box_cell h2 (j := 0) rfl
  have pq1 := box_cell h2 (j := 1) rfl
  have sq0 := box_cell h3 (j := 0) rfl; have sz0 := box_frz h3 0
  have sq1 := box_cell h3 (j := 1) rfl; have sz1 := box_frz h3 1
  replace HO := Lib.hid h1; replace HA := Lib.hid h2; replace HZ := Lib.hid h3; clear h1 h2 h3
  go_wp2_with fail
  have h1 := HO.out; have h2 := HA.out; have h3 := HZ.out
  replace h1 := heap_one (o := 1) h1 (.slice ya1 yn1 yc1)
  replace h2 := box_far h2 (show w.heap.size ≠ w.heap.size + 2 by omega) 1 (.slice ya1 yn1 yc1)
  replace h3 := box_far h3 (show w.heap.size + 1 ≠ w.heap.size + 2 by omega) 1 (.slice ya1 yn1 yc1)
  replace h1 : (w1.setCell ⟨w.heap.size + 2, 1, none⟩ (.slice ya1 yn1 yc1)).heap[w.heap.size + 2]? = some (.cells #[.string a0, .slice ya1 yn1 yc1] 29 (0, 0)) := h1
  replace h3 := heap_one (o := 0) h3 (.string a0)
  replace h3 := heap_one (o := 1) h3 (.slice ya1 yn1 yc1)
  replace h3 : (((w1.setCell ⟨w.heap.size + 2, 1, none⟩ (.slice ya1 yn1 yc1)).setCell ⟨w.heap.size + 1, 0, none⟩ (.string a0)).setCell ⟨w.heap.size + 1, 1, none⟩ (.slice ya1 yn1 yc1)).heap[w.heap.size + 1]? = some (.cells #[.string a0, .slice ya1 yn1 yc1] 29 (0, 0)) := h3
  have HON := Lib.hid (show OnlyB [w.heap.size + 1, w.heap.size + 2] w1 (((w1.setCell ⟨w.heap.size + 2, 1, none⟩ (.slice ya1 yn1 yc1)).setCell ⟨w.heap.size + 1, 0, none⟩ (.string a0)).setCell ⟨w.heap.size + 1, 1, none⟩ (.slice ya1 yn1 yc1)) from (((OnlyB.refl _ w1).set (by simp)).set (by simp)).set (by simp))
  replace HOW1 := Lib.hid (Rw.OwnR.top (Rw.OwnR.only HON.out y1 HOW1.out fun b hb hm => by have h := (Rw.OwnR.lt y1 HOW1.out b hb).1; simp only [List.mem_cons, List.mem_nil_iff, or_false] at hm; omega))
  replace HB := Lib.hid (HB.out.trans (HON.out.below (fun b hb => by simp only [List.mem_cons, List.mem_nil_iff, or_false] at hb; omega) HB.out.size)); replace HSZ := Lib.hid (Nat.le_trans HSZ.out HON.out.size)
  clear HON
  have fq0 := box_cell h3 (j := 0) rfl
  have fq1 := box_cell h3 (j := 1) rfl
  refine bodyPost_ret (v := .agg #[.string a0, .slice ya1 yn1 yc1]) (by simp [results, Tryd.results8, go_sem, fq0, fq1]) rfl ?_
  refine ⟨y1, by rw [HYC1.out], HY1.out, HD1.out, ?_, ?_, HB.out⟩
  · refine ownRL_iff.2 fun c hc => ?_
    simp only [List.mem_cons, List.mem_nil_iff, or_false] at hc
    rcases hc with rfl
    exact own_mono HOW1.out (by omega) (Nat.le_refl _)
  · simp only [blocksL, List.append_nil]
    exact HN1.out

/-- What a slice of this type holds. -/
def IsServerS (x : Rw) : Prop := ∃ v n e cs, x = .sl v n 2 e cs ∧ ∀ j, j < n → ∃ (a0 : ByteArray) (a1 : Rw), cs[j * 2]? = some (.leaf (.string a0)) ∧ cs[j * 2 + 1]? = some a1 ∧ IsFileS a1
theorem is_sl_ServerS {x : Rw} (h : IsServerS x) : ∃ v n k e cs, x = .sl v n k e cs := by
  obtain ⟨v, n, e, cs, rfl, _⟩ := h
  exact ⟨v, n, _, e, cs, rfl⟩

set_option maxRecDepth 100000 in
set_option maxHeartbeats 4000000 in
theorem eq_ServerS (x y : Rw) (hx : IsServerS x) (hy : IsServerS y) (hd : x.data = y.data) (w : World) (rx : x.ReadR w.heap.size w) (ry : y.ReadR w.heap.size w) :
    Calls Tryd.prog 19 #[x.cell, y.cell] w fun e w' => e = .returned (.bool true) ∧ Grw w w' := by
  have mixed : Tryd.prog.follows .mixedOrders = true := by kernel_rfl
  obtain ⟨v, n, e0, cs, rfl, hrow⟩ := hx
  obtain ⟨v', n', e0', cs', rfl, hrow'⟩ := hy
  rw [Rw.data, Rw.data] at hd
  have hdd := (Dt.sl.inj hd).2; clear hd
  rw [Rw.ReadR] at rx ry
  rw [Rw.cell_sl, Rw.cell_sl]
  obtain ⟨⟨a, cap, rfl, hlen, hc1, hc2, _, hcells⟩, hin⟩ := rx
  obtain ⟨⟨a', cap', rfl, hlen', hc1', hc2', _, hcells'⟩, hin'⟩ := ry
  have hnn : n = n' := by have := congrArg List.length hdd; rw [dataL_len, dataL_len] at this; omega
  subst hnn
  have HROW := Lib.hid hrow; have HROW' := Lib.hid hrow'; have HD := Lib.hid hdd; have HC := Lib.hid hcells; have HC' := Lib.hid hcells'; have HIN := Lib.hid hin; have HIN' := Lib.hid hin'
  clear hrow hrow' hdd hcells hcells' hin hin' hlen hlen'
  go_enter Tryd.func19, Tryd.ntmps19
  go_wp2
  go_loopw [5] (fun i wr => ∃ (j : Nat), j ≤ n ∧ i = .int .i64 j ∧ Grw w wr)
    (fun i _ => n - (intOf i).toNat)
  case atStart => exact ⟨0, Nat.zero_le _, rfl, Grw.refl _⟩
  case round =>
    obtain ⟨j, hj, rfl, hs⟩ := hrel
    have HS := Lib.hid hs
    clear hs
    by_cases hlt : (j : Int) < (n : Int)
    · rcases HC.out with h0 | ⟨g, off, rfl, hg, hcells⟩
      · omega
      · rcases HC'.out with h0 | ⟨g', off', rfl, hg', hcells'⟩
        · omega
        · have HCL := Lib.hid hcells; have HCL' := Lib.hid hcells'; clear hcells hcells'
          obtain ⟨a0, a1, f0, f1, s1⟩ := HROW.out j (by omega)
          obtain ⟨b0, b1, f0', f1', s1'⟩ := HROW'.out j (by omega)
          have hd0 := data_same HD.out f0 f0'
          have hv0 := leaf_same hd0; obtain rfl : a0 = b0 := by cases hv0; rfl
          clear hd0 hv0
          have c0 : ∀ m os, (Sort.grow (wr.drewN m) os).cell? ⟨g, off + j * 2, none⟩ = some (.string a0) := cell_grown (show g < wr.heap.size by have := HS.out.below.size; omega) (by rw [HS.out.below.cell (show g < _ by omega)]; exact HCL.out (j * 2) _ (by rw [List.getElem?_map, f0]; rfl))
          have c0' : ∀ m os, (Sort.grow (wr.drewN m) os).cell? ⟨g', off' + j * 2, none⟩ = some (.string a0) := cell_grown (show g' < wr.heap.size by have := HS.out.below.size; omega) (by rw [HS.out.below.cell (show g' < _ by omega)]; exact HCL'.out (j * 2) _ (by rw [List.getElem?_map, f0']; rfl))
          have hd1 := data_same HD.out f1 f1'
          have c1 : ∀ m os, (Sort.grow (wr.drewN m) os).cell? ⟨g, off + j * 2 + 1, none⟩ = some (a1.cell) := cell_grown (show g < wr.heap.size by have := HS.out.below.size; omega) (by rw [HS.out.below.cell (show g < _ by omega)]; rw [Nat.add_assoc]; exact HCL.out (j * 2 + 1) _ (by rw [List.getElem?_map, f1]; rfl))
          have c1' : ∀ m os, (Sort.grow (wr.drewN m) os).cell? ⟨g', off' + j * 2 + 1, none⟩ = some (b1.cell) := cell_grown (show g' < wr.heap.size by have := HS.out.below.size; omega) (by rw [HS.out.below.cell (show g' < _ by omega)]; rw [Nat.add_assoc]; exact HCL'.out (j * 2 + 1) _ (by rw [List.getElem?_map, f1']; rfl))
          have HE := Lib.hid (fun (n : Nat) (os : Array Obj) => (show Grw w wr from HS.out) |> fun HG0 => eq_Server a0 a1 b1 (Sort.grow (wr.drewN n) os) s1 s1' hd1 ((HG0.trans ⟨n, os, rfl⟩).rd (readRL_iff.1 HIN.out _ (List.mem_of_getElem? f1))) ((HG0.trans ⟨n, os, rfl⟩).rd (readRL_iff.1 HIN'.out _ (List.mem_of_getElem? f1'))))
          clear f0 f0' f1 f1'
          go_wp2_with fail
          refine wp_region_quiet_grown mixed (by kernel_rfl) ?_
          repeat (go_big_quiet_step (first | (go_at_call 10; refine Calls.grown_of (HE.out _ _))))
          refine wpQuiet_nil ?_; intro _ hw'; obtain ⟨⟨nq, osq⟩, hw''⟩ := hw'; subst hw''
          have HG1 := Lib.hid (HS.out.trans ⟨nq, osq, rfl⟩)
          obtain ⟨w1, hw1⟩ : ∃ x, Sort.grow (wr.drewN nq) osq = x := ⟨_, rfl⟩
          rw [hw1] at HG1 ⊢; clear hw1 c0 c0' c1 c1'
          go_wp2_with fail
          go_roundw
          case rel => exact ⟨j + 1, by omega, by go_num, HG1.out⟩
          case measure => simp [intOf]; omega
    · have hkn : decide ((j : Int) < (n : Int)) = false := decide_eq_false hlt
      go_wp2_with fail
      go_ret
      exact ⟨rfl, HS.out⟩

set_option maxRecDepth 100000 in
set_option maxHeartbeats 4000000 in
theorem sz_ServerS (x : Rw) (hx : IsServerS x) (left : Int) (l1 : 0 ≤ left) (l2 : left ≤ 1099511627776) (w : World) (rx : x.ReadR w.heap.size w) (hz : x.Small) :
    Calls Tryd.prog 11 #[x.cell, .int .i64 left] w fun e w' => ∃ r : Int, e = .returned (.int .i64 r) ∧ -1 ≤ r ∧ (0 ≤ r → r + (x.weight : Nat) = left) ∧ Grw w w' := by
  obtain ⟨v, n, e0, cs, rfl, hrow⟩ := hx
  rw [Rw.ReadR] at rx; rw [Rw.Small] at hz; rw [Rw.cell_sl, Rw.weight]
  obtain ⟨⟨a, cap, rfl, hlen, hc1, hc2, _, hcells⟩, hin⟩ := rx
  have HROW := Lib.hid hrow; have HC := Lib.hid hcells; have HIN := Lib.hid hin; have HZ := Lib.hid (smallL_iff.1 hz); have HLEN := Lib.hid hlen
  clear hrow hcells hin hz hlen
  obtain ⟨wt, hwt⟩ : ∃ f : Nat → Nat, f = fun m => weightL (cs.take m) := ⟨_, rfl⟩
  have HWT := Lib.hid hwt; clear hwt
  by_cases h0 : left - n < 0
  · go_enter Tryd.func11, Tryd.ntmps11
    go_wp2
    go_ret
    exact ⟨-1, rfl, by omega, by omega, Grw.refl _⟩
  · go_enter Tryd.func11, Tryd.ntmps11
    go_wp2
    go_loopw [1, 5] (fun q i wr => ∃ (j : Nat) (r : Int), j ≤ n ∧ i = .int .i64 j ∧ q = .int .i64 r ∧ 0 ≤ r ∧ r + n + (wt (j * 2) : Nat) = left ∧ Grw w wr)
      (fun _ i _ => n - (intOf i).toNat)
    case atStart => exact ⟨0, left - n, Nat.zero_le _, rfl, rfl, by omega, by rw [HWT.out]; (simp [weightL]; try omega), Grw.refl _⟩
    case round =>
      obtain ⟨j, r, hj, rfl, rfl, hr0, hr1, hs⟩ := hrel
      have HS := Lib.hid hs; have HR1 := Lib.hid hr1
      have hr2 : r ≤ 1099511627776 := by omega
      clear hs hr1
      by_cases hlt : (j : Int) < (n : Int)
      · rcases HC.out with hz0 | ⟨g, off, rfl, hg, hcells⟩
        · omega
        · have HCL := Lib.hid hcells; clear hcells
          obtain ⟨a0, a1, f0, f1, s1⟩ := HROW.out j (by omega)
          have c0 : wr.cell? ⟨g, off + j * 2, none⟩ = some (.string a0) := by rw [HS.out.below.cell (show g < _ by omega)]; exact HCL.out (j * 2) _ (by rw [List.getElem?_map, f0]; rfl)
          have z0 : a0.size ≤ 9223372036854775807 := by have := HZ.out _ (List.mem_of_getElem? f0); rw [Rw.Small] at this; exact this
          have hw0 : weightL (cs.take (j * 2 + 1)) = weightL (cs.take (j * 2)) + _ := weightL_more f0; rw [Rw.weight] at hw0; simp only [weightV] at hw0
          have c1 : wr.cell? ⟨g, off + j * 2 + 1, none⟩ = some (a1.cell) := by rw [HS.out.below.cell (show g < _ by omega)]; rw [Nat.add_assoc]; exact HCL.out (j * 2 + 1) _ (by rw [List.getElem?_map, f1]; rfl)
          have z1 := HZ.out _ (List.mem_of_getElem? f1)
          have hw1 : weightL (cs.take (j * 2 + 2)) = weightL (cs.take (j * 2 + 1)) + _ := weightL_more f1
          have HW := Lib.hid (show wt ((j + 1) * 2) = wt (j * 2) + (a0.size + a1.weight) by rw [HWT.out, Nat.add_mul, Nat.one_mul]; show weightL (cs.take (j * 2 + 2)) = weightL (cs.take (j * 2)) + _; omega)
          clear hw0 hw1
          go_wp2_with fail
          refine (sz_Server a0 a1 r (by omega) hr2 _ z0 s1 (HS.out.rd (readRL_iff.1 HIN.out _ (List.mem_of_getElem? f1))) z1).mono ?_
          rintro e w2 ⟨r2, rfl, hr3, hr4, hg2⟩
          have HG2 := Lib.hid (HS.out.trans hg2); clear hg2
          by_cases hneg : r2 < 0
          · go_wp2_with fail
            go_ret
            exact ⟨-1, rfl, by omega, by omega, HG2.out⟩
          · have hr5 := hr4 (by omega)
            clear hr4
            have HR5 := Lib.hid hr5; clear hr5
            go_wp2_with fail
            go_roundw
            case rel => exact ⟨j + 1, r2, by omega, by go_num, rfl, by omega, by rw [HW.out]; have := HR5.out; have := HR1.out; omega, HG2.out⟩
            case measure => simp [intOf]; omega
      · have hjn : j = n := by omega
        subst hjn
        have HF := Lib.hid (show wt (j * 2) = weightL cs by rw [HWT.out]; show weightL (cs.take (j * 2)) = _; rw [List.take_of_length_le (by have := HLEN.out; omega)])
        go_wp2_with fail
        go_ret
        exact ⟨r, rfl, by omega, fun _ => by have := HF.out; have := HR1.out; omega, HS.out⟩

theorem info_ServerS : (Tryd.prog.info? 29).map (fun i => (i.zero, i.size, i.bytes)) = some (some (.agg #[.string ⟨#[]⟩, .slice none 0 0]), 2, 40) := by kernel_rfl
set_option maxRecDepth 100000 in
set_option maxHeartbeats 4000000 in
theorem to_ServerS (x : Rw) (hx : IsServerS x) (w : World) (rx : x.ReadR w.heap.size w) (hl : x.weight ≤ 1099511627776) :
    Calls Tryd.prog 15 #[x.cell] w fun e w' => ∃ y : Rw, e = .returned y.cell ∧ IsServerS y ∧ y.data = x.data ∧ y.blocks.Nodup ∧ y.OwnR w.heap.size w'.heap.size w' ∧ Below w.heap.size w w' := by
  obtain ⟨i0, hi0, hz0, hz1, hz2⟩ := info_parts info_ServerS
  obtain ⟨v, n, e0, cs, rfl, hrow⟩ := hx
  rw [Rw.ReadR] at rx; rw [Rw.weight] at hl; rw [Rw.cell_sl, Rw.data]
  obtain ⟨⟨a, cap, rfl, hlen, hc1, hc2, _, hcells⟩, hin⟩ := rx
  have hnl : n ≤ 1099511627776 := by omega
  have HWL := Lib.hid (show weightL cs ≤ 1099511627776 by omega)
  have HROW := Lib.hid hrow; have HC := Lib.hid hcells; have HLEN := Lib.hid hlen; have HI := Lib.hid hz2; have HIN := Lib.hid (readRL_iff.1 hin)
  clear hrow hcells hin hlen hz2 hl
  go_enter Tryd.func15, Tryd.ntmps15
  go_wp2_with (at_make; refine wpList_make_full _ rfl _ _ 41 rfl w.heap.size 29 i0 (.agg #[.string ⟨#[]⟩, .slice none 0 0]) 2 Tryd.underlying41 hi0 hz0 hz1 .i64 .i64 _ _ n rfl rfl rfl rfl ?c1 ?c2 (Nat.le_refl _) ?_)
  case c1 => rw [HI.out]; omega
  case c2 => unfold maxLen; omega
  intro w1 hown1 hgr1
  have hb1 : Below w.heap.size w w1 := (Below.refl _ _).grown hgr1 (Nat.le_refl _) (fun k h => by cases h)
  have hml : (madeCells #[.string ⟨#[]⟩, .slice none 0 0] (n * 2)).toList.length = n * 2 := by rw [Array.length_toList, size_madeCells]
  have ho1 := leaves_own hown1 (made_one (by intro u hu; have hm : u ∈ [.string ⟨#[]⟩, .slice none 0 0] := Array.mem_toList_iff.2 hu; simp only [List.mem_cons, List.mem_nil_iff, or_false] at hm; rcases hm with rfl | rfl <;> rfl) (by decide) _)
  have hb0 := leaves_blocks (madeCells #[.string ⟨#[]⟩, .slice none 0 0] (n * 2)).toList
  have hlf : ∀ m, m < n * 2 → ∃ u, ((madeCells #[.string ⟨#[]⟩, .slice none 0 0] (n * 2)).toList.map Rw.leaf)[m]? = some (.leaf u) := fun m hm => ⟨_, by rw [List.getElem?_map, List.getElem?_eq_getElem (by omega)]; rfl⟩
  obtain ⟨ds0, hds0⟩ : ∃ d, (madeCells #[.string ⟨#[]⟩, .slice none 0 0] (n * 2)).toList.map Rw.leaf = d := ⟨_, rfl⟩
  rw [hds0] at ho1 hb0 hlf; clear hds0 hml hown1 hgr1
  have HO1 := Lib.hid ho1; have HB1 := Lib.hid hb1; have HBL := Lib.hid hb0; have HLF := Lib.hid hlf; clear ho1 hb1 hb0 hlf
  go_wp2
  go_loopw [4] (fun i wr => ∃ (j : Nat) (ds : List Rw), j ≤ n ∧ i = .int .i64 j ∧ (Rw.sl (.slice (some ⟨w.heap.size, 0, none⟩) n n) n 2 29 ds).OwnR w.heap.size wr.heap.size wr ∧ (w.heap.size ∉ blocksL ds ∧ (blocksL ds).Nodup) ∧ (∀ p, p < j → ∃ (a0 : ByteArray) (a1 : Rw), ds[p * 2]? = some (.leaf (.string a0)) ∧ ds[p * 2 + 1]? = some a1 ∧ IsFileS a1) ∧ (∀ m, m < j * 2 → ∀ c d, ds[m]? = some c → cs[m]? = some d → c.data = d.data) ∧ (∀ m, j * 2 ≤ m → m < n * 2 → ∃ u, ds[m]? = some (.leaf u)) ∧ Below w.heap.size w wr)
    (fun i _ => n - (intOf i).toNat)
  case atStart => exact ⟨0, ds0, Nat.zero_le _, rfl, HO1.out, ⟨by rw [HBL.out]; simp, by rw [HBL.out]; simp⟩, fun p hp => by omega, fun m hm => by omega, fun m _ hm => HLF.out m hm, HB1.out⟩
  case round =>
    obtain ⟨j, ds, hj, rfl, hown, hnd, hrows, hdat, hzero, hbw⟩ := hrel
    have HO := Lib.hid hown; have HND := Lib.hid hnd; have HRS := Lib.hid hrows; have HDT := Lib.hid hdat; have HZR := Lib.hid hzero; have HB := Lib.hid hbw
    clear hown hnd hrows hdat hzero hbw HO1 HB1 HBL HLF
    have HDL := Lib.hid (show ds.length = n * 2 by have h := HO.out; rw [Rw.OwnR] at h; have := h.1.1.1; rwa [List.length_map] at this)
    by_cases hlt : (j : Int) < (n : Int)
    · rcases HC.out with h0 | ⟨g, off, rfl, hg, hcells⟩
      · omega
      · have HCL := Lib.hid hcells; clear hcells
        obtain ⟨a0, a1, f0, f1, s1⟩ := HROW.out j (by omega)
        have c0 : wr.cell? ⟨g, off + j * 2, none⟩ = some (.string a0) := by rw [HB.out.cell (show g < _ by omega)]; exact HCL.out (j * 2) _ (by rw [List.getElem?_map, f0]; rfl)
        have HM0 := Lib.hid f0; clear f0
        have c1 : wr.cell? ⟨g, off + j * 2 + 1, none⟩ = some (a1.cell) := by rw [HB.out.cell (show g < _ by omega)]; rw [Nat.add_assoc]; exact HCL.out (j * 2 + 1) _ (by rw [List.getElem?_map, f1]; rfl)
        have HM1 := Lib.hid f1; clear f1
        have hto := toL_Server a0 a1 wr s1 (Rw.ReadR.mono HB.out.size _ (Rw.ReadR.below HB.out (Nat.le_refl _) _ (HIN.out _ (List.mem_of_getElem? HM1.out)))) (Nat.le_trans (weightL_mem (List.mem_of_getElem? HM1.out)) HWL.out)
        obtain ⟨xa1, xn1, xc1, hxc1⟩ := sl_form (is_sl_FileS s1) (HIN.out _ (List.mem_of_getElem? HM1.out))
        rw [hxc1] at hto c1
        have HTO := Lib.hid hto; clear hto
        go_wp2_with fail
        refine HTO.out.mono ?_
        rintro e w2 ⟨y1, rfl, hy1, hd1, hoy, hny, hb2⟩
        obtain ⟨ya1, yn1, yc1, hyc1⟩ := sl_form (is_sl_FileS hy1) (Rw.OwnR.reads _ (ownRL_iff.1 hoy y1 (by simp)))
        rw [hyc1]
        have HY1 := Lib.hid hy1; have HDY1 := Lib.hid hd1; have HYC1 := Lib.hid hyc1; clear hy1 hd1 hyc1
        have HX := Lib.hid (show ∀ b ∈ blocksL [y1], b ∉ blocksL ds ∧ b ≠ w.heap.size from fun b hb => by have h1 := (ownL_lt hoy b hb).1; refine ⟨fun hm => ?_, ?_⟩; · { have h := HO.out; rw [Rw.OwnR] at h; have h2 := ownL_lt h.2 b hm; omega }; · { have h := HO.out; rw [Rw.OwnR] at h; have h2 := h.1.1.lt w.heap.size rfl; omega })
        have HO2 := Lib.hid (Rw.OwnR.top (HO.out.later hb2)); have HB2 := Lib.hid (HB.out.trans (hb2.mono HB.out.size)); have HOY := Lib.hid (own_mono_L hoy HB.out.size); have HNY := Lib.hid hny
        clear hoy hny hb2
        obtain ⟨u0, hu0⟩ := HZR.out (j * 2) (by omega) (by omega)
        have d0 : w2.cell? ⟨w.heap.size, j * 2, none⟩ = some u0 := by have h := HO2.out; rw [Rw.OwnR] at h; rw [h.1.1.cellAt (j * 2) (by omega), List.getElem?_map, hu0]; rfl
        have z0 : w2.frozen? ⟨w.heap.size, j * 2, none⟩ = false := by have h := HO2.out; rw [Rw.OwnR] at h; exact h.1.1.frozenAt _
        have HU0 := Lib.hid hu0; clear hu0
        obtain ⟨u1, hu1⟩ := HZR.out (j * 2 + 1) (by omega) (by omega)
        have d1 : w2.cell? ⟨w.heap.size, j * 2 + 1, none⟩ = some u1 := by have h := HO2.out; rw [Rw.OwnR] at h; rw [h.1.1.cellAt (j * 2 + 1) (by omega), List.getElem?_map, hu1]; rfl
        have z1 : w2.frozen? ⟨w.heap.size, j * 2 + 1, none⟩ = false := by have h := HO2.out; rw [Rw.OwnR] at h; exact h.1.1.frozenAt _
        have HU1 := Lib.hid hu1; clear hu1
        go_wp2
        go_roundw
        case rel =>
          have P0 := HO2.out
          have N0 := HND.out
          have D0 := HOY.out
          have Q0 := P0.put (y := .leaf (.string a0)) N0.1 (show (ds)[j * 2]? = some (.leaf u0) by exact HU0.out) (by rw [Rw.OwnR]; rfl) (by rw [Rw.blocks]; simp)
          have P1 := Rw.OwnR.top Q0.1
          have N1 : w.heap.size ∉ blocksL ((ds).set (j * 2) (.leaf (.string a0))) ∧ (blocksL ((ds).set (j * 2) (.leaf (.string a0)))).Nodup := ⟨fun h => by rcases (Q0.2.2.1 _).1 h with h | h; · { rw [Rw.blocks] at h; cases h }; · { exact N0.1 h }, Q0.2.2.2 N0.2 (by rw [Rw.blocks]; simp) (by rw [Rw.blocks]; intro b hb; cases hb)⟩
          have D1 := ownL_only (L := [y1]) D0 Q0.2.1 (fun b hb hm => by rw [List.mem_singleton] at hm; exact (HX.out b hb).2 hm)
          have Q1 := P1.put (y := y1) N1.1 (show (((ds).set (j * 2) (.leaf (.string a0))))[j * 2 + 1]? = some (.leaf u1) by rw [List.getElem?_set_ne (by omega)]; exact HU1.out) (Rw.OwnR.top (ownRL_iff.1 D1 y1 (by simp))) (fun hm => (HX.out _ (blocksL_mem.2 ⟨y1, by simp, hm⟩)).2 rfl)
          rw [HYC1.out] at Q1
          have P2 := Rw.OwnR.top Q1.1
          have N2 : w.heap.size ∉ blocksL ((((ds).set (j * 2) (.leaf (.string a0)))).set (j * 2 + 1) (y1)) ∧ (blocksL ((((ds).set (j * 2) (.leaf (.string a0)))).set (j * 2 + 1) (y1))).Nodup := ⟨fun h => by rcases (Q1.2.2.1 _).1 h with h | h; · { exact (HX.out _ (blocksL_mem.2 ⟨y1, by simp, h⟩)).2 rfl }; · { exact N1.1 h }, Q1.2.2.2 N1.2 (nodup_in HNY.out (by simp)) (fun b hb hm => by rcases (Q0.2.2.1 _).1 hm with hm | hm; · { rw [Rw.blocks] at hm; cases hm }; exact (HX.out b (blocksL_mem.2 ⟨y1, by simp, hb⟩)).1 hm)⟩
          have D2 := ownL_only (L := [y1]) D1 Q1.2.1 (fun b hb hm => by rw [List.mem_singleton] at hm; exact (HX.out b hb).2 hm)
          refine ⟨j + 1, ((((ds).set (j * 2) (.leaf (.string a0)))).set (j * 2 + 1) (y1)), by omega, by go_num, P2, N2, fun p hp => ?_, fun m hm c d hc hd => ?_, fun m hm1 hm2 => ?_, ((HB2.out.setCell (Nat.le_refl _) _).setCell (Nat.le_refl _) _)⟩
          · by_cases e : p = j
            · subst e
              exact ⟨a0, y1, by rw [List.getElem?_set_ne (by omega), List.getElem?_set_self (by have := HDL.out; first | omega | (simp only [List.length_set]; omega))], by rw [List.getElem?_set_self (by have := HDL.out; first | omega | (simp only [List.length_set]; omega))], HY1.out⟩
            · obtain ⟨o0, o1, f0, f1, s1⟩ := HRS.out p (by omega)
              exact ⟨o0, o1, by rw [List.getElem?_set_ne (by omega), List.getElem?_set_ne (by omega)]; exact f0, by rw [List.getElem?_set_ne (by omega), List.getElem?_set_ne (by omega)]; exact f1, s1⟩
          · have hmm : m < j * 2 ∨ m = j * 2 ∨ m = j * 2 + 1 := by omega
            rcases hmm with h | rfl | rfl
            · rw [List.getElem?_set_ne (by omega), List.getElem?_set_ne (by omega)] at hc; exact HDT.out m h c d hc hd
            · rw [List.getElem?_set_ne (by omega), List.getElem?_set_self (by have := HDL.out; first | omega | (simp only [List.length_set]; omega))] at hc; cases hc; rw [HM0.out] at hd; cases hd; rfl
            · rw [List.getElem?_set_self (by have := HDL.out; first | omega | (simp only [List.length_set]; omega))] at hc; cases hc; rw [HM1.out] at hd; cases hd; exact HDY1.out
          · obtain ⟨u, hu⟩ := HZR.out m (by omega) hm2; exact ⟨u, by rw [List.getElem?_set_ne (by omega), List.getElem?_set_ne (by omega)]; exact hu⟩
        case measure => simp [intOf]; omega
    · have hjn : j = n := by omega
      subst hjn
      go_wp2
      go_ret
      refine ⟨.sl (.slice (some ⟨w.heap.size, 0, none⟩) j j) j 2 29 ds, rfl, ⟨_, _, _, _, rfl, HRS.out⟩, ?_, ?_, HO.out, HB.out⟩
      · rw [Rw.data, dataL_ext (by rw [HDL.out, HLEN.out]) fun m c d hc hd => HDT.out m (by have := (List.getElem?_eq_some_iff.1 hc).1; have := HDL.out; omega) c d hc hd]
      · rw [Rw.blocks]; exact List.nodup_cons.2 HND.out

set_option maxRecDepth 100000 in
set_option maxHeartbeats 4000000 in
theorem mk_ServerS (x : Rw) (hx : IsServerS x) (lo hi k0 : Nat) (q : Int) (hq : q = k0) (w : World) (ho : x.OwnR lo hi w) (hd : x.blocks.Nodup) (hk : k0 + x.count ≤ 4611686018427387904) :
    Calls Tryd.prog 20 #[x.cell, .int .i64 q] w fun e w' => e = .returned (.int .i64 ((k0 + x.count : Nat) : Int)) ∧ (x.mark k0).OwnR lo hi w' ∧ OnlyB x.blocks w w' := by
  subst hq
  obtain ⟨v, n, e0, cs, rfl, hrow⟩ := hx
  rw [Rw.cell_sl]; rw [Rw.count] at hk ⊢; rw [mark_cell_sl]
  have ho2 := ho; rw [Rw.OwnR] at ho2
  have hlen : cs.length = n * 2 := by have := ho2.1.1.1; rwa [List.length_map] at this
  have hrw := ho2.1.1.2; clear ho2
  have HROW := Lib.hid hrow; have HD := Lib.hid hd; have HO0 := Lib.hid ho; have HLEN := Lib.hid hlen; have HK := Lib.hid hk; clear hrow hd ho hlen hk
  rcases hrw with ⟨rfl, h0⟩ | ⟨g, cap, cur, rfl, hg, _, hcap, hm, _⟩
  · subst h0
    have hz : cs = [] := List.eq_nil_of_length_eq_zero (by have := HLEN.out; omega)
    subst hz
    go_enter Tryd.func20, Tryd.ntmps20
    go_wp2
    refine wp_loop_rounds 1 ?_
    rw [rounds_succ]
    go_wp2
    go_ret
    exact ⟨by simp [countL], by rw [markL]; exact HO0.out, OnlyB.refl _ _⟩
  · unfold maxLen at hm
    obtain ⟨st, hst⟩ : ∃ f : Nat → List Rw, f = markTo cs k0 := ⟨_, rfl⟩
    obtain ⟨cn, hcn⟩ : ∃ f : Nat → Nat, f = fun m => k0 + countL (cs.take m) := ⟨_, rfl⟩
    have HST := Lib.hid hst; have HCN := Lib.hid hcn; clear hst hcn
    have HTOP := Lib.hid (fun m => show cn m ≤ 4611686018427387904 by rw [HCN.out]; have := countL_take_le cs m; have := HK.out; show k0 + countL (cs.take m) ≤ _; omega)
    have HNOT := Lib.hid (show g ∉ blocksL cs by have := HD.out; rw [Rw.blocks] at this; exact (List.nodup_cons.1 (show (g :: blocksL cs).Nodup from this)).1)
    have HOB := Lib.hid (show ∀ m, blocksL (st m) = blocksL cs from fun m => by rw [HST.out]; exact markTo_blocks cs k0 m)
    go_enter Tryd.func20, Tryd.ntmps20
    go_wp2
    go_loopw [1, 5] (fun m i wr => ∃ (j : Nat), j ≤ n ∧ i = .int .i64 j ∧ m = .int .i64 (cn (j * 2) : Int) ∧ (Rw.sl (.slice (some ⟨g, 0, none⟩) n cap) n 2 e0 (st (j * 2))).OwnR lo hi wr ∧ OnlyB (Rw.sl (.slice (some ⟨g, 0, none⟩) n cap) n 2 e0 cs).blocks w wr)
      (fun _ i _ => n - (intOf i).toNat)
    case atStart => exact ⟨0, Nat.zero_le _, rfl, by rw [HCN.out]; simp [countL], by rw [HST.out, Nat.zero_mul, markTo_zero]; exact HO0.out, OnlyB.refl _ _⟩
    case round =>
      obtain ⟨j, hj, rfl, rfl, hown, hon⟩ := hrel
      have HO := Lib.hid hown; have HN := Lib.hid hon
      clear hown hon
      by_cases hlt : (j : Int) < (n : Int)
      · obtain ⟨a0, a1, f0, f1, s1⟩ := HROW.out j (by omega)
        have hc0 : cn (j * 2 + 1) = cn (j * 2) + 1 := by rw [HCN.out]; have := countL_more f0; rw [Rw.count] at this; show k0 + countL (cs.take (j * 2 + 1)) = k0 + countL (cs.take (j * 2)) + _; omega
        have hs0 : (st (j * 2)).set (j * 2) (.leaf (.string (mt (cn (j * 2))))) = st (j * 2 + 1) := by rw [HST.out, HCN.out]; have := markTo_next f0 k0; rw [mark_leaf] at this; exact this
        have ha0 : (st (j * 2))[j * 2]? = some (.leaf (.string a0)) := by rw [HST.out]; exact markTo_at f0 k0
        have HC0 := Lib.hid hc0; have HS0 := Lib.hid hs0; have HA0 := Lib.hid ha0; clear hc0 hs0 ha0 f0
        have hc1 : cn (j * 2 + 2) = cn (j * 2 + 1) + a1.count := by rw [HCN.out]; have := countL_more f1; skip; show k0 + countL (cs.take (j * 2 + 1 + 1)) = k0 + countL (cs.take (j * 2 + 1)) + _; omega
        have hs1 : (st (j * 2 + 1)).set (j * 2 + 1) (a1.mark (cn (j * 2 + 1))) = st (j * 2 + 2) := by rw [HST.out, HCN.out]; have := markTo_next f1 k0;  exact this
        have ha1 : (st (j * 2 + 1))[j * 2 + 1]? = some (a1) := by rw [HST.out]; exact markTo_at f1 k0
        have HF1 := Lib.hid f1; have HC1 := Lib.hid hc1; have HS1 := Lib.hid hs1; have HA1 := Lib.hid ha1; clear hc1 hs1 ha1 f1
        obtain ⟨q0, hq0⟩ : ∃ q, cn (j * 2) = q := ⟨_, rfl⟩
        obtain ⟨q1, hq1⟩ : ∃ q, cn (j * 2 + 1) = q := ⟨_, rfl⟩
        obtain ⟨q2, hq2⟩ : ∃ q, cn (j * 2 + 2) = q := ⟨_, rfl⟩
        rw [hq0, hq1] at HC0
        rw [hq0] at HS0
        rw [hq1, hq2] at HC1
        rw [hq1] at HS1
        have ht0 : q0 ≤ 4611686018427387904 := by rw [← hq0]; exact HTOP.out _
        have ht1 : q1 ≤ 4611686018427387904 := by rw [← hq1]; exact HTOP.out _
        have ht2 : q2 ≤ 4611686018427387904 := by rw [← hq2]; exact HTOP.out _
        rw [hq0]
        have HE := Lib.hid (show cn ((j + 1) * 2) = q2 by rw [Nat.add_mul, Nat.one_mul]; exact hq2)
        clear hq0 hq1 hq2
        go_wp2_with fail
        refine (mark_anyI q0 _ rfl (by omega) _).mono ?_
        rintro e w0 ⟨rfl, hg0⟩
        have HO0a := Lib.hid (HO.out.later hg0.below)
        have HN0a := Lib.hid (HN.out.trans (OnlyB.of_below hg0.below _))
        have r0 := HO0a.out; rw [Rw.OwnR] at r0
        have d0 : w0.cell? ⟨g, j * 2, none⟩ = some (.string a0) := by rw [r0.1.1.cellAt (j * 2) (by omega), List.getElem?_map, HA0.out]; rfl
        have z0 : w0.frozen? ⟨g, j * 2, none⟩ = false := r0.1.1.frozenAt _
        have hsto := HO0a.out.store (v := .string (mt q0)) (by rw [HOB.out]; exact HNOT.out) HA0.out rfl
        rw [HS0.out] at hsto
        have HO0' := Lib.hid hsto.1; have HN0' := Lib.hid (HN0a.out.trans (hsto.2.1.mono (by intro i hi; rw [Rw.blocks]; exact List.mem_append.2 (Or.inl hi)))); clear hsto r0 hg0
        have r1 := HO0'.out; rw [Rw.OwnR] at r1
        have d1 := r1.1.1.cellAt (j * 2 + 1) (by omega); rw [List.getElem?_map, HA1.out] at d1; replace d1 := d1.trans (show _ = some a1.cell from rfl)
        have HI1 := Lib.hid (ownRL_iff.1 r1.2 _ (List.mem_of_getElem? HA1.out)); clear r1
        go_wp2_with fail
        refine (mk_FileS a1 s1 lo hi q1 _ (by have := HC0.out; omega) _ HI1.out (inner_nodup HD.out HF1.out) (by have := HC1.out; omega)).mono ?_
        rintro e w1 ⟨rfl, hoi, hon⟩
        rw [show q1 + a1.count = q2 from HC1.out.symm]
        have HN1' := Lib.hid (HN0'.out.trans (hon.mono (inner_mem HF1.out)))
        have hin := HO0'.out.inner (by rw [blocks_same (HOB.out _)]; exact HD.out) HA1.out hon hoi (mark_cell (is_sl_FileS s1) _) (mark_blocks _ _)
        rw [HS1.out] at hin
        have HO1' := Lib.hid hin.1; clear hin hoi hon d1
        go_wp2_with fail
        go_roundw
        case rel => exact ⟨j + 1, by omega, by go_num, by first | (rw [HE.out]; done) | (rw [HE.out]; have := HC0.out; have := HC1.out; go_num), by rw [Nat.add_mul, Nat.one_mul]; exact HO1'.out, HN1'.out⟩
        case measure => simp [intOf]; omega
      · have hjn : j = n := by omega
        subst hjn
        have HF := Lib.hid (show cn (j * 2) = k0 + countL cs by rw [HCN.out]; show k0 + countL (cs.take (j * 2)) = _; rw [List.take_of_length_le (by have := HLEN.out; omega)])
        have HG := Lib.hid (show st (j * 2) = markL cs k0 by rw [HST.out]; exact markTo_full cs k0 (by have := HLEN.out; omega))
        go_wp2_with fail
        go_ret
        exact ⟨by rw [HF.out]; rfl, by rw [← HG.out]; exact HO.out, HN.out⟩

set_option maxRecDepth 100000 in
set_option maxHeartbeats 4000000 in
theorem hd_ServerS (x : Rw) (hx : IsServerS x) (hi k0 : Nat) (q : Int) (hq : q = k0) (w : World) (hr : (x.mark k0).ReadR hi w) (hh : hi ≤ w.heap.size) (hk : k0 + x.count ≤ 4611686018427387904) :
    Calls Tryd.prog 21 #[x.cell, .int .i64 q] w fun e w' => e = .returned (.int .i64 ((k0 + x.count : Nat) : Int)) ∧ Grw w w' := by
  have mixed : Tryd.prog.follows .mixedOrders = true := by kernel_rfl
  subst hq
  obtain ⟨v, n, e0, cs, rfl, hrow⟩ := hx
  rw [Rw.cell_sl]; rw [Rw.count] at hk ⊢; rw [mark_cell_sl, Rw.ReadR] at hr
  obtain ⟨⟨a, cap, rfl, hlen, hc1, hc2, _, hcells⟩, hrin⟩ := hr
  rw [markL_len] at hlen
  have HROW := Lib.hid hrow; have HLEN := Lib.hid hlen; have HK := Lib.hid hk; have HC := Lib.hid hcells; have HIN := Lib.hid hrin; clear hrow hlen hk hcells hrin
  obtain ⟨cn, hcn⟩ : ∃ f : Nat → Nat, f = fun m => k0 + countL (cs.take m) := ⟨_, rfl⟩
  have HCN := Lib.hid hcn; clear hcn
  have HTOP := Lib.hid (fun m => show cn m ≤ 4611686018427387904 by rw [HCN.out]; have := countL_take_le cs m; have := HK.out; show k0 + countL (cs.take m) ≤ _; omega)
  go_enter Tryd.func21, Tryd.ntmps21
  go_wp2
  go_loopw [1, 5] (fun m i wr => ∃ (j : Nat), j ≤ n ∧ i = .int .i64 j ∧ m = .int .i64 (cn (j * 2) : Int) ∧ Grw w wr)
    (fun _ i _ => n - (intOf i).toNat)
  case atStart => exact ⟨0, Nat.zero_le _, rfl, by rw [HCN.out]; simp [countL], Grw.refl _⟩
  case round =>
    obtain ⟨j, hj, rfl, rfl, hs⟩ := hrel
    have HS := Lib.hid hs
    clear hs
    by_cases hlt : (j : Int) < (n : Int)
    · rcases HC.out with h0 | ⟨g, off, rfl, hg, hcells⟩
      · omega
      · have HCL := Lib.hid hcells; clear hcells
        obtain ⟨a0, a1, f0, f1, s1⟩ := HROW.out j (by omega)
        have hc0 : cn (j * 2 + 1) = cn (j * 2) + 1 := by rw [HCN.out]; have := countL_more f0; rw [Rw.count] at this; show k0 + countL (cs.take (j * 2 + 1)) = k0 + countL (cs.take (j * 2)) + _; omega
        have hm0 : (markL cs k0)[j * 2]? = some (.leaf (.string (mt (cn (j * 2))))) := by rw [HCN.out]; have := markL_at f0 k0; rw [mark_leaf] at this; exact this
        have hl0 : w.cell? ⟨g, off + j * 2, none⟩ = some (.string (mt (cn (j * 2)))) := HCL.out (j * 2) _ (by rw [List.getElem?_map, hm0]; rfl)
        have HC0 := Lib.hid hc0; have HL0 := Lib.hid hl0; clear hc0 hl0 f0 hm0
        have hc1 : cn (j * 2 + 2) = cn (j * 2 + 1) + a1.count := by rw [HCN.out]; have := countL_more f1; skip; show k0 + countL (cs.take (j * 2 + 1 + 1)) = k0 + countL (cs.take (j * 2 + 1)) + _; omega
        have hm1 : (markL cs k0)[j * 2 + 1]? = some (a1.mark (cn (j * 2 + 1))) := by rw [HCN.out]; have := markL_at f1 k0;  exact this
        have hl1 : w.cell? ⟨g, off + j * 2 + 1, none⟩ = some ((a1.mark (cn (j * 2 + 1))).cell) := by rw [Nat.add_assoc]; exact HCL.out (j * 2 + 1) _ (by rw [List.getElem?_map, hm1]; rfl)
        have hrd1 := readRL_iff.1 HIN.out _ (List.mem_of_getElem? hm1); rw [mark_cell (is_sl_FileS s1)] at hl1
        have HC1 := Lib.hid hc1; have HL1 := Lib.hid hl1; clear hc1 hl1 f1 hm1
        obtain ⟨q0, hq0⟩ : ∃ q, cn (j * 2) = q := ⟨_, rfl⟩
        obtain ⟨q1, hq1⟩ : ∃ q, cn (j * 2 + 1) = q := ⟨_, rfl⟩
        obtain ⟨q2, hq2⟩ : ∃ q, cn (j * 2 + 2) = q := ⟨_, rfl⟩
        rw [hq0, hq1] at HC0
        rw [hq0] at HL0
        rw [hq1, hq2] at HC1
        rw [hq1] at hrd1; have HRD1 := Lib.hid hrd1; clear hrd1
        have ht0 : q0 ≤ 4611686018427387904 := by rw [← hq0]; exact HTOP.out _
        have ht1 : q1 ≤ 4611686018427387904 := by rw [← hq1]; exact HTOP.out _
        have ht2 : q2 ≤ 4611686018427387904 := by rw [← hq2]; exact HTOP.out _
        rw [hq0]
        have HE := Lib.hid (show cn ((j + 1) * 2) = q2 by rw [Nat.add_mul, Nat.one_mul]; exact hq2)
        clear hq0 hq1 hq2
        have e0 : ((mt q0).toList == (mt q0).toList) = true := beqL_yes rfl
        have c0 : ∀ m os, (Sort.grow (wr.drewN m) os).cell? ⟨g, off + j * 2, none⟩ = some (.string (mt q0)) := cell_grown (show g < wr.heap.size by have := HS.out.below.size; omega) (by rw [HS.out.below.cell (show g < _ by omega)]; exact HL0.out)
        have HM0 := Lib.hid (fun (q : Int) (hq : q = q0) W => mark_anyI q0 q hq ht0 W)
        obtain ⟨m0, hm0⟩ : ∃ m, mt q0 = m := ⟨_, rfl⟩
        rw [hm0] at c0 HM0 e0; clear hm0
        go_wp2_with fail
        refine wp_region_quiet_grown mixed (by kernel_rfl) ?_
        repeat (go_big_quiet_step (first | (go_at_call 36; refine Calls.grown_of (HM0.out _ ?_ _); have := HC0.out; have := HC1.out; omega)))
        refine wpQuiet_nil ?_; intro _ hw'; obtain ⟨⟨nq, osq⟩, hw''⟩ := hw'; subst hw''
        have HG0 := Lib.hid (HS.out.trans ⟨nq, osq, rfl⟩)
        obtain ⟨w0, hw0⟩ : ∃ x, Sort.grow (wr.drewN nq) osq = x := ⟨_, rfl⟩
        rw [hw0] at HG0 ⊢; clear hw0 c0
        have c1 : w0.cell? ⟨g, off + j * 2 + 1, none⟩ = some a1.cell := by rw [HG0.out.below.cell (show g < _ by omega)]; exact HL1.out
        go_wp2_with fail
        refine (hd_FileS a1 s1 hi q1 _ (by have := HC0.out; omega) _ (HRD1.out.grw hh HG0.out) (by have := HG0.out.below.size; omega) (by have := HC1.out; omega)).mono ?_
        rintro e w1 ⟨rfl, hg1⟩
        rw [show q1 + a1.count = q2 from HC1.out.symm]
        have HG1 := Lib.hid (HG0.out.trans hg1); clear hg1 c1
        have n1 : ¬ ((q2 : Int) < 0) := by omega
        go_wp2_with fail
        go_roundw
        case rel => exact ⟨j + 1, by omega, by go_num, by first | (rw [HE.out]; done) | (rw [HE.out]; have := HC0.out; have := HC1.out; go_num), HG1.out⟩
        case measure => simp [intOf]; omega
    · have hjn : j = n := by omega
      subst hjn
      have HF := Lib.hid (show cn (j * 2) = k0 + countL cs by rw [HCN.out]; show k0 + countL (cs.take (j * 2)) = _; rw [List.take_of_length_le (by have := HLEN.out; omega)])
      go_wp2_with fail
      go_ret
      exact ⟨by rw [HF.out]; rfl, HS.out⟩

end Go.Proofs.YtpkicliimhflgaaDoor
namespace Go.Proofs.YtpkicliimhflgaaDoor
open Go.ChangeShapes Go.WideShapes Go.ChangeAt Go.RowKit

def encS (s : ByteArray) : List Value := [.string s]
theorem encS_len (s : ByteArray) : (encS s).length = 1 := rfl
theorem encS_one (s : ByteArray) : ∀ u ∈ encS s, u.oneCell' = true := by
  intro u hu
  simp only [encS, List.mem_cons, List.mem_nil_iff, or_false] at hu
  subst hu; rfl
theorem infoStr : (Tryd.prog.info? 9).map (fun i => (i.zero, i.size, i.bytes)) = some (some (.string ⟨#[]⟩), 1, 16) := by kernel_rfl
/-- A new slice of these elements, the call's own; of what lay in memory nothing is written. -/
def NewK {α : Type} (enc : α → List Value) (k : Nat) (e : TypeId) (xs : List α) (w : World) (en : Ending) (w' : World) : Prop :=
  ∃ v, en = .returned v ∧ OwnK enc k e w.heap.size w'.heap.size w' v xs ∧ Below w.heap.size w w'
theorem add_off (g off t : Nat) : (⟨g, off, none⟩ : Addr).add t = ⟨g, off + t, none⟩ := by unfold Addr.add; split <;> simp_all
theorem leaf_of_data {c : Rw} {v : Value} (h : c.data = (Rw.leaf v).data) : c = .leaf v := by
  cases c with
  | leaf u => rw [leaf_same h]
  | sl u n k e cs => rw [Rw.data, Rw.data] at h; cases h

end Go.Proofs.YtpkicliimhflgaaDoor
namespace Go.Proofs.YtpkicliimhflgaaDoor
open Go.ChangeShapes Go.WideShapes Go.ChangeAt Go.RowKit

section
variable {α : Type} {enc : α → List Value} {k : Nat}
theorem leaf_cells : ∀ l : List Value, (l.map Rw.leaf).map Rw.cell = l
  | [] => rfl
  | a :: l => by rw [List.map_cons, List.map_cons, leaf_cells l]; rfl
def lfCells (enc : α → List Value) (xs : List α) : List Rw := (xs.flatMap enc).map Rw.leaf
/-- A slice of plain structs. -/
def rwP (enc : α → List Value) (k : Nat) (e : TypeId) (v : Value) (xs : List α) : Rw := .sl v xs.length k e (lfCells enc xs)
theorem rwP_cell (enc : α → List Value) (k : Nat) (e : TypeId) (v : Value) (xs : List α) : (rwP enc k e v xs).cell = v := rfl
theorem lf_map (xs : List α) : (lfCells enc xs).map Rw.cell = xs.flatMap enc := leaf_cells _
theorem lf_len (hk : ∀ x, (enc x).length = k) (xs : List α) : (lfCells enc xs).length = xs.length * k := by unfold lfCells; rw [List.length_map, flat_len hk]
theorem lf_at (hk : ∀ x, (enc x).length = k) {xs : List α} {j : Nat} {x : α} (h : xs[j]? = some x) {i : Nat} (hi : i < k) {u : Value} (hu : (enc x)[i]? = some u) : (lfCells enc xs)[j * k + i]? = some (.leaf u) := by
  unfold lfCells; rw [List.getElem?_map, flat_at hk h hi, hu]; rfl
theorem lf_leaf {xs : List α} {c : Rw} (h : c ∈ lfCells enc xs) : ∃ x, x ∈ xs ∧ ∃ u, u ∈ enc x ∧ c = .leaf u := by
  obtain ⟨u, hu, rfl⟩ := List.mem_map.1 h
  obtain ⟨x, hx, hux⟩ := List.mem_flatMap.1 hu
  exact ⟨x, hx, u, hux, rfl⟩
theorem lf_blocks (xs : List α) : blocksL (lfCells enc xs) = [] := blocksL_nil fun c hc => by
  obtain ⟨_, _, u, _, rfl⟩ := lf_leaf hc
  rw [Rw.blocks]
theorem rwP_blocks (e : TypeId) (v : Value) (xs : List α) : (rwP enc k e v xs).blocks = v.ownBlock.toList := by rw [rwP, Rw.blocks, lf_blocks, List.append_nil]
theorem rwP_nodup (e : TypeId) (v : Value) (xs : List α) : (rwP enc k e v xs).blocks.Nodup := by rw [rwP_blocks]; cases v.ownBlock <;> simp
theorem rwP_own (h1 : ∀ x, ∀ u ∈ enc x, u.oneCell' = true) {e : TypeId} {lo hi : Nat} {w : World} {v : Value} {xs : List α} (h : OwnK enc k e lo hi w v xs) : (rwP enc k e v xs).OwnR lo hi w := by
  rw [rwP, Rw.OwnR]
  exact ⟨by rw [lf_map]; exact h, ownRL_iff.2 fun c hc => by obtain ⟨x, _, u, hu, rfl⟩ := lf_leaf hc; rw [Rw.OwnR]; exact h1 x u hu⟩
theorem own_rwP {e : TypeId} {lo hi : Nat} {w : World} {v : Value} {xs : List α} (h : (rwP enc k e v xs).OwnR lo hi w) : OwnK enc k e lo hi w v xs := by
  rw [rwP, Rw.OwnR, lf_map] at h
  exact h.1
theorem rwP_reads (hk : ∀ x, (enc x).length = k) (h1 : ∀ x, ∀ u ∈ enc x, u.oneCell' = true) (e : TypeId) {hi : Nat} {w : World} {v : Value} {xs : List α} (h : ReadsK enc k hi w v xs) : (rwP enc k e v xs).ReadR hi w := by
  rw [rwP, Rw.ReadR]
  have h0 := h
  obtain ⟨a, cap, rfl, g1, g2, g3, g4⟩ := h
  refine ⟨⟨a, cap, rfl, lf_len hk xs, g1, g2, g3, ?_⟩, readRL_iff.2 fun c hc => by obtain ⟨x, _, u, hu, rfl⟩ := lf_leaf hc; rw [Rw.ReadR]; exact h1 x u hu⟩
  rcases g4 with g4 | ⟨g, off, rfl, hg, hc⟩
  · exact Or.inl g4
  · refine Or.inr ⟨g, off, rfl, hg, fun j c hj => ?_⟩
    rw [lf_map] at hj
    have := h0.news hk j c hj
    rwa [add_off] at this
theorem rwP_data (e e' : TypeId) (v u : Value) (xs : List α) : (rwP enc k e v xs).data = (rwP enc k e' u xs).data := by rw [rwP, rwP, Rw.data, Rw.data]
theorem rowP_of_data (hk : ∀ x, (enc x).length = k) {x : Rw} {e : TypeId} {u : Value} {xs : List α} {hi : Nat} {w : World} (h : x.data = (rwP enc k e u xs).data) (hr : x.ReadR hi w) (hk0 : 0 < k) : ReadsK enc k hi w x.cell xs := by
  cases x with
  | leaf v => rw [rwP, Rw.data, Rw.data] at h; cases h
  | sl v n k' e' cs =>
    rw [rwP, Rw.data, Rw.data] at h
    obtain ⟨rfl, hd⟩ := Dt.sl.inj h
    have hl : cs.length = xs.length * k' := by have := congrArg List.length hd; rwa [dataL_len, dataL_len, lf_len hk] at this
    rw [Rw.ReadR] at hr
    obtain ⟨⟨a, cap, rfl, g1, g2, g3, g4, g5⟩, _⟩ := hr
    have hn : n = xs.length := Nat.eq_of_mul_eq_mul_right hk0 (by omega)
    subst hn
    refine ⟨a, cap, rfl, g2, g3, g4, ?_⟩
    rcases g5 with g5 | ⟨g, off, rfl, hg, hc⟩
    · exact Or.inl g5
    · refine Or.inr ⟨g, off, rfl, hg, fun j y hj i hi' => ?_⟩
      have hjl := (List.getElem?_eq_some_iff.1 hj).1
      have hb : j * k' + i < xs.length * k' := by have := Nat.mul_le_mul_right k' (show j + 1 ≤ xs.length by omega); rw [Nat.add_mul] at this; omega
      obtain ⟨c, hcm⟩ : ∃ c, cs[j * k' + i]? = some c := ⟨_, List.getElem?_eq_getElem (by omega)⟩
      obtain ⟨s, hs⟩ : ∃ s, (enc y)[i]? = some s := ⟨_, List.getElem?_eq_getElem (by rw [hk]; exact hi')⟩
      have e1 := leaf_of_data (data_same hd hcm (lf_at hk hj hi' hs))
      rw [Nat.add_assoc, hs]
      refine hc (j * k' + i) _ ?_
      rw [List.getElem?_map, hcm, e1]; rfl
theorem weight_mem {c : Rw} : ∀ {cs : List Rw}, c ∈ cs → c.weight ≤ weightL cs
  | [], h => by cases h
  | d :: ds, h => by
    rw [weightL]
    rcases List.mem_cons.1 h with e | h
    · rw [e]; omega
    · have := weight_mem h; omega
theorem rwP_weight (e : TypeId) (v : Value) (xs : List α) : xs.length ≤ (rwP enc k e v xs).weight := by rw [rwP, Rw.weight]; omega
/-- A string among an element's cells is no longer than the whole. -/
theorem rwP_str {e : TypeId} {v : Value} {xs : List α} {x : α} (hx : x ∈ xs) {s : ByteArray} (hs : Value.string s ∈ enc x) : s.size ≤ (rwP enc k e v xs).weight := by
  have hm : Rw.leaf (.string s) ∈ lfCells enc xs := List.mem_map.2 ⟨_, List.mem_flatMap.2 ⟨x, hx, hs⟩, rfl⟩
  have h1 := weight_mem hm
  have h2 : (Rw.leaf (.string s)).weight = s.size := by rw [Rw.weight]; rfl
  rw [rwP, Rw.weight]; omega
theorem count_leafs : ∀ l : List Value, countL (l.map Rw.leaf) = l.length
  | [] => rfl
  | a :: l => by rw [List.map_cons, countL, count_leafs l, Rw.count, List.length_cons]; omega
theorem rwP_count (hk : ∀ x, (enc x).length = k) (e : TypeId) (v : Value) (xs : List α) : (rwP enc k e v xs).count = xs.length * k := by rw [rwP, Rw.count, lfCells, count_leafs, flat_len hk]
theorem rwP_small {e : TypeId} {v : Value} {xs : List α} (h : ∀ x ∈ xs, ∀ u ∈ enc x, weightV u ≤ 9223372036854775807) : (rwP enc k e v xs).Small := by
  rw [rwP, Rw.Small]
  refine smallL_iff.2 fun c hc => ?_
  obtain ⟨x, hx, u, hu, rfl⟩ := lf_leaf hc
  rw [Rw.Small]; exact h x hx u hu
/-- The cells of an element of such a slice. -/
theorem ReadsK.cells {hi n cap j : Nat} {w : World} {a : Option Addr} {xs : List α} {x : α} (h : ReadsK enc k hi w (.slice a n cap) xs) (hj : xs[j]? = some x) : ∃ g off, a = some ⟨g, off, none⟩ ∧ g < hi ∧ ∀ i, i < k → w.cell? ⟨g, off + j * k + i, none⟩ = (enc x)[i]? := by
  obtain ⟨a', c', e, _, _, _, hc⟩ := h
  injection e with e1 e2 e3; subst e1
  rcases hc with h0 | ⟨g, off, rfl, hg, hc⟩
  · have := (List.getElem?_eq_some_iff.1 hj).1; omega
  · exact ⟨g, off, rfl, hg, hc j x hj⟩
end

end Go.Proofs.YtpkicliimhflgaaDoor
namespace Go.Proofs.YtpkicliimhflgaaDoor
open Go.ChangeShapes Go.WideShapes Go.ChangeAt Go.RowKit

/-- What a slice of this type holds. -/
def IsTokenS (x : Rw) : Prop := ∃ v n e cs, x = .sl v n 4 e cs ∧ ∀ j, j < n → ∃ (a0 : Int) (a1 : ByteArray) (a2 : Rw) (a3 : ByteArray), cs[j * 4]? = some (.leaf (.int .i64 a0)) ∧ cs[j * 4 + 1]? = some (.leaf (.string a1)) ∧ cs[j * 4 + 2]? = some a2 ∧ IsAttrS a2 ∧ cs[j * 4 + 3]? = some (.leaf (.string a3))
theorem is_sl_TokenS {x : Rw} (h : IsTokenS x) : ∃ v n k e cs, x = .sl v n k e cs := by
  obtain ⟨v, n, e, cs, rfl, _⟩ := h
  exact ⟨v, n, _, e, cs, rfl⟩

end Go.Proofs.YtpkicliimhflgaaDoor
namespace Go.Proofs.YtpkicliimhflgaaDoor
open Go.ChangeShapes Go.WideShapes Go.ChangeAt Go.RowKit

def inB (n lo hi : Int) : Bool := decide (lo ≤ n ∧ n ≤ hi)
theorem inB_yes {n lo hi : Int} (h1 : lo ≤ n) (h2 : n ≤ hi) : inB n lo hi = true := by unfold inB; exact decide_eq_true ⟨h1, h2⟩
theorem inB_no {n lo hi : Int} (h : n < lo ∨ hi < n) : inB n lo hi = false := by unfold inB; exact decide_eq_false (by omega)
theorem ret_b {a b : Bool} (h : a = b) : Ending.returned (.bool a) = .returned (.bool b) := by rw [h]
theorem ret_i {a b : Int} (h : a = b) : Ending.returned (.int .i64 a) = .returned (.int .i64 b) := by rw [h]

theorem rin_any (n lo hi : Int) (w : World) :
    Calls Tryd.prog 44 #[.int .i64 n, .int .i64 lo, .int .i64 hi] w fun e w' => e = .returned (.bool (inB n lo hi)) ∧ w = w' := by
  by_cases h1 : lo ≤ n
  · by_cases h2 : n ≤ hi
    · go_enter Tryd.func44, Tryd.ntmps44
      go_wp2
      go_ret
      exact ⟨ret_b (inB_yes h1 h2).symm, rfl⟩
    · go_enter Tryd.func44, Tryd.ntmps44
      go_wp2
      go_ret
      exact ⟨ret_b (inB_no (by omega)).symm, rfl⟩
  · have h2 : decide (lo ≤ n) = false := decide_eq_false h1
    go_enter Tryd.func44, Tryd.ntmps44
    go_wp2
    go_ret
    exact ⟨ret_b (inB_no (by omega)).symm, rfl⟩

theorem lin_any (n lo hi : Int) (w : World) :
    Calls Tryd.prog 41 #[.int .i64 n, .int .i64 lo, .int .i64 hi] w fun e w' => e = .returned (.bool (inB n lo hi)) ∧ w = w' := by
  by_cases h1 : lo ≤ n
  · by_cases h2 : n ≤ hi
    · go_enter Tryd.func41, Tryd.ntmps41
      go_wp2
      go_ret
      exact ⟨ret_b (inB_yes h1 h2).symm, rfl⟩
    · go_enter Tryd.func41, Tryd.ntmps41
      go_wp2
      go_ret
      exact ⟨ret_b (inB_no (by omega)).symm, rfl⟩
  · have h2 : decide (lo ≤ n) = false := decide_eq_false h1
    go_enter Tryd.func41, Tryd.ntmps41
    go_wp2
    go_ret
    exact ⟨ret_b (inB_no (by omega)).symm, rfl⟩

def cdivI (a b : Int) : Int := if 0 ≤ a ∧ a ≤ 1000000000000 ∧ 1 ≤ b ∧ b ≤ 1000000000000 then (a + b - 1) / b else 0

def modI (a b : Int) : Int := if 1 ≤ b ∧ b ≤ 1000000000000 then a % b else 0
theorem tmod_neg_lt {a b : Int} (hb : 1 ≤ b) (h : a.tmod b < 0) : a.tmod b + b = a % b := by
  have := Int.emod_eq_add_self_emod (a := a) (b := b)
  rw [Int.tmod_eq_emod] at *
  split at h <;> rename_i hc
  · have := Int.emod_nonneg a (b := b) (by omega); omega
  · rw [if_neg hc]; have : (b.natAbs : Int) = b := by omega
    omega
theorem tmod_nonneg_eq {a b : Int} (hb : 1 ≤ b) (h : ¬ a.tmod b < 0) : a.tmod b = a % b := by
  rw [Int.tmod_eq_emod] at *
  split <;> rename_i hc
  · omega
  · rw [if_neg hc] at h; have : (b.natAbs : Int) = b := by omega
    have := Int.emod_lt_of_pos a (b := b) (by omega); omega
theorem tmod_bd {a b : Int} (hb : 1 ≤ b) : -b < a.tmod b ∧ a.tmod b < b := by
  have h1 := Int.emod_lt_of_pos a (b := b) (by omega)
  have h2 := Int.emod_nonneg a (b := b) (by omega)
  rw [Int.tmod_eq_emod]
  have : (b.natAbs : Int) = b := by omega
  split <;> omega

theorem add_mod_pos {a b : Int} (hb : 1 ≤ b) : (a.tmod b + b) % b = a % b := by
  rw [Int.add_emod_right, Int.tmod_eq_emod]
  split
  · simp
  · have : (b.natAbs : Int) = b := by omega
    rw [this, Int.sub_emod_right, Int.emod_emod]
def minI (a b : Int) : Int := if b < a then b else a
def maxI (a b : Int) : Int := if a < b then b else a

end Go.Proofs.YtpkicliimhflgaaDoor
namespace Go.Proofs.YtpkicliimhflgaaDoor
open Go.ChangeShapes Go.WideShapes Go.ChangeAt Go.RowKit

def isLow (b : UInt8) : Bool := decide (97 ≤ b.toNat ∧ b.toNat ≤ 122)
/-- A name: 1 to 8 small letters. -/
def isNm (s : ByteArray) : Bool := decide (1 ≤ s.size ∧ s.size ≤ 8) && s.data.toList.all isLow
theorem get_at {s : ByteArray} {k : Nat} (h : k < s.size) : s.data.toList[k]? = some s[k] := by
  have h2 : k < s.data.toList.length := by rw [Array.length_toList]; exact h
  rw [List.getElem?_eq_getElem h2]; rfl
/-- The first k bytes are letters. -/
def lowTo (s : ByteArray) (k : Nat) : Prop := ∀ j (h : j < s.size), j < k → isLow s[j] = true
theorem lowTo.zero (s : ByteArray) : lowTo s 0 := fun _ _ h => absurd h (Nat.not_lt_zero _)
theorem lowTo.succ {s : ByteArray} {k : Nat} (h : lowTo s k) (hk : k < s.size) (h1 : (97 : Int) ≤ (s[k].toNat : Int)) (h2 : (s[k].toNat : Int) ≤ 122) : lowTo s (k + 1) := by
  intro j hj hjk
  by_cases e : j = k
  · subst e; unfold isLow; exact decide_eq_true (by omega)
  · exact h j hj (by omega)
theorem isNm_full {s : ByteArray} {k : Nat} (h : lowTo s k) (hk : k = s.size) : isNm s = decide (1 ≤ s.size ∧ s.size ≤ 8) := by
  unfold isNm
  have : s.data.toList.all isLow = true := by
    rw [List.all_eq_true]
    intro b hb
    obtain ⟨j, hj⟩ := List.mem_iff_getElem?.1 hb
    have hjs : j < s.size := by
      have := (List.getElem?_eq_some_iff.1 hj).1
      rwa [Array.length_toList] at this
    rw [get_at hjs] at hj
    cases hj
    exact h j hjs (by omega)
  rw [this, Bool.and_true]
theorem isNm_bad {s : ByteArray} {k : Nat} (hk : k < s.size) (h : (s[k].toNat : Int) < 97 ∨ 122 < (s[k].toNat : Int)) : isNm s = false := by
  unfold isNm
  have : s.data.toList.all isLow = false := by
    rw [Bool.eq_false_iff]
    intro hall
    have := List.all_eq_true.1 hall s[k] (List.mem_iff_getElem?.2 ⟨k, get_at hk⟩)
    unfold isLow at this
    have := of_decide_eq_true this
    omega
  rw [this, Bool.and_false]
theorem isNm_len {s : ByteArray} (h : ¬ (1 ≤ s.size ∧ s.size ≤ 8)) : isNm s = false := by
  unfold isNm; rw [decide_eq_false h, Bool.false_and]

theorem inB_size (s : ByteArray) : inB s.size 1 8 = decide (1 ≤ s.size ∧ s.size ≤ 8) := by
  unfold inB
  apply decide_eq_decide.2
  omega

set_option maxHeartbeats 1000000 in
theorem nm_impl (s : ByteArray) (hs : s.size ≤ 9223372036854775807) (w : World) :
    Calls Tryd.prog 28 #[.string s] w fun e w' => e = .returned (.bool (isNm s)) ∧ w = w' := by
  by_cases hl : 1 ≤ (s.size : Int) ∧ (s.size : Int) ≤ 8
  · obtain ⟨hl1, hl2⟩ := hl
    have e1 : inB s.size 1 8 = true := inB_yes hl1 hl2
    go_enter Tryd.func28, Tryd.ntmps28
    go_wp2_with (go_at_call 44; refine (rin_any _ _ _ _).mono ?_; rintro e w' ⟨rfl, rfl⟩)
    go_loop [10] (fun i => ∃ (k : Nat), k ≤ s.size ∧ i = .int .i64 k ∧ lowTo s k) (fun i => s.size - (intOf i).toNat)
    case atStart => exact ⟨0, Nat.zero_le _, rfl, lowTo.zero s⟩
    case round =>
      obtain ⟨k, hk, rfl, hv⟩ := hrel
      have HV := Lib.hid hv; clear hv
      by_cases hlt : k < s.size
      · have hlt2 : decide ((k : Int) < (s.size : Int)) = true := by simp; omega
        have hb8 : (s[k].toNat : Int) < 256 := by have := UInt8.toNat_lt s[k]; omega
        by_cases hd1 : (s[k].toNat : Int) < 97
        · have HN := Lib.hid (isNm_bad hlt (Or.inl hd1))
          go_wp2
          go_ret
          exact ⟨ret_b HN.out.symm, rfl⟩
        · have hd1' : decide ((s[k].toNat : Int) < 97) = false := decide_eq_false hd1
          by_cases hd2 : 122 < (s[k].toNat : Int)
          · have HN := Lib.hid (isNm_bad hlt (Or.inr hd2))
            go_wp2
            go_ret
            exact ⟨ret_b HN.out.symm, rfl⟩
          · go_wp2
            go_round
            case rel => exact ⟨k + 1, by omega, by go_num, HV.out.succ hlt (by omega) (by omega)⟩
            case measure => simp [intOf]; omega
      · have HN := Lib.hid (isNm_full HV.out (by omega))
        go_wp2
        go_ret
        exact ⟨ret_b (by rw [HN.out]; exact (decide_eq_true (by omega)).symm), rfl⟩
  · have e1 : inB s.size 1 8 = false := inB_no (by omega)
    have HN := Lib.hid (isNm_len (s := s) (by omega))
    go_enter Tryd.func28, Tryd.ntmps28
    go_wp2_with (go_at_call 44; refine (rin_any _ _ _ _).mono ?_; rintro e w' ⟨rfl, rfl⟩)
    go_ret
    exact ⟨ret_b HN.out.symm, rfl⟩

set_option maxHeartbeats 1000000 in
theorem nm_spec (s : ByteArray) (hs : s.size ≤ 9223372036854775807) (w : World) :
    Calls Tryd.prog 25 #[.string s] w fun e w' => e = .returned (.bool (isNm s)) ∧ w = w' := by
  go_enter Tryd.func25, Tryd.ntmps25
  go_wp2
  go_loop [3] (fun i => ∃ (k : Nat), k ≤ s.size ∧ i = .int .i64 k ∧ lowTo s k) (fun i => s.size - (intOf i).toNat)
  case atStart => exact ⟨0, Nat.zero_le _, rfl, lowTo.zero s⟩
  case round =>
    obtain ⟨k, hk, rfl, hv⟩ := hrel
    have HV := Lib.hid hv; clear hv
    by_cases hlt : k < s.size
    · have hlt2 : decide ((k : Int) < (s.size : Int)) = true := by simp; omega
      have hb8 : (s[k].toNat : Int) < 256 := by have := UInt8.toNat_lt s[k]; omega
      by_cases hd1 : (s[k].toNat : Int) < 97
      · have HN := Lib.hid (isNm_bad hlt (Or.inl hd1))
        go_wp2
        go_ret
        exact ⟨ret_b HN.out.symm, rfl⟩
      · have hd1' : decide ((s[k].toNat : Int) < 97) = false := decide_eq_false hd1
        by_cases hd2 : 122 < (s[k].toNat : Int)
        · have HN := Lib.hid (isNm_bad hlt (Or.inr hd2))
          go_wp2
          go_ret
          exact ⟨ret_b HN.out.symm, rfl⟩
        · go_wp2
          go_round
          case rel => exact ⟨k + 1, by omega, by go_num, HV.out.succ hlt (by omega) (by omega)⟩
          case measure => simp [intOf]; omega
    · have HN := Lib.hid (isNm_full HV.out (by omega))
      have HE := Lib.hid (inB_size s)
      go_wp2_with fail
      refine (lin_any _ _ _ _).mono ?_
      rintro e w' ⟨rfl, rfl⟩
      go_wp2
      go_ret
      exact ⟨ret_b (by rw [HN.out, HE.out]), rfl⟩

end Go.Proofs.YtpkicliimhflgaaDoor
namespace Go.Proofs.YtpkicliimhflgaaDoor
def isVc (b : UInt8) : Bool := decide ((97 ≤ b.toNat ∧ b.toNat ≤ 122) ∨ (48 ≤ b.toNat ∧ b.toNat ≤ 57) ∨ b.toNat = 47)
/-- A value: 1 to 20 small letters, digits or slashes. -/
def isVal (s : ByteArray) : Bool := decide (1 ≤ s.size ∧ s.size ≤ 20) && s.data.toList.all isVc

/-- A token: kind, name, attributes, text. -/
structure Tok where
  kind : Int
  name : ByteArray
  attrs : List (ByteArray × ByteArray)
  text : ByteArray
def tokZero : Tok := ⟨0, ⟨#[]⟩, [], ⟨#[]⟩⟩
def tokClose (n : ByteArray) : Tok := ⟨2, n, [], ⟨#[]⟩⟩
def tokOpen (n : ByteArray) (ats : List (ByteArray × ByteArray)) : Tok := ⟨1, n, ats, ⟨#[]⟩⟩
def tokText (t : ByteArray) : Tok := ⟨3, ⟨#[]⟩, [], t⟩

/-- The first attribute of this name. -/
def findA (ats : List (ByteArray × ByteArray)) (n : ByteArray) : Option ByteArray := match ats with
  | [] => none
  | a :: ats => if a.1 = n then some a.2 else findA ats n
/-- KEY=VALUE. -/
def attrB (p : List UInt8) : Option (ByteArray × ByteArray) := match splitB 61 p with
  | [k, v] => if isNm (ofL k) = true ∧ isVal (ofL v) = true then some (ofL k, ofL v) else none
  | _ => none
/-- The attributes behind those that were taken. -/
def attrsB : List (List UInt8) → List (ByteArray × ByteArray) → Option (List (ByteArray × ByteArray))
  | [], acc => some acc
  | p :: ps, acc => match attrB p with
    | none => none
    | some a => if (findA acc a.1).isSome then none else attrsB ps (acc ++ [a])
def tagB (l : List UInt8) : Option Tok :=
  if 60 < l.length then none else
  match l with
  | 47 :: r => if isNm (ofL r) = true then some (tokClose (ofL r)) else none
  | _ => match splitB 32 l with
    | [] => none
    | n :: ps => match attrsB ps [] with
      | none => none
      | some ats => if isNm (ofL n) = true ∧ ats.length ≤ 4 then some (tokOpen (ofL n) ats) else none

def fmtAs : List (ByteArray × ByteArray) → List UInt8
  | [] => []
  | a :: ats => 32 :: a.1.data.toList ++ 61 :: a.2.data.toList ++ fmtAs ats
/-- The form of a token. -/
def fmtT (t : Tok) : List UInt8 :=
  if t.kind = 1 then 60 :: (t.name.data.toList ++ fmtAs t.attrs) ++ [62]
  else if t.kind = 2 then 60 :: 47 :: t.name.data.toList ++ [62]
  else if t.kind = 3 then t.text.data.toList
  else []
theorem fmtAs_append (ats bs : List (ByteArray × ByteArray)) : fmtAs (ats ++ bs) = fmtAs ats ++ fmtAs bs := by
  induction ats with
  | nil => rfl
  | cons a ats ih => show 32 :: _ ++ _ ++ fmtAs (ats ++ bs) = _; rw [ih]; simp [fmtAs]

theorem attrB_form {p : List UInt8} {a : ByteArray × ByteArray} (h : attrB p = some a) : a.1.data.toList ++ 61 :: a.2.data.toList = p := by
  have hj := joinB_split 61 p
  unfold attrB at h
  split at h
  · rename_i k v hs
    split at h
    · cases h
      rw [hs] at hj
      rw [← hj]; rfl
    · cases h
  · cases h
theorem attrsB_form : ∀ {ps : List (List UInt8)} {acc ats : List (ByteArray × ByteArray)}, attrsB ps acc = some ats → ∃ bs, ats = acc ++ bs ∧ bs.length = ps.length ∧ fmtAs bs = (ps.map fun p => 32 :: p).flatten
  | [], acc, ats, h => ⟨[], by cases h; simp, rfl, rfl⟩
  | p :: ps, acc, ats, h => by
    unfold attrsB at h
    cases ha : attrB p with
    | none => rw [ha] at h; cases h
    | some a =>
      rw [ha] at h
      simp only at h
      split at h
      · cases h
      · obtain ⟨bs, h1, h2, h3⟩ := attrsB_form h
        refine ⟨a :: bs, by rw [h1]; simp, by simp [h2], ?_⟩
        show 32 :: _ ++ _ ++ fmtAs bs = _
        rw [h3, List.map_cons, List.flatten_cons, ← attrB_form ha]
        simp
theorem joinB_flat (c : UInt8) (n : List UInt8) : ∀ ps : List (List UInt8), joinB c (n :: ps) = n ++ (ps.map fun p => c :: p).flatten
  | [] => by show n = _; simp
  | q :: ps => by
    rw [joinB_cons _ _ (List.cons_ne_nil _ _), joinB_flat c q ps]; simp
/-- The token of a tag has the tag as its form. -/
theorem tagB_form {l : List UInt8} {t : Tok} (h : tagB l = some t) : fmtT t = 60 :: l ++ [62] := by
  unfold tagB at h
  split at h
  · cases h
  · split at h
    · split at h
      · cases h; rfl
      · cases h
    · have hj := joinB_split 32 l
      cases hs : splitB 32 l with
      | nil => exact absurd hs (splitB_ne _ _)
      | cons n ps =>
        rw [hs] at h hj
        simp only at h
        cases ha : attrsB ps [] with
        | none => rw [ha] at h; cases h
        | some ats =>
          rw [ha] at h
          simp only at h
          split at h
          · cases h
            obtain ⟨bs, h1, _, h3⟩ := attrsB_form ha
            rw [List.nil_append] at h1; subst h1
            rw [joinB_flat] at hj
            show 60 :: ((ofL n).data.toList ++ fmtAs ats) ++ [62] = _
            rw [h3, ofL_list, hj]
          · cases h
theorem tagB_kind {l : List UInt8} {t : Tok} (h : tagB l = some t) : t.kind = 1 ∨ t.kind = 2 := by
  unfold tagB at h
  split at h
  · cases h
  · split at h
    · split at h
      · cases h; exact Or.inr rfl
      · cases h
    · split at h
      · cases h
      · split at h
        · cases h
        · split at h
          · cases h; exact Or.inl rfl
          · cases h
theorem tagB_long {l : List UInt8} (h : 60 < l.length) : tagB l = none := by unfold tagB; rw [if_pos h]
theorem tagB_short {l : List UInt8} {t : Tok} (h : tagB l = some t) : l.length ≤ 60 := by
  rcases Nat.lt_or_ge 60 l.length with h1 | h1
  · rw [tagB_long h1] at h; cases h
  · exact h1
theorem tagB_close {r : List UInt8} (h : r.length < 60) : tagB (47 :: r) = if isNm (ofL r) = true then some (tokClose (ofL r)) else none := by
  unfold tagB; rw [if_neg (by simp; omega)]; rfl
theorem tagB_open {l : List UInt8} {n : List UInt8} {ps : List (List UInt8)} (h : l.length ≤ 60) (h0 : l[0]? ≠ some 47) (hs : splitB 32 l = n :: ps) :
    tagB l = match attrsB ps [] with
      | none => none
      | some ats => if isNm (ofL n) = true ∧ ats.length ≤ 4 then some (tokOpen (ofL n) ats) else none := by
  unfold tagB
  rw [if_neg (by omega)]
  split
  · exact absurd rfl h0
  · rw [hs]

/-- A text divided into tokens, and what remains. -/
def feedB (x : List UInt8) : List Tok × List UInt8 :=
  if h : 0 < idxB 60 x ∧ idxB 60 x < x.length then
    (tokText (ofL (x.take (idxB 60 x))) :: (feedB (x.drop (idxB 60 x))).1, (feedB (x.drop (idxB 60 x))).2)
  else if h2 : idxB 60 x = 0 ∧ idxB 62 x < x.length then
    ((tagB ((x.take (idxB 62 x)).drop 1)).toList ++ (feedB (x.drop (idxB 62 x + 1))).1, (feedB (x.drop (idxB 62 x + 1))).2)
  else ([], x)
termination_by x.length
decreasing_by all_goals simp only [List.length_drop]; omega
theorem feed_text {x : List UInt8} (h1 : 0 < idxB 60 x) (h2 : idxB 60 x < x.length) :
    feedB x = (tokText (ofL (x.take (idxB 60 x))) :: (feedB (x.drop (idxB 60 x))).1, (feedB (x.drop (idxB 60 x))).2) := by
  rw [feedB, dif_pos ⟨h1, h2⟩]
theorem feed_tag {x : List UInt8} (h1 : idxB 60 x = 0) (h2 : idxB 62 x < x.length) :
    feedB x = ((tagB ((x.take (idxB 62 x)).drop 1)).toList ++ (feedB (x.drop (idxB 62 x + 1))).1, (feedB (x.drop (idxB 62 x + 1))).2) := by
  rw [feedB, dif_neg (by omega), dif_pos ⟨h1, h2⟩]
theorem feed_end {x : List UInt8} (h : idxB 60 x ≠ 0 ∨ idxB 62 x = x.length) (h2 : ¬ (0 < idxB 60 x ∧ idxB 60 x < x.length)) : feedB x = ([], x) := by
  rw [feedB, dif_neg h2, dif_neg (by omega)]
theorem feed_nil : feedB [] = ([], []) := feed_end (Or.inr rfl) (by simp)
/-- Feeding two texts one behind the other. -/
theorem feed_append (a b : List UInt8) : feedB (a ++ b) = ((feedB a).1 ++ (feedB ((feedB a).2 ++ b)).1, (feedB ((feedB a).2 ++ b)).2) := by
  generalize hn : a.length = n
  induction n using Nat.strongRecOn generalizing a with
  | _ n ih =>
    by_cases h1 : 0 < idxB 60 a ∧ idxB 60 a < a.length
    · have e := idxB_lt_append b h1.2
      rw [feed_text h1.1 h1.2, feed_text (x := a ++ b) (by omega) (by rw [e, List.length_append]; omega), e,
        List.take_append_of_le_length (by omega), List.drop_append_of_le_length (by omega),
        ih (a.length - idxB 60 a) (by omega) (a.drop (idxB 60 a)) List.length_drop]
      rfl
    · by_cases h2 : idxB 60 a = 0 ∧ idxB 62 a < a.length
      · have e := idxB_lt_append b h2.2
        have e0 : idxB 60 (a ++ b) = 0 := by rw [idxB_lt_append b (by omega)]; exact h2.1
        rw [feed_tag h2.1 h2.2, feed_tag (x := a ++ b) e0 (by rw [e, List.length_append]; omega), e,
          List.take_append_of_le_length (by omega), List.drop_append_of_le_length (by omega),
          ih (a.length - (idxB 62 a + 1)) (by omega) (a.drop (idxB 62 a + 1)) List.length_drop]
        simp only [List.append_assoc]
      · have hl := idxB_le 60 a
        have hl2 := idxB_le 62 a
        rw [feed_end (x := a) (by omega) h1]
        rfl
/-- One more piece. -/
theorem feed_more {s r : List UInt8} {a b : Nat} {acc : List Tok} (hab : a ≤ b) (h : feedB (s.take a) = (acc, r)) :
    feedB (s.take b) = (acc ++ (feedB (r ++ (s.take b).drop a)).1, (feedB (r ++ (s.take b).drop a)).2) := by
  have e : s.take b = s.take a ++ (s.take b).drop a := by
    conv => lhs; rw [← List.take_append_drop a (s.take b)]
    rw [List.take_take, Nat.min_eq_left hab]
  conv => lhs; rw [e]
  rw [feed_append, h]
/-- What a page's end gives. -/
def endB (r : List UInt8) : List Tok := if r = [] ∨ r[0]? = some 60 then [] else [tokText (ofL r)]
def tokensB (s : List UInt8) : List Tok := (feedB s).1 ++ endB (feedB s).2
/-- A token as texts give it: of a kind, and no text is empty. -/
def GoodT (t : Tok) : Prop := (t.kind = 1 ∨ t.kind = 2) ∨ t.kind = 3 ∧ fmtT t ≠ []
theorem goodT_text {l : List UInt8} (h : l ≠ []) : GoodT (tokText (ofL l)) := Or.inr ⟨rfl, h⟩
theorem feed_good (a : List UInt8) : ∀ t ∈ (feedB a).1, GoodT t := by
  generalize hn : a.length = n
  induction n using Nat.strongRecOn generalizing a with
  | _ n ih =>
    by_cases h1 : 0 < idxB 60 a ∧ idxB 60 a < a.length
    · rw [feed_text h1.1 h1.2]
      intro t ht
      rcases List.mem_cons.1 ht with h | h
      · subst h
        exact goodT_text (by intro hc; have := congrArg List.length hc; rw [List.length_take, List.length_nil] at this; omega)
      · exact ih (a.length - idxB 60 a) (by omega) (a.drop (idxB 60 a)) List.length_drop t h
    · by_cases h2 : idxB 60 a = 0 ∧ idxB 62 a < a.length
      · rw [feed_tag h2.1 h2.2]
        intro t ht
        rcases List.mem_append.1 ht with h | h
        · exact Or.inl (tagB_kind (Option.mem_toList.1 h))
        · exact ih (a.length - (idxB 62 a + 1)) (by omega) (a.drop (idxB 62 a + 1)) List.length_drop t h
      · have hl := idxB_le 60 a
        have hl2 := idxB_le 62 a
        rw [feed_end (x := a) (by omega) h1]
        intro t ht; cases ht
theorem tokens_good (s : List UInt8) : ∀ t ∈ tokensB s, GoodT t := by
  intro t ht
  rcases List.mem_append.1 ht with h | h
  · exact feed_good s t h
  · unfold endB at h
    split at h
    · cases h
    · rename_i hn
      rw [List.mem_singleton] at h; subst h
      exact goodT_text fun e => hn (Or.inl e)
theorem feed_size (a : List UInt8) : (feedB a).1.length + (feedB a).2.length ≤ a.length ∧ (feedB a).2.length ≤ a.length := by
  generalize hn : a.length = n
  induction n using Nat.strongRecOn generalizing a with
  | _ n ih =>
    by_cases h1 : 0 < idxB 60 a ∧ idxB 60 a < a.length
    · rw [feed_text h1.1 h1.2]
      have := ih (a.length - idxB 60 a) (by omega) (a.drop (idxB 60 a)) List.length_drop
      simp only [List.length_cons]; omega
    · by_cases h2 : idxB 60 a = 0 ∧ idxB 62 a < a.length
      · rw [feed_tag h2.1 h2.2]
        have := ih (a.length - (idxB 62 a + 1)) (by omega) (a.drop (idxB 62 a + 1)) List.length_drop
        have h3 : (tagB ((a.take (idxB 62 a)).drop 1)).toList.length ≤ 1 := by cases tagB ((a.take (idxB 62 a)).drop 1) <;> simp
        simp only [List.length_append]; omega
      · have hl := idxB_le 60 a
        have hl2 := idxB_le 62 a
        rw [feed_end (x := a) (by omega) h1]
        simp; omega
theorem tokens_size (s : List UInt8) : (tokensB s).length ≤ s.length + 1 := by
  have := feed_size s
  unfold tokensB endB
  rw [List.length_append]
  split <;> simp <;> omega
/-- The tokens of one tag. -/
theorem tokens_one {l : List UInt8} (h : ∀ b ∈ l, b ≠ 62) : tokensB (60 :: l ++ [62]) = (tagB l).toList := by
  have e0 : idxB 60 (60 :: l ++ [62]) = 0 := rfl
  have e1 : idxB 62 (60 :: l ++ [62]) = l.length + 1 := by
    have h2 : ∀ b ∈ (60 :: l), b ≠ (62 : UInt8) := by
      intro b hb
      rcases List.mem_cons.1 hb with h3 | h3
      · rw [h3]; decide
      · exact h b h3
    have := idxB_free_append [] h2
    simpa using this
  unfold tokensB
  rw [feed_tag e0 (by rw [e1]; simp), e1]
  have e2 : (60 :: l ++ [62]).drop (l.length + 1 + 1) = [] := List.drop_of_length_le (by simp)
  rw [e2, feed_nil]
  have e3 : ((60 :: l ++ [62]).take (l.length + 1)).drop 1 = l := by
    show ((60 :: (l ++ [62])).take (l.length + 1)).drop 1 = l
    rw [List.take_succ_cons, List.drop_succ_cons, List.drop_zero, List.take_left]
  rw [e3]
  simp [endB]

end Go.Proofs.YtpkicliimhflgaaDoor
namespace Go.Proofs.YtpkicliimhflgaaDoor
open Go.ChangeShapes Go.WideShapes Go.ChangeAt Go.RowKit

abbrev At := ByteArray × ByteArray
def encA (a : At) : List Value := [.string a.1, .string a.2]
theorem encA_len (a : At) : (encA a).length = 2 := rfl
theorem encA_one (a : At) : ∀ u ∈ encA a, u.oneCell' = true := by
  intro u hu
  simp only [encA, List.mem_cons, List.mem_nil_iff, or_false] at hu
  rcases hu with rfl | rfl <;> rfl
theorem at_at {xs : List At} {j : Nat} (h : j < xs.length) : ∃ a b, xs[j]? = some (a, b) := ⟨xs[j].1, xs[j].2, List.getElem?_eq_getElem h⟩

def atCells : List At → List Rw
  | [] => []
  | a :: ats => .leaf (.string a.1) :: .leaf (.string a.2) :: atCells ats
theorem atCells_map : ∀ ats : List At, (atCells ats).map Rw.cell = ats.flatMap encA
  | [] => rfl
  | a :: ats => by
    rw [atCells, List.map_cons, List.map_cons, atCells_map ats, List.flatMap_cons]; rfl
theorem atCells_len : ∀ ats : List At, (atCells ats).length = ats.length * 2
  | [] => rfl
  | a :: ats => by rw [atCells, List.length_cons, List.length_cons, atCells_len ats, List.length_cons]; omega
theorem atCells_at : ∀ {ats : List At} {j : Nat} {a : At}, ats[j]? = some a → (atCells ats)[j * 2]? = some (.leaf (.string a.1)) ∧ (atCells ats)[j * 2 + 1]? = some (.leaf (.string a.2))
  | [], j, a, h => by simp at h
  | b :: ats, 0, a, h => by
    have : b = a := by simpa using h
    subst this; exact ⟨rfl, rfl⟩
  | b :: ats, j + 1, a, h => by
    have ih := atCells_at (ats := ats) (j := j) (by simpa using h)
    rw [show (j + 1) * 2 = j * 2 + 1 + 1 by omega, atCells]
    simpa using ih
theorem atCells_leaf : ∀ {ats : List At}, ∀ c ∈ atCells ats, ∃ s, c = .leaf (.string s)
  | [], c, h => by cases h
  | a :: ats, c, h => by
    rw [atCells] at h
    rcases List.mem_cons.1 h with h | h
    · exact ⟨_, h⟩
    · rcases List.mem_cons.1 h with h | h
      · exact ⟨_, h⟩
      · exact atCells_leaf c h
theorem atCells_blocks (ats : List At) : blocksL (atCells ats) = [] := blocksL_nil fun c hc => by
  obtain ⟨s, rfl⟩ := atCells_leaf c hc
  rw [Rw.blocks]
/-- Where a slice of attributes lies. -/
abbrev Sv := Option Addr × Nat × Nat
def sv (s : Sv) : Value := .slice s.1 s.2.1 s.2.2
def svNil : Sv := (none, 0, 0)
theorem OwnK.sv {α : Type} {enc : α → List Value} {k : Nat} {e : TypeId} {lo hi : Nat} {w : World} {v : Value} {xs : List α} (h : OwnK enc k e lo hi w v xs) : ∃ s, v = sv s := by
  rcases h.1.2 with ⟨rfl, _⟩ | ⟨g, cap, cur, rfl, _⟩
  · exact ⟨svNil, rfl⟩
  · exact ⟨(_, _, _), rfl⟩
theorem ownK_nil {α : Type} (enc : α → List Value) (k : Nat) (e : TypeId) (lo hi : Nat) (w : World) : OwnK enc k e lo hi w (.slice none 0 0) [] :=
  ⟨World.ownsRow_nil _ _ _ _, fun g hg => by cases hg⟩
/-- A token and where its attributes lie. -/
abbrev Tv := Tok × Sv
def tokV (p : Tv) : Value := .agg #[.int .i64 p.1.kind, .string p.1.name, sv p.2, .string p.1.text]
def encT (p : Tv) : List Value := [.int .i64 p.1.kind, .string p.1.name, sv p.2, .string p.1.text]
theorem encT_len (p : Tv) : (encT p).length = 4 := rfl
theorem encT_one (p : Tv) : ∀ u ∈ encT p, u.oneCell' = true := by
  intro u hu
  simp only [encT, List.mem_cons, List.mem_nil_iff, or_false] at hu
  rcases hu with rfl | rfl | rfl | rfl <;> rfl
def insB (ts : List Tv) : List Nat := ts.flatMap fun p => (sv p.2).ownBlock.toList
theorem insB_append (ts us : List Tv) : insB (ts ++ us) = insB ts ++ insB us := by unfold insB; rw [List.flatMap_append]
theorem insB_mem {ts : List Tv} {b : Nat} : b ∈ insB ts ↔ ∃ p ∈ ts, (sv p.2).ownBlock = some b := by
  unfold insB
  rw [List.mem_flatMap]
  constructor
  · rintro ⟨p, hp, hb⟩
    exact ⟨p, hp, by simpa using hb⟩
  · rintro ⟨p, hp, hb⟩
    exact ⟨p, hp, by simpa using hb⟩
theorem rwT_count {ts us : List Tv} (h : ts.map Prod.fst = us.map Prod.fst) : ts.length = us.length := by
  have := congrArg List.length h
  simpa using this
theorem rows_ne {w : World} {B B' k k' n n' : Nat} {e e' : TypeId} {v v' : Value} {xs xs' : List Value} (h : w.ownsRow B e k v n xs) (h' : w.ownsRow B' e' k' v' n' xs') (hne : e ≠ e') {g : Nat} (hv : v.ownBlock = some g) : v'.ownBlock ≠ some g := by
  intro hv'
  rcases h.2 with ⟨rfl, _⟩ | ⟨a, cap, cur, rfl, _, h1, _⟩
  · cases hv
  · rcases h'.2 with ⟨rfl, _⟩ | ⟨b, cap', cur', rfl, _, h2, _⟩
    · cases hv'
    · have e1 : a = g := Option.some.inj hv
      have e2 : b = g := Option.some.inj hv'
      subst e1; subst e2
      rw [h1] at h2
      injection h2 with h3
      injection h3 with _ h4 _
      exact hne h4

end Go.Proofs.YtpkicliimhflgaaDoor

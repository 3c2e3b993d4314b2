/- Helper contracts over the functions with which the laws copy, compare, measure and mark slices, by program (deep.py). Asked: what lies in memory is as named. -/
import Derived.Test.YtmlmiclgledcpaaDoorDpRule
import Derived.Test.YtmlmiclgledcpaaDoorRawL
import Derived.Shelf.SlSortCmp.QuietGrown
namespace Go.Proofs.YtmlmiclgledcpaaDoor
open Go.ChangeShapes Go.WideShapes Go.ChangeAt Go.RowKit

/-- What a slice of this type holds. -/
def IsSheetS (x : Rw) : Prop := ∃ v n e cs, x = .sl v n 1 e cs ∧ ∀ j, j < n → ∃ (a0 : Rw), cs[j]? = some a0 ∧ IsRuleS a0
theorem is_sl_SheetS {x : Rw} (h : IsSheetS x) : ∃ v n k e cs, x = .sl v n k e cs := by
  obtain ⟨v, n, e, cs, rfl, _⟩ := h
  exact ⟨v, n, _, e, cs, rfl⟩

set_option maxHeartbeats 2000000 in
theorem eq_Sheet (a0 b0 : Rw) (w : World) (hx0 : IsRuleS a0) (hy0 : IsRuleS b0) (hd0 : a0.data = b0.data) (rx0 : a0.ReadR w.heap.size w) (ry0 : b0.ReadR w.heap.size w) :
    Calls Tryd.prog 7 #[.agg #[a0.cell], .agg #[b0.cell]] w fun e w' => e = .returned (.bool true) ∧ Grw w w' := by
  go_enter Tryd.func7, Tryd.ntmps7
  go_wp2_with fail
  obtain ⟨w0, hw0⟩ : ∃ x, ((w.alloc (.cells #[a0.cell] 24)).alloc (.cells #[b0.cell] 24)) = x := ⟨_, rfl⟩
  rw [hw0]
  have HG0 := Lib.hid (show Grw w w0 by rw [← hw0]; exact ((Grw.refl w).alloc _).alloc _)
  clear hw0
  refine (eq_RuleS a0 b0 hx0 hy0 hd0 _ (rx0.up HG0.out) (ry0.up HG0.out)).mono ?_
  rintro e w1 ⟨rfl, hg1⟩
  have HG1 := Lib.hid (HG0.out.trans hg1); clear hg1
  go_wp2_with fail
  go_ret
  exact ⟨rfl, HG1.out⟩

def SzSheet (a0 : Rw) (left : Int) (w : World) (e : Ending) (w' : World) : Prop :=
  ∃ r : Int, e = .returned (.int .i64 r) ∧ -1 ≤ r ∧ (0 ≤ r → r + (a0.weight : Nat) = left) ∧ Grw w w'
set_option maxRecDepth 100000 in
set_option maxHeartbeats 4000000 in
theorem sz_Sheet (a0 : Rw) (left : Int) (l1 : 0 ≤ left) (l2 : left ≤ 1099511627776) (w : World) (hx0 : IsRuleS a0) (rx0 : a0.ReadR w.heap.size w) (z0 : a0.Small) :
    Calls Tryd.prog 10 #[.agg #[a0.cell], .int .i64 left] w (SzSheet a0 left w) := by
  have HB := Lib.hid ((Grw.refl w).alloc (.cells #[a0.cell] 31))
  have HR0 := Lib.hid (rx0.up HB.out)
  obtain ⟨xa0, xn0, xc0, hxc0⟩ := sl_form (is_sl_RuleS hx0) rx0
  rw [hxc0] at HB ⊢
  rw [hxc0] at HR0
  have hsz0 := sz_RuleS a0 hx0 (left) (by omega) (by omega) _ HR0.out z0
  simp only [hxc0] at hsz0
  have HSZ0 := Lib.hid hsz0; clear hsz0
  go_enter Tryd.func10, Tryd.ntmps10
  go_wp2_with fail
  refine HSZ0.out.mono ?_
  rintro e w0 ⟨r0, rfl, lo0, hr0, hg0⟩
  have HG0 := Lib.hid (HB.out.trans hg0); clear hg0
  by_cases d0 : r0 < 0
  · go_wp2_with fail
    go_ret
    exact ⟨-1, rfl, by omega, by omega, HG0.out⟩
  replace hr0 := hr0 (by omega)
  go_wp2_with fail
  go_ret
  exact ⟨r0, rfl, by omega, by omega, HG0.out⟩

set_option maxRecDepth 100000 in
set_option maxHeartbeats 4000000 in
theorem toL_Sheet (a0 : Rw) (w : World) (hx0 : IsRuleS a0) (rx0 : a0.ReadR w.heap.size w) (hl0 : a0.weight ≤ 4398046511104) :
    Calls Tryd.prog 12 #[.agg #[a0.cell]] w fun e w' => ∃ b0 : Rw, e = .returned (.agg #[b0.cell]) ∧ IsRuleS b0 ∧ b0.data = a0.data ∧ OwnRL w.heap.size w'.heap.size w' [b0] ∧ (blocksL [b0]).Nodup ∧ Below w.heap.size w w' := by
  obtain ⟨xa0, xn0, xc0, hxc0⟩ := sl_form (is_sl_RuleS hx0) rx0
  obtain ⟨W, hW⟩ : ∃ W, ((w.alloc (.cells #[.slice xa0 xn0 xc0] 31)).alloc (.cells #[.slice none 0 0] 24)).alloc (.cells #[.slice none 0 0] 24) = W := ⟨_, rfl⟩
  have hg0 : Grw w W := by rw [← hW]; exact (((Grw.refl w).alloc _).alloc _).alloc _
  have ho : W.heap[w.heap.size + 2]? = some (.cells #[.slice none 0 0] 24 (0, 0)) := by rw [← hW]; exact three_new2 w _ _ _
  have hz : W.heap[w.heap.size + 1]? = some (.cells #[.slice none 0 0] 24 (0, 0)) := by rw [← hW]; exact three_new1 w _ _ _
  have ha : W.heap[w.heap.size]? = some (.cells #[.slice xa0 xn0 xc0] 31 (0, 0)) := by rw [← hW]; exact three_new0 w _ _ _
  have HSZ := Lib.hid (show w.heap.size + 3 ≤ W.heap.size by rw [← hW, size_alloc, size_alloc, size_alloc]; exact Nat.le_refl _)
  have HTO0 := Lib.hid (fun (V : World) (hv : Below w.heap.size w V) => by have hr := to_RuleS a0 hx0 V (Rw.ReadR.mono hv.size _ (Rw.ReadR.below hv (Nat.le_refl _) _ rx0)) hl0; rw [hxc0] at hr; exact hr)
  rw [hxc0]
  have HB := Lib.hid hg0.below; have HO := Lib.hid ho; have HZ := Lib.hid hz; have HA := Lib.hid ha; have HW := Lib.hid hW
  clear rx0 hxc0 hg0 ho hz ha hW
  go_enter Tryd.func12, Tryd.ntmps12
  go_wp2_with fail
  rw [HW.out]
  refine (HTO0.out _ HB.out).mono ?_
  rintro e w0 ⟨y0, rfl, hy0, hd0, hn0, ho0, hb⟩
  obtain ⟨ya0, yn0, yc0, hyc0⟩ := sl_form (is_sl_RuleS hy0) (Rw.OwnR.reads _ ho0)
  rw [hyc0]
  have HY0 := Lib.hid hy0; have HD0 := Lib.hid hd0; have HN0 := Lib.hid hn0; have HYC0 := Lib.hid hyc0; clear hy0 hd0 hn0 hyc0
  have HOW0 := Lib.hid (own_mono ho0 HSZ.out (Nat.le_refl _)); clear ho0
  have h1 := below_heap hb (heap_lt HO.out) HO.out; have h2 := below_heap hb (heap_lt HA.out) HA.out; have h3 := below_heap hb (heap_lt HZ.out) HZ.out
  replace HB := Lib.hid (HB.out.trans (hb.mono HB.out.size)); replace HSZ := Lib.hid (Nat.le_trans HSZ.out hb.size); clear hb
  have oq0 := box_cell h1 (j := 0) rfl; have oz0 := box_frz h1 0
  have pq0 := box_cell h2 (j := 0) rfl
  have sq0 := box_cell h3 (j := 0) rfl; have sz0 := box_frz h3 0
  replace HO := Lib.hid h1; replace HA := Lib.hid h2; replace HZ := Lib.hid h3; clear h1 h2 h3
  go_wp2_with fail
  have h1 := HO.out; have h2 := HA.out; have h3 := HZ.out
  replace h1 := heap_one (o := 0) h1 (.slice ya0 yn0 yc0)
  replace h2 := box_far h2 (show w.heap.size ≠ w.heap.size + 2 by omega) 0 (.slice ya0 yn0 yc0)
  replace h3 := box_far h3 (show w.heap.size + 1 ≠ w.heap.size + 2 by omega) 0 (.slice ya0 yn0 yc0)
  replace h1 : (w0.setCell ⟨w.heap.size + 2, 0, none⟩ (.slice ya0 yn0 yc0)).heap[w.heap.size + 2]? = some (.cells #[.slice ya0 yn0 yc0] 24 (0, 0)) := h1
  replace h3 := heap_one (o := 0) h3 (.slice ya0 yn0 yc0)
  replace h3 : ((w0.setCell ⟨w.heap.size + 2, 0, none⟩ (.slice ya0 yn0 yc0)).setCell ⟨w.heap.size + 1, 0, none⟩ (.slice ya0 yn0 yc0)).heap[w.heap.size + 1]? = some (.cells #[.slice ya0 yn0 yc0] 24 (0, 0)) := h3
  have HON := Lib.hid (show OnlyB [w.heap.size + 1, w.heap.size + 2] w0 ((w0.setCell ⟨w.heap.size + 2, 0, none⟩ (.slice ya0 yn0 yc0)).setCell ⟨w.heap.size + 1, 0, none⟩ (.slice ya0 yn0 yc0)) from ((OnlyB.refl _ w0).set (by simp)).set (by simp))
  replace HOW0 := Lib.hid (Rw.OwnR.top (Rw.OwnR.only HON.out y0 HOW0.out fun b hb hm => by have h := (Rw.OwnR.lt y0 HOW0.out b hb).1; simp only [List.mem_cons, List.mem_nil_iff, or_false] at hm; omega))
  replace HB := Lib.hid (HB.out.trans (HON.out.below (fun b hb => by simp only [List.mem_cons, List.mem_nil_iff, or_false] at hb; omega) HB.out.size)); replace HSZ := Lib.hid (Nat.le_trans HSZ.out HON.out.size)
  clear HON
  have fq0 := box_cell h3 (j := 0) rfl
  refine bodyPost_ret (v := .agg #[.slice ya0 yn0 yc0]) (by simp [results, Tryd.results12, go_sem, fq0]) rfl ?_
  refine ⟨y0, by rw [HYC0.out], HY0.out, HD0.out, ?_, ?_, HB.out⟩
  · refine ownRL_iff.2 fun c hc => ?_
    simp only [List.mem_cons, List.mem_nil_iff, or_false] at hc
    rcases hc with rfl
    exact own_mono HOW0.out (by omega) (Nat.le_refl _)
  · simp only [blocksL, List.append_nil]
    exact HN0.out

set_option maxRecDepth 100000 in
set_option maxHeartbeats 4000000 in
theorem mkL_Sheet (a0 : Rw) (hx0 : IsRuleS a0) (lo hi k0 : Nat) (q : Int) (hq : q = k0) (w : World) (ho : OwnRL lo hi w [a0]) (hd : (blocksL [a0]).Nodup) (hk : k0 + countL [a0] ≤ 4611686018427387904) :
    Calls Tryd.prog 8 #[.agg #[a0.cell], .int .i64 q] w fun e w' => e = .returned (.int .i64 ((k0 + countL [a0] : Nat) : Int)) ∧ OwnRL lo hi w' (markL [a0] k0) ∧ OnlyB (blocksL [a0]) w w' := by
  subst hq
  simp only [countL, Nat.add_zero] at hk ⊢
  simp only [markL, blocksL, List.append_nil] at hd ⊢
  have hg := (Grw.refl w).alloc (.cells #[a0.cell] 24)
  have HO0 := Lib.hid ((ownRL_iff.1 ho a0 (by simp)).later hg.below); have HL0 := Lib.hid (Rw.OwnR.lt _ (ownRL_iff.1 ho a0 (by simp)))
  have HG := Lib.hid hg; have HD := Lib.hid hd; clear ho hg hd
  obtain ⟨W, hW⟩ : ∃ W, w.alloc (.cells #[a0.cell] 24) = W := ⟨_, rfl⟩
  have q0 : W.cell? ⟨w.heap.size, 0, none⟩ = some (a0.cell) := by rw [← hW]; simp
  rw [hW] at HG HO0
  go_enter Tryd.func8, Tryd.ntmps8
  go_wp2_with fail
  clear hW
  refine (mk_RuleS a0 hx0 lo hi (k0) _ rfl _ HO0.out HD.out (by omega)).mono ?_
  rintro e w0 ⟨rfl, hoi, hon⟩
  have HM0 := Lib.hid hoi
  have HON0 := Lib.hid ((OnlyB.of_below HG.out.below _).trans hon)
  clear hoi hon
  obtain ⟨r0, hr0⟩ : ∃ r, k0 + a0.count = r := ⟨_, rfl⟩
  rw [hr0]
  have HR0 := Lib.hid hr0
  go_wp2_with fail
  go_ret
  refine ⟨by rw [show k0 + (a0.count) = r0 by omega]; rfl, ownRL_iff.2 fun c hc => ?_, HON0.out⟩
  simp only [List.mem_cons, List.mem_nil_iff, or_false] at hc
  rcases hc with rfl
  exact HM0.out

set_option maxRecDepth 100000 in
set_option maxHeartbeats 4000000 in
theorem hdL_Sheet (a0 : Rw) (hx0 : IsRuleS a0) (hi k0 : Nat) (q : Int) (hq : q = k0) (w : World) (hr : ReadRL hi w (markL [a0] k0)) (hh : hi ≤ w.heap.size) (hk : k0 + countL [a0] ≤ 4611686018427387904) :
    Calls Tryd.prog 9 #[.agg #[a0.cell], .int .i64 q] w fun e w' => e = .returned (.int .i64 ((k0 + countL [a0] : Nat) : Int)) ∧ Grw w w' := by
  subst hq
  simp only [countL, Nat.add_zero] at hk ⊢
  simp only [markL] at hr
  have hg := (Grw.refl w).alloc (.cells #[a0.cell] 24)
  have HR0 := Lib.hid ((readRL_iff.1 hr (a0.mark (k0)) (by simp)).grw hh hg)
  have HG := Lib.hid hg; have HH := Lib.hid (Nat.le_trans hh hg.below.size); clear hr hg
  obtain ⟨W, hW⟩ : ∃ W, w.alloc (.cells #[a0.cell] 24) = W := ⟨_, rfl⟩
  have q0 : W.cell? ⟨w.heap.size, 0, none⟩ = some (a0.cell) := by rw [← hW]; simp
  rw [hW] at HG HH HR0
  go_enter Tryd.func9, Tryd.ntmps9
  go_wp2_with fail
  clear hW
  refine (hd_RuleS a0 hx0 hi (k0) _ rfl _ (HR0.out) (Nat.le_trans HH.out (Nat.le_refl _)) (by omega)).mono ?_
  rintro e w0 ⟨rfl, hg0⟩
  replace HH := Lib.hid (Nat.le_trans HH.out hg0.below.size)
  replace HG := Lib.hid (HG.out.trans hg0); clear hg0
  obtain ⟨r0, hr0⟩ : ∃ r, k0 + a0.count = r := ⟨_, rfl⟩
  rw [hr0]
  have hn0 : ¬ ((r0 : Int) < 0) := by omega
  go_wp2_with fail
  go_ret
  exact ⟨by rw [show k0 + (a0.count) = r0 by omega]; rfl, HG.out⟩

theorem eqV_Sheet (a0 b0 : Rw) (u0 v0 : Value) (e0 : a0.cell = u0) (f0 : b0.cell = v0) (w : World) (hx0 : IsRuleS a0) (hy0 : IsRuleS b0) (hd0 : a0.data = b0.data) (rx0 : a0.ReadR w.heap.size w) (ry0 : b0.ReadR w.heap.size w) :
    Calls Tryd.prog 7 #[.agg #[u0], .agg #[v0]] w fun e w' => e = .returned (.bool true) ∧ Grw w w' := by
  subst e0; subst f0
  exact eq_Sheet a0 b0 w hx0 hy0 hd0 rx0 ry0

theorem mkV_Sheet (a0 : Rw) (u0 : Value) (e0 : a0.cell = u0) (hx0 : IsRuleS a0) (lo hi k0 : Nat) (q : Int) (hq : q = k0) (w : World) (ho : OwnRL lo hi w [a0]) (hd : (blocksL [a0]).Nodup) (hk : k0 + countL [a0] ≤ 4611686018427387904) :
    Calls Tryd.prog 8 #[.agg #[u0], .int .i64 q] w fun e w' => e = .returned (.int .i64 ((k0 + countL [a0] : Nat) : Int)) ∧ OwnRL lo hi w' (markL [a0] k0) ∧ OnlyB (blocksL [a0]) w w' := by
  subst e0
  exact mkL_Sheet a0 hx0 lo hi k0 q hq w ho hd hk

theorem hdV_Sheet (a0 : Rw) (u0 : Value) (e0 : a0.cell = u0) (hx0 : IsRuleS a0) (hi k0 : Nat) (q : Int) (hq : q = k0) (w : World) (hr : ReadRL hi w (markL [a0] k0)) (hh : hi ≤ w.heap.size) (hk : k0 + countL [a0] ≤ 4611686018427387904) :
    Calls Tryd.prog 9 #[.agg #[u0], .int .i64 q] w fun e w' => e = .returned (.int .i64 ((k0 + countL [a0] : Nat) : Int)) ∧ Grw w w' := by
  subst e0
  exact hdL_Sheet a0 hx0 hi k0 q hq w hr hh hk

theorem info_SheetS : (Tryd.prog.info? 24).map (fun i => (i.zero, i.size, i.bytes)) = some (some (.agg #[.slice none 0 0]), 1, 24) := by kernel_rfl
end Go.Proofs.YtmlmiclgledcpaaDoor

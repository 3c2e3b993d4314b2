/- The draws of FnPolicies. Helper contracts, no claim of their own. -/
import Derived.Test.YtkjjiinccljhjaaDoorDrPQR
import Derived.Test.YtkjjiinccljhjaaDoorPolG
import Derived.Test.YtkjjiinccljhjaaDoorBig
import Derived.Deep.RegionWith
namespace Go.Proofs.YtkjjiinccljhjaaDoor
open Go.ChangeShapes Go.WideShapes Go.ChangeAt Go.RowKit

/-- A policy that was drawn; nothing old is written. -/
def PolDrawn (w : World) (e : Ending) (w' : World) : Prop :=
  ∃ (bo : Bool) (a1 : Option Addr) (n1 c1 : Nat) (a2 : Option Addr) (n2 c2 : Nat) (a3 : Option Addr) (n3 c3 : Nat) (xs ys zs : List ByteArray) (t : ByteArray), e = .returned (.agg #[.bool bo, .slice a1 n1 c1, .slice a2 n2 c2, .slice a3 n3 c3, .string t]) ∧ Rd1 w.heap.size w' (.slice a1 n1 c1) xs ∧ Rd1 w.heap.size w' (.slice a2 n2 c2) ys ∧ Rd1 w.heap.size w' (.slice a3 n3 c3) zs ∧ FewP xs ys zs t ∧ Below w.heap.size w w'
/-- Two policies that were drawn; nothing old is written. -/
def TwoDrawn (w : World) (e : Ending) (w' : World) : Prop :=
  ∃ (bo : Bool) (a1 : Option Addr) (n1 c1 : Nat) (a2 : Option Addr) (n2 c2 : Nat) (a3 : Option Addr) (n3 c3 : Nat) (xs ys zs : List ByteArray) (t : ByteArray) (bo' : Bool) (a1' : Option Addr) (n1' c1' : Nat) (a2' : Option Addr) (n2' c2' : Nat) (a3' : Option Addr) (n3' c3' : Nat) (xs' ys' zs' : List ByteArray) (t' : ByteArray),
    e = .returned (.tuple #[.agg #[.bool bo, .slice a1 n1 c1, .slice a2 n2 c2, .slice a3 n3 c3, .string t], .agg #[.bool bo', .slice a1' n1' c1', .slice a2' n2' c2', .slice a3' n3' c3', .string t']]) ∧ Rd1 w.heap.size w' (.slice a1 n1 c1) xs ∧ Rd1 w.heap.size w' (.slice a2 n2 c2) ys ∧ Rd1 w.heap.size w' (.slice a3 n3 c3) zs ∧ FewP xs ys zs t ∧ Rd1 w.heap.size w' (.slice a1' n1' c1') xs' ∧ Rd1 w.heap.size w' (.slice a2' n2' c2') ys' ∧ Rd1 w.heap.size w' (.slice a3' n3' c3') zs' ∧ FewP xs' ys' zs' t' ∧ Below w.heap.size w w'
def StrDrawn (w : World) (e : Ending) (w' : World) : Prop := ∃ s : ByteArray, e = .returned (.string s) ∧ s.size ≤ 1048576 ∧ Below w.heap.size w w'
theorem fmt_few {bo : Bool} {xs ys zs : List ByteArray} {t : ByteArray} (h : FewP xs ys zs t) : (fmtP ⟨bo, xs, ys, zs, t⟩).size ≤ 1048576 := by
  have h1 := sum_few xs h.s1; have h2 := sum_few ys h.s2; have h3 := sum_few zs h.s3
  have k1 := h.n1; have k2 := h.n2; have k3 := h.n3; have k4 := h.s4
  by_cases e : (⟨bo, xs, ys, zs, t⟩ : Pol).set = true ∧ isPol ⟨bo, xs, ys, zs, t⟩ = true
  · rw [← size_list, fmtP_list e.1 e.2]
    have hn : (nonL t).length ≤ 7 + t.size := by
      unfold nonL
      split
      · simp
      · rw [List.length_append, size_list]; exact Nat.le_refl _
    have l1 := hostsL_len xs; have l2 := hostsL_len ys; have l3 := hostsL_len zs
    have m1 : kScr.data.toList.length = 6 := rfl
    have m2 : kSty.data.toList.length = 5 := rfl
    have m3 : kImg.data.toList.length = 3 := rfl
    simp only [List.length_append, List.length_cons, m1, m2, m3, l1, l2, l3]
    omega
  · rw [fmtP_no e]; exact Nat.zero_le _
theorem Rd1.readP {lo : Nat} {w : World} {v1 v2 v3 : Value} {xs ys zs : List ByteArray} (h1 : Rd1 lo w v1 xs) (h2 : Rd1 lo w v2 ys) (h3 : Rd1 lo w v3 zs) (b : Bool) (t : ByteArray) : ReadP w.heap.size w v1 v2 v3 ⟨b, xs, ys, zs, t⟩ := ⟨h1.1, h2.1, h3.1⟩

set_option maxRecDepth 100000 in
set_option maxHeartbeats 4000000 in
theorem drawIsPol_any (sv : Value) (len : Nat) (w : World) (hc : CodeOk w.heap.size w sv len) :
    Calls Tryd.prog 17 #[sv] w (PolDrawn w) := by
  obtain ⟨ca, cc, rfl, _⟩ := id hc
  obtain ⟨W0, hW0⟩ : ∃ x, w.alloc (.cells #[.bool false, .slice none 0 0, .slice none 0 0, .slice none 0 0, .string ⟨#[]⟩] 26) = x := ⟨_, rfl⟩
  have hs0 : w.heap.size + 1 ≤ W0.heap.size := by rw [← hW0, size_alloc]; exact Nat.le_refl _
  have hb0 : Below w.heap.size w W0 := by rw [← hW0]; exact bl_aw (Below.refl _ _) _
  have HCO := Lib.hid (codeOk_later hc hb0)
  have H0 := Lib.hid (show W0.heap[w.heap.size]? = some (.cells #[.bool false, .slice none 0 0, .slice none 0 0, .slice none 0 0, .string ⟨#[]⟩] 26 (0, 0)) by rw [← hW0]; exact heap_alloc_new w _)
  have HW0 := Lib.hid hW0; have HB0 := Lib.hid hb0; clear hW0 hc hb0
  go_enter Tryd.func17, Tryd.ntmps17
  go_wp2_with fail
  rw [HW0.out]
  refine (new_any _ len _ HCO.out).mono ?_
  rintro e w1 ⟨rfl, hc1, hb1⟩
  have hs1 := hb1.size
  have HB1 := Lib.hid (HB0.out.trans (hb1.mono HB0.out.size)); have HX1 := Lib.hid (below_heap hb1 (heap_lt H0.out) H0.out); have HC1 := Lib.hid hc1; clear hc1 hb1
  go_wp2_with fail
  refine (any9_any _ _ len _ HC1.out).mono ?_
  rintro e w2 ⟨bo, a1, n1, c1, a2, n2, c2, a3, n3, c3, xs, ys, zs, t, rfl, hr1, hr2, hr3, hf, hc2, hk2⟩
  have HBX := Lib.hid (show w2.heap[w.heap.size]? = _ from (hk2.block _ (heap_lt HX1.out) (by omega)).trans HX1.out)
  have HBL := Lib.hid (HB1.out.trans ((hk2.below (Nat.le_of_lt HC1.out.lt)).mono (by omega)))
  have HR1 := Lib.hid hr1; have HR2 := Lib.hid hr2; have HR3 := Lib.hid hr3; have HF := Lib.hid hf; clear hr1 hr2 hr3 hf hc2 hk2
  have HK := Lib.hid (Kept.of_below (b := 0) HBL.out)
  have y0 := box_cell HBX.out (j := 0) rfl; have x0 := box_frz HBX.out 0
  have y1 := box_cell HBX.out (j := 1) rfl; have x1 := box_frz HBX.out 1
  have y2 := box_cell HBX.out (j := 2) rfl; have x2 := box_frz HBX.out 2
  have y3 := box_cell HBX.out (j := 3) rfl; have x3 := box_frz HBX.out 3
  have y4 := box_cell HBX.out (j := 4) rfl; have x4 := box_frz HBX.out 4
  go_wp2_with fail
  obtain ⟨w9, hw9⟩ : ∃ x, (((((w2.setCell ⟨w.heap.size, 0, none⟩ (.bool bo)).setCell ⟨w.heap.size, 1, none⟩ (.slice a1 n1 c1)).setCell ⟨w.heap.size, 2, none⟩ (.slice a2 n2 c2)).setCell ⟨w.heap.size, 3, none⟩ (.slice a3 n3 c3)).setCell ⟨w.heap.size, 4, none⟩ (.string t)) = x := ⟨_, rfl⟩
  rw [hw9]
  have hon : OnlyB [w.heap.size] w2 w9 := by rw [← hw9]; exact set5_only w2 w.heap.size _ _ _ _ _
  have hb9 := set5_box HBX.out (.bool bo) (.slice a1 n1 c1) (.slice a2 n2 c2) (.slice a3 n3 c3) (.string t)
  rw [show set5 w2 w.heap.size (.bool bo) (.slice a1 n1 c1) (.slice a2 n2 c2) (.slice a3 n3 c3) (.string t) = w9 from hw9] at hb9
  have r0 := box_cell hb9 (j := 0) rfl
  have r1 := box_cell hb9 (j := 1) rfl
  have r2 := box_cell hb9 (j := 2) rfl
  have r3 := box_cell hb9 (j := 3) rfl
  have r4 := box_cell hb9 (j := 4) rfl
  refine bodyPost_ret (v := .agg #[.bool bo, .slice a1 n1 c1, .slice a2 n2 c2, .slice a3 n3 c3, .string t]) (by simp [results, Tryd.results17, go_sem, r0, r1, r2, r3, r4]) rfl ?_
  have hbl9 : Below w.heap.size w2 w9 := hon.below (fun i hi => by rw [List.mem_singleton] at hi; omega) HK.out.size
  have HN9 := Lib.hid (show ∀ g, w.heap.size < g → g ∉ [w.heap.size] from fun g hg hm => by rw [List.mem_singleton] at hm; omega)
  exact ⟨bo, a1, n1, c1, a2, n2, c2, a3, n3, c3, xs, ys, zs, t, rfl, ((HR1.out.low (show w.heap.size ≤ _ by omega)).only hon (fun g hg => HN9.out g (by have := (HR1.out.2 g hg).1; omega))), ((HR2.out.low (show w.heap.size ≤ _ by omega)).only hon (fun g hg => HN9.out g (by have := (HR2.out.2 g hg).1; omega))), ((HR3.out.low (show w.heap.size ≤ _ by omega)).only hon (fun g hg => HN9.out g (by have := (HR3.out.2 g hg).1; omega))), HF.out, HBL.out.trans hbl9⟩


set_option maxRecDepth 100000 in
set_option maxHeartbeats 4000000 in
theorem drawFmtPol_any (sv : Value) (len : Nat) (w : World) (hc : CodeOk w.heap.size w sv len) :
    Calls Tryd.prog 5 #[sv] w (PolDrawn w) := by
  obtain ⟨ca, cc, rfl, _⟩ := id hc
  obtain ⟨W0, hW0⟩ : ∃ x, w.alloc (.cells #[.bool false, .slice none 0 0, .slice none 0 0, .slice none 0 0, .string ⟨#[]⟩] 26) = x := ⟨_, rfl⟩
  have hs0 : w.heap.size + 1 ≤ W0.heap.size := by rw [← hW0, size_alloc]; exact Nat.le_refl _
  have hb0 : Below w.heap.size w W0 := by rw [← hW0]; exact bl_aw (Below.refl _ _) _
  have HCO := Lib.hid (codeOk_later hc hb0)
  have H0 := Lib.hid (show W0.heap[w.heap.size]? = some (.cells #[.bool false, .slice none 0 0, .slice none 0 0, .slice none 0 0, .string ⟨#[]⟩] 26 (0, 0)) by rw [← hW0]; exact heap_alloc_new w _)
  have HW0 := Lib.hid hW0; have HB0 := Lib.hid hb0; clear hW0 hc hb0
  go_enter Tryd.func5, Tryd.ntmps5
  go_wp2_with fail
  rw [HW0.out]
  refine (drawIsPol_any _ len _ HCO.out).mono ?_
  rintro e w2 ⟨bo, a1, n1, c1, a2, n2, c2, a3, n3, c3, xs, ys, zs, t, rfl, hr1, hr2, hr3, hf, hb⟩
  have HBX := Lib.hid (below_heap hb (heap_lt H0.out) H0.out)
  have HBL := Lib.hid (HB0.out.trans (hb.mono HB0.out.size))
  have HR1 := Lib.hid hr1; have HR2 := Lib.hid hr2; have HR3 := Lib.hid hr3; have HF := Lib.hid hf; clear hr1 hr2 hr3 hf hb
  have HK := Lib.hid (Kept.of_below (b := 0) HBL.out)
  have y0 := box_cell HBX.out (j := 0) rfl; have x0 := box_frz HBX.out 0
  have y1 := box_cell HBX.out (j := 1) rfl; have x1 := box_frz HBX.out 1
  have y2 := box_cell HBX.out (j := 2) rfl; have x2 := box_frz HBX.out 2
  have y3 := box_cell HBX.out (j := 3) rfl; have x3 := box_frz HBX.out 3
  have y4 := box_cell HBX.out (j := 4) rfl; have x4 := box_frz HBX.out 4
  go_wp2_with fail
  obtain ⟨w9, hw9⟩ : ∃ x, (((((w2.setCell ⟨w.heap.size, 0, none⟩ (.bool bo)).setCell ⟨w.heap.size, 1, none⟩ (.slice a1 n1 c1)).setCell ⟨w.heap.size, 2, none⟩ (.slice a2 n2 c2)).setCell ⟨w.heap.size, 3, none⟩ (.slice a3 n3 c3)).setCell ⟨w.heap.size, 4, none⟩ (.string t)) = x := ⟨_, rfl⟩
  rw [hw9]
  have hon : OnlyB [w.heap.size] w2 w9 := by rw [← hw9]; exact set5_only w2 w.heap.size _ _ _ _ _
  have hb9 := set5_box HBX.out (.bool bo) (.slice a1 n1 c1) (.slice a2 n2 c2) (.slice a3 n3 c3) (.string t)
  rw [show set5 w2 w.heap.size (.bool bo) (.slice a1 n1 c1) (.slice a2 n2 c2) (.slice a3 n3 c3) (.string t) = w9 from hw9] at hb9
  have r0 := box_cell hb9 (j := 0) rfl
  have r1 := box_cell hb9 (j := 1) rfl
  have r2 := box_cell hb9 (j := 2) rfl
  have r3 := box_cell hb9 (j := 3) rfl
  have r4 := box_cell hb9 (j := 4) rfl
  refine bodyPost_ret (v := .agg #[.bool bo, .slice a1 n1 c1, .slice a2 n2 c2, .slice a3 n3 c3, .string t]) (by simp [results, Tryd.results5, go_sem, r0, r1, r2, r3, r4]) rfl ?_
  have hbl9 : Below w.heap.size w2 w9 := hon.below (fun i hi => by rw [List.mem_singleton] at hi; omega) HK.out.size
  have HN9 := Lib.hid (show ∀ g, w.heap.size < g → g ∉ [w.heap.size] from fun g hg hm => by rw [List.mem_singleton] at hm; omega)
  exact ⟨bo, a1, n1, c1, a2, n2, c2, a3, n3, c3, xs, ys, zs, t, rfl, ((HR1.out.low (show w.heap.size ≤ _ by omega)).only hon (fun g hg => HN9.out g (by have := (HR1.out.2 g hg).1; omega))), ((HR2.out.low (show w.heap.size ≤ _ by omega)).only hon (fun g hg => HN9.out g (by have := (HR2.out.2 g hg).1; omega))), ((HR3.out.low (show w.heap.size ≤ _ by omega)).only hon (fun g hg => HN9.out g (by have := (HR3.out.2 g hg).1; omega))), HF.out, HBL.out.trans hbl9⟩


set_option maxRecDepth 100000 in
set_option maxHeartbeats 4000000 in
theorem drawPrsPol_any (sv : Value) (len : Nat) (w : World) (hc : CodeOk w.heap.size w sv len) :
    Calls Tryd.prog 11 #[sv] w (StrDrawn w) := by
  obtain ⟨ca, cc, rfl, _⟩ := id hc
  have HCO := Lib.hid hc; clear hc
  go_enter Tryd.func11, Tryd.ntmps11
  go_wp2_with fail
  refine (new_any _ len _ HCO.out).mono ?_
  rintro e w1 ⟨rfl, hc1, hb1⟩
  have HB1 := Lib.hid hb1; have HC1 := Lib.hid hc1; clear hc1 hb1
  go_wp2_with fail
  refine (once_any _ _ len 3 _ HC1.out).mono ?_
  rintro e w2 ⟨x, rfl, hc2, hk2⟩
  have HB2 := Lib.hid (HB1.out.trans (hk2.below HB1.out.size)); have HC2 := Lib.hid hc2; clear hc2 hk2
  have hlt := HC2.out.lt
  cases x with
  | true =>
    go_wp2_with fail
    refine (str_any _ _ len _ 10 10 _ (HC2.out.alloc _) (by omega) (by decide) (by decide) (cells_blkS 10 (hq_nw rfl) (by rfl) (by kernel_rfl))).mono ?_
    rintro e w3 ⟨s, rfl, hs, hc3, hk3⟩
    have HB3 := Lib.hid ((HB2.out.alloc HB2.out.size _).trans (hk3.below (Nat.le_trans HB2.out.size (by rw [size_alloc]; omega)))); clear hc3 hk3
    go_wp2_with fail
    go_ret
    exact ⟨s, rfl, by omega, HB3.out⟩
  | false =>
    go_wp2_with fail
    refine (any9_any _ _ len _ HC2.out).mono ?_
    rintro e w3 ⟨bo, a1, n1, c1, a2, n2, c2, a3, n3, c3, xs, ys, zs, t, rfl, hr1, hr2, hr3, hf, hc3, hk3⟩
    have HB3 := Lib.hid (HB2.out.trans (hk3.below HB2.out.size))
    have HFM := Lib.hid (fmtPol_spec bo xs ys zs t a1 n1 c1 a2 n2 c2 a3 n3 c3 (hf.sm bo) w3 (Rd1.readP hr1 hr2 hr3 bo t)); have HFZ := Lib.hid (fmt_few (bo := bo) hf); clear hr1 hr2 hr3 hf hc3 hk3
    go_wp2_with fail
    refine HFM.out.mono ?_
    rintro e w4 ⟨rfl, hb4⟩
    have HB4 := Lib.hid (HB3.out.trans (hb4.mono HB3.out.size)); clear hb4
    go_wp2_with fail
    go_ret
    exact ⟨_, rfl, HFZ.out, HB4.out⟩

end Go.Proofs.YtkjjiinccljhjaaDoor

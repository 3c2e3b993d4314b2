/- The draw of two policies. Helper contract, no claim of its own. -/
import Derived.Test.YtkjjiinccljhjaaDoorDrS
import Derived.Test.YtkjjiinccljhjaaDoorPolM
namespace Go.Proofs.YtkjjiinccljhjaaDoor
open Go.ChangeShapes Go.WideShapes Go.ChangeAt Go.RowKit

set_option maxRecDepth 100000 in
set_option maxHeartbeats 4000000 in
theorem drawNarPol_any (sv : Value) (len : Nat) (w : World) (hc : CodeOk w.heap.size w sv len) :
    Calls Tryd.prog 13 #[sv] w (TwoDrawn w) := by
  obtain ⟨ca, cc, rfl, _⟩ := id hc
  obtain ⟨W0, hW0⟩ : ∃ x, (w.alloc (.cells #[.bool false, .slice none 0 0, .slice none 0 0, .slice none 0 0, .string ⟨#[]⟩] 26)).alloc (.cells #[.bool false, .slice none 0 0, .slice none 0 0, .slice none 0 0, .string ⟨#[]⟩] 26) = x := ⟨_, rfl⟩
  have hs0 : w.heap.size + 2 ≤ W0.heap.size := by rw [← hW0, size_alloc, size_alloc]; exact Nat.le_refl _
  have hb0 : Below w.heap.size w W0 := by rw [← hW0]; exact bl_aw (bl_aw (Below.refl _ _) _) _
  have HCO := Lib.hid (codeOk_later hc hb0)
  have H0 := Lib.hid (show W0.heap[w.heap.size]? = some (.cells #[.bool false, .slice none 0 0, .slice none 0 0, .slice none 0 0, .string ⟨#[]⟩] 26 (0, 0)) by rw [← hW0]; exact heap_al9 (heap_alloc_new w _) _)
  have H1 := Lib.hid (show W0.heap[w.heap.size + 1]? = some (.cells #[.bool false, .slice none 0 0, .slice none 0 0, .slice none 0 0, .string ⟨#[]⟩] 26 (0, 0)) by rw [← hW0]; have h := heap_alloc_new (w.alloc (.cells #[.bool false, .slice none 0 0, .slice none 0 0, .slice none 0 0, .string ⟨#[]⟩] 26)) (.cells #[.bool false, .slice none 0 0, .slice none 0 0, .slice none 0 0, .string ⟨#[]⟩] 26); rw [size_alloc] at h; exact h)
  have HW0 := Lib.hid hW0; have HB0 := Lib.hid hb0; clear hW0 hc hb0
  go_enter Tryd.func13, Tryd.ntmps13
  go_wp2_with fail
  rw [HW0.out]
  refine (new_any _ len _ HCO.out).mono ?_
  rintro e w1 ⟨rfl, hc1, hb1⟩
  have hs1 := hb1.size
  have HB1 := Lib.hid (HB0.out.trans (hb1.mono HB0.out.size)); have HX0 := Lib.hid (below_heap hb1 (heap_lt H0.out) H0.out); have HX1 := Lib.hid (below_heap hb1 (heap_lt H1.out) H1.out); have HC1 := Lib.hid hc1; clear hc1 hb1
  have hcl := HC1.out.lt
  go_wp2_with fail
  refine (any9_any _ _ len _ HC1.out).mono ?_
  rintro e w2 ⟨bo, a1, n1, c1, a2, n2, c2, a3, n3, c3, xs, ys, zs, t, rfl, hr1, hr2, hr3, hf, hc2, hk2⟩
  go_upto_region 3 with (fail)
  obtain ⟨w3, hw3⟩ : ∃ x, w2.alloc (.cells #[.bool bo, .slice a1 n1 c1, .slice a2 n2 c2, .slice a3 n3 c3, .string t] 26) = x := ⟨_, rfl⟩
  rw [hw3]
  have hb3 : Below w2.heap.size w2 w3 := by rw [← hw3]; exact bl_aw (Below.refl _ _) _
  have hx3 : w3.heap[w2.heap.size]? = some (.cells #[.bool bo, .slice a1 n1 c1, .slice a2 n2 c2, .slice a3 n3 c3, .string t] 26 (0, 0)) := by rw [← hw3]; exact heap_alloc_new w2 _
  have hk3 := hk2.trans (Kept.of_below hb3)
  have HK3 := Lib.hid hk3; have HC3 := Lib.hid (hc2.below hb3)
  have HR1 := Lib.hid (hr1.later hb3); have HR2 := Lib.hid (hr2.later hb3); have HR3 := Lib.hid (hr3.later hb3); have HF := Lib.hid hf
  have hs2 := hk2.size; have hs3 := hb3.size
  have q0 := box_cell hx3 (j := 0) rfl
  have q1 := box_cell hx3 (j := 1) rfl
  have q2 := box_cell hx3 (j := 2) rfl
  have q3 := box_cell hx3 (j := 3) rfl
  have q4 := box_cell hx3 (j := 4) rfl
  obtain ⟨c, hcq⟩ : ∃ x, w2.heap.size = x := ⟨_, rfl⟩
  rw [hcq] at hx3 q0 q1 q2 q3 q4 hs2 hs3 ⊢
  have HX3 := Lib.hid hx3
  have hc3l : c < w3.heap.size := heap_lt hx3
  clear hr1 hr2 hr3 hf hc2 hk2 hw3 hb3 hx3 hk3 hcq
  have y0 := box_cell ((HK3.out.block _ (heap_lt HX0.out) (by omega)).trans HX0.out) (j := 0) rfl; have x0 := box_frz ((HK3.out.block _ (heap_lt HX0.out) (by omega)).trans HX0.out) 0; have v0 := box_cell ((HK3.out.block _ (heap_lt HX1.out) (by omega)).trans HX1.out) (j := 0) rfl; have u0 := box_frz ((HK3.out.block _ (heap_lt HX1.out) (by omega)).trans HX1.out) 0
  have y1 := box_cell ((HK3.out.block _ (heap_lt HX0.out) (by omega)).trans HX0.out) (j := 1) rfl; have x1 := box_frz ((HK3.out.block _ (heap_lt HX0.out) (by omega)).trans HX0.out) 1; have v1 := box_cell ((HK3.out.block _ (heap_lt HX1.out) (by omega)).trans HX1.out) (j := 1) rfl; have u1 := box_frz ((HK3.out.block _ (heap_lt HX1.out) (by omega)).trans HX1.out) 1
  have y2 := box_cell ((HK3.out.block _ (heap_lt HX0.out) (by omega)).trans HX0.out) (j := 2) rfl; have x2 := box_frz ((HK3.out.block _ (heap_lt HX0.out) (by omega)).trans HX0.out) 2; have v2 := box_cell ((HK3.out.block _ (heap_lt HX1.out) (by omega)).trans HX1.out) (j := 2) rfl; have u2 := box_frz ((HK3.out.block _ (heap_lt HX1.out) (by omega)).trans HX1.out) 2
  have y3 := box_cell ((HK3.out.block _ (heap_lt HX0.out) (by omega)).trans HX0.out) (j := 3) rfl; have x3 := box_frz ((HK3.out.block _ (heap_lt HX0.out) (by omega)).trans HX0.out) 3; have v3 := box_cell ((HK3.out.block _ (heap_lt HX1.out) (by omega)).trans HX1.out) (j := 3) rfl; have u3 := box_frz ((HK3.out.block _ (heap_lt HX1.out) (by omega)).trans HX1.out) 3
  have y4 := box_cell ((HK3.out.block _ (heap_lt HX0.out) (by omega)).trans HX0.out) (j := 4) rfl; have x4 := box_frz ((HK3.out.block _ (heap_lt HX0.out) (by omega)).trans HX0.out) 4; have v4 := box_cell ((HK3.out.block _ (heap_lt HX1.out) (by omega)).trans HX1.out) (j := 4) rfl; have u4 := box_frz ((HK3.out.block _ (heap_lt HX1.out) (by omega)).trans HX1.out) 4
  have HK1 := Lib.hid HK3.out
  obtain ⟨b, hbq⟩ : ∃ x, W0.heap.size = x := ⟨_, rfl⟩
  rw [hbq] at HK3 HC3 hs0 hs1 hcl HK1 ⊢
  have HBQ := Lib.hid hbq; clear hbq
  go_region_with (go_at_call 29; refine (any9_any _ _ len _ (HC3.out.below (by repeat' (first | (with_reducible exact Below.refl _ _) | (with_reducible refine bl_dw ?_) | (with_reducible refine bl_aw ?_ _))))).mono ?_; rintro e w4 ⟨bo', a1', n1', c1', a2', n2', c2', a3', n3', c3', xs', ys', zs', t', rfl, hr1, hr2, hr3, hf, hc4, hk4⟩; have hk34 := (Kept.of_below (b := b) (show Below w3.heap.size w3 _ from (by repeat' (first | (with_reducible exact Below.refl _ _) | (with_reducible refine bl_dw ?_) | (with_reducible refine bl_aw ?_ _))))).trans hk4; have p0 := box_cell ((hk34.block _ hc3l (by omega)).trans HX3.out) (j := 0) rfl; have g0 := box_cell (((HK1.out.trans hk34).block _ (heap_lt HX0.out) (by omega)).trans HX0.out) (j := 0) rfl; have h0 := box_frz (((HK1.out.trans hk34).block _ (heap_lt HX0.out) (by omega)).trans HX0.out) 0; have l0 := box_cell (((HK1.out.trans hk34).block _ (heap_lt HX1.out) (by omega)).trans HX1.out) (j := 0) rfl; have m0 := box_frz (((HK1.out.trans hk34).block _ (heap_lt HX1.out) (by omega)).trans HX1.out) 0; have p1 := box_cell ((hk34.block _ hc3l (by omega)).trans HX3.out) (j := 1) rfl; have g1 := box_cell (((HK1.out.trans hk34).block _ (heap_lt HX0.out) (by omega)).trans HX0.out) (j := 1) rfl; have h1 := box_frz (((HK1.out.trans hk34).block _ (heap_lt HX0.out) (by omega)).trans HX0.out) 1; have l1 := box_cell (((HK1.out.trans hk34).block _ (heap_lt HX1.out) (by omega)).trans HX1.out) (j := 1) rfl; have m1 := box_frz (((HK1.out.trans hk34).block _ (heap_lt HX1.out) (by omega)).trans HX1.out) 1; have p2 := box_cell ((hk34.block _ hc3l (by omega)).trans HX3.out) (j := 2) rfl; have g2 := box_cell (((HK1.out.trans hk34).block _ (heap_lt HX0.out) (by omega)).trans HX0.out) (j := 2) rfl; have h2 := box_frz (((HK1.out.trans hk34).block _ (heap_lt HX0.out) (by omega)).trans HX0.out) 2; have l2 := box_cell (((HK1.out.trans hk34).block _ (heap_lt HX1.out) (by omega)).trans HX1.out) (j := 2) rfl; have m2 := box_frz (((HK1.out.trans hk34).block _ (heap_lt HX1.out) (by omega)).trans HX1.out) 2; have p3 := box_cell ((hk34.block _ hc3l (by omega)).trans HX3.out) (j := 3) rfl; have g3 := box_cell (((HK1.out.trans hk34).block _ (heap_lt HX0.out) (by omega)).trans HX0.out) (j := 3) rfl; have h3 := box_frz (((HK1.out.trans hk34).block _ (heap_lt HX0.out) (by omega)).trans HX0.out) 3; have l3 := box_cell (((HK1.out.trans hk34).block _ (heap_lt HX1.out) (by omega)).trans HX1.out) (j := 3) rfl; have m3 := box_frz (((HK1.out.trans hk34).block _ (heap_lt HX1.out) (by omega)).trans HX1.out) 3; have p4 := box_cell ((hk34.block _ hc3l (by omega)).trans HX3.out) (j := 4) rfl; have g4 := box_cell (((HK1.out.trans hk34).block _ (heap_lt HX0.out) (by omega)).trans HX0.out) (j := 4) rfl; have h4 := box_frz (((HK1.out.trans hk34).block _ (heap_lt HX0.out) (by omega)).trans HX0.out) 4; have l4 := box_cell (((HK1.out.trans hk34).block _ (heap_lt HX1.out) (by omega)).trans HX1.out) (j := 4) rfl; have m4 := box_frz (((HK1.out.trans hk34).block _ (heap_lt HX1.out) (by omega)).trans HX1.out) 4)
  all_goals
    have bx0 := ((HK1.out.trans hk34).block _ (heap_lt HX0.out) (by omega)).trans HX0.out
    have bx1 := ((HK1.out.trans hk34).block _ (heap_lt HX1.out) (by omega)).trans HX1.out
    obtain ⟨w5, hw5⟩ : ∃ x, (((((w4.setCell ⟨w.heap.size, 0, none⟩ (.bool bo)).setCell ⟨w.heap.size, 1, none⟩ (.slice a1 n1 c1)).setCell ⟨w.heap.size, 2, none⟩ (.slice a2 n2 c2)).setCell ⟨w.heap.size, 3, none⟩ (.slice a3 n3 c3)).setCell ⟨w.heap.size, 4, none⟩ (.string t)) = x := ⟨_, rfl⟩
    rw [hw5]
    obtain ⟨w6, hw6⟩ : ∃ x, (((((w5.setCell ⟨w.heap.size + 1, 0, none⟩ (.bool bo')).setCell ⟨w.heap.size + 1, 1, none⟩ (.slice a1' n1' c1')).setCell ⟨w.heap.size + 1, 2, none⟩ (.slice a2' n2' c2')).setCell ⟨w.heap.size + 1, 3, none⟩ (.slice a3' n3' c3')).setCell ⟨w.heap.size + 1, 4, none⟩ (.string t')) = x := ⟨_, rfl⟩
    rw [hw6]
    have hon5 : OnlyB [w.heap.size] w4 w5 := by rw [← hw5]; exact set5_only w4 w.heap.size _ _ _ _ _
    have hb5 := set5_box bx0 (.bool bo) (.slice a1 n1 c1) (.slice a2 n2 c2) (.slice a3 n3 c3) (.string t)
    rw [show set5 w4 w.heap.size (.bool bo) (.slice a1 n1 c1) (.slice a2 n2 c2) (.slice a3 n3 c3) (.string t) = w5 from hw5] at hb5
    have bx1' := (hon5.block _ (heap_lt bx1) (by rw [List.mem_singleton]; omega)).trans bx1
    have hon6 : OnlyB [w.heap.size + 1] w5 w6 := by rw [← hw6]; exact set5_only w5 (w.heap.size + 1) _ _ _ _ _
    have hb6 := set5_box bx1' (.bool bo') (.slice a1' n1' c1') (.slice a2' n2' c2') (.slice a3' n3' c3') (.string t')
    rw [show set5 w5 (w.heap.size + 1) (.bool bo') (.slice a1' n1' c1') (.slice a2' n2' c2') (.slice a3' n3' c3') (.string t') = w6 from hw6] at hb6
    have hb5' := (hon6.block _ (heap_lt hb5) (by rw [List.mem_singleton]; omega)).trans hb5
    have r0 := box_cell hb5' (j := 0) rfl; have s0 := box_cell hb6 (j := 0) rfl
    have r1 := box_cell hb5' (j := 1) rfl; have s1 := box_cell hb6 (j := 1) rfl
    have r2 := box_cell hb5' (j := 2) rfl; have s2 := box_cell hb6 (j := 2) rfl
    have r3 := box_cell hb5' (j := 3) rfl; have s3 := box_cell hb6 (j := 3) rfl
    have r4 := box_cell hb5' (j := 4) rfl; have s4 := box_cell hb6 (j := 4) rfl
    have hN5 : ∀ g, w.heap.size < g → g ∉ [w.heap.size] := fun g hg hm => by rw [List.mem_singleton] at hm; omega
    have hN6 : ∀ g, w.heap.size + 1 < g → g ∉ [w.heap.size + 1] := fun g hg hm => by rw [List.mem_singleton] at hm; omega
    have hbl : Below w.heap.size w w6 := by
      have e1 : Below w.heap.size w1 w3 := (HK1.out.below (by omega)).mono (by omega)
      have e2 : Below w.heap.size w3 w4 := (hk34.below (by omega)).mono (by omega)
      have e3 : Below w.heap.size w4 w5 := hon5.below (fun i hi => by rw [List.mem_singleton] at hi; omega) (Nat.le_of_lt (heap_lt bx0))
      have e4 : Below w.heap.size w5 w6 := hon6.below (fun i hi => by rw [List.mem_singleton] at hi; omega) (Nat.le_of_lt (heap_lt hb5))
      exact (((HB1.out.trans e1).trans e2).trans e3).trans e4
    have F : ∀ {v : Value} {us : List ByteArray}, Rd1 w1.heap.size w3 v us → Rd1 w.heap.size w6 v us := fun h => (((h.kept hk34 hcl).only hon5 (fun g hg => hN5 g (by have := (h.2 g hg).1; omega))).only hon6 (fun g hg => hN6 g (by have := (h.2 g hg).1; omega))).low (by omega)
    have G : ∀ {v : Value} {us : List ByteArray}, Rd1 w3.heap.size w4 v us → Rd1 w.heap.size w6 v us := fun h => ((h.only hon5 (fun g hg => hN5 g (by have := (h.2 g hg).1; omega))).only hon6 (fun g hg => hN6 g (by have := (h.2 g hg).1; omega))).low (by omega)
    have HG := Lib.hid (show TwoDrawn w (.returned (.tuple #[.agg #[.bool bo, .slice a1 n1 c1, .slice a2 n2 c2, .slice a3 n3 c3, .string t], .agg #[.bool bo', .slice a1' n1' c1', .slice a2' n2' c2', .slice a3' n3' c3', .string t']])) w6 from ⟨bo, a1, n1, c1, a2, n2, c2, a3, n3, c3, xs, ys, zs, t, bo', a1', n1', c1', a2', n2', c2', a3', n3', c3', xs', ys', zs', t', rfl, F HR1.out, F HR2.out, F HR3.out, HF.out, G hr1, G hr2, G hr3, hf, hbl⟩)
    clear F G hbl hN5 hN6 hw5 hw6 hon5 hon6 hb5 hb6 hb5' bx0 bx1 bx1' hr1 hr2 hr3 hf
    go_wp2_with fail
    exact bodyPost_ret (v := .tuple #[.agg #[.bool bo, .slice a1 n1 c1, .slice a2 n2 c2, .slice a3 n3 c3, .string t], .agg #[.bool bo', .slice a1' n1' c1', .slice a2' n2' c2', .slice a3' n3' c3', .string t']]) (by simp [results, Tryd.results13, go_sem, r0, r1, r2, r3, r4, s0, s1, s2, s3, s4]) rfl HG.out

end Go.Proofs.YtkjjiinccljhjaaDoor

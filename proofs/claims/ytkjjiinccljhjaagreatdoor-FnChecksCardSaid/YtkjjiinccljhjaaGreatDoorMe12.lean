/- The draws of chapter 10's laws: a body, a response. Whatever the bytes: they are short, and of what lay in memory only the reader's block is written. What a request that came in is; a struct by value, opened field by field (fields of any number of cells). Helper facts, no claim of its own. -/
import Derived.Test.YtkjjiinccljhjaaGreatDoorMe9
import Derived.Test.YtkjjiinccljhjaaGreatDoorMe10
import Derived.Test.YtkjjiinccljhjaaGreatDoorMe7
import Derived.Test.YtkjjiinccljhjaaGreatDoorMe11
import Derived.Lib.ItoaLen
import Derived.Deep.Slices
import Derived.Lib.SmallJoins
import Derived.ShutString
import Derived.ChangeOld
import Derived.Carry
import Derived.Deep.Fields
import Derived.Test.YtkjjiinccljhjaaGreatDoorMe1
namespace Go.Proofs.YtkjjiinccljhjaaGreatDoor

open Go.ChangeShapes Go.WideShapes Go.ChangeAt Go.RowKit

/-- A drawn body and policy's text are short. -/
def RsFew (bo po : ByteArray) : Prop := bo.size ≤ 6000 ∧ po.size ≤ 1048576
def RespGot (b : Nat) (sv : Value) (len : Nat) (k : Int) (w : World) (e : Ending) (w' : World) : Prop :=
  ∃ (bo : ByteArray) (ag : Int) (sh : Bool) (po : ByteArray), e = .returned (.agg #[.int .i64 200, .int .i64 k, .string bo, .int .i64 ag, .bool sh, .string po]) ∧ RsFew bo po ∧ Cur b sv len w' ∧ Kept b w w'
def AnyGotR (b : Nat) (sv : Value) (len : Nat) (w : World) (e : Ending) (w' : World) : Prop :=
  ∃ (st kd : Int) (bo : ByteArray) (ag : Int) (sh : Bool) (po : ByteArray), e = .returned (.agg #[.int .i64 st, .int .i64 kd, .string bo, .int .i64 ag, .bool sh, .string po]) ∧ RsFew bo po ∧ Cur b sv len w' ∧ Kept b w w'

set_option maxRecDepth 100000 in
set_option maxHeartbeats 4000000 in
theorem body_any (b : Nat) (sv : Value) (len : Nat) (k : Int) (w : World) (hc : Cur b sv len w) :
    Calls Tryz.prog 136 #[.pointer (some ⟨b, 0, none⟩), .int .i64 k] w (StrP Pg b sv len w) := by
  have HC := Lib.hid hc; clear hc
  rcases (show k = 2 ∨ k = 3 ∨ k = 5 ∨ k = 4 ∨ (k ≠ 2 ∧ k ≠ 3 ∧ k ≠ 5 ∧ k ≠ 4) by omega) with rfl | rfl | rfl | rfl | ⟨k2, k3, k5, k4⟩
  · go_enter Tryz.func136, Tryz.ntmps136
    go_wp2_with fail
    refine (text8_any b sv len 3 (by omega) _ HC.out).mono ?_
    rintro e w1 ⟨s, rfl, hs, hc1, hk1⟩
    have HC1 := Lib.hid hc1; have HK1 := Lib.hid hk1; have HZ := Lib.hid (show s.size ≤ 6000 from by omega); clear hs hc1 hk1
    go_wp2_with fail
    go_ret
    exact ⟨s, rfl, HZ.out, HC1.out, HK1.out⟩
  · go_enter Tryz.func136, Tryz.ntmps136
    go_wp2_with fail
    refine (text7_any b sv len _ HC.out).mono ?_
    rintro e w1 ⟨s, rfl, hs, hc1, hk1⟩
    have HC1 := Lib.hid hc1; have HK1 := Lib.hid hk1; have HZ := Lib.hid (show s.size ≤ 6000 from Nat.le_trans hs (by omega)); clear hs hc1 hk1
    go_wp2_with fail
    go_ret
    exact ⟨s, rfl, HZ.out, HC1.out, HK1.out⟩
  · go_enter Tryz.func136, Tryz.ntmps136
    go_wp2_with fail
    have HLB := Lib.hid HC.out.lt
    refine (str_any b sv len _ 5 5 _ (HC.out.alloc _) (by have := HLB.out; omega) (by omega) (by omega) ?_).mono ?_
    · exact cells_str _ _ _ _ (by rfl) (by kernel_rfl)
    rintro e w1 ⟨s, rfl, hs, hc1, hk1⟩
    have HC1 := Lib.hid hc1; have HK1 := Lib.hid ((Kept.alloc b w _).trans hk1); have HL1 := Lib.hid hc1.lt; clear hc1 hk1
    go_wp2_with fail
    refine (str_any b sv len _ 4 4 _ (HC1.out.alloc _) (by have := HL1.out; omega) (by omega) (by omega) ?_).mono ?_
    · exact cells_str _ _ _ _ (by rfl) (by kernel_rfl)
    rintro e w2 ⟨t, rfl, ht, hc2, hk2⟩
    have HC2 := Lib.hid hc2; have HK2 := Lib.hid (HK1.out.trans ((Kept.alloc b w1 _).trans hk2)); clear hc2 hk2
    go_wp2_with fail
    go_ret
    exact ⟨_, rfl, by show (s ++ t).size ≤ 6000; rw [size_app]; omega, HC2.out, HK2.out⟩
  · go_enter Tryz.func136, Tryz.ntmps136
    go_wp2_with fail
    go_ret
    exact ⟨_, rfl, by show (6 : Nat) ≤ 6000; omega, HC.out, Kept.refl _ _⟩
  · have e2 : (k == 2) = false := beq_eq_false_iff_ne.2 k2; have e3 : (k == 3) = false := beq_eq_false_iff_ne.2 k3; have e5 : (k == 5) = false := beq_eq_false_iff_ne.2 k5; have e4 : (k == 4) = false := beq_eq_false_iff_ne.2 k4
    clear k2 k3 k5 k4
    go_enter Tryz.func136, Tryz.ntmps136
    go_wp2_with fail
    refine (page8_any b sv len _ HC.out).mono ?_
    rintro e w1 ⟨s, rfl, hs, hc1, hk1⟩
    have HC1 := Lib.hid hc1; have HK1 := Lib.hid hk1; have HZ := Lib.hid (show s.size ≤ 6000 from hs); clear hs hc1 hk1
    go_wp2_with fail
    go_ret
    exact ⟨s, rfl, HZ.out, HC1.out, HK1.out⟩

set_option maxRecDepth 100000 in
set_option maxHeartbeats 4000000 in
theorem response_any (b : Nat) (sv : Value) (len : Nat) (k : Int) (w : World) (hc : Cur b sv len w) :
    Calls Tryz.prog 74 #[.pointer (some ⟨b, 0, none⟩), .int .i64 k] w (RespGot b sv len k w) := by
  have HLB := Lib.hid hc.lt
  obtain ⟨W0, hW0⟩ : ∃ x, w.alloc (.cells #[.int .i64 0, .int .i64 0, .string ⟨#[]⟩, .int .i64 0, .bool false, .string ⟨#[]⟩] 32) = x := ⟨_, rfl⟩
  have HK := Lib.hid (show Kept b w W0 by rw [← hW0]; exact Kept.alloc b w _)
  have HC := Lib.hid (show Cur b sv len W0 by rw [← hW0]; exact hc.alloc _)
  have XR := Lib.hid (show W0.heap[w.heap.size]? = some (.cells #[.int .i64 0, .int .i64 0, .string ⟨#[]⟩, .int .i64 0, .bool false, .string ⟨#[]⟩] 32 (0, 0)) by rw [← hW0]; exact heap_alloc_new w _)
  have NR := Lib.hid (show w.heap.size ≠ b ∧ w.heap.size ≤ w.heap.size by have := HLB.out; omega); have OR := Lib.hid HLB.out
  have HW0 := Lib.hid hW0; clear hW0 hc
  go_enter Tryz.func74, Tryz.ntmps74
  go_wp2_with fail
  rw [HW0.out]
  refine (body_any b sv len k _ HC.out).mono ?_
  rintro e w1 ⟨bo, rfl, hbo, hc1, hk1⟩
  replace XR := Lib.hid ((hk1.block _ (heap_lt XR.out) (NR.out.1)).trans XR.out)
  replace HK := Lib.hid (HK.out.trans hk1)
  replace HC := Lib.hid (hc1)
  clear hk1 hc1
  have HBO := Lib.hid hbo; clear hbo
  go_wp2_with fail
  refine (int_any b sv len _ 3 3 _ (HC.out.alloc _) (by have := HC.out.lt; omega) (by omega) (by omega) ?_).mono ?_
  · exact cells_int _ _ _ _ (by rfl) (by kernel_rfl)
  rintro e w2 ⟨ag, rfl, g0, g1, hc1, hk0⟩
  have hk1 := (Kept.alloc b w1 _).trans hk0; clear hk0
  replace XR := Lib.hid ((hk1.block _ (heap_lt XR.out) (NR.out.1)).trans XR.out)
  replace HK := Lib.hid (HK.out.trans hk1)
  replace HC := Lib.hid (hc1)
  clear hk1 hc1
  go_wp2_with fail
  refine (once_any b sv len 2 _ HC.out).mono ?_
  rintro e w3 ⟨sh, rfl, hc1, hk1⟩
  replace XR := Lib.hid ((hk1.block _ (heap_lt XR.out) (NR.out.1)).trans XR.out)
  replace HK := Lib.hid (HK.out.trans hk1)
  replace HC := Lib.hid (hc1)
  clear hk1 hc1
  go_upto_region 2 with (fail)
  obtain ⟨w4, hw⟩ : ∃ x, w3.alloc (.cells #[.int .i64 200, .int .i64 k, .string bo, .int .i64 ag, .bool sh, .string ⟨#[]⟩] 32) = x := ⟨_, rfl⟩
  rw [hw]
  have hb1 : Below w3.heap.size w3 w4 := by rw [← hw]; exact bl_aw (Below.refl _ _) _
  have Xx := Lib.hid (show w4.heap[w3.heap.size]? = some (.cells #[.int .i64 200, .int .i64 k, .string bo, .int .i64 ag, .bool sh, .string ⟨#[]⟩] 32 (0, 0)) by rw [← hw]; exact heap_alloc_new w3 _)
  have Nx := Lib.hid (show w3.heap.size ≠ b ∧ w.heap.size ≤ w3.heap.size by have := HC.out.lt; have := HK.out.size; omega)
  have Ox := Lib.hid HC.out.lt
  have PRx := Lib.hid (heap_lt XR.out)
  replace XR := Lib.hid (below_heap hb1 (heap_lt XR.out) XR.out)
  replace HK := Lib.hid (HK.out.trans (Kept.of_below hb1))
  replace HC := Lib.hid (HC.out.below hb1)
  clear hb1
  clear hw
  by_cases k1 : k = 1
  · subst k1
    go_wp2_with fail
    refine (policy_any b sv len _ HC.out).mono ?_
    rintro e w5 ⟨pbo, a1, n1, c1, a2, n2, c2, a3, n3, c3, xs, ys, zs, t, h1, rfl, ho1, -, hr2, hr3, hf, -, hc1, hk1⟩
    replace XR := Lib.hid ((hk1.block _ (heap_lt XR.out) (NR.out.1)).trans XR.out)
    replace Xx := Lib.hid ((hk1.block _ (heap_lt Xx.out) (Nx.out.1)).trans Xx.out)
    replace HK := Lib.hid (HK.out.trans hk1)
    replace HC := Lib.hid (hc1)
    clear hk1 hc1
    have hrd : ReadP w5.heap.size w5 (.slice a1 n1 c1) (.slice a2 n2 c2) (.slice a3 n3 c3) ⟨pbo, xs, ys, zs, t⟩ := ⟨(Rd1.of_own ho1).1, hr2.1, hr3.1⟩; have HFZ := Lib.hid (fmt_few (bo := pbo) hf); have hsm := hf.sm pbo; have HFM := Lib.hid (fmtPol_spec pbo xs ys zs t a1 n1 c1 a2 n2 c2 a3 n3 c3 hsm _ hrd); clear ho1 hr2 hr3 hf hrd hsm
    obtain ⟨po, hpo⟩ : ∃ po, fmtP ⟨pbo, xs, ys, zs, t⟩ = po := ⟨_, rfl⟩
    rw [hpo] at HFM HFZ; clear hpo
    go_wp2_with fail
    refine (HFM.out).mono ?_
    rintro e w6 ⟨rfl, hb1⟩
    replace XR := Lib.hid (below_heap hb1 (heap_lt XR.out) XR.out)
    replace Xx := Lib.hid (below_heap hb1 (heap_lt Xx.out) Xx.out)
    replace HK := Lib.hid (HK.out.trans (Kept.of_below hb1))
    replace HC := Lib.hid (HC.out.below hb1)
    clear hb1
    clear HFM
    have yx0 := box_cell Xx.out (j := 0) rfl; have xx0 := box_frz Xx.out 0
    have yx1 := box_cell Xx.out (j := 1) rfl; have xx1 := box_frz Xx.out 1
    have yx2 := box_cell Xx.out (j := 2) rfl; have xx2 := box_frz Xx.out 2
    have yx3 := box_cell Xx.out (j := 3) rfl; have xx3 := box_frz Xx.out 3
    have yx4 := box_cell Xx.out (j := 4) rfl; have xx4 := box_frz Xx.out 4
    have yx5 := box_cell Xx.out (j := 5) rfl; have xx5 := box_frz Xx.out 5
    have yR0 := box_cell XR.out (j := 0) rfl; have xR0 := box_frz XR.out 0
    have yR1 := box_cell XR.out (j := 1) rfl; have xR1 := box_frz XR.out 1
    have yR2 := box_cell XR.out (j := 2) rfl; have xR2 := box_frz XR.out 2
    have yR3 := box_cell XR.out (j := 3) rfl; have xR3 := box_frz XR.out 3
    have yR4 := box_cell XR.out (j := 4) rfl; have xR4 := box_frz XR.out 4
    have yR5 := box_cell XR.out (j := 5) rfl; have xR5 := box_frz XR.out 5
    have ltx := PRx.out
    go_wp2_with fail
    clear ltx
    clear yR0 xR0 yR1 xR1 yR2 xR2 yR3 xR3 yR4 xR4 yR5 xR5
    clear yx0 xx0 yx1 xx1 yx2 xx2 yx3 xx3 yx4 xx4 yx5 xx5
    obtain ⟨w9, hw9⟩ : ∃ x, (((((((w6.setCell ⟨w3.heap.size, 5, none⟩ (.string po)).setCell ⟨w.heap.size, 0, none⟩ (.int .i64 200)).setCell ⟨w.heap.size, 1, none⟩ (.int .i64 1)).setCell ⟨w.heap.size, 2, none⟩ (.string bo)).setCell ⟨w.heap.size, 3, none⟩ (.int .i64 ag)).setCell ⟨w.heap.size, 4, none⟩ (.bool sh)).setCell ⟨w.heap.size, 5, none⟩ (.string po)) = x := ⟨_, rfl⟩
    rw [hw9]
    have hb9 : w9.heap[w.heap.size]? = some (.cells #[.int .i64 200, .int .i64 1, .string bo, .int .i64 ag, .bool sh, .string po] 32 (0, 0)) := by rw [← hw9]; exact (box_set (box_set (box_set (box_set (box_set (box_set (box_off XR.out (by have h1 := PRx.out; omega) (.string po)) (.int .i64 200)) (.int .i64 1)) (.string bo)) (.int .i64 ag)) (.bool sh)) (.string po))
    have hK : Kept b w w9 := by rw [← hw9]; exact (((((((HK.out.set Nx.out.2 _ _).set (Nat.le_refl _) _ _).set (Nat.le_refl _) _ _).set (Nat.le_refl _) _ _).set (Nat.le_refl _) _ _).set (Nat.le_refl _) _ _).set (Nat.le_refl _) _ _)
    have hC : Cur b sv len w9 := by rw [← hw9]; exact (((((((HC.out.set Ox.out _ _).set OR.out _ _).set OR.out _ _).set OR.out _ _).set OR.out _ _).set OR.out _ _).set OR.out _ _)
    have r0 := box_cell hb9 (j := 0) rfl
    have r1 := box_cell hb9 (j := 1) rfl
    have r2 := box_cell hb9 (j := 2) rfl
    have r3 := box_cell hb9 (j := 3) rfl
    have r4 := box_cell hb9 (j := 4) rfl
    have r5 := box_cell hb9 (j := 5) rfl
    refine bodyPost_ret (v := .agg #[.int .i64 200, .int .i64 1, .string bo, .int .i64 ag, .bool sh, .string po]) (by simp [results, Tryz.results74, go_sem, r0, r1, r2, r3, r4, r5]) rfl ?_
    exact ⟨bo, ag, sh, po, rfl, ⟨HBO.out, HFZ.out⟩, hC, hK⟩
  · have e1 : (k == 1) = false := beq_eq_false_iff_ne.2 k1
    clear k1
    have yx0 := box_cell Xx.out (j := 0) rfl; have xx0 := box_frz Xx.out 0
    have yx1 := box_cell Xx.out (j := 1) rfl; have xx1 := box_frz Xx.out 1
    have yx2 := box_cell Xx.out (j := 2) rfl; have xx2 := box_frz Xx.out 2
    have yx3 := box_cell Xx.out (j := 3) rfl; have xx3 := box_frz Xx.out 3
    have yx4 := box_cell Xx.out (j := 4) rfl; have xx4 := box_frz Xx.out 4
    have yx5 := box_cell Xx.out (j := 5) rfl; have xx5 := box_frz Xx.out 5
    have yR0 := box_cell XR.out (j := 0) rfl; have xR0 := box_frz XR.out 0
    have yR1 := box_cell XR.out (j := 1) rfl; have xR1 := box_frz XR.out 1
    have yR2 := box_cell XR.out (j := 2) rfl; have xR2 := box_frz XR.out 2
    have yR3 := box_cell XR.out (j := 3) rfl; have xR3 := box_frz XR.out 3
    have yR4 := box_cell XR.out (j := 4) rfl; have xR4 := box_frz XR.out 4
    have yR5 := box_cell XR.out (j := 5) rfl; have xR5 := box_frz XR.out 5
    go_wp2_with fail
    clear yR0 xR0 yR1 xR1 yR2 xR2 yR3 xR3 yR4 xR4 yR5 xR5
    clear yx0 xx0 yx1 xx1 yx2 xx2 yx3 xx3 yx4 xx4 yx5 xx5
    obtain ⟨w9, hw9⟩ : ∃ x, ((((((w4.setCell ⟨w.heap.size, 0, none⟩ (.int .i64 200)).setCell ⟨w.heap.size, 1, none⟩ (.int .i64 k)).setCell ⟨w.heap.size, 2, none⟩ (.string bo)).setCell ⟨w.heap.size, 3, none⟩ (.int .i64 ag)).setCell ⟨w.heap.size, 4, none⟩ (.bool sh)).setCell ⟨w.heap.size, 5, none⟩ (.string ⟨#[]⟩)) = x := ⟨_, rfl⟩
    rw [hw9]
    have hb9 : w9.heap[w.heap.size]? = some (.cells #[.int .i64 200, .int .i64 k, .string bo, .int .i64 ag, .bool sh, .string ⟨#[]⟩] 32 (0, 0)) := by rw [← hw9]; exact (box_set (box_set (box_set (box_set (box_set (box_set XR.out (.int .i64 200)) (.int .i64 k)) (.string bo)) (.int .i64 ag)) (.bool sh)) (.string ⟨#[]⟩))
    have hK : Kept b w w9 := by rw [← hw9]; exact ((((((HK.out.set (Nat.le_refl _) _ _).set (Nat.le_refl _) _ _).set (Nat.le_refl _) _ _).set (Nat.le_refl _) _ _).set (Nat.le_refl _) _ _).set (Nat.le_refl _) _ _)
    have hC : Cur b sv len w9 := by rw [← hw9]; exact ((((((HC.out.set OR.out _ _).set OR.out _ _).set OR.out _ _).set OR.out _ _).set OR.out _ _).set OR.out _ _)
    have r0 := box_cell hb9 (j := 0) rfl
    have r1 := box_cell hb9 (j := 1) rfl
    have r2 := box_cell hb9 (j := 2) rfl
    have r3 := box_cell hb9 (j := 3) rfl
    have r4 := box_cell hb9 (j := 4) rfl
    have r5 := box_cell hb9 (j := 5) rfl
    refine bodyPost_ret (v := .agg #[.int .i64 200, .int .i64 k, .string bo, .int .i64 ag, .bool sh, .string ⟨#[]⟩]) (by simp [results, Tryz.results74, go_sem, r0, r1, r2, r3, r4, r5]) rfl ?_
    exact ⟨bo, ag, sh, ⟨#[]⟩, rfl, ⟨HBO.out, by show (0 : Nat) ≤ 1048576; omega⟩, hC, hK⟩

set_option maxRecDepth 100000 in
set_option maxHeartbeats 4000000 in
theorem anyR_any (b : Nat) (sv : Value) (len : Nat) (w : World) (hc : Cur b sv len w) :
    Calls Tryz.prog 76 #[.pointer (some ⟨b, 0, none⟩)] w (AnyGotR b sv len w) := by
  have HLB := Lib.hid hc.lt
  obtain ⟨W0, hW0⟩ : ∃ x, w.alloc (.cells #[.int .i64 0, .int .i64 0, .string ⟨#[]⟩, .int .i64 0, .bool false, .string ⟨#[]⟩] 32) = x := ⟨_, rfl⟩
  have HK := Lib.hid (show Kept b w W0 by rw [← hW0]; exact Kept.alloc b w _)
  have HC := Lib.hid (show Cur b sv len W0 by rw [← hW0]; exact hc.alloc _)
  have XR := Lib.hid (show W0.heap[w.heap.size]? = some (.cells #[.int .i64 0, .int .i64 0, .string ⟨#[]⟩, .int .i64 0, .bool false, .string ⟨#[]⟩] 32 (0, 0)) by rw [← hW0]; exact heap_alloc_new w _)
  have NR := Lib.hid (show w.heap.size ≠ b ∧ w.heap.size ≤ w.heap.size by have := HLB.out; omega); have OR := Lib.hid HLB.out
  have HW0 := Lib.hid hW0; clear hW0 hc
  go_enter Tryz.func76, Tryz.ntmps76
  go_wp2_with fail
  rw [HW0.out]
  refine (below_any b sv len 5 _ HC.out).mono ?_
  rintro e w1 ⟨q, rfl, q0, qx, -, hc1, ho1⟩
  have q1 := qx (by omega); have hk1 := ho1.kept; clear qx ho1
  replace XR := Lib.hid ((hk1.block _ (heap_lt XR.out) (NR.out.1)).trans XR.out)
  replace HK := Lib.hid (HK.out.trans hk1)
  replace HC := Lib.hid (hc1)
  clear hk1 hc1
  obtain ⟨k, hk⟩ : ∃ k, 1 + q = k := ⟨_, rfl⟩
  have HKQ := Lib.hid hk; clear hk
  go_wp2_with fail
  refine (response_any b sv len (1 + q) _ HC.out).mono ?_
  rintro e w2 ⟨bo, ag, sh, po, rfl, hf, hc1, hk1⟩
  replace XR := Lib.hid ((hk1.block _ (heap_lt XR.out) (NR.out.1)).trans XR.out)
  replace HK := Lib.hid (HK.out.trans hk1)
  replace HC := Lib.hid (hc1)
  clear hk1 hc1
  have HF := Lib.hid hf; clear hf HKQ
  go_upto_region 2 with (fail)
  obtain ⟨w3, hw⟩ : ∃ x, w2.alloc (.cells #[.int .i64 200, .int .i64 (1 + q), .string bo, .int .i64 ag, .bool sh, .string po] 32) = x := ⟨_, rfl⟩
  rw [hw]
  have hb1 : Below w2.heap.size w2 w3 := by rw [← hw]; exact bl_aw (Below.refl _ _) _
  have Xx := Lib.hid (show w3.heap[w2.heap.size]? = some (.cells #[.int .i64 200, .int .i64 (1 + q), .string bo, .int .i64 ag, .bool sh, .string po] 32 (0, 0)) by rw [← hw]; exact heap_alloc_new w2 _)
  have Nx := Lib.hid (show w2.heap.size ≠ b ∧ w.heap.size ≤ w2.heap.size by have := HC.out.lt; have := HK.out.size; omega)
  have Ox := Lib.hid HC.out.lt
  have PRx := Lib.hid (heap_lt XR.out)
  replace XR := Lib.hid (below_heap hb1 (heap_lt XR.out) XR.out)
  replace HK := Lib.hid (HK.out.trans (Kept.of_below hb1))
  replace HC := Lib.hid (HC.out.below hb1)
  clear hb1
  clear hw
  go_wp2_with fail
  refine (below_any b sv len 12 _ HC.out).mono ?_
  rintro e w4 ⟨y, rfl, y0, yx, -, hc1, ho1⟩
  have y1 := yx (by omega); have hk1 := ho1.kept; clear yx ho1
  replace XR := Lib.hid ((hk1.block _ (heap_lt XR.out) (NR.out.1)).trans XR.out)
  replace Xx := Lib.hid ((hk1.block _ (heap_lt Xx.out) (Nx.out.1)).trans Xx.out)
  replace HK := Lib.hid (HK.out.trans hk1)
  replace HC := Lib.hid (hc1)
  clear hk1 hc1
  rcases (show y = 0 ∨ y = 1 ∨ y = 2 ∨ y = 3 ∨ y = 4 ∨ (y ≠ 0 ∧ y ≠ 1 ∧ y ≠ 2 ∧ y ≠ 3 ∧ y ≠ 4) by omega) with rfl | rfl | rfl | rfl | rfl | ⟨y0', y1', y2, y3, y4⟩
  · skip
    go_wp2_with fail
    refine (int_any b sv len _ 5 5 _ (HC.out.alloc _) (by have := HC.out.lt; omega) (by omega) (by omega) ?_).mono ?_
    · exact cells_int _ _ _ _ (by rfl) (by kernel_rfl)
    rintro e w5 ⟨z, rfl, g0, g1, hc1, hk0⟩
    have hk1 := (Kept.alloc b w4 _).trans hk0; clear hk0
    replace XR := Lib.hid ((hk1.block _ (heap_lt XR.out) (NR.out.1)).trans XR.out)
    replace Xx := Lib.hid ((hk1.block _ (heap_lt Xx.out) (Nx.out.1)).trans Xx.out)
    replace HK := Lib.hid (HK.out.trans hk1)
    replace HC := Lib.hid (hc1)
    clear hk1 hc1
    have yx0 := box_cell Xx.out (j := 0) rfl; have xx0 := box_frz Xx.out 0
    have yx1 := box_cell Xx.out (j := 1) rfl; have xx1 := box_frz Xx.out 1
    have yx2 := box_cell Xx.out (j := 2) rfl; have xx2 := box_frz Xx.out 2
    have yx3 := box_cell Xx.out (j := 3) rfl; have xx3 := box_frz Xx.out 3
    have yx4 := box_cell Xx.out (j := 4) rfl; have xx4 := box_frz Xx.out 4
    have yx5 := box_cell Xx.out (j := 5) rfl; have xx5 := box_frz Xx.out 5
    have yR0 := box_cell XR.out (j := 0) rfl; have xR0 := box_frz XR.out 0
    have yR1 := box_cell XR.out (j := 1) rfl; have xR1 := box_frz XR.out 1
    have yR2 := box_cell XR.out (j := 2) rfl; have xR2 := box_frz XR.out 2
    have yR3 := box_cell XR.out (j := 3) rfl; have xR3 := box_frz XR.out 3
    have yR4 := box_cell XR.out (j := 4) rfl; have xR4 := box_frz XR.out 4
    have yR5 := box_cell XR.out (j := 5) rfl; have xR5 := box_frz XR.out 5
    have ltx := PRx.out
    go_wp2_with fail
    clear ltx
    clear yR0 xR0 yR1 xR1 yR2 xR2 yR3 xR3 yR4 xR4 yR5 xR5
    clear yx0 xx0 yx1 xx1 yx2 xx2 yx3 xx3 yx4 xx4 yx5 xx5
    obtain ⟨w9, hw9⟩ : ∃ x, (((((((w5.setCell ⟨w2.heap.size, 0, none⟩ (.int .i64 z)).setCell ⟨w.heap.size, 0, none⟩ (.int .i64 z)).setCell ⟨w.heap.size, 1, none⟩ (.int .i64 (1 + q))).setCell ⟨w.heap.size, 2, none⟩ (.string bo)).setCell ⟨w.heap.size, 3, none⟩ (.int .i64 ag)).setCell ⟨w.heap.size, 4, none⟩ (.bool sh)).setCell ⟨w.heap.size, 5, none⟩ (.string po)) = x := ⟨_, rfl⟩
    rw [hw9]
    have hb9 : w9.heap[w.heap.size]? = some (.cells #[.int .i64 z, .int .i64 (1 + q), .string bo, .int .i64 ag, .bool sh, .string po] 32 (0, 0)) := by rw [← hw9]; exact (box_set (box_set (box_set (box_set (box_set (box_set (box_off XR.out (by have h1 := PRx.out; omega) (.int .i64 z)) (.int .i64 z)) (.int .i64 (1 + q))) (.string bo)) (.int .i64 ag)) (.bool sh)) (.string po))
    have hK : Kept b w w9 := by rw [← hw9]; exact (((((((HK.out.set Nx.out.2 _ _).set (Nat.le_refl _) _ _).set (Nat.le_refl _) _ _).set (Nat.le_refl _) _ _).set (Nat.le_refl _) _ _).set (Nat.le_refl _) _ _).set (Nat.le_refl _) _ _)
    have hC : Cur b sv len w9 := by rw [← hw9]; exact (((((((HC.out.set Ox.out _ _).set OR.out _ _).set OR.out _ _).set OR.out _ _).set OR.out _ _).set OR.out _ _).set OR.out _ _)
    have r0 := box_cell hb9 (j := 0) rfl
    have r1 := box_cell hb9 (j := 1) rfl
    have r2 := box_cell hb9 (j := 2) rfl
    have r3 := box_cell hb9 (j := 3) rfl
    have r4 := box_cell hb9 (j := 4) rfl
    have r5 := box_cell hb9 (j := 5) rfl
    refine bodyPost_ret (v := .agg #[.int .i64 z, .int .i64 (1 + q), .string bo, .int .i64 ag, .bool sh, .string po]) (by simp [results, Tryz.results76, go_sem, r0, r1, r2, r3, r4, r5]) rfl ?_
    exact ⟨z, (1 + q), bo, ag, sh, po, rfl, HF.out, hC, hK⟩
  · skip
    go_wp2_with fail
    refine (int_any b sv len _ 2 2 _ (HC.out.alloc _) (by have := HC.out.lt; omega) (by omega) (by omega) ?_).mono ?_
    · exact cells_int _ _ _ _ (by rfl) (by kernel_rfl)
    rintro e w5 ⟨z, rfl, g0, g1, hc1, hk0⟩
    have hk1 := (Kept.alloc b w4 _).trans hk0; clear hk0
    replace XR := Lib.hid ((hk1.block _ (heap_lt XR.out) (NR.out.1)).trans XR.out)
    replace Xx := Lib.hid ((hk1.block _ (heap_lt Xx.out) (Nx.out.1)).trans Xx.out)
    replace HK := Lib.hid (HK.out.trans hk1)
    replace HC := Lib.hid (hc1)
    clear hk1 hc1
    have yx0 := box_cell Xx.out (j := 0) rfl; have xx0 := box_frz Xx.out 0
    have yx1 := box_cell Xx.out (j := 1) rfl; have xx1 := box_frz Xx.out 1
    have yx2 := box_cell Xx.out (j := 2) rfl; have xx2 := box_frz Xx.out 2
    have yx3 := box_cell Xx.out (j := 3) rfl; have xx3 := box_frz Xx.out 3
    have yx4 := box_cell Xx.out (j := 4) rfl; have xx4 := box_frz Xx.out 4
    have yx5 := box_cell Xx.out (j := 5) rfl; have xx5 := box_frz Xx.out 5
    have yR0 := box_cell XR.out (j := 0) rfl; have xR0 := box_frz XR.out 0
    have yR1 := box_cell XR.out (j := 1) rfl; have xR1 := box_frz XR.out 1
    have yR2 := box_cell XR.out (j := 2) rfl; have xR2 := box_frz XR.out 2
    have yR3 := box_cell XR.out (j := 3) rfl; have xR3 := box_frz XR.out 3
    have yR4 := box_cell XR.out (j := 4) rfl; have xR4 := box_frz XR.out 4
    have yR5 := box_cell XR.out (j := 5) rfl; have xR5 := box_frz XR.out 5
    have ltx := PRx.out
    go_wp2_with fail
    clear ltx
    clear yR0 xR0 yR1 xR1 yR2 xR2 yR3 xR3 yR4 xR4 yR5 xR5
    clear yx0 xx0 yx1 xx1 yx2 xx2 yx3 xx3 yx4 xx4 yx5 xx5
    obtain ⟨w9, hw9⟩ : ∃ x, (((((((w5.setCell ⟨w2.heap.size, 1, none⟩ (.int .i64 z)).setCell ⟨w.heap.size, 0, none⟩ (.int .i64 200)).setCell ⟨w.heap.size, 1, none⟩ (.int .i64 z)).setCell ⟨w.heap.size, 2, none⟩ (.string bo)).setCell ⟨w.heap.size, 3, none⟩ (.int .i64 ag)).setCell ⟨w.heap.size, 4, none⟩ (.bool sh)).setCell ⟨w.heap.size, 5, none⟩ (.string po)) = x := ⟨_, rfl⟩
    rw [hw9]
    have hb9 : w9.heap[w.heap.size]? = some (.cells #[.int .i64 200, .int .i64 z, .string bo, .int .i64 ag, .bool sh, .string po] 32 (0, 0)) := by rw [← hw9]; exact (box_set (box_set (box_set (box_set (box_set (box_set (box_off XR.out (by have h1 := PRx.out; omega) (.int .i64 z)) (.int .i64 200)) (.int .i64 z)) (.string bo)) (.int .i64 ag)) (.bool sh)) (.string po))
    have hK : Kept b w w9 := by rw [← hw9]; exact (((((((HK.out.set Nx.out.2 _ _).set (Nat.le_refl _) _ _).set (Nat.le_refl _) _ _).set (Nat.le_refl _) _ _).set (Nat.le_refl _) _ _).set (Nat.le_refl _) _ _).set (Nat.le_refl _) _ _)
    have hC : Cur b sv len w9 := by rw [← hw9]; exact (((((((HC.out.set Ox.out _ _).set OR.out _ _).set OR.out _ _).set OR.out _ _).set OR.out _ _).set OR.out _ _).set OR.out _ _)
    have r0 := box_cell hb9 (j := 0) rfl
    have r1 := box_cell hb9 (j := 1) rfl
    have r2 := box_cell hb9 (j := 2) rfl
    have r3 := box_cell hb9 (j := 3) rfl
    have r4 := box_cell hb9 (j := 4) rfl
    have r5 := box_cell hb9 (j := 5) rfl
    refine bodyPost_ret (v := .agg #[.int .i64 200, .int .i64 z, .string bo, .int .i64 ag, .bool sh, .string po]) (by simp [results, Tryz.results76, go_sem, r0, r1, r2, r3, r4, r5]) rfl ?_
    exact ⟨200, z, bo, ag, sh, po, rfl, HF.out, hC, hK⟩
  · skip
    go_wp2_with fail
    refine (int_any b sv len _ 3 3 _ (HC.out.alloc _) (by have := HC.out.lt; omega) (by omega) (by omega) ?_).mono ?_
    · exact cells_int _ _ _ _ (by rfl) (by kernel_rfl)
    rintro e w5 ⟨z, rfl, g0, g1, hc1, hk0⟩
    have hk1 := (Kept.alloc b w4 _).trans hk0; clear hk0
    replace XR := Lib.hid ((hk1.block _ (heap_lt XR.out) (NR.out.1)).trans XR.out)
    replace Xx := Lib.hid ((hk1.block _ (heap_lt Xx.out) (Nx.out.1)).trans Xx.out)
    replace HK := Lib.hid (HK.out.trans hk1)
    replace HC := Lib.hid (hc1)
    clear hk1 hc1
    have yx0 := box_cell Xx.out (j := 0) rfl; have xx0 := box_frz Xx.out 0
    have yx1 := box_cell Xx.out (j := 1) rfl; have xx1 := box_frz Xx.out 1
    have yx2 := box_cell Xx.out (j := 2) rfl; have xx2 := box_frz Xx.out 2
    have yx3 := box_cell Xx.out (j := 3) rfl; have xx3 := box_frz Xx.out 3
    have yx4 := box_cell Xx.out (j := 4) rfl; have xx4 := box_frz Xx.out 4
    have yx5 := box_cell Xx.out (j := 5) rfl; have xx5 := box_frz Xx.out 5
    have yR0 := box_cell XR.out (j := 0) rfl; have xR0 := box_frz XR.out 0
    have yR1 := box_cell XR.out (j := 1) rfl; have xR1 := box_frz XR.out 1
    have yR2 := box_cell XR.out (j := 2) rfl; have xR2 := box_frz XR.out 2
    have yR3 := box_cell XR.out (j := 3) rfl; have xR3 := box_frz XR.out 3
    have yR4 := box_cell XR.out (j := 4) rfl; have xR4 := box_frz XR.out 4
    have yR5 := box_cell XR.out (j := 5) rfl; have xR5 := box_frz XR.out 5
    have ltx := PRx.out
    go_wp2_with fail
    clear ltx
    clear yR0 xR0 yR1 xR1 yR2 xR2 yR3 xR3 yR4 xR4 yR5 xR5
    clear yx0 xx0 yx1 xx1 yx2 xx2 yx3 xx3 yx4 xx4 yx5 xx5
    obtain ⟨w9, hw9⟩ : ∃ x, (((((((w5.setCell ⟨w2.heap.size, 3, none⟩ (.int .i64 z)).setCell ⟨w.heap.size, 0, none⟩ (.int .i64 200)).setCell ⟨w.heap.size, 1, none⟩ (.int .i64 (1 + q))).setCell ⟨w.heap.size, 2, none⟩ (.string bo)).setCell ⟨w.heap.size, 3, none⟩ (.int .i64 z)).setCell ⟨w.heap.size, 4, none⟩ (.bool sh)).setCell ⟨w.heap.size, 5, none⟩ (.string po)) = x := ⟨_, rfl⟩
    rw [hw9]
    have hb9 : w9.heap[w.heap.size]? = some (.cells #[.int .i64 200, .int .i64 (1 + q), .string bo, .int .i64 z, .bool sh, .string po] 32 (0, 0)) := by rw [← hw9]; exact (box_set (box_set (box_set (box_set (box_set (box_set (box_off XR.out (by have h1 := PRx.out; omega) (.int .i64 z)) (.int .i64 200)) (.int .i64 (1 + q))) (.string bo)) (.int .i64 z)) (.bool sh)) (.string po))
    have hK : Kept b w w9 := by rw [← hw9]; exact (((((((HK.out.set Nx.out.2 _ _).set (Nat.le_refl _) _ _).set (Nat.le_refl _) _ _).set (Nat.le_refl _) _ _).set (Nat.le_refl _) _ _).set (Nat.le_refl _) _ _).set (Nat.le_refl _) _ _)
    have hC : Cur b sv len w9 := by rw [← hw9]; exact (((((((HC.out.set Ox.out _ _).set OR.out _ _).set OR.out _ _).set OR.out _ _).set OR.out _ _).set OR.out _ _).set OR.out _ _)
    have r0 := box_cell hb9 (j := 0) rfl
    have r1 := box_cell hb9 (j := 1) rfl
    have r2 := box_cell hb9 (j := 2) rfl
    have r3 := box_cell hb9 (j := 3) rfl
    have r4 := box_cell hb9 (j := 4) rfl
    have r5 := box_cell hb9 (j := 5) rfl
    refine bodyPost_ret (v := .agg #[.int .i64 200, .int .i64 (1 + q), .string bo, .int .i64 z, .bool sh, .string po]) (by simp [results, Tryz.results76, go_sem, r0, r1, r2, r3, r4, r5]) rfl ?_
    exact ⟨200, (1 + q), bo, z, sh, po, rfl, HF.out, hC, hK⟩
  · skip
    go_wp2_with fail
    refine (str_any b sv len _ 2 2 _ (HC.out.alloc _) (by have := HC.out.lt; omega) (by omega) (by omega) ?_).mono ?_
    · exact cells_str _ _ _ _ (by rfl) (by kernel_rfl)
    rintro e w5 ⟨z, rfl, hz, hc1, hk0⟩
    have hk1 := (Kept.alloc b w4 _).trans hk0; clear hk0
    replace XR := Lib.hid ((hk1.block _ (heap_lt XR.out) (NR.out.1)).trans XR.out)
    replace Xx := Lib.hid ((hk1.block _ (heap_lt Xx.out) (Nx.out.1)).trans Xx.out)
    replace HK := Lib.hid (HK.out.trans hk1)
    replace HC := Lib.hid (hc1)
    clear hk1 hc1
    have yx0 := box_cell Xx.out (j := 0) rfl; have xx0 := box_frz Xx.out 0
    have yx1 := box_cell Xx.out (j := 1) rfl; have xx1 := box_frz Xx.out 1
    have yx2 := box_cell Xx.out (j := 2) rfl; have xx2 := box_frz Xx.out 2
    have yx3 := box_cell Xx.out (j := 3) rfl; have xx3 := box_frz Xx.out 3
    have yx4 := box_cell Xx.out (j := 4) rfl; have xx4 := box_frz Xx.out 4
    have yx5 := box_cell Xx.out (j := 5) rfl; have xx5 := box_frz Xx.out 5
    have yR0 := box_cell XR.out (j := 0) rfl; have xR0 := box_frz XR.out 0
    have yR1 := box_cell XR.out (j := 1) rfl; have xR1 := box_frz XR.out 1
    have yR2 := box_cell XR.out (j := 2) rfl; have xR2 := box_frz XR.out 2
    have yR3 := box_cell XR.out (j := 3) rfl; have xR3 := box_frz XR.out 3
    have yR4 := box_cell XR.out (j := 4) rfl; have xR4 := box_frz XR.out 4
    have yR5 := box_cell XR.out (j := 5) rfl; have xR5 := box_frz XR.out 5
    have ltx := PRx.out
    go_wp2_with fail
    clear ltx
    clear yR0 xR0 yR1 xR1 yR2 xR2 yR3 xR3 yR4 xR4 yR5 xR5
    clear yx0 xx0 yx1 xx1 yx2 xx2 yx3 xx3 yx4 xx4 yx5 xx5
    obtain ⟨w9, hw9⟩ : ∃ x, (((((((w5.setCell ⟨w2.heap.size, 5, none⟩ (.string z)).setCell ⟨w.heap.size, 0, none⟩ (.int .i64 200)).setCell ⟨w.heap.size, 1, none⟩ (.int .i64 (1 + q))).setCell ⟨w.heap.size, 2, none⟩ (.string bo)).setCell ⟨w.heap.size, 3, none⟩ (.int .i64 ag)).setCell ⟨w.heap.size, 4, none⟩ (.bool sh)).setCell ⟨w.heap.size, 5, none⟩ (.string z)) = x := ⟨_, rfl⟩
    rw [hw9]
    have hb9 : w9.heap[w.heap.size]? = some (.cells #[.int .i64 200, .int .i64 (1 + q), .string bo, .int .i64 ag, .bool sh, .string z] 32 (0, 0)) := by rw [← hw9]; exact (box_set (box_set (box_set (box_set (box_set (box_set (box_off XR.out (by have h1 := PRx.out; omega) (.string z)) (.int .i64 200)) (.int .i64 (1 + q))) (.string bo)) (.int .i64 ag)) (.bool sh)) (.string z))
    have hK : Kept b w w9 := by rw [← hw9]; exact (((((((HK.out.set Nx.out.2 _ _).set (Nat.le_refl _) _ _).set (Nat.le_refl _) _ _).set (Nat.le_refl _) _ _).set (Nat.le_refl _) _ _).set (Nat.le_refl _) _ _).set (Nat.le_refl _) _ _)
    have hC : Cur b sv len w9 := by rw [← hw9]; exact (((((((HC.out.set Ox.out _ _).set OR.out _ _).set OR.out _ _).set OR.out _ _).set OR.out _ _).set OR.out _ _).set OR.out _ _)
    have r0 := box_cell hb9 (j := 0) rfl
    have r1 := box_cell hb9 (j := 1) rfl
    have r2 := box_cell hb9 (j := 2) rfl
    have r3 := box_cell hb9 (j := 3) rfl
    have r4 := box_cell hb9 (j := 4) rfl
    have r5 := box_cell hb9 (j := 5) rfl
    refine bodyPost_ret (v := .agg #[.int .i64 200, .int .i64 (1 + q), .string bo, .int .i64 ag, .bool sh, .string z]) (by simp [results, Tryz.results76, go_sem, r0, r1, r2, r3, r4, r5]) rfl ?_
    exact ⟨200, (1 + q), bo, ag, sh, z, rfl, ⟨HF.out.1, by omega⟩, hC, hK⟩
  · skip
    obtain ⟨g, hg⟩ : ∃ g, w2.heap.size = g := ⟨_, rfl⟩
    have HG := Lib.hid hg; clear hg
    rw [HG.out] at Xx Nx Ox PRx
    go_wp2_with fail
    try simp only [HG.out]
    go_loopw [] (fun wr => ∃ S : ByteArray, S.size ≤ 6000 ∧ wr.heap[g]? = some (.cells #[.int .i64 200, .int .i64 (1 + q), .string S, .int .i64 ag, .bool sh, .string po] 32 (0, 0)) ∧ wr.heap[w.heap.size]? = some (.cells #[.int .i64 0, .int .i64 0, .string ⟨#[]⟩, .int .i64 0, .bool false, .string ⟨#[]⟩] 32 (0, 0)) ∧ Cur b sv len wr ∧ Kept b w wr) (fun wr => match wr.cell? ⟨g, 2, none⟩ with | some (.string t) => 400 - t.size | _ => 0)
    case atStart => exact ⟨bo, HF.out.1, Xx.out, XR.out, HC.out, HK.out⟩
    case round =>
      obtain ⟨S, hS, hx, hr, hcc, hkk⟩ := hrel
      clear Xx XR HC HK
      have Xx := Lib.hid hx; have XR := Lib.hid hr; have HC := Lib.hid hcc; have HK := Lib.hid hkk; clear hx hr hcc hkk
      by_cases hlt : (S.size : Int) < 400
      · have hltd : decide ((S.size : Int) < 400) = true := decide_eq_true hlt
        have HM0 := Lib.hid (show wr.cell? ⟨g, 2, none⟩ = some (.string S) from box_cell Xx.out (j := 2) rfl)
        have yx0 := box_cell Xx.out (j := 0) rfl; have xx0 := box_frz Xx.out 0
        have yx1 := box_cell Xx.out (j := 1) rfl; have xx1 := box_frz Xx.out 1
        have yx2 := box_cell Xx.out (j := 2) rfl; have xx2 := box_frz Xx.out 2
        have yx3 := box_cell Xx.out (j := 3) rfl; have xx3 := box_frz Xx.out 3
        have yx4 := box_cell Xx.out (j := 4) rfl; have xx4 := box_frz Xx.out 4
        have yx5 := box_cell Xx.out (j := 5) rfl; have xx5 := box_frz Xx.out 5
        have hsz : (S ++ (⟨#[48, 49, 50, 51, 52, 53, 54, 55, 56, 57]⟩ : ByteArray)).size = S.size + 10 := by rw [ByteArray.size_append]; rfl
        go_wp2_with fail
        clear yx0 xx0 yx1 xx1 yx2 xx2 yx3 xx3 yx4 xx4 yx5 xx5
        obtain ⟨w5, hw⟩ : ∃ x, wr.setCell ⟨g, 2, none⟩ (.string (S ++ ⟨#[48, 49, 50, 51, 52, 53, 54, 55, 56, 57]⟩)) = x := ⟨_, rfl⟩
        rw [hw]
        have hx : w5.heap[g]? = some (.cells #[.int .i64 200, .int .i64 (1 + q), .string (S ++ ⟨#[48, 49, 50, 51, 52, 53, 54, 55, 56, 57]⟩), .int .i64 ag, .bool sh, .string po] 32 (0, 0)) := by rw [← hw]; exact box_set Xx.out _
        replace XR := Lib.hid (show w5.heap[w.heap.size]? = some (.cells #[.int .i64 0, .int .i64 0, .string ⟨#[]⟩, .int .i64 0, .bool false, .string ⟨#[]⟩] 32 (0, 0)) by rw [← hw]; exact box_off XR.out (by have h1 := PRx.out; omega) _)
        replace Xx := Lib.hid hx
        replace HK := Lib.hid (show Kept b w w5 by rw [← hw]; exact HK.out.set Nx.out.2 _ _)
        replace HC := Lib.hid (show Cur b sv len w5 by rw [← hw]; exact HC.out.set Ox.out _ _)
        clear hw hx
        go_roundw
        case rel => exact ⟨_, by rw [hsz]; omega, Xx.out, XR.out, HC.out, HK.out⟩
        case measure => rw [show w5.cell? ⟨g, 2, none⟩ = some (.string (S ++ ⟨#[48, 49, 50, 51, 52, 53, 54, 55, 56, 57]⟩)) from box_cell Xx.out (j := 2) rfl, HM0.out]; show 400 - (S ++ _).size < 400 - S.size; rw [hsz]; omega
      · have hltd : decide ((S.size : Int) < 400) = false := decide_eq_false hlt
        have yx0 := box_cell Xx.out (j := 0) rfl; have xx0 := box_frz Xx.out 0
        have yx1 := box_cell Xx.out (j := 1) rfl; have xx1 := box_frz Xx.out 1
        have yx2 := box_cell Xx.out (j := 2) rfl; have xx2 := box_frz Xx.out 2
        have yx3 := box_cell Xx.out (j := 3) rfl; have xx3 := box_frz Xx.out 3
        have yx4 := box_cell Xx.out (j := 4) rfl; have xx4 := box_frz Xx.out 4
        have yx5 := box_cell Xx.out (j := 5) rfl; have xx5 := box_frz Xx.out 5
        have yR0 := box_cell XR.out (j := 0) rfl; have xR0 := box_frz XR.out 0
        have yR1 := box_cell XR.out (j := 1) rfl; have xR1 := box_frz XR.out 1
        have yR2 := box_cell XR.out (j := 2) rfl; have xR2 := box_frz XR.out 2
        have yR3 := box_cell XR.out (j := 3) rfl; have xR3 := box_frz XR.out 3
        have yR4 := box_cell XR.out (j := 4) rfl; have xR4 := box_frz XR.out 4
        have yR5 := box_cell XR.out (j := 5) rfl; have xR5 := box_frz XR.out 5
        go_wp2_with fail
        clear yR0 xR0 yR1 xR1 yR2 xR2 yR3 xR3 yR4 xR4 yR5 xR5
        clear yx0 xx0 yx1 xx1 yx2 xx2 yx3 xx3 yx4 xx4 yx5 xx5
        obtain ⟨w9, hw9⟩ : ∃ x, ((((((wr.setCell ⟨w.heap.size, 0, none⟩ (.int .i64 200)).setCell ⟨w.heap.size, 1, none⟩ (.int .i64 (1 + q))).setCell ⟨w.heap.size, 2, none⟩ (.string S)).setCell ⟨w.heap.size, 3, none⟩ (.int .i64 ag)).setCell ⟨w.heap.size, 4, none⟩ (.bool sh)).setCell ⟨w.heap.size, 5, none⟩ (.string po)) = x := ⟨_, rfl⟩
        rw [hw9]
        have hb9 : w9.heap[w.heap.size]? = some (.cells #[.int .i64 200, .int .i64 (1 + q), .string S, .int .i64 ag, .bool sh, .string po] 32 (0, 0)) := by rw [← hw9]; exact (box_set (box_set (box_set (box_set (box_set (box_set XR.out (.int .i64 200)) (.int .i64 (1 + q))) (.string S)) (.int .i64 ag)) (.bool sh)) (.string po))
        have hK : Kept b w w9 := by rw [← hw9]; exact ((((((HK.out.set (Nat.le_refl _) _ _).set (Nat.le_refl _) _ _).set (Nat.le_refl _) _ _).set (Nat.le_refl _) _ _).set (Nat.le_refl _) _ _).set (Nat.le_refl _) _ _)
        have hC : Cur b sv len w9 := by rw [← hw9]; exact ((((((HC.out.set OR.out _ _).set OR.out _ _).set OR.out _ _).set OR.out _ _).set OR.out _ _).set OR.out _ _)
        have r0 := box_cell hb9 (j := 0) rfl
        have r1 := box_cell hb9 (j := 1) rfl
        have r2 := box_cell hb9 (j := 2) rfl
        have r3 := box_cell hb9 (j := 3) rfl
        have r4 := box_cell hb9 (j := 4) rfl
        have r5 := box_cell hb9 (j := 5) rfl
        refine bodyPost_ret (v := .agg #[.int .i64 200, .int .i64 (1 + q), .string S, .int .i64 ag, .bool sh, .string po]) (by simp [results, Tryz.results76, go_sem, r0, r1, r2, r3, r4, r5]) rfl ?_
        exact ⟨200, (1 + q), S, ag, sh, po, rfl, ⟨hS, HF.out.2⟩, hC, hK⟩
  · have e0 : (y == 0) = false := beq_eq_false_iff_ne.2 y0'; have e1 : (y == 1) = false := beq_eq_false_iff_ne.2 y1'; have e2 : (y == 2) = false := beq_eq_false_iff_ne.2 y2; have e3 : (y == 3) = false := beq_eq_false_iff_ne.2 y3; have e4 : (y == 4) = false := beq_eq_false_iff_ne.2 y4
    clear y0' y1' y2 y3 y4
    have yx0 := box_cell Xx.out (j := 0) rfl; have xx0 := box_frz Xx.out 0
    have yx1 := box_cell Xx.out (j := 1) rfl; have xx1 := box_frz Xx.out 1
    have yx2 := box_cell Xx.out (j := 2) rfl; have xx2 := box_frz Xx.out 2
    have yx3 := box_cell Xx.out (j := 3) rfl; have xx3 := box_frz Xx.out 3
    have yx4 := box_cell Xx.out (j := 4) rfl; have xx4 := box_frz Xx.out 4
    have yx5 := box_cell Xx.out (j := 5) rfl; have xx5 := box_frz Xx.out 5
    have yR0 := box_cell XR.out (j := 0) rfl; have xR0 := box_frz XR.out 0
    have yR1 := box_cell XR.out (j := 1) rfl; have xR1 := box_frz XR.out 1
    have yR2 := box_cell XR.out (j := 2) rfl; have xR2 := box_frz XR.out 2
    have yR3 := box_cell XR.out (j := 3) rfl; have xR3 := box_frz XR.out 3
    have yR4 := box_cell XR.out (j := 4) rfl; have xR4 := box_frz XR.out 4
    have yR5 := box_cell XR.out (j := 5) rfl; have xR5 := box_frz XR.out 5
    go_wp2_with fail
    clear yR0 xR0 yR1 xR1 yR2 xR2 yR3 xR3 yR4 xR4 yR5 xR5
    clear yx0 xx0 yx1 xx1 yx2 xx2 yx3 xx3 yx4 xx4 yx5 xx5
    obtain ⟨w9, hw9⟩ : ∃ x, ((((((w4.setCell ⟨w.heap.size, 0, none⟩ (.int .i64 200)).setCell ⟨w.heap.size, 1, none⟩ (.int .i64 (1 + q))).setCell ⟨w.heap.size, 2, none⟩ (.string bo)).setCell ⟨w.heap.size, 3, none⟩ (.int .i64 ag)).setCell ⟨w.heap.size, 4, none⟩ (.bool sh)).setCell ⟨w.heap.size, 5, none⟩ (.string po)) = x := ⟨_, rfl⟩
    rw [hw9]
    have hb9 : w9.heap[w.heap.size]? = some (.cells #[.int .i64 200, .int .i64 (1 + q), .string bo, .int .i64 ag, .bool sh, .string po] 32 (0, 0)) := by rw [← hw9]; exact (box_set (box_set (box_set (box_set (box_set (box_set XR.out (.int .i64 200)) (.int .i64 (1 + q))) (.string bo)) (.int .i64 ag)) (.bool sh)) (.string po))
    have hK : Kept b w w9 := by rw [← hw9]; exact ((((((HK.out.set (Nat.le_refl _) _ _).set (Nat.le_refl _) _ _).set (Nat.le_refl _) _ _).set (Nat.le_refl _) _ _).set (Nat.le_refl _) _ _).set (Nat.le_refl _) _ _)
    have hC : Cur b sv len w9 := by rw [← hw9]; exact ((((((HC.out.set OR.out _ _).set OR.out _ _).set OR.out _ _).set OR.out _ _).set OR.out _ _).set OR.out _ _)
    have r0 := box_cell hb9 (j := 0) rfl
    have r1 := box_cell hb9 (j := 1) rfl
    have r2 := box_cell hb9 (j := 2) rfl
    have r3 := box_cell hb9 (j := 3) rfl
    have r4 := box_cell hb9 (j := 4) rfl
    have r5 := box_cell hb9 (j := 5) rfl
    refine bodyPost_ret (v := .agg #[.int .i64 200, .int .i64 (1 + q), .string bo, .int .i64 ag, .bool sh, .string po]) (by simp [results, Tryz.results76, go_sem, r0, r1, r2, r3, r4, r5]) rfl ?_
    exact ⟨200, (1 + q), bo, ag, sh, po, rfl, HF.out, hC, hK⟩

theorem fmtSz {n : Int} (h0 : -9223372036854775808 ≤ n) (h1 : n ≤ 9223372036854775807) : (fmtS n).size ≤ 100 := by
  have e : (fmtS n).size = (Lib.itoa n).length := by unfold fmtS; rw [ByteArray.size]; simp
  have := Lib.itoa_length_le n h0 h1
  omega
theorem cur_setR {rb R len : Nat} {sv : Value} {w0 W : World} (hco : CodeOk R w0 sv len) (h : Cur rb sv len W) (hne : R ≠ rb) (o : Nat) (v : Value) : Cur rb sv len (W.setCell ⟨R, o, none⟩ v) := by
  obtain ⟨a0, cap0, e0, _, h0⟩ := hco
  obtain ⟨i, x, h1, h2, a, cap, e, h3, h4⟩ := h
  refine ⟨i, x, box_off h1 (Ne.symm hne) _, h2, a, cap, e, h3, ?_⟩
  rcases h4 with h4 | ⟨blk, off, e2, hb, hc⟩
  · exact Or.inl h4
  · refine Or.inr ⟨blk, off, e2, hb, fun j hj => ?_⟩
    obtain ⟨n, n0, n1, hn⟩ := hc j hj
    have hbk : blk ≠ R := by
      rcases h0 with h0 | ⟨blk', off', e3, hb', _⟩
      · omega
      · obtain ⟨h5, _, _⟩ := Value.slice.inj (e0.symm.trans e)
        have h6 := h5.symm.trans e3
        rw [e2] at h6
        obtain rfl : blk = blk' := congrArg (fun x => match x with | some (a : Addr) => a.block | none => 0) h6
        omega
    exact ⟨n, n0, n1, by rw [World.cell?_of_block (w := W) (a := ⟨blk, off + j, none⟩) (Below.heap_setCell _ _ _ _ hbk)]; exact hn⟩

/-- Drawn responses. -/
def RsDrawn (w : World) (e : Ending) (w' : World) : Prop :=
  ∃ (st kd : Int) (bo : ByteArray) (ag : Int) (sh : Bool) (po : ByteArray), e = .returned (.agg #[.int .i64 st, .int .i64 kd, .string bo, .int .i64 ag, .bool sh, .string po]) ∧ RsFew bo po ∧ Below w.heap.size w w'
def RkDrawn (w : World) (e : Ending) (w' : World) : Prop :=
  ∃ (st kd : Int) (bo : ByteArray) (ag : Int) (sh : Bool) (po : ByteArray) (k : Int), e = .returned (.tuple #[.agg #[.int .i64 st, .int .i64 kd, .string bo, .int .i64 ag, .bool sh, .string po], .int .i64 k]) ∧ RsFew bo po ∧ Below w.heap.size w w'
def KindOut (b : Nat) (sv : Value) (len : Nat) (w : World) (e : Ending) (w' : World) : Prop := ∃ x : Int, e = .returned (.int .i64 x) ∧ 0 ≤ x ∧ x ≤ 6 ∧ Cur b sv len w' ∧ Kept b w w'

set_option maxRecDepth 100000 in
set_option maxHeartbeats 4000000 in
theorem kind_any (b : Nat) (sv : Value) (len : Nat) (w : World) (hc : Cur b sv len w) :
    Calls Tryz.prog 95 #[.pointer (some ⟨b, 0, none⟩)] w (KindOut b sv len w) := by
  have HLB := Lib.hid hc.lt
  have HK := Lib.hid (Kept.refl b w); have HC := Lib.hid hc; clear hc
  go_enter Tryz.func95, Tryz.ntmps95
  go_wp2_with fail
  refine (below_any b sv len 7 _ HC.out).mono ?_
  rintro e w1 ⟨y, rfl, y0, yx, -, hc1, ho1⟩
  have y1 := yx (by omega); have hk1 := ho1.kept; clear yx ho1
  replace HK := Lib.hid (HK.out.trans hk1)
  replace HC := Lib.hid (hc1)
  clear hk1 hc1
  go_wp2_with fail
  go_ret
  exact ⟨y, rfl, y0, by omega, HC.out, HK.out⟩

set_option maxRecDepth 100000 in
set_option maxHeartbeats 4000000 in
theorem drawIsRsp_any (sv : Value) (len : Nat) (w : World) (hc : CodeOk w.heap.size w sv len) :
    Calls Tryz.prog 36 #[sv] w (RsDrawn w) := by
  obtain ⟨W0, hW0⟩ : ∃ x, w.alloc (.cells #[.int .i64 0, .int .i64 0, .string ⟨#[]⟩, .int .i64 0, .bool false, .string ⟨#[]⟩] 32) = x := ⟨_, rfl⟩
  have HB := Lib.hid (show Below w.heap.size w W0 by rw [← hW0]; exact bl_aw (Below.refl _ _) _)
  have HCO := Lib.hid (codeOk_later hc HB.out)
  have hs0 : w.heap.size + 1 ≤ W0.heap.size := by rw [← hW0, size_alloc]; exact Nat.le_refl _
  have HS0 := Lib.hid hs0; clear hs0
  have XR := Lib.hid (show W0.heap[w.heap.size]? = some (.cells #[.int .i64 0, .int .i64 0, .string ⟨#[]⟩, .int .i64 0, .bool false, .string ⟨#[]⟩] 32 (0, 0)) by rw [← hW0]; exact heap_alloc_new w _)
  have HW0 := Lib.hid hW0; clear hW0 hc
  go_enter Tryz.func36, Tryz.ntmps36
  go_wp2_with fail
  rw [HW0.out]
  refine (new_any sv len _ HCO.out).mono ?_
  rintro e w1 ⟨rfl, hc1, hb1⟩
  replace XR := Lib.hid (below_heap hb1 (heap_lt XR.out) XR.out)
  have NR := Lib.hid (show w.heap.size ≠ W0.heap.size ∧ w.heap.size ≤ w.heap.size by have := HS0.out; omega)
  have HRB := Lib.hid (show w.heap.size ≤ W0.heap.size by have := HS0.out; omega)
  have HC := Lib.hid hc1; replace HB := Lib.hid (HB.out.trans (hb1.mono HB.out.size)); clear hc1 hb1
  go_wp2_with fail
  refine (anyR_any _ sv len _ HC.out).mono ?_
  rintro e w2 ⟨st, kd, bo, ag, sh, po, rfl, hf, hc1, hk1⟩
  replace XR := Lib.hid ((hk1.block _ (heap_lt XR.out) (NR.out.1)).trans XR.out)
  replace HB := Lib.hid (HB.out.trans ((hk1.below (Nat.le_of_lt HC.out.lt)).mono HRB.out))
  replace HC := Lib.hid (hc1)
  clear hk1 hc1
  have HF := Lib.hid hf; clear hf
  have yR0 := box_cell XR.out (j := 0) rfl; have xR0 := box_frz XR.out 0
  have yR1 := box_cell XR.out (j := 1) rfl; have xR1 := box_frz XR.out 1
  have yR2 := box_cell XR.out (j := 2) rfl; have xR2 := box_frz XR.out 2
  have yR3 := box_cell XR.out (j := 3) rfl; have xR3 := box_frz XR.out 3
  have yR4 := box_cell XR.out (j := 4) rfl; have xR4 := box_frz XR.out 4
  have yR5 := box_cell XR.out (j := 5) rfl; have xR5 := box_frz XR.out 5
  go_wp2_with fail
  clear yR0 xR0 yR1 xR1 yR2 xR2 yR3 xR3 yR4 xR4 yR5 xR5
  obtain ⟨w9, hw9⟩ : ∃ x, ((((((w2.setCell ⟨w.heap.size, 0, none⟩ (.int .i64 st)).setCell ⟨w.heap.size, 1, none⟩ (.int .i64 kd)).setCell ⟨w.heap.size, 2, none⟩ (.string bo)).setCell ⟨w.heap.size, 3, none⟩ (.int .i64 ag)).setCell ⟨w.heap.size, 4, none⟩ (.bool sh)).setCell ⟨w.heap.size, 5, none⟩ (.string po)) = x := ⟨_, rfl⟩
  rw [hw9]
  have hb9 : w9.heap[w.heap.size]? = some (.cells #[.int .i64 st, .int .i64 kd, .string bo, .int .i64 ag, .bool sh, .string po] 32 (0, 0)) := by rw [← hw9]; exact (box_set (box_set (box_set (box_set (box_set (box_set XR.out (.int .i64 st)) (.int .i64 kd)) (.string bo)) (.int .i64 ag)) (.bool sh)) (.string po))
  have hK : Below w.heap.size w w9 := by rw [← hw9]; exact ((((((HB.out.setCell (Nat.le_refl _) _).setCell (Nat.le_refl _) _).setCell (Nat.le_refl _) _).setCell (Nat.le_refl _) _).setCell (Nat.le_refl _) _).setCell (Nat.le_refl _) _)
  have r0 := box_cell hb9 (j := 0) rfl
  have r1 := box_cell hb9 (j := 1) rfl
  have r2 := box_cell hb9 (j := 2) rfl
  have r3 := box_cell hb9 (j := 3) rfl
  have r4 := box_cell hb9 (j := 4) rfl
  have r5 := box_cell hb9 (j := 5) rfl
  refine bodyPost_ret (v := .agg #[.int .i64 st, .int .i64 kd, .string bo, .int .i64 ag, .bool sh, .string po]) (by simp [results, Tryz.results36, go_sem, r0, r1, r2, r3, r4, r5]) rfl ?_
  exact ⟨st, kd, bo, ag, sh, po, rfl, HF.out, hK⟩

set_option maxRecDepth 100000 in
set_option maxHeartbeats 4000000 in
theorem drawFits_any (sv : Value) (len : Nat) (w : World) (hc : CodeOk w.heap.size w sv len) :
    Calls Tryz.prog 37 #[sv] w (RkDrawn w) := by
  have HCO0 := Lib.hid hc
  obtain ⟨W0, hW0⟩ : ∃ x, w.alloc (.cells #[.int .i64 0, .int .i64 0, .string ⟨#[]⟩, .int .i64 0, .bool false, .string ⟨#[]⟩] 32) = x := ⟨_, rfl⟩
  have HB := Lib.hid (show Below w.heap.size w W0 by rw [← hW0]; exact bl_aw (Below.refl _ _) _)
  have HCO := Lib.hid (codeOk_later hc HB.out)
  have hs0 : w.heap.size + 1 ≤ W0.heap.size := by rw [← hW0, size_alloc]; exact Nat.le_refl _
  have HS0 := Lib.hid hs0; clear hs0
  have XR := Lib.hid (show W0.heap[w.heap.size]? = some (.cells #[.int .i64 0, .int .i64 0, .string ⟨#[]⟩, .int .i64 0, .bool false, .string ⟨#[]⟩] 32 (0, 0)) by rw [← hW0]; exact heap_alloc_new w _)
  have HW0 := Lib.hid hW0; clear hW0 hc
  go_enter Tryz.func37, Tryz.ntmps37
  go_wp2_with fail
  rw [HW0.out]
  refine (new_any sv len _ HCO.out).mono ?_
  rintro e w1 ⟨rfl, hc1, hb1⟩
  replace XR := Lib.hid (below_heap hb1 (heap_lt XR.out) XR.out)
  have NR := Lib.hid (show w.heap.size ≠ W0.heap.size ∧ w.heap.size ≤ w.heap.size by have := HS0.out; omega)
  have HRB := Lib.hid (show w.heap.size ≤ W0.heap.size by have := HS0.out; omega)
  have HC := Lib.hid hc1; replace HB := Lib.hid (HB.out.trans (hb1.mono HB.out.size)); clear hc1 hb1
  go_wp2_with fail
  refine (anyR_any _ sv len _ HC.out).mono ?_
  rintro e w2 ⟨st, kd, bo, ag, sh, po, rfl, hf, hc1, hk1⟩
  replace XR := Lib.hid ((hk1.block _ (heap_lt XR.out) (NR.out.1)).trans XR.out)
  replace HB := Lib.hid (HB.out.trans ((hk1.below (Nat.le_of_lt HC.out.lt)).mono HRB.out))
  replace HC := Lib.hid (hc1)
  clear hk1 hc1
  have HF := Lib.hid hf; clear hf
  go_upto_region 3 with (fail)
  obtain ⟨w3, hw⟩ : ∃ x, w2.alloc (.cells #[.int .i64 st, .int .i64 kd, .string bo, .int .i64 ag, .bool sh, .string po] 32) = x := ⟨_, rfl⟩
  rw [hw]
  have hb1 : Below w2.heap.size w2 w3 := by rw [← hw]; exact bl_aw (Below.refl _ _) _
  have Xx := Lib.hid (show w3.heap[w2.heap.size]? = some (.cells #[.int .i64 st, .int .i64 kd, .string bo, .int .i64 ag, .bool sh, .string po] 32 (0, 0)) by rw [← hw]; exact heap_alloc_new w2 _)
  have Nx := Lib.hid (show w2.heap.size ≠ W0.heap.size ∧ w.heap.size ≤ w2.heap.size by have := HC.out.lt; have := HB.out.size; omega)
  have Ox := Lib.hid HC.out.lt
  have PRx := Lib.hid (heap_lt XR.out)
  replace XR := Lib.hid (below_heap hb1 (heap_lt XR.out) XR.out)
  replace HB := Lib.hid (HB.out.trans (hb1.mono HB.out.size))
  replace HC := Lib.hid (HC.out.below hb1)
  clear hb1
  clear hw
  have yx0 := box_cell Xx.out (j := 0) rfl; have xx0 := box_frz Xx.out 0
  have yx1 := box_cell Xx.out (j := 1) rfl; have xx1 := box_frz Xx.out 1
  have yx2 := box_cell Xx.out (j := 2) rfl; have xx2 := box_frz Xx.out 2
  have yx3 := box_cell Xx.out (j := 3) rfl; have xx3 := box_frz Xx.out 3
  have yx4 := box_cell Xx.out (j := 4) rfl; have xx4 := box_frz Xx.out 4
  have yx5 := box_cell Xx.out (j := 5) rfl; have xx5 := box_frz Xx.out 5
  have yR0 := box_cell XR.out (j := 0) rfl; have xR0 := box_frz XR.out 0
  have yR1 := box_cell XR.out (j := 1) rfl; have xR1 := box_frz XR.out 1
  have yR2 := box_cell XR.out (j := 2) rfl; have xR2 := box_frz XR.out 2
  have yR3 := box_cell XR.out (j := 3) rfl; have xR3 := box_frz XR.out 3
  have yR4 := box_cell XR.out (j := 4) rfl; have xR4 := box_frz XR.out 4
  have yR5 := box_cell XR.out (j := 5) rfl; have xR5 := box_frz XR.out 5
  have ltx := PRx.out
  go_region_with (first | (go_at_call 95; refine (kind_any _ sv len _ (show Cur _ sv len (World.drew _) from HC.out)).mono ?_; rintro e wK ⟨x, rfl, x0, x1, hcK, hkK⟩; have XRK := (hkK.block _ (heap_lt XR.out) NR.out.1).trans XR.out; have XxK := (hkK.block _ (heap_lt Xx.out) Nx.out.1).trans Xx.out; have zR0 := box_cell XRK (j := 0) rfl; have vR0 := box_frz XRK 0; have zR1 := box_cell XRK (j := 1) rfl; have vR1 := box_frz XRK 1; have zR2 := box_cell XRK (j := 2) rfl; have vR2 := box_frz XRK 2; have zR3 := box_cell XRK (j := 3) rfl; have vR3 := box_frz XRK 3; have zR4 := box_cell XRK (j := 4) rfl; have vR4 := box_frz XRK 4; have zR5 := box_cell XRK (j := 5) rfl; have vR5 := box_frz XRK 5; have zx0 := box_cell XxK (j := 0) rfl; have zx1 := box_cell XxK (j := 1) rfl; have zx2 := box_cell XxK (j := 2) rfl; have zx3 := box_cell XxK (j := 3) rfl; have zx4 := box_cell XxK (j := 4) rfl; have zx5 := box_cell XxK (j := 5) rfl))
  all_goals
    obtain ⟨w9, hw9⟩ : ∃ x, ((((((wK.setCell ⟨w.heap.size, 0, none⟩ (.int .i64 st)).setCell ⟨w.heap.size, 1, none⟩ (.int .i64 kd)).setCell ⟨w.heap.size, 2, none⟩ (.string bo)).setCell ⟨w.heap.size, 3, none⟩ (.int .i64 ag)).setCell ⟨w.heap.size, 4, none⟩ (.bool sh)).setCell ⟨w.heap.size, 5, none⟩ (.string po)) = x := ⟨_, rfl⟩
    rw [hw9]
    have hb9 : w9.heap[w.heap.size]? = some (.cells #[.int .i64 st, .int .i64 kd, .string bo, .int .i64 ag, .bool sh, .string po] 32 (0, 0)) := by rw [← hw9]; exact (box_set (box_set (box_set (box_set (box_set (box_set XRK (.int .i64 st)) (.int .i64 kd)) (.string bo)) (.int .i64 ag)) (.bool sh)) (.string po))
    have hK : Below w.heap.size w w9 := by rw [← hw9]; exact (((((((HB.out.drew.trans ((hkK.below (Nat.le_of_lt HC.out.lt)).mono HRB.out)).setCell (Nat.le_refl _) _).setCell (Nat.le_refl _) _).setCell (Nat.le_refl _) _).setCell (Nat.le_refl _) _).setCell (Nat.le_refl _) _).setCell (Nat.le_refl _) _)
    have r0 := box_cell hb9 (j := 0) rfl
    have r1 := box_cell hb9 (j := 1) rfl
    have r2 := box_cell hb9 (j := 2) rfl
    have r3 := box_cell hb9 (j := 3) rfl
    have r4 := box_cell hb9 (j := 4) rfl
    have r5 := box_cell hb9 (j := 5) rfl
    clear zR0 vR0 zx0 zR1 vR1 zx1 zR2 vR2 zx2 zR3 vR3 zx3 zR4 vR4 zx4 zR5 vR5 zx5
    go_wp2_with fail
    refine bodyPost_ret (v := .tuple #[.agg #[.int .i64 st, .int .i64 kd, .string bo, .int .i64 ag, .bool sh, .string po], .int .i64 x]) (by simp [results, Tryz.results37, go_sem, r0, r1, r2, r3, r4, r5]) rfl ?_
    exact ⟨st, kd, bo, ag, sh, po, x, rfl, HF.out, hK⟩

/-- A drawn body and value. -/
def ChkDrawn (w : World) (e : Ending) (w' : World) : Prop := ∃ s v : ByteArray, e = .returned (.tuple #[.string s, .string v]) ∧ s.size ≤ 6000 ∧ Below w.heap.size w w'
set_option maxRecDepth 100000 in
set_option maxHeartbeats 4000000 in
theorem drawChk_any (sv : Value) (len : Nat) (w : World) (hc : CodeOk w.heap.size w sv len) :
    Calls Tryz.prog 34 #[sv] w (ChkDrawn w) := by
  have HCO := Lib.hid hc; clear hc
  go_enter Tryz.func34, Tryz.ntmps34
  go_wp2_with fail
  refine (new_any sv len _ HCO.out).mono ?_
  rintro e w1 ⟨rfl, hc1, hb1⟩
  have HC1 := Lib.hid hc1; have HB1 := Lib.hid hb1; clear hc1 hb1
  go_wp2_with fail
  refine (page3_any _ sv len _ HC1.out).mono ?_
  rintro e w2 ⟨s, rfl, hs, hc2, hk2⟩
  have HS := Lib.hid (show s.size ≤ 6000 from hs); have HC2 := Lib.hid hc2; have HB2 := Lib.hid (HB1.out.trans (hk2.below (Nat.le_of_lt HC1.out.lt))); clear hs hc2 hk2
  go_wp2_with fail
  refine (below_any _ sv len 4 _ HC2.out).mono ?_
  rintro e w3 ⟨y, rfl, y0, yx, -, hc3, ho3⟩
  have y1 := yx (by omega); have HB3 := Lib.hid (HB2.out.trans (ho3.kept.below (Nat.le_of_lt HC2.out.lt))); clear yx hc3 ho3
  have HD := Lib.hid (fun X => dig_spec s X (by have := HS.out; omega)); have hbd := digN_bd s
  obtain ⟨D, hD⟩ : ∃ D, digN s = D := ⟨_, rfl⟩
  rw [hD] at HD hbd; clear hD
  have hd0 : -9223372036854775808 ≤ D := by omega
  have hd1 : D ≤ 9223372036854775807 := by omega
  rcases (show y = 0 ∨ y = 1 ∨ y = 2 ∨ (y ≠ 0 ∧ y ≠ 1 ∧ y ≠ 2) by omega) with rfl | rfl | rfl | ⟨n0, n1, n2⟩
  · go_wp2_with fail
    go_ret2; exact ⟨s, ⟨#[]⟩, rfl, HS.out, HB3.out⟩
  · skip
    go_wp2_with fail
    refine (HD.out _).mono ?_
    rintro e w4 ⟨rfl, hb4⟩
    have HB4 := Lib.hid (HB3.out.trans (hb4.mono HB3.out.size)); clear hb4
    go_wp2_with fail
    refine (fmt_spec (D + 1) (by omega) (by omega) _).mono ?_
    rintro e w5 ⟨rfl, hb5⟩
    have HB5 := Lib.hid (HB4.out.trans (hb5.mono HB4.out.size)); clear hb5
    go_wp2_with fail
    go_ret2; exact ⟨s, (fmtS (D + 1)), rfl, HS.out, HB5.out⟩
  · skip
    go_wp2_with fail
    refine (HD.out _).mono ?_
    rintro e w4 ⟨rfl, hb4⟩
    have HB4 := Lib.hid (HB3.out.trans (hb4.mono HB3.out.size)); clear hb4
    go_wp2_with fail
    refine (fmt_spec D (by omega) (by omega) _).mono ?_
    rintro e w5 ⟨rfl, hb5⟩
    have HB5 := Lib.hid (HB4.out.trans (hb5.mono HB4.out.size)); clear hb5
    obtain ⟨F, hF⟩ : ∃ F, fmtS D = F := ⟨_, rfl⟩
    have hFz : F.size ≤ 100 := by rw [← hF]; exact fmtSz hd0 hd1
    rw [hF]
    go_wp2_with fail
    go_ret2; exact ⟨s, (⟨#[48]⟩ ++ F), rfl, HS.out, HB5.out⟩
  · have f0 : (y == 0) = false := beq_eq_false_iff_ne.2 n0; have f1 : (y == 1) = false := beq_eq_false_iff_ne.2 n1; have f2 : (y == 2) = false := beq_eq_false_iff_ne.2 n2
    clear n0 n1 n2
    go_wp2_with fail
    refine (HD.out _).mono ?_
    rintro e w4 ⟨rfl, hb4⟩
    have HB4 := Lib.hid (HB3.out.trans (hb4.mono HB3.out.size)); clear hb4
    go_wp2_with fail
    refine (fmt_spec D (by omega) (by omega) _).mono ?_
    rintro e w5 ⟨rfl, hb5⟩
    have HB5 := Lib.hid (HB4.out.trans (hb5.mono HB4.out.size)); clear hb5
    go_wp2_with fail
    go_ret2; exact ⟨s, (fmtS D), rfl, HS.out, HB5.out⟩

end Go.Proofs.YtkjjiinccljhjaaGreatDoor
namespace Go.Proofs.YtkjjiinccljhjaaGreatDoor
open Go.ChangeShapes Go.WideShapes Go.ChangeAt Go.RowKit Go.Joins Go.Deep

theorem fields_at {P : Program} {H : Type} {enc : TypeId × Value → H} {w : World} {base : Nat} {spare : Nat → Bool} {held : Bool} {t : TypeId} {fs : Array Field} {fuel : Nat} {cs : List Value} {x : DataW H × List MemPlace} (hs : P.underlying t = some (.struct fs)) (h : DataW.trod enc P w base spare held fuel t cs = some x) :
    ∃ n, ∀ (i : Nat) (f : Field), fs[i]? = some f → ∃ y, DataW.trod enc P w base spare held n f.type ((cs.drop f.offset).take (P.cellsOf f.type)) = some y := by
  obtain ⟨ys, n, _, _, _, hlen, hat⟩ := DataW.trod_struct hs h
  refine ⟨n, fun i f hi => ?_⟩
  have hil : i < fs.size := (Array.getElem?_eq_some_iff.1 hi).1
  obtain ⟨y, hy⟩ : ∃ y, ys[i]? = some y := ⟨_, List.getElem?_eq_getElem (by omega)⟩
  exact ⟨y, (hat i f hi).trans hy⟩
theorem array5 {α : Type} {a : Array α} (h : a.size = 5) : ∃ x0 x1 x2 x3 x4, a = #[x0, x1, x2, x3, x4] := by
  obtain ⟨l⟩ := a
  match l, h with
  | [x0, x1, x2, x3, x4], _ => exact ⟨x0, x1, x2, x3, x4, rfl⟩
def RqOk (h p f g : ByteArray) : Prop := h.size ≤ 9223372036854775807 ∧ p.size ≤ 9223372036854775807 ∧ f.size ≤ 9223372036854775807 ∧ g.size ≤ 9223372036854775807

set_option maxRecDepth 100000 in
theorem request_of {H : Type} {enc : TypeId × Value → H} {W : World} {base : Nat} {v : Value} {d : DataW H} {p : List MemPlace} (hv : Value.okWide Tryz.prog W .any base 51 v) (h : DataW.Trod enc Tryz.prog W 0 (fun _ => true) true 51 v d p) :
    ∃ (kd : Int) (h p f g : ByteArray), v = .agg #[.int .i64 kd, .string h, .string p, .string f, .string g] ∧ RqOk h p f g := by
  have ei : Tryz.prog.cellsOf 3 = 1 := by kernel_rfl
  have es : Tryz.prog.cellsOf 9 = 1 := by kernel_rfl
  have ea : Tryz.prog.cellsOf 49 = 2 := by kernel_rfl
  have eq : Tryz.prog.cellsOf 51 = 5 := by kernel_rfl
  obtain ⟨cs, rfl, hsz⟩ := okWide_struct Tryz.underlying51 hv
  rw [eq] at hsz
  obtain ⟨c0, c1, c2, c3, c4, rfl⟩ := array5 hsz
  obtain ⟨fuel, hf⟩ := h
  obtain ⟨n, hat⟩ := fields_at Tryz.underlying51 hf
  obtain ⟨y0, t0⟩ := hat 0 _ rfl
  obtain ⟨y1, t1⟩ := hat 1 _ rfl
  obtain ⟨y2, t2⟩ := hat 2 _ rfl
  obtain ⟨y3, t3⟩ := hat 3 _ rfl
  replace t0 : DataW.trod enc Tryz.prog W 0 (fun _ => true) true n 3 [c0] = some y0 := by
    have h := t0; change DataW.trod _ _ _ _ _ _ _ 3 (List.take (Tryz.prog.cellsOf 3) _) = _ at h; rw [ei] at h; exact h
  replace t1 : DataW.trod enc Tryz.prog W 0 (fun _ => true) true n 49 [c1, c2] = some y1 := by
    have h := t1; change DataW.trod _ _ _ _ _ _ _ 49 (List.take (Tryz.prog.cellsOf 49) _) = _ at h; rw [ea] at h; exact h
  replace t2 : DataW.trod enc Tryz.prog W 0 (fun _ => true) true n 9 [c3] = some y2 := by
    have h := t2; change DataW.trod _ _ _ _ _ _ _ 9 (List.take (Tryz.prog.cellsOf 9) _) = _ at h; rw [es] at h; exact h
  replace t3 : DataW.trod enc Tryz.prog W 0 (fun _ => true) true n 9 [c4] = some y3 := by
    have h := t3; change DataW.trod _ _ _ _ _ _ _ 9 (List.take (Tryz.prog.cellsOf 9) _) = _ at h; rw [es] at h; exact h
  obtain ⟨m, hau⟩ := fields_at Tryz.underlying49 t1
  obtain ⟨y4, t4⟩ := hau 0 _ rfl
  obtain ⟨y5, t5⟩ := hau 1 _ rfl
  replace t4 : DataW.trod enc Tryz.prog W 0 (fun _ => true) true m 9 [c1] = some y4 := by
    have h := t4; change DataW.trod _ _ _ _ _ _ _ 9 (List.take (Tryz.prog.cellsOf 9) _) = _ at h; rw [es] at h; exact h
  replace t5 : DataW.trod enc Tryz.prog W 0 (fun _ => true) true m 9 [c2] = some y5 := by
    have h := t5; change DataW.trod _ _ _ _ _ _ _ 9 (List.take (Tryz.prog.cellsOf 9) _) = _ at h; rw [es] at h; exact h
  obtain ⟨kd, k0, _, w0⟩ := DataW.trod_int Tryz.underlying3 t0
  obtain ⟨h, k1, _, w1⟩ := DataW.trod_string Tryz.underlying9 t4
  obtain ⟨p, k2, _, w2⟩ := DataW.trod_string Tryz.underlying9 t5
  obtain ⟨f, k3, _, w3⟩ := DataW.trod_string Tryz.underlying9 t2
  obtain ⟨g, k4, _, w4⟩ := DataW.trod_string Tryz.underlying9 t3
  cases k0; cases k1; cases k2; cases k3; cases k4
  exact ⟨kd, h, p, f, g, rfl, w1, w2, w3, w4⟩

end Go.Proofs.YtkjjiinccljhjaaGreatDoor

/- The draws of chapter 11's laws: requests. Whatever the bytes: their strings are short, and of what lay in memory only the reader's block is written. -/
import Derived.Test.YtkjjiinccljhjaaGreatDoorMe12
namespace Go.Proofs.YtkjjiinccljhjaaGreatDoor

open Go.ChangeShapes Go.WideShapes Go.ChangeAt Go.RowKit

theorem box2_0 (w : World) (o1 o2 : Obj) : ((w.alloc o1).alloc o2).heap[w.heap.size]? = some o1 := box_ca (heap_alloc_new _ _)
theorem box2_1 (w : World) (o1 o2 : Obj) : ((w.alloc o1).alloc o2).heap[w.heap.size + 1]? = some o2 := by rw [← World.size_alloc]; exact heap_alloc_new _ _
theorem only_setN {bs : List Nat} {w w' : World} {b o : Nat} {u : Value} (h : OnlyB bs w w') (hb : w.heap.size ≤ b) : OnlyB bs w (w'.setCell ⟨b, o, none⟩ u) :=
  ⟨h.os, h.tape, h.output, by have := h.size; simp [World.setCell]; omega, fun i hi hn => (Below.heap_setCell _ _ _ _ (show i ≠ b by omega)).trans (h.block i hi hn)⟩
def RqFew (h p f g : ByteArray) : Prop := h.size ≤ 100 ∧ p.size ≤ 100 ∧ f.size ≤ 100 ∧ g.size ≤ 100
theorem RqFew.ok {h p f g : ByteArray} (x : RqFew h p f g) : RqOk h p f g := by obtain ⟨a, b, c, d⟩ := x; exact ⟨by omega, by omega, by omega, by omega⟩
def RqGot (b : Nat) (sv : Value) (len : Nat) (w : World) (e : Ending) (w' : World) : Prop :=
  ∃ (kd : Int) (h p f g : ByteArray), e = .returned (.agg #[.int .i64 kd, .string h, .string p, .string f, .string g]) ∧ RqFew h p f g ∧ Cur b sv len w' ∧ Kept b w w'
def RqDrawn (w : World) (e : Ending) (w' : World) : Prop :=
  ∃ (kd : Int) (h p f g : ByteArray), e = .returned (.agg #[.int .i64 kd, .string h, .string p, .string f, .string g]) ∧ RqFew h p f g ∧ Below w.heap.size w w'

set_option maxRecDepth 100000 in
set_option maxHeartbeats 4000000 in
theorem request_any (b : Nat) (sv : Value) (len : Nat) (w : World) (hc : Cur b sv len w) :
    Calls Tryz.prog 132 #[.pointer (some ⟨b, 0, none⟩)] w (RqGot b sv len w) := by
  have HLB := Lib.hid hc.lt
  obtain ⟨W0, hW0⟩ : ∃ x, w.alloc (.cells #[.int .i64 0, .string ⟨#[]⟩, .string ⟨#[]⟩, .string ⟨#[]⟩, .string ⟨#[]⟩] 30) = x := ⟨_, rfl⟩
  have HK := Lib.hid (show Kept b w W0 by rw [← hW0]; exact Kept.alloc b w _)
  have HC := Lib.hid (show Cur b sv len W0 by rw [← hW0]; exact hc.alloc _)
  have XR := Lib.hid (show W0.heap[w.heap.size]? = some (.cells #[.int .i64 0, .string ⟨#[]⟩, .string ⟨#[]⟩, .string ⟨#[]⟩, .string ⟨#[]⟩] 30 (0, 0)) by rw [← hW0]; exact heap_alloc_new w _)
  have NR := Lib.hid (show w.heap.size ≠ b ∧ w.heap.size ≤ w.heap.size by have := HLB.out; omega); have OR := Lib.hid HLB.out
  have HW0 := Lib.hid hW0; clear hW0 hc
  go_enter Tryz.func132, Tryz.ntmps132
  go_wp2_with fail
  rw [HW0.out]
  refine (below_any b sv len 5 _ HC.out).mono ?_
  rintro e w1 ⟨q, rfl, q0, qx, -, hc1, ho1⟩
  have q1 := qx (by omega); have hk1 := ho1.kept; clear qx ho1
  replace XR := Lib.hid ((hk1.block _ (heap_lt XR.out) (NR.out.1)).trans XR.out)
  replace HK := Lib.hid (HK.out.trans hk1)
  replace HC := Lib.hid (hc1)
  clear hk1 hc1
  go_wp2_with fail
  refine (addr_any b sv len _ HC.out).mono ?_
  rintro e w2 ⟨h, p, rfl, z1, z2, hc1, hk1⟩
  replace XR := Lib.hid ((hk1.block _ (heap_lt XR.out) (NR.out.1)).trans XR.out)
  replace HK := Lib.hid (HK.out.trans hk1)
  replace HC := Lib.hid (hc1)
  clear hk1 hc1
  go_wp2_with fail
  refine (host_any b sv len _ HC.out).mono ?_
  rintro e w3 ⟨f, rfl, z3, hc1, hk1⟩
  replace XR := Lib.hid ((hk1.block _ (heap_lt XR.out) (NR.out.1)).trans XR.out)
  replace HK := Lib.hid (HK.out.trans hk1)
  replace HC := Lib.hid (hc1)
  clear hk1 hc1
  have yR0 := box_cell XR.out (j := 0) rfl; have xR0 := box_frz XR.out 0
  have yR1 := box_cell XR.out (j := 1) rfl; have xR1 := box_frz XR.out 1
  have yR2 := box_cell XR.out (j := 2) rfl; have xR2 := box_frz XR.out 2
  have yR3 := box_cell XR.out (j := 3) rfl; have xR3 := box_frz XR.out 3
  have yR4 := box_cell XR.out (j := 4) rfl; have xR4 := box_frz XR.out 4
  go_wp2_with fail
  clear yR0 xR0 yR1 xR1 yR2 xR2 yR3 xR3 yR4 xR4
  obtain ⟨w9, hw9⟩ : ∃ x, (((((w3.setCell ⟨w.heap.size, 0, none⟩ (.int .i64 (1 + q))).setCell ⟨w.heap.size, 1, none⟩ (.string h)).setCell ⟨w.heap.size, 2, none⟩ (.string p)).setCell ⟨w.heap.size, 3, none⟩ (.string f)).setCell ⟨w.heap.size, 4, none⟩ (.string ⟨#[]⟩)) = x := ⟨_, rfl⟩
  rw [hw9]
  have hb9 : w9.heap[w.heap.size]? = some (.cells #[.int .i64 (1 + q), .string h, .string p, .string f, .string ⟨#[]⟩] 30 (0, 0)) := by rw [← hw9]; exact (box_set (box_set (box_set (box_set (box_set XR.out (.int .i64 (1 + q))) (.string h)) (.string p)) (.string f)) (.string ⟨#[]⟩))
  have hK : Kept b w w9 := by rw [← hw9]; exact (((((HK.out.set (Nat.le_refl _) _ _).set (Nat.le_refl _) _ _).set (Nat.le_refl _) _ _).set (Nat.le_refl _) _ _).set (Nat.le_refl _) _ _)
  have hC : Cur b sv len w9 := by rw [← hw9]; exact (((((HC.out.set OR.out _ _).set OR.out _ _).set OR.out _ _).set OR.out _ _).set OR.out _ _)
  have r0 := box_cell hb9 (j := 0) rfl
  have r1 := box_cell hb9 (j := 1) rfl
  have r2 := box_cell hb9 (j := 2) rfl
  have r3 := box_cell hb9 (j := 3) rfl
  have r4 := box_cell hb9 (j := 4) rfl
  refine bodyPost_ret (v := .agg #[.int .i64 (1 + q), .string h, .string p, .string f, .string ⟨#[]⟩]) (by simp [results, Tryz.results132, go_sem, r0, r1, r2, r3, r4]) rfl ?_
  exact ⟨1 + q, h, p, f, ⟨#[]⟩, rfl, ⟨z1, z2, z3, by show (0 : Nat) ≤ 100; omega⟩, hC, hK⟩

set_option maxRecDepth 100000 in
set_option maxHeartbeats 4000000 in
theorem anyQ_any (b : Nat) (sv : Value) (len : Nat) (w : World) (hc : Cur b sv len w) :
    Calls Tryz.prog 73 #[.pointer (some ⟨b, 0, none⟩)] w (RqGot b sv len w) := by
  have HLB := Lib.hid hc.lt
  obtain ⟨W0, hW0⟩ : ∃ x, w.alloc (.cells #[.int .i64 0, .string ⟨#[]⟩, .string ⟨#[]⟩, .string ⟨#[]⟩, .string ⟨#[]⟩] 30) = x := ⟨_, rfl⟩
  have HK := Lib.hid (show Kept b w W0 by rw [← hW0]; exact Kept.alloc b w _)
  have HC := Lib.hid (show Cur b sv len W0 by rw [← hW0]; exact hc.alloc _)
  have XR := Lib.hid (show W0.heap[w.heap.size]? = some (.cells #[.int .i64 0, .string ⟨#[]⟩, .string ⟨#[]⟩, .string ⟨#[]⟩, .string ⟨#[]⟩] 30 (0, 0)) by rw [← hW0]; exact heap_alloc_new w _)
  have NR := Lib.hid (show w.heap.size ≠ b ∧ w.heap.size ≤ w.heap.size by have := HLB.out; omega); have OR := Lib.hid HLB.out
  have HW0 := Lib.hid hW0; clear hW0 hc
  go_enter Tryz.func73, Tryz.ntmps73
  go_wp2_with fail
  rw [HW0.out]
  refine (request_any b sv len _ HC.out).mono ?_
  rintro e w1 ⟨kd, h, p, f, g, rfl, hf, hc1, hk1⟩
  replace XR := Lib.hid ((hk1.block _ (heap_lt XR.out) (NR.out.1)).trans XR.out)
  replace HK := Lib.hid (HK.out.trans hk1)
  replace HC := Lib.hid (hc1)
  clear hk1 hc1
  have HF := Lib.hid hf; clear hf
  go_upto_region 2 with (fail)
  obtain ⟨w2, hw⟩ : ∃ x, w1.alloc (.cells #[.int .i64 kd, .string h, .string p, .string f, .string g] 30) = x := ⟨_, rfl⟩
  rw [hw]
  have hb1 : Below w1.heap.size w1 w2 := by rw [← hw]; exact bl_aw (Below.refl _ _) _
  have Xx := Lib.hid (show w2.heap[w1.heap.size]? = some (.cells #[.int .i64 kd, .string h, .string p, .string f, .string g] 30 (0, 0)) by rw [← hw]; exact heap_alloc_new w1 _)
  have Nx := Lib.hid (show w1.heap.size ≠ b ∧ w.heap.size ≤ w1.heap.size by have := HC.out.lt; have := HK.out.size; omega)
  have Ox := Lib.hid HC.out.lt
  have PRx := Lib.hid (heap_lt XR.out)
  replace XR := Lib.hid (below_heap hb1 (heap_lt XR.out) XR.out)
  replace HK := Lib.hid (HK.out.trans (Kept.of_below hb1))
  replace HC := Lib.hid (HC.out.below hb1)
  clear hb1
  clear hw
  go_wp2_with fail
  refine (below_any b sv len 12 _ HC.out).mono ?_
  rintro e w3 ⟨y, rfl, y0, yx, -, hc1, ho1⟩
  have y1 := yx (by omega); have hk1 := ho1.kept; clear yx ho1
  replace XR := Lib.hid ((hk1.block _ (heap_lt XR.out) (NR.out.1)).trans XR.out)
  replace Xx := Lib.hid ((hk1.block _ (heap_lt Xx.out) (Nx.out.1)).trans Xx.out)
  replace HK := Lib.hid (HK.out.trans hk1)
  replace HC := Lib.hid (hc1)
  clear hk1 hc1
  rcases (show y = 0 ∨ y = 1 ∨ y = 2 ∨ y = 3 ∨ (y ≠ 0 ∧ y ≠ 1 ∧ y ≠ 2 ∧ y ≠ 3) by omega) with rfl | rfl | rfl | rfl | ⟨n0, n1, n2, n3⟩
  · skip
    go_wp2_with fail
    refine (int_any b sv len _ 2 2 _ (HC.out.alloc _) (by have := HC.out.lt; omega) (by omega) (by omega) ?_).mono ?_
    · exact cells_int _ _ _ _ (by rfl) (by kernel_rfl)
    rintro e w4 ⟨z, rfl, g0, g1, hc1, hk0⟩
    have hk1 := (Kept.alloc b w3 _).trans hk0; clear hk0
    replace XR := Lib.hid ((hk1.block _ (heap_lt XR.out) (NR.out.1)).trans XR.out)
    replace Xx := Lib.hid ((hk1.block _ (heap_lt Xx.out) (Nx.out.1)).trans Xx.out)
    replace HK := Lib.hid (HK.out.trans hk1)
    replace HC := Lib.hid (hc1)
    clear hk1 hc1
    have yx0 := box_cell Xx.out (j := 0) rfl; have xx0 := box_frz Xx.out 0
    have yx1 := box_cell Xx.out (j := 1) rfl; have xx1 := box_frz Xx.out 1
    have yx2 := box_cell Xx.out (j := 2) rfl; have xx2 := box_frz Xx.out 2
    have yx3 := box_cell Xx.out (j := 3) rfl; have xx3 := box_frz Xx.out 3
    have yx4 := box_cell Xx.out (j := 4) rfl; have xx4 := box_frz Xx.out 4
    have yR0 := box_cell XR.out (j := 0) rfl; have xR0 := box_frz XR.out 0
    have yR1 := box_cell XR.out (j := 1) rfl; have xR1 := box_frz XR.out 1
    have yR2 := box_cell XR.out (j := 2) rfl; have xR2 := box_frz XR.out 2
    have yR3 := box_cell XR.out (j := 3) rfl; have xR3 := box_frz XR.out 3
    have yR4 := box_cell XR.out (j := 4) rfl; have xR4 := box_frz XR.out 4
    have ltx := PRx.out
    go_wp2_with fail
    clear ltx
    clear yR0 xR0 yR1 xR1 yR2 xR2 yR3 xR3 yR4 xR4
    clear yx0 xx0 yx1 xx1 yx2 xx2 yx3 xx3 yx4 xx4
    obtain ⟨w9, hw9⟩ : ∃ x, ((((((w4.setCell ⟨w1.heap.size, 0, none⟩ (.int .i64 z)).setCell ⟨w.heap.size, 0, none⟩ (.int .i64 z)).setCell ⟨w.heap.size, 1, none⟩ (.string h)).setCell ⟨w.heap.size, 2, none⟩ (.string p)).setCell ⟨w.heap.size, 3, none⟩ (.string f)).setCell ⟨w.heap.size, 4, none⟩ (.string g)) = x := ⟨_, rfl⟩
    rw [hw9]
    have hb9 : w9.heap[w.heap.size]? = some (.cells #[.int .i64 z, .string h, .string p, .string f, .string g] 30 (0, 0)) := by rw [← hw9]; exact (box_set (box_set (box_set (box_set (box_set (box_off XR.out (by have h1 := PRx.out; omega) (.int .i64 z)) (.int .i64 z)) (.string h)) (.string p)) (.string f)) (.string g))
    have hK : Kept b w w9 := by rw [← hw9]; exact ((((((HK.out.set Nx.out.2 _ _).set (Nat.le_refl _) _ _).set (Nat.le_refl _) _ _).set (Nat.le_refl _) _ _).set (Nat.le_refl _) _ _).set (Nat.le_refl _) _ _)
    have hC : Cur b sv len w9 := by rw [← hw9]; exact ((((((HC.out.set Ox.out _ _).set OR.out _ _).set OR.out _ _).set OR.out _ _).set OR.out _ _).set OR.out _ _)
    have r0 := box_cell hb9 (j := 0) rfl
    have r1 := box_cell hb9 (j := 1) rfl
    have r2 := box_cell hb9 (j := 2) rfl
    have r3 := box_cell hb9 (j := 3) rfl
    have r4 := box_cell hb9 (j := 4) rfl
    refine bodyPost_ret (v := .agg #[.int .i64 z, .string h, .string p, .string f, .string g]) (by simp [results, Tryz.results73, go_sem, r0, r1, r2, r3, r4]) rfl ?_
    exact ⟨z, h, p, f, g, rfl, HF.out, hC, hK⟩
  · skip
    go_wp2_with fail
    refine (any_any b sv len _ HC.out).mono ?_
    rintro e w4 ⟨h2, p2, rfl, z1, z2, hc1, hk1⟩
    replace XR := Lib.hid ((hk1.block _ (heap_lt XR.out) (NR.out.1)).trans XR.out)
    replace Xx := Lib.hid ((hk1.block _ (heap_lt Xx.out) (Nx.out.1)).trans Xx.out)
    replace HK := Lib.hid (HK.out.trans hk1)
    replace HC := Lib.hid (hc1)
    clear hk1 hc1
    have yx0 := box_cell Xx.out (j := 0) rfl; have xx0 := box_frz Xx.out 0
    have yx1 := box_cell Xx.out (j := 1) rfl; have xx1 := box_frz Xx.out 1
    have yx2 := box_cell Xx.out (j := 2) rfl; have xx2 := box_frz Xx.out 2
    have yx3 := box_cell Xx.out (j := 3) rfl; have xx3 := box_frz Xx.out 3
    have yx4 := box_cell Xx.out (j := 4) rfl; have xx4 := box_frz Xx.out 4
    have yR0 := box_cell XR.out (j := 0) rfl; have xR0 := box_frz XR.out 0
    have yR1 := box_cell XR.out (j := 1) rfl; have xR1 := box_frz XR.out 1
    have yR2 := box_cell XR.out (j := 2) rfl; have xR2 := box_frz XR.out 2
    have yR3 := box_cell XR.out (j := 3) rfl; have xR3 := box_frz XR.out 3
    have yR4 := box_cell XR.out (j := 4) rfl; have xR4 := box_frz XR.out 4
    have ltx := PRx.out
    go_wp2_with fail
    clear ltx
    clear yR0 xR0 yR1 xR1 yR2 xR2 yR3 xR3 yR4 xR4
    clear yx0 xx0 yx1 xx1 yx2 xx2 yx3 xx3 yx4 xx4
    obtain ⟨w9, hw9⟩ : ∃ x, (((((((w4.setCell ⟨w1.heap.size, 1, none⟩ (.string h2)).setCell ⟨w1.heap.size, 2, none⟩ (.string p2)).setCell ⟨w.heap.size, 0, none⟩ (.int .i64 kd)).setCell ⟨w.heap.size, 1, none⟩ (.string h2)).setCell ⟨w.heap.size, 2, none⟩ (.string p2)).setCell ⟨w.heap.size, 3, none⟩ (.string f)).setCell ⟨w.heap.size, 4, none⟩ (.string g)) = x := ⟨_, rfl⟩
    rw [hw9]
    have hb9 : w9.heap[w.heap.size]? = some (.cells #[.int .i64 kd, .string h2, .string p2, .string f, .string g] 30 (0, 0)) := by rw [← hw9]; exact (box_set (box_set (box_set (box_set (box_set (box_off (box_off XR.out (by have h1 := PRx.out; omega) (.string h2)) (by have h1 := PRx.out; omega) (.string p2)) (.int .i64 kd)) (.string h2)) (.string p2)) (.string f)) (.string g))
    have hK : Kept b w w9 := by rw [← hw9]; exact (((((((HK.out.set Nx.out.2 _ _).set Nx.out.2 _ _).set (Nat.le_refl _) _ _).set (Nat.le_refl _) _ _).set (Nat.le_refl _) _ _).set (Nat.le_refl _) _ _).set (Nat.le_refl _) _ _)
    have hC : Cur b sv len w9 := by rw [← hw9]; exact (((((((HC.out.set Ox.out _ _).set Ox.out _ _).set OR.out _ _).set OR.out _ _).set OR.out _ _).set OR.out _ _).set OR.out _ _)
    have r0 := box_cell hb9 (j := 0) rfl
    have r1 := box_cell hb9 (j := 1) rfl
    have r2 := box_cell hb9 (j := 2) rfl
    have r3 := box_cell hb9 (j := 3) rfl
    have r4 := box_cell hb9 (j := 4) rfl
    refine bodyPost_ret (v := .agg #[.int .i64 kd, .string h2, .string p2, .string f, .string g]) (by simp [results, Tryz.results73, go_sem, r0, r1, r2, r3, r4]) rfl ?_
    exact ⟨kd, h2, p2, f, g, rfl, ⟨z1, z2, HF.out.2.2⟩, hC, hK⟩
  · skip
    have yx0 := box_cell Xx.out (j := 0) rfl; have xx0 := box_frz Xx.out 0
    have yx1 := box_cell Xx.out (j := 1) rfl; have xx1 := box_frz Xx.out 1
    have yx2 := box_cell Xx.out (j := 2) rfl; have xx2 := box_frz Xx.out 2
    have yx3 := box_cell Xx.out (j := 3) rfl; have xx3 := box_frz Xx.out 3
    have yx4 := box_cell Xx.out (j := 4) rfl; have xx4 := box_frz Xx.out 4
    have yR0 := box_cell XR.out (j := 0) rfl; have xR0 := box_frz XR.out 0
    have yR1 := box_cell XR.out (j := 1) rfl; have xR1 := box_frz XR.out 1
    have yR2 := box_cell XR.out (j := 2) rfl; have xR2 := box_frz XR.out 2
    have yR3 := box_cell XR.out (j := 3) rfl; have xR3 := box_frz XR.out 3
    have yR4 := box_cell XR.out (j := 4) rfl; have xR4 := box_frz XR.out 4
    have ltx := PRx.out
    go_wp2_with fail
    clear ltx
    clear yR0 xR0 yR1 xR1 yR2 xR2 yR3 xR3 yR4 xR4
    clear yx0 xx0 yx1 xx1 yx2 xx2 yx3 xx3 yx4 xx4
    obtain ⟨w9, hw9⟩ : ∃ x, ((((((w3.setCell ⟨w1.heap.size, 3, none⟩ (.string ⟨#[]⟩)).setCell ⟨w.heap.size, 0, none⟩ (.int .i64 kd)).setCell ⟨w.heap.size, 1, none⟩ (.string h)).setCell ⟨w.heap.size, 2, none⟩ (.string p)).setCell ⟨w.heap.size, 3, none⟩ (.string ⟨#[]⟩)).setCell ⟨w.heap.size, 4, none⟩ (.string g)) = x := ⟨_, rfl⟩
    rw [hw9]
    have hb9 : w9.heap[w.heap.size]? = some (.cells #[.int .i64 kd, .string h, .string p, .string ⟨#[]⟩, .string g] 30 (0, 0)) := by rw [← hw9]; exact (box_set (box_set (box_set (box_set (box_set (box_off XR.out (by have h1 := PRx.out; omega) (.string ⟨#[]⟩)) (.int .i64 kd)) (.string h)) (.string p)) (.string ⟨#[]⟩)) (.string g))
    have hK : Kept b w w9 := by rw [← hw9]; exact ((((((HK.out.set Nx.out.2 _ _).set (Nat.le_refl _) _ _).set (Nat.le_refl _) _ _).set (Nat.le_refl _) _ _).set (Nat.le_refl _) _ _).set (Nat.le_refl _) _ _)
    have hC : Cur b sv len w9 := by rw [← hw9]; exact ((((((HC.out.set Ox.out _ _).set OR.out _ _).set OR.out _ _).set OR.out _ _).set OR.out _ _).set OR.out _ _)
    have r0 := box_cell hb9 (j := 0) rfl
    have r1 := box_cell hb9 (j := 1) rfl
    have r2 := box_cell hb9 (j := 2) rfl
    have r3 := box_cell hb9 (j := 3) rfl
    have r4 := box_cell hb9 (j := 4) rfl
    refine bodyPost_ret (v := .agg #[.int .i64 kd, .string h, .string p, .string ⟨#[]⟩, .string g]) (by simp [results, Tryz.results73, go_sem, r0, r1, r2, r3, r4]) rfl ?_
    exact ⟨kd, h, p, ⟨#[]⟩, g, rfl, ⟨HF.out.1, HF.out.2.1, by show (0 : Nat) ≤ 100; omega, HF.out.2.2.2⟩, hC, hK⟩
  · skip
    go_wp2_with fail
    refine (str_any b sv len _ 2 2 _ (HC.out.alloc _) (by have := HC.out.lt; omega) (by omega) (by omega) ?_).mono ?_
    · exact cells_str _ _ _ _ (by rfl) (by kernel_rfl)
    rintro e w4 ⟨z, rfl, hz, hc1, hk0⟩
    have hk1 := (Kept.alloc b w3 _).trans hk0; clear hk0
    replace XR := Lib.hid ((hk1.block _ (heap_lt XR.out) (NR.out.1)).trans XR.out)
    replace Xx := Lib.hid ((hk1.block _ (heap_lt Xx.out) (Nx.out.1)).trans Xx.out)
    replace HK := Lib.hid (HK.out.trans hk1)
    replace HC := Lib.hid (hc1)
    clear hk1 hc1
    have yx0 := box_cell Xx.out (j := 0) rfl; have xx0 := box_frz Xx.out 0
    have yx1 := box_cell Xx.out (j := 1) rfl; have xx1 := box_frz Xx.out 1
    have yx2 := box_cell Xx.out (j := 2) rfl; have xx2 := box_frz Xx.out 2
    have yx3 := box_cell Xx.out (j := 3) rfl; have xx3 := box_frz Xx.out 3
    have yx4 := box_cell Xx.out (j := 4) rfl; have xx4 := box_frz Xx.out 4
    have yR0 := box_cell XR.out (j := 0) rfl; have xR0 := box_frz XR.out 0
    have yR1 := box_cell XR.out (j := 1) rfl; have xR1 := box_frz XR.out 1
    have yR2 := box_cell XR.out (j := 2) rfl; have xR2 := box_frz XR.out 2
    have yR3 := box_cell XR.out (j := 3) rfl; have xR3 := box_frz XR.out 3
    have yR4 := box_cell XR.out (j := 4) rfl; have xR4 := box_frz XR.out 4
    have ltx := PRx.out
    go_wp2_with fail
    clear ltx
    clear yR0 xR0 yR1 xR1 yR2 xR2 yR3 xR3 yR4 xR4
    clear yx0 xx0 yx1 xx1 yx2 xx2 yx3 xx3 yx4 xx4
    obtain ⟨w9, hw9⟩ : ∃ x, ((((((w4.setCell ⟨w1.heap.size, 4, none⟩ (.string z)).setCell ⟨w.heap.size, 0, none⟩ (.int .i64 kd)).setCell ⟨w.heap.size, 1, none⟩ (.string h)).setCell ⟨w.heap.size, 2, none⟩ (.string p)).setCell ⟨w.heap.size, 3, none⟩ (.string f)).setCell ⟨w.heap.size, 4, none⟩ (.string z)) = x := ⟨_, rfl⟩
    rw [hw9]
    have hb9 : w9.heap[w.heap.size]? = some (.cells #[.int .i64 kd, .string h, .string p, .string f, .string z] 30 (0, 0)) := by rw [← hw9]; exact (box_set (box_set (box_set (box_set (box_set (box_off XR.out (by have h1 := PRx.out; omega) (.string z)) (.int .i64 kd)) (.string h)) (.string p)) (.string f)) (.string z))
    have hK : Kept b w w9 := by rw [← hw9]; exact ((((((HK.out.set Nx.out.2 _ _).set (Nat.le_refl _) _ _).set (Nat.le_refl _) _ _).set (Nat.le_refl _) _ _).set (Nat.le_refl _) _ _).set (Nat.le_refl _) _ _)
    have hC : Cur b sv len w9 := by rw [← hw9]; exact ((((((HC.out.set Ox.out _ _).set OR.out _ _).set OR.out _ _).set OR.out _ _).set OR.out _ _).set OR.out _ _)
    have r0 := box_cell hb9 (j := 0) rfl
    have r1 := box_cell hb9 (j := 1) rfl
    have r2 := box_cell hb9 (j := 2) rfl
    have r3 := box_cell hb9 (j := 3) rfl
    have r4 := box_cell hb9 (j := 4) rfl
    refine bodyPost_ret (v := .agg #[.int .i64 kd, .string h, .string p, .string f, .string z]) (by simp [results, Tryz.results73, go_sem, r0, r1, r2, r3, r4]) rfl ?_
    exact ⟨kd, h, p, f, z, rfl, ⟨HF.out.1, HF.out.2.1, HF.out.2.2.1, hz⟩, hC, hK⟩
  · have e0 : (y == 0) = false := beq_eq_false_iff_ne.2 n0; have e1 : (y == 1) = false := beq_eq_false_iff_ne.2 n1; have e2 : (y == 2) = false := beq_eq_false_iff_ne.2 n2; have e3 : (y == 3) = false := beq_eq_false_iff_ne.2 n3
    clear n0 n1 n2 n3
    have yx0 := box_cell Xx.out (j := 0) rfl; have xx0 := box_frz Xx.out 0
    have yx1 := box_cell Xx.out (j := 1) rfl; have xx1 := box_frz Xx.out 1
    have yx2 := box_cell Xx.out (j := 2) rfl; have xx2 := box_frz Xx.out 2
    have yx3 := box_cell Xx.out (j := 3) rfl; have xx3 := box_frz Xx.out 3
    have yx4 := box_cell Xx.out (j := 4) rfl; have xx4 := box_frz Xx.out 4
    have yR0 := box_cell XR.out (j := 0) rfl; have xR0 := box_frz XR.out 0
    have yR1 := box_cell XR.out (j := 1) rfl; have xR1 := box_frz XR.out 1
    have yR2 := box_cell XR.out (j := 2) rfl; have xR2 := box_frz XR.out 2
    have yR3 := box_cell XR.out (j := 3) rfl; have xR3 := box_frz XR.out 3
    have yR4 := box_cell XR.out (j := 4) rfl; have xR4 := box_frz XR.out 4
    go_wp2_with fail
    clear yR0 xR0 yR1 xR1 yR2 xR2 yR3 xR3 yR4 xR4
    clear yx0 xx0 yx1 xx1 yx2 xx2 yx3 xx3 yx4 xx4
    obtain ⟨w9, hw9⟩ : ∃ x, (((((w3.setCell ⟨w.heap.size, 0, none⟩ (.int .i64 kd)).setCell ⟨w.heap.size, 1, none⟩ (.string h)).setCell ⟨w.heap.size, 2, none⟩ (.string p)).setCell ⟨w.heap.size, 3, none⟩ (.string f)).setCell ⟨w.heap.size, 4, none⟩ (.string g)) = x := ⟨_, rfl⟩
    rw [hw9]
    have hb9 : w9.heap[w.heap.size]? = some (.cells #[.int .i64 kd, .string h, .string p, .string f, .string g] 30 (0, 0)) := by rw [← hw9]; exact (box_set (box_set (box_set (box_set (box_set XR.out (.int .i64 kd)) (.string h)) (.string p)) (.string f)) (.string g))
    have hK : Kept b w w9 := by rw [← hw9]; exact (((((HK.out.set (Nat.le_refl _) _ _).set (Nat.le_refl _) _ _).set (Nat.le_refl _) _ _).set (Nat.le_refl _) _ _).set (Nat.le_refl _) _ _)
    have hC : Cur b sv len w9 := by rw [← hw9]; exact (((((HC.out.set OR.out _ _).set OR.out _ _).set OR.out _ _).set OR.out _ _).set OR.out _ _)
    have r0 := box_cell hb9 (j := 0) rfl
    have r1 := box_cell hb9 (j := 1) rfl
    have r2 := box_cell hb9 (j := 2) rfl
    have r3 := box_cell hb9 (j := 3) rfl
    have r4 := box_cell hb9 (j := 4) rfl
    refine bodyPost_ret (v := .agg #[.int .i64 kd, .string h, .string p, .string f, .string g]) (by simp [results, Tryz.results73, go_sem, r0, r1, r2, r3, r4]) rfl ?_
    exact ⟨kd, h, p, f, g, rfl, HF.out, hC, hK⟩

set_option maxRecDepth 100000 in
set_option maxHeartbeats 4000000 in
theorem drawIsRq_any (sv : Value) (len : Nat) (w : World) (hc : CodeOk w.heap.size w sv len) :
    Calls Tryz.prog 86 #[sv] w (RqDrawn w) := by
  obtain ⟨W0, hW0⟩ : ∃ x, w.alloc (.cells #[.int .i64 0, .string ⟨#[]⟩, .string ⟨#[]⟩, .string ⟨#[]⟩, .string ⟨#[]⟩] 30) = x := ⟨_, rfl⟩
  have HB := Lib.hid (show Below w.heap.size w W0 by rw [← hW0]; exact bl_aw (Below.refl _ _) _)
  have HCO := Lib.hid (codeOk_later hc HB.out)
  have hs0 : w.heap.size + 1 ≤ W0.heap.size := by rw [← hW0, size_alloc]; exact Nat.le_refl _
  have HS0 := Lib.hid hs0; clear hs0
  have XR := Lib.hid (show W0.heap[w.heap.size]? = some (.cells #[.int .i64 0, .string ⟨#[]⟩, .string ⟨#[]⟩, .string ⟨#[]⟩, .string ⟨#[]⟩] 30 (0, 0)) by rw [← hW0]; exact heap_alloc_new w _)
  have HW0 := Lib.hid hW0; clear hW0 hc
  go_enter Tryz.func86, Tryz.ntmps86
  go_wp2_with fail
  rw [HW0.out]
  refine (new_any sv len _ HCO.out).mono ?_
  rintro e w1 ⟨rfl, hc1, hb1⟩
  replace XR := Lib.hid (below_heap hb1 (heap_lt XR.out) XR.out)
  have NR := Lib.hid (show w.heap.size ≠ W0.heap.size ∧ w.heap.size ≤ w.heap.size by have := HS0.out; omega)
  have HRB := Lib.hid (show w.heap.size ≤ W0.heap.size by have := HS0.out; omega)
  have HC := Lib.hid hc1; replace HB := Lib.hid (HB.out.trans (hb1.mono HB.out.size)); clear hc1 hb1
  go_wp2_with fail
  refine (anyQ_any _ sv len _ HC.out).mono ?_
  rintro e w2 ⟨kd, h, p, f, g, rfl, hf, hc1, hk1⟩
  replace XR := Lib.hid ((hk1.block _ (heap_lt XR.out) (NR.out.1)).trans XR.out)
  replace HB := Lib.hid (HB.out.trans ((hk1.below (Nat.le_of_lt HC.out.lt)).mono HRB.out))
  replace HC := Lib.hid (hc1)
  clear hk1 hc1
  have HF := Lib.hid hf; clear hf
  have yR0 := box_cell XR.out (j := 0) rfl; have xR0 := box_frz XR.out 0
  have yR1 := box_cell XR.out (j := 1) rfl; have xR1 := box_frz XR.out 1
  have yR2 := box_cell XR.out (j := 2) rfl; have xR2 := box_frz XR.out 2
  have yR3 := box_cell XR.out (j := 3) rfl; have xR3 := box_frz XR.out 3
  have yR4 := box_cell XR.out (j := 4) rfl; have xR4 := box_frz XR.out 4
  go_wp2_with fail
  clear yR0 xR0 yR1 xR1 yR2 xR2 yR3 xR3 yR4 xR4
  obtain ⟨w9, hw9⟩ : ∃ x, (((((w2.setCell ⟨w.heap.size, 0, none⟩ (.int .i64 kd)).setCell ⟨w.heap.size, 1, none⟩ (.string h)).setCell ⟨w.heap.size, 2, none⟩ (.string p)).setCell ⟨w.heap.size, 3, none⟩ (.string f)).setCell ⟨w.heap.size, 4, none⟩ (.string g)) = x := ⟨_, rfl⟩
  rw [hw9]
  have hb9 : w9.heap[w.heap.size]? = some (.cells #[.int .i64 kd, .string h, .string p, .string f, .string g] 30 (0, 0)) := by rw [← hw9]; exact (box_set (box_set (box_set (box_set (box_set XR.out (.int .i64 kd)) (.string h)) (.string p)) (.string f)) (.string g))
  have hK : Below w.heap.size w w9 := by rw [← hw9]; exact (((((HB.out.setCell (Nat.le_refl _) _).setCell (Nat.le_refl _) _).setCell (Nat.le_refl _) _).setCell (Nat.le_refl _) _).setCell (Nat.le_refl _) _)
  have r0 := box_cell hb9 (j := 0) rfl
  have r1 := box_cell hb9 (j := 1) rfl
  have r2 := box_cell hb9 (j := 2) rfl
  have r3 := box_cell hb9 (j := 3) rfl
  have r4 := box_cell hb9 (j := 4) rfl
  refine bodyPost_ret (v := .agg #[.int .i64 kd, .string h, .string p, .string f, .string g]) (by simp [results, Tryz.results86, go_sem, r0, r1, r2, r3, r4]) rfl ?_
  exact ⟨kd, h, p, f, g, rfl, HF.out, hK⟩

set_option maxRecDepth 100000 in
set_option maxHeartbeats 4000000 in
theorem drawCanG_any (sv : Value) (len : Nat) (w : World) (hc : CodeOk w.heap.size w sv len) :
    Calls Tryz.prog 22 #[sv] w (RqDrawn w) := by
  obtain ⟨W0, hW0⟩ : ∃ x, w.alloc (.cells #[.int .i64 0, .string ⟨#[]⟩, .string ⟨#[]⟩, .string ⟨#[]⟩, .string ⟨#[]⟩] 30) = x := ⟨_, rfl⟩
  have HB := Lib.hid (show Below w.heap.size w W0 by rw [← hW0]; exact bl_aw (Below.refl _ _) _)
  have HCO := Lib.hid (codeOk_later hc HB.out)
  have hs0 : w.heap.size + 1 ≤ W0.heap.size := by rw [← hW0, size_alloc]; exact Nat.le_refl _
  have HS0 := Lib.hid hs0; clear hs0
  have XR := Lib.hid (show W0.heap[w.heap.size]? = some (.cells #[.int .i64 0, .string ⟨#[]⟩, .string ⟨#[]⟩, .string ⟨#[]⟩, .string ⟨#[]⟩] 30 (0, 0)) by rw [← hW0]; exact heap_alloc_new w _)
  have HW0 := Lib.hid hW0; clear hW0 hc
  go_enter Tryz.func22, Tryz.ntmps22
  go_wp2_with fail
  rw [HW0.out]
  refine (drawIsRq_any sv len _ HCO.out).mono ?_
  rintro e w1 ⟨kd, h, p, f, g, rfl, hf, hb1⟩
  replace XR := Lib.hid (below_heap hb1 (heap_lt XR.out) XR.out)
  replace HB := Lib.hid (HB.out.trans (hb1.mono HB.out.size))
  clear hb1
  have HF := Lib.hid hf; clear hf
  have yR0 := box_cell XR.out (j := 0) rfl; have xR0 := box_frz XR.out 0
  have yR1 := box_cell XR.out (j := 1) rfl; have xR1 := box_frz XR.out 1
  have yR2 := box_cell XR.out (j := 2) rfl; have xR2 := box_frz XR.out 2
  have yR3 := box_cell XR.out (j := 3) rfl; have xR3 := box_frz XR.out 3
  have yR4 := box_cell XR.out (j := 4) rfl; have xR4 := box_frz XR.out 4
  go_wp2_with fail
  clear yR0 xR0 yR1 xR1 yR2 xR2 yR3 xR3 yR4 xR4
  obtain ⟨w9, hw9⟩ : ∃ x, (((((w1.setCell ⟨w.heap.size, 0, none⟩ (.int .i64 kd)).setCell ⟨w.heap.size, 1, none⟩ (.string h)).setCell ⟨w.heap.size, 2, none⟩ (.string p)).setCell ⟨w.heap.size, 3, none⟩ (.string f)).setCell ⟨w.heap.size, 4, none⟩ (.string g)) = x := ⟨_, rfl⟩
  rw [hw9]
  have hb9 : w9.heap[w.heap.size]? = some (.cells #[.int .i64 kd, .string h, .string p, .string f, .string g] 30 (0, 0)) := by rw [← hw9]; exact (box_set (box_set (box_set (box_set (box_set XR.out (.int .i64 kd)) (.string h)) (.string p)) (.string f)) (.string g))
  have hK : Below w.heap.size w w9 := by rw [← hw9]; exact (((((HB.out.setCell (Nat.le_refl _) _).setCell (Nat.le_refl _) _).setCell (Nat.le_refl _) _).setCell (Nat.le_refl _) _).setCell (Nat.le_refl _) _)
  have r0 := box_cell hb9 (j := 0) rfl
  have r1 := box_cell hb9 (j := 1) rfl
  have r2 := box_cell hb9 (j := 2) rfl
  have r3 := box_cell hb9 (j := 3) rfl
  have r4 := box_cell hb9 (j := 4) rfl
  refine bodyPost_ret (v := .agg #[.int .i64 kd, .string h, .string p, .string f, .string g]) (by simp [results, Tryz.results22, go_sem, r0, r1, r2, r3, r4]) rfl ?_
  exact ⟨kd, h, p, f, g, rfl, HF.out, hK⟩

/-- Two drawn requests. -/
def RqTwo (w : World) (e : Ending) (w' : World) : Prop :=
  ∃ (kd : Int) (h p f g : ByteArray) (kd' : Int) (h' p' f' g' : ByteArray), e = .returned (.tuple #[.agg #[.int .i64 kd, .string h, .string p, .string f, .string g], .agg #[.int .i64 kd', .string h', .string p', .string f', .string g']]) ∧ RqFew h p f g ∧ RqFew h' p' f' g' ∧ Below w.heap.size w w'
set_option maxRecDepth 100000 in
set_option maxHeartbeats 4000000 in
theorem drawSame_any (sv : Value) (len : Nat) (w : World) (hc : CodeOk w.heap.size w sv len) :
    Calls Tryz.prog 21 #[sv] w (RqTwo w) := by
  obtain ⟨W0, hW0⟩ : ∃ x, ((w.alloc (.cells #[.int .i64 0, .string ⟨#[]⟩, .string ⟨#[]⟩, .string ⟨#[]⟩, .string ⟨#[]⟩] 30)).alloc (.cells #[.int .i64 0, .string ⟨#[]⟩, .string ⟨#[]⟩, .string ⟨#[]⟩, .string ⟨#[]⟩] 30)) = x := ⟨_, rfl⟩
  have HB := Lib.hid (show Below w.heap.size w W0 by rw [← hW0]; exact (bl_aw (bl_aw (Below.refl _ _) _) _))
  have HCO := Lib.hid (codeOk_later hc HB.out)
  have hs0 : w.heap.size + 2 ≤ W0.heap.size := by rw [← hW0, size_alloc, size_alloc]; exact Nat.le_refl _
  have HS0 := Lib.hid hs0; clear hs0
  have XR := Lib.hid (show W0.heap[w.heap.size]? = some (.cells #[.int .i64 0, .string ⟨#[]⟩, .string ⟨#[]⟩, .string ⟨#[]⟩, .string ⟨#[]⟩] 30 (0, 0)) by rw [← hW0]; exact box2_0 _ _ _)
  have XS := Lib.hid (show W0.heap[w.heap.size + 1]? = some (.cells #[.int .i64 0, .string ⟨#[]⟩, .string ⟨#[]⟩, .string ⟨#[]⟩, .string ⟨#[]⟩] 30 (0, 0)) by rw [← hW0]; exact box2_1 _ _ _)
  have HW0 := Lib.hid hW0; clear hW0 hc
  go_enter Tryz.func21, Tryz.ntmps21
  go_wp2_with fail
  rw [HW0.out]
  refine (new_any sv len _ HCO.out).mono ?_
  rintro e w1 ⟨rfl, hc1, hb1⟩
  replace XR := Lib.hid (below_heap hb1 (heap_lt XR.out) XR.out)
  have NR := Lib.hid (show w.heap.size ≠ W0.heap.size ∧ w.heap.size ≤ w.heap.size by have := HS0.out; omega)
  replace XS := Lib.hid (below_heap hb1 (heap_lt XS.out) XS.out)
  have NS := Lib.hid (show w.heap.size + 1 ≠ W0.heap.size ∧ w.heap.size ≤ w.heap.size + 1 by have := HS0.out; omega)
  have HRB := Lib.hid (show w.heap.size ≤ W0.heap.size by have := HS0.out; omega)
  have HC := Lib.hid hc1; replace HB := Lib.hid (HB.out.trans (hb1.mono HB.out.size)); clear hc1 hb1
  go_wp2_with fail
  refine (anyQ_any _ sv len _ HC.out).mono ?_
  rintro e w2 ⟨kd, h, p, f, g, rfl, hf, hc1, hk1⟩
  replace XR := Lib.hid ((hk1.block _ (heap_lt XR.out) (NR.out.1)).trans XR.out)
  replace XS := Lib.hid ((hk1.block _ (heap_lt XS.out) (NS.out.1)).trans XS.out)
  replace HB := Lib.hid (HB.out.trans ((hk1.below (Nat.le_of_lt HC.out.lt)).mono HRB.out))
  replace HC := Lib.hid (hc1)
  clear hk1 hc1
  have HF := Lib.hid hf; clear hf
  go_upto_region 3 with (fail)
  obtain ⟨w3, hw⟩ : ∃ x, w2.alloc (.cells #[.int .i64 kd, .string h, .string p, .string f, .string g] 30) = x := ⟨_, rfl⟩
  rw [hw]
  have hb1 : Below w2.heap.size w2 w3 := by rw [← hw]; exact bl_aw (Below.refl _ _) _
  have Xx := Lib.hid (show w3.heap[w2.heap.size]? = some (.cells #[.int .i64 kd, .string h, .string p, .string f, .string g] 30 (0, 0)) by rw [← hw]; exact heap_alloc_new w2 _)
  have Nx := Lib.hid (show w2.heap.size ≠ W0.heap.size ∧ w.heap.size ≤ w2.heap.size by have := HC.out.lt; have := HB.out.size; omega)
  have Ox := Lib.hid HC.out.lt
  have PRx := Lib.hid (heap_lt XR.out)
  have PSx := Lib.hid (heap_lt XS.out)
  replace XR := Lib.hid (below_heap hb1 (heap_lt XR.out) XR.out)
  replace XS := Lib.hid (below_heap hb1 (heap_lt XS.out) XS.out)
  replace HB := Lib.hid (HB.out.trans (hb1.mono HB.out.size))
  replace HC := Lib.hid (HC.out.below hb1)
  clear hb1
  clear hw
  go_wp2_with fail
  refine (anyQ_any _ sv len _ HC.out).mono ?_
  rintro e w4 ⟨kd', h', p', f', g', rfl, hf, hc1, hk1⟩
  replace XR := Lib.hid ((hk1.block _ (heap_lt XR.out) (NR.out.1)).trans XR.out)
  replace XS := Lib.hid ((hk1.block _ (heap_lt XS.out) (NS.out.1)).trans XS.out)
  replace Xx := Lib.hid ((hk1.block _ (heap_lt Xx.out) (Nx.out.1)).trans Xx.out)
  replace HB := Lib.hid (HB.out.trans ((hk1.below (Nat.le_of_lt HC.out.lt)).mono HRB.out))
  replace HC := Lib.hid (hc1)
  clear hk1 hc1
  have HG := Lib.hid hf; clear hf
  go_upto_region 4 with (fail)
  obtain ⟨w5, hw⟩ : ∃ x, w4.alloc (.cells #[.int .i64 kd', .string h', .string p', .string f', .string g'] 30) = x := ⟨_, rfl⟩
  rw [hw]
  have hb1 : Below w4.heap.size w4 w5 := by rw [← hw]; exact bl_aw (Below.refl _ _) _
  have Xy := Lib.hid (show w5.heap[w4.heap.size]? = some (.cells #[.int .i64 kd', .string h', .string p', .string f', .string g'] 30 (0, 0)) by rw [← hw]; exact heap_alloc_new w4 _)
  have Ny := Lib.hid (show w4.heap.size ≠ W0.heap.size ∧ w.heap.size ≤ w4.heap.size by have := HC.out.lt; have := HB.out.size; omega)
  have Oy := Lib.hid HC.out.lt
  have PRy := Lib.hid (heap_lt XR.out)
  have PSy := Lib.hid (heap_lt XS.out)
  have Pxy := Lib.hid (heap_lt Xx.out)
  replace XR := Lib.hid (below_heap hb1 (heap_lt XR.out) XR.out)
  replace XS := Lib.hid (below_heap hb1 (heap_lt XS.out) XS.out)
  replace Xx := Lib.hid (below_heap hb1 (heap_lt Xx.out) Xx.out)
  replace HB := Lib.hid (HB.out.trans (hb1.mono HB.out.size))
  replace HC := Lib.hid (HC.out.below hb1)
  clear hb1
  clear hw
  go_wp2_with fail
  refine (once_any _ sv len 2 _ HC.out).mono ?_
  rintro e w6 ⟨q, rfl, hc1, hk1⟩
  replace XR := Lib.hid ((hk1.block _ (heap_lt XR.out) (NR.out.1)).trans XR.out)
  replace XS := Lib.hid ((hk1.block _ (heap_lt XS.out) (NS.out.1)).trans XS.out)
  replace Xx := Lib.hid ((hk1.block _ (heap_lt Xx.out) (Nx.out.1)).trans Xx.out)
  replace Xy := Lib.hid ((hk1.block _ (heap_lt Xy.out) (Ny.out.1)).trans Xy.out)
  replace HB := Lib.hid (HB.out.trans ((hk1.below (Nat.le_of_lt HC.out.lt)).mono HRB.out))
  replace HC := Lib.hid (hc1)
  clear hk1 hc1
  cases q with
  | true =>
    have yx0 := box_cell Xx.out (j := 0) rfl; have xx0 := box_frz Xx.out 0
    have yx1 := box_cell Xx.out (j := 1) rfl; have xx1 := box_frz Xx.out 1
    have yx2 := box_cell Xx.out (j := 2) rfl; have xx2 := box_frz Xx.out 2
    have yx3 := box_cell Xx.out (j := 3) rfl; have xx3 := box_frz Xx.out 3
    have yx4 := box_cell Xx.out (j := 4) rfl; have xx4 := box_frz Xx.out 4
    have yy0 := box_cell Xy.out (j := 0) rfl; have xy0 := box_frz Xy.out 0
    have yy1 := box_cell Xy.out (j := 1) rfl; have xy1 := box_frz Xy.out 1
    have yy2 := box_cell Xy.out (j := 2) rfl; have xy2 := box_frz Xy.out 2
    have yy3 := box_cell Xy.out (j := 3) rfl; have xy3 := box_frz Xy.out 3
    have yy4 := box_cell Xy.out (j := 4) rfl; have xy4 := box_frz Xy.out 4
    have yR0 := box_cell XR.out (j := 0) rfl; have xR0 := box_frz XR.out 0
    have yR1 := box_cell XR.out (j := 1) rfl; have xR1 := box_frz XR.out 1
    have yR2 := box_cell XR.out (j := 2) rfl; have xR2 := box_frz XR.out 2
    have yR3 := box_cell XR.out (j := 3) rfl; have xR3 := box_frz XR.out 3
    have yR4 := box_cell XR.out (j := 4) rfl; have xR4 := box_frz XR.out 4
    have yS0 := box_cell XS.out (j := 0) rfl; have xS0 := box_frz XS.out 0
    have yS1 := box_cell XS.out (j := 1) rfl; have xS1 := box_frz XS.out 1
    have yS2 := box_cell XS.out (j := 2) rfl; have xS2 := box_frz XS.out 2
    have yS3 := box_cell XS.out (j := 3) rfl; have xS3 := box_frz XS.out 3
    have yS4 := box_cell XS.out (j := 4) rfl; have xS4 := box_frz XS.out 4
    have qPRx := PRx.out
    have qPRy := PRy.out
    have qPSx := PSx.out
    have qPSy := PSy.out
    have qPxy := Pxy.out
    go_upto_region 7 with (fail)
    go_region
    clear qPRx qPRy qPSx qPSy qPxy
    clear yx0 xx0 yx1 xx1 yx2 xx2 yx3 xx3 yx4 xx4
    clear yy0 xy0 yy1 xy1 yy2 xy2 yy3 xy3 yy4 xy4
    clear yR0 xR0 yR1 xR1 yR2 xR2 yR3 xR3 yR4 xR4
    clear yS0 xS0 yS1 xS1 yS2 xS2 yS3 xS3 yS4 xS4
    obtain ⟨w9, hw9⟩ : ∃ x, (((((((((((((w6.setCell ⟨w4.heap.size, 1, none⟩ (.string h)).setCell ⟨w4.heap.size, 2, none⟩ (.string p)).setCell ⟨w4.heap.size, 3, none⟩ (.string f)).setCell ⟨w.heap.size, 0, none⟩ (.int .i64 kd)).setCell ⟨w.heap.size, 1, none⟩ (.string h)).setCell ⟨w.heap.size, 2, none⟩ (.string p)).setCell ⟨w.heap.size, 3, none⟩ (.string f)).setCell ⟨w.heap.size, 4, none⟩ (.string g)).setCell ⟨w.heap.size + 1, 0, none⟩ (.int .i64 kd')).setCell ⟨w.heap.size + 1, 1, none⟩ (.string h)).setCell ⟨w.heap.size + 1, 2, none⟩ (.string p)).setCell ⟨w.heap.size + 1, 3, none⟩ (.string f)).setCell ⟨w.heap.size + 1, 4, none⟩ (.string g')) = x := ⟨_, rfl⟩
    rw [hw9]
    have hK : Below w.heap.size w w9 := by rw [← hw9]; exact (((((((((((((HB.out.setCell Ny.out.2 _).setCell Ny.out.2 _).setCell Ny.out.2 _).setCell NR.out.2 _).setCell NR.out.2 _).setCell NR.out.2 _).setCell NR.out.2 _).setCell NR.out.2 _).setCell NS.out.2 _).setCell NS.out.2 _).setCell NS.out.2 _).setCell NS.out.2 _).setCell NS.out.2 _)
    have hbR : w9.heap[w.heap.size]? = some (.cells #[.int .i64 kd, .string h, .string p, .string f, .string g] 30 (0, 0)) := by rw [← hw9]; exact (box_off (box_off (box_off (box_off (box_off (box_set (box_set (box_set (box_set (box_set (box_off (box_off (box_off XR.out (by have h1 := PRy.out; omega) (.string h)) (by have h1 := PRy.out; omega) (.string p)) (by have h1 := PRy.out; omega) (.string f)) (.int .i64 kd)) (.string h)) (.string p)) (.string f)) (.string g)) (by omega) (.int .i64 kd')) (by omega) (.string h)) (by omega) (.string p)) (by omega) (.string f)) (by omega) (.string g'))
    have rR0 := box_cell hbR (j := 0) rfl
    have rR1 := box_cell hbR (j := 1) rfl
    have rR2 := box_cell hbR (j := 2) rfl
    have rR3 := box_cell hbR (j := 3) rfl
    have rR4 := box_cell hbR (j := 4) rfl
    have hbS : w9.heap[w.heap.size + 1]? = some (.cells #[.int .i64 kd', .string h, .string p, .string f, .string g'] 30 (0, 0)) := by rw [← hw9]; exact (box_set (box_set (box_set (box_set (box_set (box_off (box_off (box_off (box_off (box_off (box_off (box_off (box_off XS.out (by have h1 := PSy.out; omega) (.string h)) (by have h1 := PSy.out; omega) (.string p)) (by have h1 := PSy.out; omega) (.string f)) (by omega) (.int .i64 kd)) (by omega) (.string h)) (by omega) (.string p)) (by omega) (.string f)) (by omega) (.string g)) (.int .i64 kd')) (.string h)) (.string p)) (.string f)) (.string g'))
    have rS0 := box_cell hbS (j := 0) rfl
    have rS1 := box_cell hbS (j := 1) rfl
    have rS2 := box_cell hbS (j := 2) rfl
    have rS3 := box_cell hbS (j := 3) rfl
    have rS4 := box_cell hbS (j := 4) rfl
    go_wp2_with fail
    refine bodyPost_ret (v := .tuple #[.agg #[.int .i64 kd, .string h, .string p, .string f, .string g], .agg #[.int .i64 kd', .string h, .string p, .string f, .string g']]) (by simp [results, Tryz.results21, go_sem, rR0, rR1, rR2, rR3, rR4, rS0, rS1, rS2, rS3, rS4]) rfl ?_
    exact ⟨kd, h, p, f, g, kd', h, p, f, g', rfl, HF.out, ⟨HF.out.1, HF.out.2.1, HF.out.2.2.1, HG.out.2.2.2⟩, hK.drew⟩
  | false =>
    have yx0 := box_cell Xx.out (j := 0) rfl; have xx0 := box_frz Xx.out 0
    have yx1 := box_cell Xx.out (j := 1) rfl; have xx1 := box_frz Xx.out 1
    have yx2 := box_cell Xx.out (j := 2) rfl; have xx2 := box_frz Xx.out 2
    have yx3 := box_cell Xx.out (j := 3) rfl; have xx3 := box_frz Xx.out 3
    have yx4 := box_cell Xx.out (j := 4) rfl; have xx4 := box_frz Xx.out 4
    have yy0 := box_cell Xy.out (j := 0) rfl; have xy0 := box_frz Xy.out 0
    have yy1 := box_cell Xy.out (j := 1) rfl; have xy1 := box_frz Xy.out 1
    have yy2 := box_cell Xy.out (j := 2) rfl; have xy2 := box_frz Xy.out 2
    have yy3 := box_cell Xy.out (j := 3) rfl; have xy3 := box_frz Xy.out 3
    have yy4 := box_cell Xy.out (j := 4) rfl; have xy4 := box_frz Xy.out 4
    have yR0 := box_cell XR.out (j := 0) rfl; have xR0 := box_frz XR.out 0
    have yR1 := box_cell XR.out (j := 1) rfl; have xR1 := box_frz XR.out 1
    have yR2 := box_cell XR.out (j := 2) rfl; have xR2 := box_frz XR.out 2
    have yR3 := box_cell XR.out (j := 3) rfl; have xR3 := box_frz XR.out 3
    have yR4 := box_cell XR.out (j := 4) rfl; have xR4 := box_frz XR.out 4
    have yS0 := box_cell XS.out (j := 0) rfl; have xS0 := box_frz XS.out 0
    have yS1 := box_cell XS.out (j := 1) rfl; have xS1 := box_frz XS.out 1
    have yS2 := box_cell XS.out (j := 2) rfl; have xS2 := box_frz XS.out 2
    have yS3 := box_cell XS.out (j := 3) rfl; have xS3 := box_frz XS.out 3
    have yS4 := box_cell XS.out (j := 4) rfl; have xS4 := box_frz XS.out 4
    have qPRx := PRx.out
    have qPRy := PRy.out
    have qPSx := PSx.out
    have qPSy := PSy.out
    have qPxy := Pxy.out
    go_upto_region 7 with (fail)
    go_region
    clear qPRx qPRy qPSx qPSy qPxy
    clear yx0 xx0 yx1 xx1 yx2 xx2 yx3 xx3 yx4 xx4
    clear yy0 xy0 yy1 xy1 yy2 xy2 yy3 xy3 yy4 xy4
    clear yR0 xR0 yR1 xR1 yR2 xR2 yR3 xR3 yR4 xR4
    clear yS0 xS0 yS1 xS1 yS2 xS2 yS3 xS3 yS4 xS4
    obtain ⟨w9, hw9⟩ : ∃ x, ((((((((((w6.setCell ⟨w.heap.size, 0, none⟩ (.int .i64 kd)).setCell ⟨w.heap.size, 1, none⟩ (.string h)).setCell ⟨w.heap.size, 2, none⟩ (.string p)).setCell ⟨w.heap.size, 3, none⟩ (.string f)).setCell ⟨w.heap.size, 4, none⟩ (.string g)).setCell ⟨w.heap.size + 1, 0, none⟩ (.int .i64 kd')).setCell ⟨w.heap.size + 1, 1, none⟩ (.string h')).setCell ⟨w.heap.size + 1, 2, none⟩ (.string p')).setCell ⟨w.heap.size + 1, 3, none⟩ (.string f')).setCell ⟨w.heap.size + 1, 4, none⟩ (.string g')) = x := ⟨_, rfl⟩
    rw [hw9]
    have hK : Below w.heap.size w w9 := by rw [← hw9]; exact ((((((((((HB.out.setCell NR.out.2 _).setCell NR.out.2 _).setCell NR.out.2 _).setCell NR.out.2 _).setCell NR.out.2 _).setCell NS.out.2 _).setCell NS.out.2 _).setCell NS.out.2 _).setCell NS.out.2 _).setCell NS.out.2 _)
    have hbR : w9.heap[w.heap.size]? = some (.cells #[.int .i64 kd, .string h, .string p, .string f, .string g] 30 (0, 0)) := by rw [← hw9]; exact (box_off (box_off (box_off (box_off (box_off (box_set (box_set (box_set (box_set (box_set XR.out (.int .i64 kd)) (.string h)) (.string p)) (.string f)) (.string g)) (by omega) (.int .i64 kd')) (by omega) (.string h')) (by omega) (.string p')) (by omega) (.string f')) (by omega) (.string g'))
    have rR0 := box_cell hbR (j := 0) rfl
    have rR1 := box_cell hbR (j := 1) rfl
    have rR2 := box_cell hbR (j := 2) rfl
    have rR3 := box_cell hbR (j := 3) rfl
    have rR4 := box_cell hbR (j := 4) rfl
    have hbS : w9.heap[w.heap.size + 1]? = some (.cells #[.int .i64 kd', .string h', .string p', .string f', .string g'] 30 (0, 0)) := by rw [← hw9]; exact (box_set (box_set (box_set (box_set (box_set (box_off (box_off (box_off (box_off (box_off XS.out (by omega) (.int .i64 kd)) (by omega) (.string h)) (by omega) (.string p)) (by omega) (.string f)) (by omega) (.string g)) (.int .i64 kd')) (.string h')) (.string p')) (.string f')) (.string g'))
    have rS0 := box_cell hbS (j := 0) rfl
    have rS1 := box_cell hbS (j := 1) rfl
    have rS2 := box_cell hbS (j := 2) rfl
    have rS3 := box_cell hbS (j := 3) rfl
    have rS4 := box_cell hbS (j := 4) rfl
    go_wp2_with fail
    refine bodyPost_ret (v := .tuple #[.agg #[.int .i64 kd, .string h, .string p, .string f, .string g], .agg #[.int .i64 kd', .string h', .string p', .string f', .string g']]) (by simp [results, Tryz.results21, go_sem, rR0, rR1, rR2, rR3, rR4, rS0, rS1, rS2, rS3, rS4]) rfl ?_
    exact ⟨kd, h, p, f, g, kd', h', p', f', g', rfl, HF.out, HG.out, hK.drew⟩

/-- What DrawCheckResponse draws: a policy, a request, a response. -/
def CrDrawn (w : World) (e : Ending) (w' : World) : Prop :=
  ∃ (bo : Bool) (a1 : Option Addr) (n1 c1 : Nat) (a2 : Option Addr) (n2 c2 : Nat) (a3 : Option Addr) (n3 c3 : Nat) (xs ys zs : List ByteArray) (t : ByteArray) (kd : Int) (h p f g : ByteArray) (st xk : Int) (by' : ByteArray) (ag : Int) (sh : Bool) (po : ByteArray), e = .returned (.tuple #[.agg #[.bool bo, .slice a1 n1 c1, .slice a2 n2 c2, .slice a3 n3 c3, .string t], .agg #[.int .i64 kd, .string h, .string p, .string f, .string g], .agg #[.int .i64 st, .int .i64 xk, .string by', .int .i64 ag, .bool sh, .string po]]) ∧ ReadP w'.heap.size w' (.slice a1 n1 c1) (.slice a2 n2 c2) (.slice a3 n3 c3) ⟨bo, xs, ys, zs, t⟩ ∧ RqFew h p f g ∧ RsFew by' po ∧ Below w.heap.size w w'
set_option maxRecDepth 100000 in
set_option maxHeartbeats 4000000 in
theorem drawCr_any (sv : Value) (len : Nat) (w : World) (hc : CodeOk w.heap.size w sv len) :
    Calls Tryz.prog 11 #[sv] w (CrDrawn w) := by
  obtain ⟨W0, hW0⟩ : ∃ x, (((w.alloc (.cells #[.bool false, .slice none 0 0, .slice none 0 0, .slice none 0 0, .string ⟨#[]⟩] 26)).alloc (.cells #[.int .i64 0, .string ⟨#[]⟩, .string ⟨#[]⟩, .string ⟨#[]⟩, .string ⟨#[]⟩] 30)).alloc (.cells #[.int .i64 0, .int .i64 0, .string ⟨#[]⟩, .int .i64 0, .bool false, .string ⟨#[]⟩] 32)) = x := ⟨_, rfl⟩
  have HB := Lib.hid (show Below w.heap.size w W0 by rw [← hW0]; exact (bl_aw (bl_aw (bl_aw (Below.refl _ _) _) _) _))
  have HCO := Lib.hid (codeOk_later hc HB.out)
  have hs0 : w.heap.size + 3 ≤ W0.heap.size := by rw [← hW0, size_alloc, size_alloc, size_alloc]; exact Nat.le_refl _
  have HS0 := Lib.hid hs0; clear hs0
  have XR := Lib.hid (show W0.heap[w.heap.size]? = some (.cells #[.bool false, .slice none 0 0, .slice none 0 0, .slice none 0 0, .string ⟨#[]⟩] 26 (0, 0)) by rw [← hW0]; exact box3_0 _ _ _ _)
  have XS := Lib.hid (show W0.heap[w.heap.size + 1]? = some (.cells #[.int .i64 0, .string ⟨#[]⟩, .string ⟨#[]⟩, .string ⟨#[]⟩, .string ⟨#[]⟩] 30 (0, 0)) by rw [← hW0]; exact box3_1 _ _ _ _)
  have XT := Lib.hid (show W0.heap[w.heap.size + 1 + 1]? = some (.cells #[.int .i64 0, .int .i64 0, .string ⟨#[]⟩, .int .i64 0, .bool false, .string ⟨#[]⟩] 32 (0, 0)) by rw [← hW0]; exact box3_2 _ _ _ _)
  have HW0 := Lib.hid hW0; clear hW0 hc
  go_enter Tryz.func11, Tryz.ntmps11
  go_wp2_with fail
  rw [HW0.out]
  refine (new_any sv len _ HCO.out).mono ?_
  rintro e w1 ⟨rfl, hc1, hb1⟩
  replace XR := Lib.hid (below_heap hb1 (heap_lt XR.out) XR.out)
  have NR := Lib.hid (show w.heap.size ≠ W0.heap.size ∧ w.heap.size ≤ w.heap.size by have := HS0.out; omega)
  replace XS := Lib.hid (below_heap hb1 (heap_lt XS.out) XS.out)
  have NS := Lib.hid (show w.heap.size + 1 ≠ W0.heap.size ∧ w.heap.size ≤ w.heap.size + 1 by have := HS0.out; omega)
  replace XT := Lib.hid (below_heap hb1 (heap_lt XT.out) XT.out)
  have NT := Lib.hid (show w.heap.size + 1 + 1 ≠ W0.heap.size ∧ w.heap.size ≤ w.heap.size + 1 + 1 by have := HS0.out; omega)
  have HRB := Lib.hid (show w.heap.size ≤ W0.heap.size by have := HS0.out; omega)
  have HC := Lib.hid hc1; replace HB := Lib.hid (HB.out.trans (hb1.mono HB.out.size)); clear hc1 hb1
  have HLT := Lib.hid HC.out.lt
  go_wp2_with fail
  refine (policy_any _ sv len _ HC.out).mono ?_
  rintro e w2 ⟨bo, a1, n1, c1, a2, n2, c2, a3, n3, c3, xs, ys, zs, t, h1, rfl, ho1, hle, hr2, hr3, hf, -, hc1, hk1⟩
  replace XR := Lib.hid ((hk1.block _ (heap_lt XR.out) (NR.out.1)).trans XR.out)
  replace XS := Lib.hid ((hk1.block _ (heap_lt XS.out) (NS.out.1)).trans XS.out)
  replace XT := Lib.hid ((hk1.block _ (heap_lt XT.out) (NT.out.1)).trans XT.out)
  replace HB := Lib.hid (HB.out.trans ((hk1.below (Nat.le_of_lt HC.out.lt)).mono HRB.out))
  replace HC := Lib.hid (hc1)
  clear hk1 hc1
  have HR1 := Lib.hid (Rd1.of_own ho1); have HR2 := Lib.hid (hr2.low hle); have HR3 := Lib.hid (hr3.low hle); clear ho1 hle hr2 hr3 hf
  have HLO := Lib.hid (show w.heap.size + 3 ≤ W0.heap.size ∧ W0.heap.size < w1.heap.size from ⟨HS0.out, HLT.out⟩)
  have HON := Lib.hid (OnlyB.refl [W0.heap.size, w.heap.size, w.heap.size + 1, w.heap.size + 1 + 1] w2)
  go_upto_region 3 with (fail)
  obtain ⟨w3, hw⟩ : ∃ x, w2.alloc (.cells #[.bool bo, .slice a1 n1 c1, .slice a2 n2 c2, .slice a3 n3 c3, .string t] 26) = x := ⟨_, rfl⟩
  rw [hw]
  have hb1 : Below w2.heap.size w2 w3 := by rw [← hw]; exact bl_aw (Below.refl _ _) _
  have Xp := Lib.hid (show w3.heap[w2.heap.size]? = some (.cells #[.bool bo, .slice a1 n1 c1, .slice a2 n2 c2, .slice a3 n3 c3, .string t] 26 (0, 0)) by rw [← hw]; exact heap_alloc_new w2 _)
  have Np := Lib.hid (show w2.heap.size ≠ W0.heap.size ∧ w.heap.size ≤ w2.heap.size by have := HC.out.lt; have := HB.out.size; omega)
  have Op := Lib.hid HC.out.lt
  have Lp := Lib.hid HON.out.size
  have PRp := Lib.hid (heap_lt XR.out)
  have PSp := Lib.hid (heap_lt XS.out)
  have PTp := Lib.hid (heap_lt XT.out)
  replace XR := Lib.hid (below_heap hb1 (heap_lt XR.out) XR.out)
  replace XS := Lib.hid (below_heap hb1 (heap_lt XS.out) XS.out)
  replace XT := Lib.hid (below_heap hb1 (heap_lt XT.out) XT.out)
  replace HB := Lib.hid (HB.out.trans (hb1.mono HB.out.size))
  replace HON := Lib.hid (HON.out.trans (OnlyB.of_below hb1 _))
  replace HC := Lib.hid (HC.out.below hb1)
  clear hb1
  clear hw
  go_wp2_with fail
  refine (anyQ_any _ sv len _ HC.out).mono ?_
  rintro e w4 ⟨kd, h, p, f, g, rfl, hf, hc1, hk1⟩
  replace XR := Lib.hid ((hk1.block _ (heap_lt XR.out) (NR.out.1)).trans XR.out)
  replace XS := Lib.hid ((hk1.block _ (heap_lt XS.out) (NS.out.1)).trans XS.out)
  replace XT := Lib.hid ((hk1.block _ (heap_lt XT.out) (NT.out.1)).trans XT.out)
  replace Xp := Lib.hid ((hk1.block _ (heap_lt Xp.out) (Np.out.1)).trans Xp.out)
  replace HB := Lib.hid (HB.out.trans ((hk1.below (Nat.le_of_lt HC.out.lt)).mono HRB.out))
  replace HON := Lib.hid (HON.out.trans (hk1.only.mono (by simp)))
  replace HC := Lib.hid (hc1)
  clear hk1 hc1
  have HF := Lib.hid hf; clear hf
  go_upto_region 4 with (fail)
  obtain ⟨w5, hw⟩ : ∃ x, w4.alloc (.cells #[.int .i64 kd, .string h, .string p, .string f, .string g] 30) = x := ⟨_, rfl⟩
  rw [hw]
  have hb1 : Below w4.heap.size w4 w5 := by rw [← hw]; exact bl_aw (Below.refl _ _) _
  have Xq := Lib.hid (show w5.heap[w4.heap.size]? = some (.cells #[.int .i64 kd, .string h, .string p, .string f, .string g] 30 (0, 0)) by rw [← hw]; exact heap_alloc_new w4 _)
  have Nq := Lib.hid (show w4.heap.size ≠ W0.heap.size ∧ w.heap.size ≤ w4.heap.size by have := HC.out.lt; have := HB.out.size; omega)
  have Oq := Lib.hid HC.out.lt
  have Lq := Lib.hid HON.out.size
  have PRq := Lib.hid (heap_lt XR.out)
  have PSq := Lib.hid (heap_lt XS.out)
  have PTq := Lib.hid (heap_lt XT.out)
  have Ppq := Lib.hid (heap_lt Xp.out)
  replace XR := Lib.hid (below_heap hb1 (heap_lt XR.out) XR.out)
  replace XS := Lib.hid (below_heap hb1 (heap_lt XS.out) XS.out)
  replace XT := Lib.hid (below_heap hb1 (heap_lt XT.out) XT.out)
  replace Xp := Lib.hid (below_heap hb1 (heap_lt Xp.out) Xp.out)
  replace HB := Lib.hid (HB.out.trans (hb1.mono HB.out.size))
  replace HON := Lib.hid (HON.out.trans (OnlyB.of_below hb1 _))
  replace HC := Lib.hid (HC.out.below hb1)
  clear hb1
  clear hw
  have yq0 := box_cell Xq.out (j := 0) rfl; have xq0 := box_frz Xq.out 0
  have yq1 := box_cell Xq.out (j := 1) rfl; have xq1 := box_frz Xq.out 1
  have yq2 := box_cell Xq.out (j := 2) rfl; have xq2 := box_frz Xq.out 2
  have yq3 := box_cell Xq.out (j := 3) rfl; have xq3 := box_frz Xq.out 3
  have yq4 := box_cell Xq.out (j := 4) rfl; have xq4 := box_frz Xq.out 4
  go_wp2_with fail
  refine (response_any _ sv len kd _ HC.out).mono ?_
  rintro e w6 ⟨by', ag, sh, po, rfl, hx, hc1, hk1⟩
  replace XR := Lib.hid ((hk1.block _ (heap_lt XR.out) (NR.out.1)).trans XR.out)
  replace XS := Lib.hid ((hk1.block _ (heap_lt XS.out) (NS.out.1)).trans XS.out)
  replace XT := Lib.hid ((hk1.block _ (heap_lt XT.out) (NT.out.1)).trans XT.out)
  replace Xp := Lib.hid ((hk1.block _ (heap_lt Xp.out) (Np.out.1)).trans Xp.out)
  replace Xq := Lib.hid ((hk1.block _ (heap_lt Xq.out) (Nq.out.1)).trans Xq.out)
  replace HB := Lib.hid (HB.out.trans ((hk1.below (Nat.le_of_lt HC.out.lt)).mono HRB.out))
  replace HON := Lib.hid (HON.out.trans (hk1.only.mono (by simp)))
  replace HC := Lib.hid (hc1)
  clear hk1 hc1
  clear yq0 xq0 yq1 xq1 yq2 xq2 yq3 xq3 yq4 xq4
  have HX := Lib.hid hx; clear hx
  go_upto_region 5 with (fail)
  obtain ⟨w7, hw⟩ : ∃ x, w6.alloc (.cells #[.int .i64 200, .int .i64 kd, .string by', .int .i64 ag, .bool sh, .string po] 32) = x := ⟨_, rfl⟩
  rw [hw]
  have hb1 : Below w6.heap.size w6 w7 := by rw [← hw]; exact bl_aw (Below.refl _ _) _
  have Xx := Lib.hid (show w7.heap[w6.heap.size]? = some (.cells #[.int .i64 200, .int .i64 kd, .string by', .int .i64 ag, .bool sh, .string po] 32 (0, 0)) by rw [← hw]; exact heap_alloc_new w6 _)
  have Nx := Lib.hid (show w6.heap.size ≠ W0.heap.size ∧ w.heap.size ≤ w6.heap.size by have := HC.out.lt; have := HB.out.size; omega)
  have Ox := Lib.hid HC.out.lt
  have Lx := Lib.hid HON.out.size
  have PRx := Lib.hid (heap_lt XR.out)
  have PSx := Lib.hid (heap_lt XS.out)
  have PTx := Lib.hid (heap_lt XT.out)
  have Ppx := Lib.hid (heap_lt Xp.out)
  have Pqx := Lib.hid (heap_lt Xq.out)
  replace XR := Lib.hid (below_heap hb1 (heap_lt XR.out) XR.out)
  replace XS := Lib.hid (below_heap hb1 (heap_lt XS.out) XS.out)
  replace XT := Lib.hid (below_heap hb1 (heap_lt XT.out) XT.out)
  replace Xp := Lib.hid (below_heap hb1 (heap_lt Xp.out) Xp.out)
  replace Xq := Lib.hid (below_heap hb1 (heap_lt Xq.out) Xq.out)
  replace HB := Lib.hid (HB.out.trans (hb1.mono HB.out.size))
  replace HON := Lib.hid (HON.out.trans (OnlyB.of_below hb1 _))
  replace HC := Lib.hid (HC.out.below hb1)
  clear hb1
  clear hw
  go_wp2_with fail
  refine (below_any W0.heap.size sv len 5 _ HC.out).mono ?_
  rintro e w8 ⟨y, rfl, y0, yx, -, hc1, ho1⟩
  have y1 := yx (by omega); have hk1 := ho1.kept; clear yx ho1
  replace XR := Lib.hid ((hk1.block _ (heap_lt XR.out) (NR.out.1)).trans XR.out)
  replace XS := Lib.hid ((hk1.block _ (heap_lt XS.out) (NS.out.1)).trans XS.out)
  replace XT := Lib.hid ((hk1.block _ (heap_lt XT.out) (NT.out.1)).trans XT.out)
  replace Xp := Lib.hid ((hk1.block _ (heap_lt Xp.out) (Np.out.1)).trans Xp.out)
  replace Xq := Lib.hid ((hk1.block _ (heap_lt Xq.out) (Nq.out.1)).trans Xq.out)
  replace Xx := Lib.hid ((hk1.block _ (heap_lt Xx.out) (Nx.out.1)).trans Xx.out)
  replace HB := Lib.hid (HB.out.trans ((hk1.below (Nat.le_of_lt HC.out.lt)).mono HRB.out))
  replace HON := Lib.hid (HON.out.trans (hk1.only.mono (by simp)))
  replace HC := Lib.hid (hc1)
  clear hk1 hc1
  have HEND := Lib.hid (fun (W : World) (hO : OnlyB [W0.heap.size, w.heap.size, w.heap.size + 1, w.heap.size + 1 + 1] w2 W) => show ReadP W.heap.size W (.slice a1 n1 c1) (.slice a2 n2 c2) (.slice a3 n3 c3) ⟨bo, xs, ys, zs, t⟩ from by
    have hn : ∀ (v : Value), (∀ g, v.ownBlock = some g → w1.heap.size ≤ g ∧ g < w2.heap.size) → ∀ g, v.ownBlock = some g → g ∉ [W0.heap.size, w.heap.size, w.heap.size + 1, w.heap.size + 1 + 1] := by
      intro v hv g hg hm
      have h1 := (hv g hg).1; have h2 := HLO.out
      simp only [List.mem_cons, List.not_mem_nil, or_false] at hm
      omega
    exact ⟨(HR1.out.only hO (hn _ HR1.out.2)).1, (HR2.out.only hO (hn _ HR2.out.2)).1, (HR3.out.only hO (hn _ HR3.out.2)).1⟩)
  rcases (show y = 0 ∨ y = 1 ∨ (y ≠ 0 ∧ y ≠ 1) by omega) with rfl | rfl | ⟨n0, n1'⟩
  · skip
    go_wp2_with fail
    refine (anyR_any _ sv len _ HC.out).mono ?_
    rintro e w9 ⟨st2, xk2, by2, ag2, sh2, po2, rfl, hx, hc1, hk1⟩
    replace XR := Lib.hid ((hk1.block _ (heap_lt XR.out) (NR.out.1)).trans XR.out)
    replace XS := Lib.hid ((hk1.block _ (heap_lt XS.out) (NS.out.1)).trans XS.out)
    replace XT := Lib.hid ((hk1.block _ (heap_lt XT.out) (NT.out.1)).trans XT.out)
    replace Xp := Lib.hid ((hk1.block _ (heap_lt Xp.out) (Np.out.1)).trans Xp.out)
    replace Xq := Lib.hid ((hk1.block _ (heap_lt Xq.out) (Nq.out.1)).trans Xq.out)
    replace Xx := Lib.hid ((hk1.block _ (heap_lt Xx.out) (Nx.out.1)).trans Xx.out)
    replace HB := Lib.hid (HB.out.trans ((hk1.below (Nat.le_of_lt HC.out.lt)).mono HRB.out))
    replace HON := Lib.hid (HON.out.trans (hk1.only.mono (by simp)))
    replace HC := Lib.hid (hc1)
    clear hk1 hc1
    have HX2 := Lib.hid hx; clear hx
    have yp0 := box_cell Xp.out (j := 0) rfl; have xp0 := box_frz Xp.out 0
    have yp1 := box_cell Xp.out (j := 1) rfl; have xp1 := box_frz Xp.out 1
    have yp2 := box_cell Xp.out (j := 2) rfl; have xp2 := box_frz Xp.out 2
    have yp3 := box_cell Xp.out (j := 3) rfl; have xp3 := box_frz Xp.out 3
    have yp4 := box_cell Xp.out (j := 4) rfl; have xp4 := box_frz Xp.out 4
    have yq0 := box_cell Xq.out (j := 0) rfl; have xq0 := box_frz Xq.out 0
    have yq1 := box_cell Xq.out (j := 1) rfl; have xq1 := box_frz Xq.out 1
    have yq2 := box_cell Xq.out (j := 2) rfl; have xq2 := box_frz Xq.out 2
    have yq3 := box_cell Xq.out (j := 3) rfl; have xq3 := box_frz Xq.out 3
    have yq4 := box_cell Xq.out (j := 4) rfl; have xq4 := box_frz Xq.out 4
    have yx0 := box_cell Xx.out (j := 0) rfl; have xx0 := box_frz Xx.out 0
    have yx1 := box_cell Xx.out (j := 1) rfl; have xx1 := box_frz Xx.out 1
    have yx2 := box_cell Xx.out (j := 2) rfl; have xx2 := box_frz Xx.out 2
    have yx3 := box_cell Xx.out (j := 3) rfl; have xx3 := box_frz Xx.out 3
    have yx4 := box_cell Xx.out (j := 4) rfl; have xx4 := box_frz Xx.out 4
    have yx5 := box_cell Xx.out (j := 5) rfl; have xx5 := box_frz Xx.out 5
    have yR0 := box_cell XR.out (j := 0) rfl; have xR0 := box_frz XR.out 0
    have yR1 := box_cell XR.out (j := 1) rfl; have xR1 := box_frz XR.out 1
    have yR2 := box_cell XR.out (j := 2) rfl; have xR2 := box_frz XR.out 2
    have yR3 := box_cell XR.out (j := 3) rfl; have xR3 := box_frz XR.out 3
    have yR4 := box_cell XR.out (j := 4) rfl; have xR4 := box_frz XR.out 4
    have yS0 := box_cell XS.out (j := 0) rfl; have xS0 := box_frz XS.out 0
    have yS1 := box_cell XS.out (j := 1) rfl; have xS1 := box_frz XS.out 1
    have yS2 := box_cell XS.out (j := 2) rfl; have xS2 := box_frz XS.out 2
    have yS3 := box_cell XS.out (j := 3) rfl; have xS3 := box_frz XS.out 3
    have yS4 := box_cell XS.out (j := 4) rfl; have xS4 := box_frz XS.out 4
    have yT0 := box_cell XT.out (j := 0) rfl; have xT0 := box_frz XT.out 0
    have yT1 := box_cell XT.out (j := 1) rfl; have xT1 := box_frz XT.out 1
    have yT2 := box_cell XT.out (j := 2) rfl; have xT2 := box_frz XT.out 2
    have yT3 := box_cell XT.out (j := 3) rfl; have xT3 := box_frz XT.out 3
    have yT4 := box_cell XT.out (j := 4) rfl; have xT4 := box_frz XT.out 4
    have yT5 := box_cell XT.out (j := 5) rfl; have xT5 := box_frz XT.out 5
    have qPRp := PRp.out
    have qPRq := PRq.out
    have qPRx := PRx.out
    have qPSp := PSp.out
    have qPSq := PSq.out
    have qPSx := PSx.out
    have qPTp := PTp.out
    have qPTq := PTq.out
    have qPTx := PTx.out
    have qPpq := Ppq.out
    have qPpx := Ppx.out
    have qPqx := Pqx.out
    go_upto_region 10 with (fail)
    go_region
    clear qPRp qPRq qPRx qPSp qPSq qPSx qPTp qPTq qPTx qPpq qPpx qPqx
    clear yp0 xp0 yp1 xp1 yp2 xp2 yp3 xp3 yp4 xp4
    clear yq0 xq0 yq1 xq1 yq2 xq2 yq3 xq3 yq4 xq4
    clear yx0 xx0 yx1 xx1 yx2 xx2 yx3 xx3 yx4 xx4 yx5 xx5
    clear yR0 xR0 yR1 xR1 yR2 xR2 yR3 xR3 yR4 xR4
    clear yS0 xS0 yS1 xS1 yS2 xS2 yS3 xS3 yS4 xS4
    clear yT0 xT0 yT1 xT1 yT2 xT2 yT3 xT3 yT4 xT4 yT5 xT5
    obtain ⟨w9, hw9⟩ : ∃ x, ((((((((((((((((((((((w9.setCell ⟨w6.heap.size, 0, none⟩ (.int .i64 st2)).setCell ⟨w6.heap.size, 1, none⟩ (.int .i64 xk2)).setCell ⟨w6.heap.size, 2, none⟩ (.string by2)).setCell ⟨w6.heap.size, 3, none⟩ (.int .i64 ag2)).setCell ⟨w6.heap.size, 4, none⟩ (.bool sh2)).setCell ⟨w6.heap.size, 5, none⟩ (.string po2)).setCell ⟨w.heap.size, 0, none⟩ (.bool bo)).setCell ⟨w.heap.size, 1, none⟩ (.slice a1 n1 c1)).setCell ⟨w.heap.size, 2, none⟩ (.slice a2 n2 c2)).setCell ⟨w.heap.size, 3, none⟩ (.slice a3 n3 c3)).setCell ⟨w.heap.size, 4, none⟩ (.string t)).setCell ⟨w.heap.size + 1, 0, none⟩ (.int .i64 kd)).setCell ⟨w.heap.size + 1, 1, none⟩ (.string h)).setCell ⟨w.heap.size + 1, 2, none⟩ (.string p)).setCell ⟨w.heap.size + 1, 3, none⟩ (.string f)).setCell ⟨w.heap.size + 1, 4, none⟩ (.string g)).setCell ⟨w.heap.size + 1 + 1, 0, none⟩ (.int .i64 st2)).setCell ⟨w.heap.size + 1 + 1, 1, none⟩ (.int .i64 xk2)).setCell ⟨w.heap.size + 1 + 1, 2, none⟩ (.string by2)).setCell ⟨w.heap.size + 1 + 1, 3, none⟩ (.int .i64 ag2)).setCell ⟨w.heap.size + 1 + 1, 4, none⟩ (.bool sh2)).setCell ⟨w.heap.size + 1 + 1, 5, none⟩ (.string po2)) = x := ⟨_, rfl⟩
    rw [hw9]
    have hK : Below w.heap.size w w9 := by rw [← hw9]; exact ((((((((((((((((((((((HB.out.setCell Nx.out.2 _).setCell Nx.out.2 _).setCell Nx.out.2 _).setCell Nx.out.2 _).setCell Nx.out.2 _).setCell Nx.out.2 _).setCell NR.out.2 _).setCell NR.out.2 _).setCell NR.out.2 _).setCell NR.out.2 _).setCell NR.out.2 _).setCell NS.out.2 _).setCell NS.out.2 _).setCell NS.out.2 _).setCell NS.out.2 _).setCell NS.out.2 _).setCell NT.out.2 _).setCell NT.out.2 _).setCell NT.out.2 _).setCell NT.out.2 _).setCell NT.out.2 _).setCell NT.out.2 _)
    have hO : OnlyB [W0.heap.size, w.heap.size, w.heap.size + 1, w.heap.size + 1 + 1] w2 w9 := by rw [← hw9]; exact (OnlyB.set (OnlyB.set (OnlyB.set (OnlyB.set (OnlyB.set (OnlyB.set (OnlyB.set (OnlyB.set (OnlyB.set (OnlyB.set (OnlyB.set (OnlyB.set (OnlyB.set (OnlyB.set (OnlyB.set (OnlyB.set (only_setN (only_setN (only_setN (only_setN (only_setN (only_setN HON.out Lx.out) Lx.out) Lx.out) Lx.out) Lx.out) Lx.out) (by simp)) (by simp)) (by simp)) (by simp)) (by simp)) (by simp)) (by simp)) (by simp)) (by simp)) (by simp)) (by simp)) (by simp)) (by simp)) (by simp)) (by simp)) (by simp))
    have hbR : w9.heap[w.heap.size]? = some (.cells #[.bool bo, .slice a1 n1 c1, .slice a2 n2 c2, .slice a3 n3 c3, .string t] 26 (0, 0)) := by rw [← hw9]; exact (box_off (box_off (box_off (box_off (box_off (box_off (box_off (box_off (box_off (box_off (box_off (box_set (box_set (box_set (box_set (box_set (box_off (box_off (box_off (box_off (box_off (box_off XR.out (by have h1 := PRx.out; omega) (.int .i64 st2)) (by have h1 := PRx.out; omega) (.int .i64 xk2)) (by have h1 := PRx.out; omega) (.string by2)) (by have h1 := PRx.out; omega) (.int .i64 ag2)) (by have h1 := PRx.out; omega) (.bool sh2)) (by have h1 := PRx.out; omega) (.string po2)) (.bool bo)) (.slice a1 n1 c1)) (.slice a2 n2 c2)) (.slice a3 n3 c3)) (.string t)) (by omega) (.int .i64 kd)) (by omega) (.string h)) (by omega) (.string p)) (by omega) (.string f)) (by omega) (.string g)) (by omega) (.int .i64 st2)) (by omega) (.int .i64 xk2)) (by omega) (.string by2)) (by omega) (.int .i64 ag2)) (by omega) (.bool sh2)) (by omega) (.string po2))
    have rR0 := box_cell hbR (j := 0) rfl
    have rR1 := box_cell hbR (j := 1) rfl
    have rR2 := box_cell hbR (j := 2) rfl
    have rR3 := box_cell hbR (j := 3) rfl
    have rR4 := box_cell hbR (j := 4) rfl
    have hbS : w9.heap[w.heap.size + 1]? = some (.cells #[.int .i64 kd, .string h, .string p, .string f, .string g] 30 (0, 0)) := by rw [← hw9]; exact (box_off (box_off (box_off (box_off (box_off (box_off (box_set (box_set (box_set (box_set (box_set (box_off (box_off (box_off (box_off (box_off (box_off (box_off (box_off (box_off (box_off (box_off XS.out (by have h1 := PSx.out; omega) (.int .i64 st2)) (by have h1 := PSx.out; omega) (.int .i64 xk2)) (by have h1 := PSx.out; omega) (.string by2)) (by have h1 := PSx.out; omega) (.int .i64 ag2)) (by have h1 := PSx.out; omega) (.bool sh2)) (by have h1 := PSx.out; omega) (.string po2)) (by omega) (.bool bo)) (by omega) (.slice a1 n1 c1)) (by omega) (.slice a2 n2 c2)) (by omega) (.slice a3 n3 c3)) (by omega) (.string t)) (.int .i64 kd)) (.string h)) (.string p)) (.string f)) (.string g)) (by omega) (.int .i64 st2)) (by omega) (.int .i64 xk2)) (by omega) (.string by2)) (by omega) (.int .i64 ag2)) (by omega) (.bool sh2)) (by omega) (.string po2))
    have rS0 := box_cell hbS (j := 0) rfl
    have rS1 := box_cell hbS (j := 1) rfl
    have rS2 := box_cell hbS (j := 2) rfl
    have rS3 := box_cell hbS (j := 3) rfl
    have rS4 := box_cell hbS (j := 4) rfl
    have hbT : w9.heap[w.heap.size + 1 + 1]? = some (.cells #[.int .i64 st2, .int .i64 xk2, .string by2, .int .i64 ag2, .bool sh2, .string po2] 32 (0, 0)) := by rw [← hw9]; exact (box_set (box_set (box_set (box_set (box_set (box_set (box_off (box_off (box_off (box_off (box_off (box_off (box_off (box_off (box_off (box_off (box_off (box_off (box_off (box_off (box_off (box_off XT.out (by have h1 := PTx.out; omega) (.int .i64 st2)) (by have h1 := PTx.out; omega) (.int .i64 xk2)) (by have h1 := PTx.out; omega) (.string by2)) (by have h1 := PTx.out; omega) (.int .i64 ag2)) (by have h1 := PTx.out; omega) (.bool sh2)) (by have h1 := PTx.out; omega) (.string po2)) (by omega) (.bool bo)) (by omega) (.slice a1 n1 c1)) (by omega) (.slice a2 n2 c2)) (by omega) (.slice a3 n3 c3)) (by omega) (.string t)) (by omega) (.int .i64 kd)) (by omega) (.string h)) (by omega) (.string p)) (by omega) (.string f)) (by omega) (.string g)) (.int .i64 st2)) (.int .i64 xk2)) (.string by2)) (.int .i64 ag2)) (.bool sh2)) (.string po2))
    have rT0 := box_cell hbT (j := 0) rfl
    have rT1 := box_cell hbT (j := 1) rfl
    have rT2 := box_cell hbT (j := 2) rfl
    have rT3 := box_cell hbT (j := 3) rfl
    have rT4 := box_cell hbT (j := 4) rfl
    have rT5 := box_cell hbT (j := 5) rfl
    go_wp2_with fail
    refine bodyPost_ret (v := .tuple #[.agg #[.bool bo, .slice a1 n1 c1, .slice a2 n2 c2, .slice a3 n3 c3, .string t], .agg #[.int .i64 kd, .string h, .string p, .string f, .string g], .agg #[.int .i64 st2, .int .i64 xk2, .string by2, .int .i64 ag2, .bool sh2, .string po2]]) (by simp [results, Tryz.results11, go_sem, rR0, rR1, rR2, rR3, rR4, rS0, rS1, rS2, rS3, rS4, rT0, rT1, rT2, rT3, rT4, rT5]) rfl ?_
    exact ⟨bo, a1, n1, c1, a2, n2, c2, a3, n3, c3, xs, ys, zs, t, kd, h, p, f, g, st2, xk2, by2, ag2, sh2, po2, rfl, HEND.out _ (show OnlyB _ w2 w9.drew from ⟨hO.os, hO.tape, hO.output, hO.size, hO.block⟩), HF.out, HX2.out, hK.drew⟩
  · skip
    have hbd := digN_bd by'
    have yx0 := box_cell Xx.out (j := 0) rfl; have xx0 := box_frz Xx.out 0
    have yx1 := box_cell Xx.out (j := 1) rfl; have xx1 := box_frz Xx.out 1
    have yx2 := box_cell Xx.out (j := 2) rfl; have xx2 := box_frz Xx.out 2
    have yx3 := box_cell Xx.out (j := 3) rfl; have xx3 := box_frz Xx.out 3
    have yx4 := box_cell Xx.out (j := 4) rfl; have xx4 := box_frz Xx.out 4
    have yx5 := box_cell Xx.out (j := 5) rfl; have xx5 := box_frz Xx.out 5
    go_wp2_with fail
    refine (dig_spec by' _ (by have := HX.out.1; omega)).mono ?_
    rintro e w9 ⟨rfl, hb1⟩
    replace XR := Lib.hid (below_heap hb1 (heap_lt XR.out) XR.out)
    replace XS := Lib.hid (below_heap hb1 (heap_lt XS.out) XS.out)
    replace XT := Lib.hid (below_heap hb1 (heap_lt XT.out) XT.out)
    replace Xp := Lib.hid (below_heap hb1 (heap_lt Xp.out) Xp.out)
    replace Xq := Lib.hid (below_heap hb1 (heap_lt Xq.out) Xq.out)
    replace Xx := Lib.hid (below_heap hb1 (heap_lt Xx.out) Xx.out)
    replace HB := Lib.hid (HB.out.trans (hb1.mono HB.out.size))
    replace HON := Lib.hid (HON.out.trans (OnlyB.of_below hb1 _))
    replace HC := Lib.hid (HC.out.below hb1)
    clear hb1
    clear yx0 xx0 yx1 xx1 yx2 xx2 yx3 xx3 yx4 xx4 yx5 xx5
    go_wp2_with fail
    refine (fmt_spec (digN by') (by omega) (by omega) _).mono ?_
    rintro e w10 ⟨rfl, hb1⟩
    replace XR := Lib.hid (below_heap hb1 (heap_lt XR.out) XR.out)
    replace XS := Lib.hid (below_heap hb1 (heap_lt XS.out) XS.out)
    replace XT := Lib.hid (below_heap hb1 (heap_lt XT.out) XT.out)
    replace Xp := Lib.hid (below_heap hb1 (heap_lt Xp.out) Xp.out)
    replace Xq := Lib.hid (below_heap hb1 (heap_lt Xq.out) Xq.out)
    replace Xx := Lib.hid (below_heap hb1 (heap_lt Xx.out) Xx.out)
    replace HB := Lib.hid (HB.out.trans (hb1.mono HB.out.size))
    replace HON := Lib.hid (HON.out.trans (OnlyB.of_below hb1 _))
    replace HC := Lib.hid (HC.out.below hb1)
    clear hb1
    have hFz := fmtSz (n := digN by') (by omega) (by omega)
    obtain ⟨F, hF⟩ : ∃ F, fmtS (digN by') = F := ⟨_, rfl⟩
    rw [hF] at hFz ⊢; clear hF hbd
    have yp0 := box_cell Xp.out (j := 0) rfl; have xp0 := box_frz Xp.out 0
    have yp1 := box_cell Xp.out (j := 1) rfl; have xp1 := box_frz Xp.out 1
    have yp2 := box_cell Xp.out (j := 2) rfl; have xp2 := box_frz Xp.out 2
    have yp3 := box_cell Xp.out (j := 3) rfl; have xp3 := box_frz Xp.out 3
    have yp4 := box_cell Xp.out (j := 4) rfl; have xp4 := box_frz Xp.out 4
    have yq0 := box_cell Xq.out (j := 0) rfl; have xq0 := box_frz Xq.out 0
    have yq1 := box_cell Xq.out (j := 1) rfl; have xq1 := box_frz Xq.out 1
    have yq2 := box_cell Xq.out (j := 2) rfl; have xq2 := box_frz Xq.out 2
    have yq3 := box_cell Xq.out (j := 3) rfl; have xq3 := box_frz Xq.out 3
    have yq4 := box_cell Xq.out (j := 4) rfl; have xq4 := box_frz Xq.out 4
    have yx0 := box_cell Xx.out (j := 0) rfl; have xx0 := box_frz Xx.out 0
    have yx1 := box_cell Xx.out (j := 1) rfl; have xx1 := box_frz Xx.out 1
    have yx2 := box_cell Xx.out (j := 2) rfl; have xx2 := box_frz Xx.out 2
    have yx3 := box_cell Xx.out (j := 3) rfl; have xx3 := box_frz Xx.out 3
    have yx4 := box_cell Xx.out (j := 4) rfl; have xx4 := box_frz Xx.out 4
    have yx5 := box_cell Xx.out (j := 5) rfl; have xx5 := box_frz Xx.out 5
    have yR0 := box_cell XR.out (j := 0) rfl; have xR0 := box_frz XR.out 0
    have yR1 := box_cell XR.out (j := 1) rfl; have xR1 := box_frz XR.out 1
    have yR2 := box_cell XR.out (j := 2) rfl; have xR2 := box_frz XR.out 2
    have yR3 := box_cell XR.out (j := 3) rfl; have xR3 := box_frz XR.out 3
    have yR4 := box_cell XR.out (j := 4) rfl; have xR4 := box_frz XR.out 4
    have yS0 := box_cell XS.out (j := 0) rfl; have xS0 := box_frz XS.out 0
    have yS1 := box_cell XS.out (j := 1) rfl; have xS1 := box_frz XS.out 1
    have yS2 := box_cell XS.out (j := 2) rfl; have xS2 := box_frz XS.out 2
    have yS3 := box_cell XS.out (j := 3) rfl; have xS3 := box_frz XS.out 3
    have yS4 := box_cell XS.out (j := 4) rfl; have xS4 := box_frz XS.out 4
    have yT0 := box_cell XT.out (j := 0) rfl; have xT0 := box_frz XT.out 0
    have yT1 := box_cell XT.out (j := 1) rfl; have xT1 := box_frz XT.out 1
    have yT2 := box_cell XT.out (j := 2) rfl; have xT2 := box_frz XT.out 2
    have yT3 := box_cell XT.out (j := 3) rfl; have xT3 := box_frz XT.out 3
    have yT4 := box_cell XT.out (j := 4) rfl; have xT4 := box_frz XT.out 4
    have yT5 := box_cell XT.out (j := 5) rfl; have xT5 := box_frz XT.out 5
    have qPRp := PRp.out
    have qPRq := PRq.out
    have qPRx := PRx.out
    have qPSp := PSp.out
    have qPSq := PSq.out
    have qPSx := PSx.out
    have qPTp := PTp.out
    have qPTq := PTq.out
    have qPTx := PTx.out
    have qPpq := Ppq.out
    have qPpx := Ppx.out
    have qPqx := Pqx.out
    go_upto_region 10 with (fail)
    go_region
    clear qPRp qPRq qPRx qPSp qPSq qPSx qPTp qPTq qPTx qPpq qPpx qPqx
    clear yp0 xp0 yp1 xp1 yp2 xp2 yp3 xp3 yp4 xp4
    clear yq0 xq0 yq1 xq1 yq2 xq2 yq3 xq3 yq4 xq4
    clear yx0 xx0 yx1 xx1 yx2 xx2 yx3 xx3 yx4 xx4 yx5 xx5
    clear yR0 xR0 yR1 xR1 yR2 xR2 yR3 xR3 yR4 xR4
    clear yS0 xS0 yS1 xS1 yS2 xS2 yS3 xS3 yS4 xS4
    clear yT0 xT0 yT1 xT1 yT2 xT2 yT3 xT3 yT4 xT4 yT5 xT5
    obtain ⟨w9, hw9⟩ : ∃ x, (((((((((((((((((w10.setCell ⟨w4.heap.size, 4, none⟩ (.string F)).setCell ⟨w.heap.size, 0, none⟩ (.bool bo)).setCell ⟨w.heap.size, 1, none⟩ (.slice a1 n1 c1)).setCell ⟨w.heap.size, 2, none⟩ (.slice a2 n2 c2)).setCell ⟨w.heap.size, 3, none⟩ (.slice a3 n3 c3)).setCell ⟨w.heap.size, 4, none⟩ (.string t)).setCell ⟨w.heap.size + 1, 0, none⟩ (.int .i64 kd)).setCell ⟨w.heap.size + 1, 1, none⟩ (.string h)).setCell ⟨w.heap.size + 1, 2, none⟩ (.string p)).setCell ⟨w.heap.size + 1, 3, none⟩ (.string f)).setCell ⟨w.heap.size + 1, 4, none⟩ (.string F)).setCell ⟨w.heap.size + 1 + 1, 0, none⟩ (.int .i64 200)).setCell ⟨w.heap.size + 1 + 1, 1, none⟩ (.int .i64 kd)).setCell ⟨w.heap.size + 1 + 1, 2, none⟩ (.string by')).setCell ⟨w.heap.size + 1 + 1, 3, none⟩ (.int .i64 ag)).setCell ⟨w.heap.size + 1 + 1, 4, none⟩ (.bool sh)).setCell ⟨w.heap.size + 1 + 1, 5, none⟩ (.string po)) = x := ⟨_, rfl⟩
    rw [hw9]
    have hK : Below w.heap.size w w9 := by rw [← hw9]; exact (((((((((((((((((HB.out.setCell Nq.out.2 _).setCell NR.out.2 _).setCell NR.out.2 _).setCell NR.out.2 _).setCell NR.out.2 _).setCell NR.out.2 _).setCell NS.out.2 _).setCell NS.out.2 _).setCell NS.out.2 _).setCell NS.out.2 _).setCell NS.out.2 _).setCell NT.out.2 _).setCell NT.out.2 _).setCell NT.out.2 _).setCell NT.out.2 _).setCell NT.out.2 _).setCell NT.out.2 _)
    have hO : OnlyB [W0.heap.size, w.heap.size, w.heap.size + 1, w.heap.size + 1 + 1] w2 w9 := by rw [← hw9]; exact (OnlyB.set (OnlyB.set (OnlyB.set (OnlyB.set (OnlyB.set (OnlyB.set (OnlyB.set (OnlyB.set (OnlyB.set (OnlyB.set (OnlyB.set (OnlyB.set (OnlyB.set (OnlyB.set (OnlyB.set (OnlyB.set (only_setN HON.out Lq.out) (by simp)) (by simp)) (by simp)) (by simp)) (by simp)) (by simp)) (by simp)) (by simp)) (by simp)) (by simp)) (by simp)) (by simp)) (by simp)) (by simp)) (by simp)) (by simp))
    have hbR : w9.heap[w.heap.size]? = some (.cells #[.bool bo, .slice a1 n1 c1, .slice a2 n2 c2, .slice a3 n3 c3, .string t] 26 (0, 0)) := by rw [← hw9]; exact (box_off (box_off (box_off (box_off (box_off (box_off (box_off (box_off (box_off (box_off (box_off (box_set (box_set (box_set (box_set (box_set (box_off XR.out (by have h1 := PRq.out; omega) (.string F)) (.bool bo)) (.slice a1 n1 c1)) (.slice a2 n2 c2)) (.slice a3 n3 c3)) (.string t)) (by omega) (.int .i64 kd)) (by omega) (.string h)) (by omega) (.string p)) (by omega) (.string f)) (by omega) (.string F)) (by omega) (.int .i64 200)) (by omega) (.int .i64 kd)) (by omega) (.string by')) (by omega) (.int .i64 ag)) (by omega) (.bool sh)) (by omega) (.string po))
    have rR0 := box_cell hbR (j := 0) rfl
    have rR1 := box_cell hbR (j := 1) rfl
    have rR2 := box_cell hbR (j := 2) rfl
    have rR3 := box_cell hbR (j := 3) rfl
    have rR4 := box_cell hbR (j := 4) rfl
    have hbS : w9.heap[w.heap.size + 1]? = some (.cells #[.int .i64 kd, .string h, .string p, .string f, .string F] 30 (0, 0)) := by rw [← hw9]; exact (box_off (box_off (box_off (box_off (box_off (box_off (box_set (box_set (box_set (box_set (box_set (box_off (box_off (box_off (box_off (box_off (box_off XS.out (by have h1 := PSq.out; omega) (.string F)) (by omega) (.bool bo)) (by omega) (.slice a1 n1 c1)) (by omega) (.slice a2 n2 c2)) (by omega) (.slice a3 n3 c3)) (by omega) (.string t)) (.int .i64 kd)) (.string h)) (.string p)) (.string f)) (.string F)) (by omega) (.int .i64 200)) (by omega) (.int .i64 kd)) (by omega) (.string by')) (by omega) (.int .i64 ag)) (by omega) (.bool sh)) (by omega) (.string po))
    have rS0 := box_cell hbS (j := 0) rfl
    have rS1 := box_cell hbS (j := 1) rfl
    have rS2 := box_cell hbS (j := 2) rfl
    have rS3 := box_cell hbS (j := 3) rfl
    have rS4 := box_cell hbS (j := 4) rfl
    have hbT : w9.heap[w.heap.size + 1 + 1]? = some (.cells #[.int .i64 200, .int .i64 kd, .string by', .int .i64 ag, .bool sh, .string po] 32 (0, 0)) := by rw [← hw9]; exact (box_set (box_set (box_set (box_set (box_set (box_set (box_off (box_off (box_off (box_off (box_off (box_off (box_off (box_off (box_off (box_off (box_off XT.out (by have h1 := PTq.out; omega) (.string F)) (by omega) (.bool bo)) (by omega) (.slice a1 n1 c1)) (by omega) (.slice a2 n2 c2)) (by omega) (.slice a3 n3 c3)) (by omega) (.string t)) (by omega) (.int .i64 kd)) (by omega) (.string h)) (by omega) (.string p)) (by omega) (.string f)) (by omega) (.string F)) (.int .i64 200)) (.int .i64 kd)) (.string by')) (.int .i64 ag)) (.bool sh)) (.string po))
    have rT0 := box_cell hbT (j := 0) rfl
    have rT1 := box_cell hbT (j := 1) rfl
    have rT2 := box_cell hbT (j := 2) rfl
    have rT3 := box_cell hbT (j := 3) rfl
    have rT4 := box_cell hbT (j := 4) rfl
    have rT5 := box_cell hbT (j := 5) rfl
    go_wp2_with fail
    refine bodyPost_ret (v := .tuple #[.agg #[.bool bo, .slice a1 n1 c1, .slice a2 n2 c2, .slice a3 n3 c3, .string t], .agg #[.int .i64 kd, .string h, .string p, .string f, .string F], .agg #[.int .i64 200, .int .i64 kd, .string by', .int .i64 ag, .bool sh, .string po]]) (by simp [results, Tryz.results11, go_sem, rR0, rR1, rR2, rR3, rR4, rS0, rS1, rS2, rS3, rS4, rT0, rT1, rT2, rT3, rT4, rT5]) rfl ?_
    exact ⟨bo, a1, n1, c1, a2, n2, c2, a3, n3, c3, xs, ys, zs, t, kd, h, p, f, F, 200, kd, by', ag, sh, po, rfl, HEND.out _ (show OnlyB _ w2 w9.drew from ⟨hO.os, hO.tape, hO.output, hO.size, hO.block⟩), ⟨HF.out.1, HF.out.2.1, HF.out.2.2.1, hFz⟩, HX.out, hK.drew⟩
  · have e0 : (y == 0) = false := beq_eq_false_iff_ne.2 n0; have e1 : (y == 1) = false := beq_eq_false_iff_ne.2 n1'
    clear n0 n1'
    have yp0 := box_cell Xp.out (j := 0) rfl; have xp0 := box_frz Xp.out 0
    have yp1 := box_cell Xp.out (j := 1) rfl; have xp1 := box_frz Xp.out 1
    have yp2 := box_cell Xp.out (j := 2) rfl; have xp2 := box_frz Xp.out 2
    have yp3 := box_cell Xp.out (j := 3) rfl; have xp3 := box_frz Xp.out 3
    have yp4 := box_cell Xp.out (j := 4) rfl; have xp4 := box_frz Xp.out 4
    have yq0 := box_cell Xq.out (j := 0) rfl; have xq0 := box_frz Xq.out 0
    have yq1 := box_cell Xq.out (j := 1) rfl; have xq1 := box_frz Xq.out 1
    have yq2 := box_cell Xq.out (j := 2) rfl; have xq2 := box_frz Xq.out 2
    have yq3 := box_cell Xq.out (j := 3) rfl; have xq3 := box_frz Xq.out 3
    have yq4 := box_cell Xq.out (j := 4) rfl; have xq4 := box_frz Xq.out 4
    have yx0 := box_cell Xx.out (j := 0) rfl; have xx0 := box_frz Xx.out 0
    have yx1 := box_cell Xx.out (j := 1) rfl; have xx1 := box_frz Xx.out 1
    have yx2 := box_cell Xx.out (j := 2) rfl; have xx2 := box_frz Xx.out 2
    have yx3 := box_cell Xx.out (j := 3) rfl; have xx3 := box_frz Xx.out 3
    have yx4 := box_cell Xx.out (j := 4) rfl; have xx4 := box_frz Xx.out 4
    have yx5 := box_cell Xx.out (j := 5) rfl; have xx5 := box_frz Xx.out 5
    have yR0 := box_cell XR.out (j := 0) rfl; have xR0 := box_frz XR.out 0
    have yR1 := box_cell XR.out (j := 1) rfl; have xR1 := box_frz XR.out 1
    have yR2 := box_cell XR.out (j := 2) rfl; have xR2 := box_frz XR.out 2
    have yR3 := box_cell XR.out (j := 3) rfl; have xR3 := box_frz XR.out 3
    have yR4 := box_cell XR.out (j := 4) rfl; have xR4 := box_frz XR.out 4
    have yS0 := box_cell XS.out (j := 0) rfl; have xS0 := box_frz XS.out 0
    have yS1 := box_cell XS.out (j := 1) rfl; have xS1 := box_frz XS.out 1
    have yS2 := box_cell XS.out (j := 2) rfl; have xS2 := box_frz XS.out 2
    have yS3 := box_cell XS.out (j := 3) rfl; have xS3 := box_frz XS.out 3
    have yS4 := box_cell XS.out (j := 4) rfl; have xS4 := box_frz XS.out 4
    have yT0 := box_cell XT.out (j := 0) rfl; have xT0 := box_frz XT.out 0
    have yT1 := box_cell XT.out (j := 1) rfl; have xT1 := box_frz XT.out 1
    have yT2 := box_cell XT.out (j := 2) rfl; have xT2 := box_frz XT.out 2
    have yT3 := box_cell XT.out (j := 3) rfl; have xT3 := box_frz XT.out 3
    have yT4 := box_cell XT.out (j := 4) rfl; have xT4 := box_frz XT.out 4
    have yT5 := box_cell XT.out (j := 5) rfl; have xT5 := box_frz XT.out 5
    have qPRp := PRp.out
    have qPRq := PRq.out
    have qPRx := PRx.out
    have qPSp := PSp.out
    have qPSq := PSq.out
    have qPSx := PSx.out
    have qPTp := PTp.out
    have qPTq := PTq.out
    have qPTx := PTx.out
    have qPpq := Ppq.out
    have qPpx := Ppx.out
    have qPqx := Pqx.out
    go_upto_region 10 with (fail)
    go_region
    clear qPRp qPRq qPRx qPSp qPSq qPSx qPTp qPTq qPTx qPpq qPpx qPqx
    clear yp0 xp0 yp1 xp1 yp2 xp2 yp3 xp3 yp4 xp4
    clear yq0 xq0 yq1 xq1 yq2 xq2 yq3 xq3 yq4 xq4
    clear yx0 xx0 yx1 xx1 yx2 xx2 yx3 xx3 yx4 xx4 yx5 xx5
    clear yR0 xR0 yR1 xR1 yR2 xR2 yR3 xR3 yR4 xR4
    clear yS0 xS0 yS1 xS1 yS2 xS2 yS3 xS3 yS4 xS4
    clear yT0 xT0 yT1 xT1 yT2 xT2 yT3 xT3 yT4 xT4 yT5 xT5
    obtain ⟨w9, hw9⟩ : ∃ x, ((((((((((((((((w8.setCell ⟨w.heap.size, 0, none⟩ (.bool bo)).setCell ⟨w.heap.size, 1, none⟩ (.slice a1 n1 c1)).setCell ⟨w.heap.size, 2, none⟩ (.slice a2 n2 c2)).setCell ⟨w.heap.size, 3, none⟩ (.slice a3 n3 c3)).setCell ⟨w.heap.size, 4, none⟩ (.string t)).setCell ⟨w.heap.size + 1, 0, none⟩ (.int .i64 kd)).setCell ⟨w.heap.size + 1, 1, none⟩ (.string h)).setCell ⟨w.heap.size + 1, 2, none⟩ (.string p)).setCell ⟨w.heap.size + 1, 3, none⟩ (.string f)).setCell ⟨w.heap.size + 1, 4, none⟩ (.string g)).setCell ⟨w.heap.size + 1 + 1, 0, none⟩ (.int .i64 200)).setCell ⟨w.heap.size + 1 + 1, 1, none⟩ (.int .i64 kd)).setCell ⟨w.heap.size + 1 + 1, 2, none⟩ (.string by')).setCell ⟨w.heap.size + 1 + 1, 3, none⟩ (.int .i64 ag)).setCell ⟨w.heap.size + 1 + 1, 4, none⟩ (.bool sh)).setCell ⟨w.heap.size + 1 + 1, 5, none⟩ (.string po)) = x := ⟨_, rfl⟩
    rw [hw9]
    have hK : Below w.heap.size w w9 := by rw [← hw9]; exact ((((((((((((((((HB.out.setCell NR.out.2 _).setCell NR.out.2 _).setCell NR.out.2 _).setCell NR.out.2 _).setCell NR.out.2 _).setCell NS.out.2 _).setCell NS.out.2 _).setCell NS.out.2 _).setCell NS.out.2 _).setCell NS.out.2 _).setCell NT.out.2 _).setCell NT.out.2 _).setCell NT.out.2 _).setCell NT.out.2 _).setCell NT.out.2 _).setCell NT.out.2 _)
    have hO : OnlyB [W0.heap.size, w.heap.size, w.heap.size + 1, w.heap.size + 1 + 1] w2 w9 := by rw [← hw9]; exact (OnlyB.set (OnlyB.set (OnlyB.set (OnlyB.set (OnlyB.set (OnlyB.set (OnlyB.set (OnlyB.set (OnlyB.set (OnlyB.set (OnlyB.set (OnlyB.set (OnlyB.set (OnlyB.set (OnlyB.set (OnlyB.set HON.out (by simp)) (by simp)) (by simp)) (by simp)) (by simp)) (by simp)) (by simp)) (by simp)) (by simp)) (by simp)) (by simp)) (by simp)) (by simp)) (by simp)) (by simp)) (by simp))
    have hbR : w9.heap[w.heap.size]? = some (.cells #[.bool bo, .slice a1 n1 c1, .slice a2 n2 c2, .slice a3 n3 c3, .string t] 26 (0, 0)) := by rw [← hw9]; exact (box_off (box_off (box_off (box_off (box_off (box_off (box_off (box_off (box_off (box_off (box_off (box_set (box_set (box_set (box_set (box_set XR.out (.bool bo)) (.slice a1 n1 c1)) (.slice a2 n2 c2)) (.slice a3 n3 c3)) (.string t)) (by omega) (.int .i64 kd)) (by omega) (.string h)) (by omega) (.string p)) (by omega) (.string f)) (by omega) (.string g)) (by omega) (.int .i64 200)) (by omega) (.int .i64 kd)) (by omega) (.string by')) (by omega) (.int .i64 ag)) (by omega) (.bool sh)) (by omega) (.string po))
    have rR0 := box_cell hbR (j := 0) rfl
    have rR1 := box_cell hbR (j := 1) rfl
    have rR2 := box_cell hbR (j := 2) rfl
    have rR3 := box_cell hbR (j := 3) rfl
    have rR4 := box_cell hbR (j := 4) rfl
    have hbS : w9.heap[w.heap.size + 1]? = some (.cells #[.int .i64 kd, .string h, .string p, .string f, .string g] 30 (0, 0)) := by rw [← hw9]; exact (box_off (box_off (box_off (box_off (box_off (box_off (box_set (box_set (box_set (box_set (box_set (box_off (box_off (box_off (box_off (box_off XS.out (by omega) (.bool bo)) (by omega) (.slice a1 n1 c1)) (by omega) (.slice a2 n2 c2)) (by omega) (.slice a3 n3 c3)) (by omega) (.string t)) (.int .i64 kd)) (.string h)) (.string p)) (.string f)) (.string g)) (by omega) (.int .i64 200)) (by omega) (.int .i64 kd)) (by omega) (.string by')) (by omega) (.int .i64 ag)) (by omega) (.bool sh)) (by omega) (.string po))
    have rS0 := box_cell hbS (j := 0) rfl
    have rS1 := box_cell hbS (j := 1) rfl
    have rS2 := box_cell hbS (j := 2) rfl
    have rS3 := box_cell hbS (j := 3) rfl
    have rS4 := box_cell hbS (j := 4) rfl
    have hbT : w9.heap[w.heap.size + 1 + 1]? = some (.cells #[.int .i64 200, .int .i64 kd, .string by', .int .i64 ag, .bool sh, .string po] 32 (0, 0)) := by rw [← hw9]; exact (box_set (box_set (box_set (box_set (box_set (box_set (box_off (box_off (box_off (box_off (box_off (box_off (box_off (box_off (box_off (box_off XT.out (by omega) (.bool bo)) (by omega) (.slice a1 n1 c1)) (by omega) (.slice a2 n2 c2)) (by omega) (.slice a3 n3 c3)) (by omega) (.string t)) (by omega) (.int .i64 kd)) (by omega) (.string h)) (by omega) (.string p)) (by omega) (.string f)) (by omega) (.string g)) (.int .i64 200)) (.int .i64 kd)) (.string by')) (.int .i64 ag)) (.bool sh)) (.string po))
    have rT0 := box_cell hbT (j := 0) rfl
    have rT1 := box_cell hbT (j := 1) rfl
    have rT2 := box_cell hbT (j := 2) rfl
    have rT3 := box_cell hbT (j := 3) rfl
    have rT4 := box_cell hbT (j := 4) rfl
    have rT5 := box_cell hbT (j := 5) rfl
    go_wp2_with fail
    refine bodyPost_ret (v := .tuple #[.agg #[.bool bo, .slice a1 n1 c1, .slice a2 n2 c2, .slice a3 n3 c3, .string t], .agg #[.int .i64 kd, .string h, .string p, .string f, .string g], .agg #[.int .i64 200, .int .i64 kd, .string by', .int .i64 ag, .bool sh, .string po]]) (by simp [results, Tryz.results11, go_sem, rR0, rR1, rR2, rR3, rR4, rS0, rS1, rS2, rS3, rS4, rT0, rT1, rT2, rT3, rT4, rT5]) rfl ?_
    exact ⟨bo, a1, n1, c1, a2, n2, c2, a3, n3, c3, xs, ys, zs, t, kd, h, p, f, g, 200, kd, by', ag, sh, po, rfl, HEND.out _ (show OnlyB _ w2 w9.drew from ⟨hO.os, hO.tape, hO.output, hO.size, hO.block⟩), HF.out, HX.out, hK.drew⟩

end Go.Proofs.YtkjjiinccljhjaaGreatDoor

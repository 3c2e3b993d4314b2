/- The program's search for a form by its Op and by its word; the test of a line's text; a line's form. -/
import Derived.Test.YtiginllbfjekeaaDoorFrm
namespace Go.Proofs.YtiginllbfjekeaaDoor
open Go.ChangeShapes Go.WideShapes Go.ChangeAt Go.RowKit

/-- The Op as a place in the table; 0 if it is none. -/
def opN (op : Int) : Nat := if 1 ≤ op ∧ op ≤ 5 then op.toNat else 0
theorem opN_le (op : Int) : opN op ≤ 5 := by unfold opN; split <;> omega
theorem opN_yes {op : Int} (h : 1 ≤ op ∧ op ≤ 5) : opN op = op.toNat := by unfold opN; rw [if_pos h]
theorem opN_no {op : Int} (h : ¬ (1 ≤ op ∧ op ≤ 5)) : opN op = 0 := by unfold opN; rw [if_neg h]
theorem fst_op (op : Int) : fstP (fun m => (m : Int) == op) = opN op := by
  by_cases h : 1 ≤ op ∧ op ≤ 5
  · rw [opN_yes h]
    exact fstP_at (by omega) (by omega) (beq_iff_eq.2 (by omega)) fun j h1 h2 => beq_eq_false_iff_ne.2 (by omega)
  · rw [opN_no h]
    exact fstP_no fun j h1 h2 => beq_eq_false_iff_ne.2 (by omega)
theorem fst_word (a : ByteArray) : fstP (fun m => (wd m).toList == a.toList) = wdN a := by
  by_cases h : 1 ≤ wdN a
  · have hw := wdN_is (w := a) rfl h
    refine fstP_at h (wdN_le a) (beqL_yes hw.symm) fun j h1 h2 => beqL_no fun e => ?_
    have := wdN_of j h1 (by have := wdN_le a; omega)
    rw [e] at this; omega
  · rw [show wdN a = 0 by omega]
    refine fstP_no fun j h1 h2 => beqL_no fun e => ?_
    have := wdN_of j h1 (by omega)
    rw [e] at this; omega
/-- The values of a row, by letters. -/
theorem res_form {m : Nat} (h : m ≠ 0) : fmRes m = .tuple #[.agg #[.int .i64 (m : Int), .string (wd m), .func (.func (fmTk m)) #[] #[], .func (.func (fmRn m)) #[] #[]], .bool true] := by unfold fmRes; rw [if_neg h]; rfl
theorem res_zero : fmRes 0 = .tuple #[fmZ, .bool false] := rfl
theorem bl_fourS {w w' : World} (h : Below w.heap.size w w') (u v x y : Value) : Below w.heap.size w ((((w'.setCell ⟨w.heap.size + 1, 0, none⟩ u).setCell ⟨w.heap.size + 1, 1, none⟩ v).setCell ⟨w.heap.size + 1, 2, none⟩ x).setCell ⟨w.heap.size + 1, 3, none⟩ y) :=
  (((h.setCell (Nat.le_succ _) u).setCell (Nat.le_succ _) v).setCell (Nat.le_succ _) x).setCell (Nat.le_succ _) y

set_option maxRecDepth 100000 in
set_option maxHeartbeats 2000000 in
theorem fop_any (op : Int) (w : World) :
    Calls Tryd.prog 47 #[.int .i64 op] w fun e w' => e = .returned (fmRes (opN op)) ∧ Below w.heap.size w w' := by
  have hmf : ∀ (fn : Fn) (first cap : Array Value) (w : World), (Instr.makeFunc fn first cap).run Tryd.prog w = .ok (.func fn first cap) w := fun _ _ _ _ => rfl
  obtain ⟨W0, hW0⟩ : ∃ W, (w.alloc (.cells #[.int .i64 op] 3)).alloc (.cells fmZ0 70) = W := ⟨_, rfl⟩
  have hb1 : Below w.heap.size w (w.alloc (.cells #[.int .i64 op] 3)) := (Below.refl _ _).alloc (Nat.le_refl _) _
  have hb2 : Below (w.alloc (.cells #[.int .i64 op] 3)).heap.size (w.alloc (.cells #[.int .i64 op] 3)) W0 := by rw [← hW0]; exact (Below.refl _ _).alloc (Nat.le_refl _) _
  have hb0 : Below w.heap.size w W0 := hb1.trans (hb2.mono (by rw [size_alloc]; omega))
  have hx0 : W0.heap[w.heap.size]? = some (.cells #[.int .i64 op] 3 (0, 0)) := below_heap hb2 (by rw [size_alloc]; omega) (MapKept.heap_alloc w _).1
  have hx1 : W0.heap[w.heap.size + 1]? = some (.cells fmZ0 70 (0, 0)) := by
    rw [← hW0, ← size_alloc w (.cells #[.int .i64 op] 3)]; exact (MapKept.heap_alloc _ _).1
  have hT : TestF 60 (.pointer (some ⟨w.heap.size, 0, none⟩)) (fun m => (m : Int) == op) W0 := fun m W _ _ hb => clo_op m op w.heap.size W ((hb.cell (heap_lt hx0)).trans (box_cell hx0 rfl))
  have HF := Lib.hid (fst_op op ▸ find_op (.pointer (some ⟨w.heap.size, 0, none⟩)) _ W0 hT)
  have HX := Lib.hid hx1; have HB := Lib.hid hb0; have HW0 := Lib.hid hW0
  obtain ⟨m, hm⟩ : ∃ m, opN op = m := ⟨_, rfl⟩
  rw [hm] at HF ⊢
  clear hb1 hb2 hb0 hx0 hx1 hT hW0 hm
  go_enter Tryd.func47, Tryd.ntmps47
  go_wp2_with fail
  rw [HW0.out]
  refine HF.out.mono ?_
  rintro e w1 ⟨rfl, hb1⟩
  have hy := below_heap hb1 (heap_lt HX.out) HX.out
  have HB1 := Lib.hid (HB.out.trans (hb1.mono HB.out.size)); clear hb1
  have e0 := box_cell hy (j := 0) rfl
  have e1 := box_cell hy (j := 1) rfl
  have e2 := box_cell hy (j := 2) rfl
  have e3 := box_cell hy (j := 3) rfl
  have z0 := box_frz hy 0
  have z1 := box_frz hy 1
  have z2 := box_frz hy 2
  have z3 := box_frz hy 3
  by_cases h0 : m = 0
  · subst h0
    rw [res_zero]
    have h1 := heap_one (o := 0) hy (.int .i64 0)
    replace h1 := heap_one (o := 1) h1 (.string ⟨#[]⟩)
    replace h1 := heap_one (o := 2) h1 .nilFunc
    replace h1 := heap_one (o := 3) h1 .nilFunc
    have f0 := box_cell h1 (j := 0) rfl
    have f1 := box_cell h1 (j := 1) rfl
    have f2 := box_cell h1 (j := 2) rfl
    have f3 := box_cell h1 (j := 3) rfl
    have HFB := Lib.hid (bl_fourS HB1.out (.int .i64 0) (.string ⟨#[]⟩) .nilFunc .nilFunc)
    clear hy h1
    go_wp2_with fail
    refine bodyPost_ret (v := .tuple #[fmZ, .bool false]) (by simp [results, Tryd.results47, go_sem, f0, f1, f2, f3]) rfl ?_
    exact ⟨rfl, HFB.out⟩
  · have HRES := Lib.hid (res_form h0)
    rw [res_form h0]
    obtain ⟨x0, h0'⟩ : ∃ u : Int, (m : Int) = u := ⟨_, rfl⟩
    obtain ⟨s1, h1'⟩ : ∃ u, wd m = u := ⟨_, rfl⟩
    obtain ⟨q2, h2'⟩ : ∃ u, fmTk m = u := ⟨_, rfl⟩
    obtain ⟨q3, h3'⟩ : ∃ u, fmRn m = u := ⟨_, rfl⟩
    rw [h0', h1', h2', h3'] at HRES ⊢
    clear h0' h1' h2' h3' h0 HF
    have h1 := heap_one (o := 0) hy (.int .i64 x0)
    replace h1 := heap_one (o := 1) h1 (.string s1)
    replace h1 := heap_one (o := 2) h1 (.func (.func q2) #[] #[])
    replace h1 := heap_one (o := 3) h1 (.func (.func q3) #[] #[])
    have f0 := box_cell h1 (j := 0) rfl
    have f1 := box_cell h1 (j := 1) rfl
    have f2 := box_cell h1 (j := 2) rfl
    have f3 := box_cell h1 (j := 3) rfl
    have HFB := Lib.hid (bl_fourS HB1.out (.int .i64 x0) (.string s1) (.func (.func q2) #[] #[]) (.func (.func q3) #[] #[]))
    clear hy h1
    go_wp2_with fail
    refine bodyPost_ret (v := .tuple #[.agg #[.int .i64 x0, .string s1, .func (.func q2) #[] #[], .func (.func q3) #[] #[]], .bool true]) (by simp [results, Tryd.results47, go_sem, f0, f1, f2, f3]) rfl ?_
    exact ⟨by rw [HRES.out], HFB.out⟩

set_option maxRecDepth 100000 in
set_option maxHeartbeats 2000000 in
theorem fword_any (a : ByteArray) (w : World) :
    Calls Tryd.prog 45 #[.string a] w fun e w' => e = .returned (fmRes (wdN a)) ∧ Below w.heap.size w w' := by
  have hmf : ∀ (fn : Fn) (first cap : Array Value) (w : World), (Instr.makeFunc fn first cap).run Tryd.prog w = .ok (.func fn first cap) w := fun _ _ _ _ => rfl
  obtain ⟨W0, hW0⟩ : ∃ W, (w.alloc (.cells #[.string a] 9)).alloc (.cells fmZ0 70) = W := ⟨_, rfl⟩
  have hb1 : Below w.heap.size w (w.alloc (.cells #[.string a] 9)) := (Below.refl _ _).alloc (Nat.le_refl _) _
  have hb2 : Below (w.alloc (.cells #[.string a] 9)).heap.size (w.alloc (.cells #[.string a] 9)) W0 := by rw [← hW0]; exact (Below.refl _ _).alloc (Nat.le_refl _) _
  have hb0 : Below w.heap.size w W0 := hb1.trans (hb2.mono (by rw [size_alloc]; omega))
  have hx0 : W0.heap[w.heap.size]? = some (.cells #[.string a] 9 (0, 0)) := below_heap hb2 (by rw [size_alloc]; omega) (MapKept.heap_alloc w _).1
  have hx1 : W0.heap[w.heap.size + 1]? = some (.cells fmZ0 70 (0, 0)) := by
    rw [← hW0, ← size_alloc w (.cells #[.string a] 9)]; exact (MapKept.heap_alloc _ _).1
  have hT : TestF 59 (.pointer (some ⟨w.heap.size, 0, none⟩)) (fun m => (wd m).toList == a.toList) W0 := fun m W _ _ hb => clo_word m a w.heap.size W ((hb.cell (heap_lt hx0)).trans (box_cell hx0 rfl))
  have HF := Lib.hid (fst_word a ▸ find_word (.pointer (some ⟨w.heap.size, 0, none⟩)) _ W0 hT)
  have HX := Lib.hid hx1; have HB := Lib.hid hb0; have HW0 := Lib.hid hW0
  obtain ⟨m, hm⟩ : ∃ m, wdN a = m := ⟨_, rfl⟩
  rw [hm] at HF ⊢
  clear hb1 hb2 hb0 hx0 hx1 hT hW0 hm
  go_enter Tryd.func45, Tryd.ntmps45
  go_wp2_with fail
  rw [HW0.out]
  refine HF.out.mono ?_
  rintro e w1 ⟨rfl, hb1⟩
  have hy := below_heap hb1 (heap_lt HX.out) HX.out
  have HB1 := Lib.hid (HB.out.trans (hb1.mono HB.out.size)); clear hb1
  have e0 := box_cell hy (j := 0) rfl
  have e1 := box_cell hy (j := 1) rfl
  have e2 := box_cell hy (j := 2) rfl
  have e3 := box_cell hy (j := 3) rfl
  have z0 := box_frz hy 0
  have z1 := box_frz hy 1
  have z2 := box_frz hy 2
  have z3 := box_frz hy 3
  by_cases h0 : m = 0
  · subst h0
    rw [res_zero]
    have h1 := heap_one (o := 0) hy (.int .i64 0)
    replace h1 := heap_one (o := 1) h1 (.string ⟨#[]⟩)
    replace h1 := heap_one (o := 2) h1 .nilFunc
    replace h1 := heap_one (o := 3) h1 .nilFunc
    have f0 := box_cell h1 (j := 0) rfl
    have f1 := box_cell h1 (j := 1) rfl
    have f2 := box_cell h1 (j := 2) rfl
    have f3 := box_cell h1 (j := 3) rfl
    have HFB := Lib.hid (bl_fourS HB1.out (.int .i64 0) (.string ⟨#[]⟩) .nilFunc .nilFunc)
    clear hy h1
    go_wp2_with fail
    refine bodyPost_ret (v := .tuple #[fmZ, .bool false]) (by simp [results, Tryd.results45, go_sem, f0, f1, f2, f3]) rfl ?_
    exact ⟨rfl, HFB.out⟩
  · have HRES := Lib.hid (res_form h0)
    rw [res_form h0]
    obtain ⟨x0, h0'⟩ : ∃ u : Int, (m : Int) = u := ⟨_, rfl⟩
    obtain ⟨s1, h1'⟩ : ∃ u, wd m = u := ⟨_, rfl⟩
    obtain ⟨q2, h2'⟩ : ∃ u, fmTk m = u := ⟨_, rfl⟩
    obtain ⟨q3, h3'⟩ : ∃ u, fmRn m = u := ⟨_, rfl⟩
    rw [h0', h1', h2', h3'] at HRES ⊢
    clear h0' h1' h2' h3' h0 HF
    have h1 := heap_one (o := 0) hy (.int .i64 x0)
    replace h1 := heap_one (o := 1) h1 (.string s1)
    replace h1 := heap_one (o := 2) h1 (.func (.func q2) #[] #[])
    replace h1 := heap_one (o := 3) h1 (.func (.func q3) #[] #[])
    have f0 := box_cell h1 (j := 0) rfl
    have f1 := box_cell h1 (j := 1) rfl
    have f2 := box_cell h1 (j := 2) rfl
    have f3 := box_cell h1 (j := 3) rfl
    have HFB := Lib.hid (bl_fourS HB1.out (.int .i64 x0) (.string s1) (.func (.func q2) #[] #[]) (.func (.func q3) #[] #[]))
    clear hy h1
    go_wp2_with fail
    refine bodyPost_ret (v := .tuple #[.agg #[.int .i64 x0, .string s1, .func (.func q2) #[] #[], .func (.func q3) #[] #[]], .bool true]) (by simp [results, Tryd.results45, go_sem, f0, f1, f2, f3]) rfl ?_
    exact ⟨by rw [HRES.out], HFB.out⟩
end Go.Proofs.YtiginllbfjekeaaDoor

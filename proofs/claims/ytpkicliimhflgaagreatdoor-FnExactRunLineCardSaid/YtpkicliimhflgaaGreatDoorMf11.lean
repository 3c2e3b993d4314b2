/- The program's table of the forms of lines, and its search in it. The program's search for a form by its Op and by its word; the test of a line's text; a line's form. Helper contracts: isLineText, parseLine of the program. Asked: the string is no longer than 2^31 bytes. Strings in a slice of strings; append to one that tells what else is kept. Helper facts, no claim of its own. ParseScript of the program: the lines of a script. Asked: the string is no longer than 2^20 bytes. -/
import Derived.Test.YtpkicliimhflgaaGreatDoorMf10
import Derived.Laws.EntriesVeiled
import Derived.Test.YtpkicliimhflgaaGreatDoorMf6
namespace Go.Proofs.YtpkicliimhflgaaGreatDoor

open Go.ChangeShapes Go.WideShapes Go.ChangeAt Go.RowKit

def fnv (k : Nat) : Value := .func (.func k) #[] #[]
/-- What the table holds, a row each: op, word, the test, the run. -/
def fmTk (m : Nat) : Nat := if m = 1 ∨ m = 5 then 177 else 98
def fmRn : Nat → Nat
  | 1 => 178
  | 2 => 179
  | 3 => 180
  | 4 => 181
  | _ => 182
def fmRow (m : Nat) : List Value := [.int .i64 (m : Int), .string (wd m), fnv (fmTk m), fnv (fmRn m)]
def fmCells : Array Value := (fmRow 1 ++ fmRow 2 ++ fmRow 3 ++ fmRow 4 ++ fmRow 5).toArray
abbrev fmZ0 : Array Value := #[.int .i64 0, .string ⟨#[]⟩, .nilFunc, .nilFunc]
abbrev fmZ : Value := .agg fmZ0
/-- The form with this Op as a value; none: the zero form. -/
def fmV (m : Nat) : Value := .agg (fmRow m).toArray

theorem forms_any (w : World) : Calls Tryz.prog 165 #[] w fun e w' => e = .returned (.slice (some ⟨w.heap.size, 0, none⟩) 5 5) ∧ w' = w.alloc (.cells fmCells 164) := by
  go_enter Tryz.func165, Tryz.ntmps165
  go_wp2
  go_ret
  exact ⟨rfl, rfl⟩

theorem bl_four {w w' : World} (h : Below w.heap.size w w') (u v x y : Value) : Below w.heap.size w ((((w'.setCell ⟨w.heap.size, 0, none⟩ u).setCell ⟨w.heap.size, 1, none⟩ v).setCell ⟨w.heap.size, 2, none⟩ x).setCell ⟨w.heap.size, 3, none⟩ y) :=
  (((h.setCell (Nat.le_refl _) u).setCell (Nat.le_refl _) v).setCell (Nat.le_refl _) x).setCell (Nat.le_refl _) y
theorem fmV_form (m : Nat) : fmV m = .agg #[.int .i64 (m : Int), .string (wd m), fnv (fmTk m), fnv (fmRn m)] := rfl
set_option maxHeartbeats 1000000 in
theorem clo_op (m : Nat) (op : Int) (b : Nat) (w : World) (hc : w.cell? ⟨b, 0, none⟩ = some (.int .i64 op)) :
    Calls Tryz.prog 148 #[fmV m, .pointer (some ⟨b, 0, none⟩)] w fun e w' => e = .returned (.bool ((m : Int) == op)) ∧ Below w.heap.size w w' := by
  have HB := Lib.hid (((Below.refl w.heap.size w).alloc (Nat.le_refl _) (.cells #[.int .i64 (m : Int), .string (wd m), fnv (fmTk m), fnv (fmRn m)] 164)))
  have hlt := World.block_lt_of_cell? _ _ hc
  obtain ⟨u1, hu1⟩ : ∃ u, wd m = u := ⟨_, rfl⟩
  obtain ⟨u2, hu2⟩ : ∃ u, fnv (fmTk m) = u := ⟨_, rfl⟩
  obtain ⟨u3, hu3⟩ : ∃ u, fnv (fmRn m) = u := ⟨_, rfl⟩
  rw [fmV_form]
  rw [hu1, hu2, hu3] at HB ⊢
  clear hu1 hu2 hu3
  go_enter Tryz.func148, Tryz.ntmps148
  go_wp2
  go_ret
  exact ⟨rfl, HB.out⟩

/-- The first of five that passes; 0 if none does. -/
def fstP (p : Nat → Bool) : Nat := if p 1 = true then 1 else if p 2 = true then 2 else if p 3 = true then 3 else if p 4 = true then 4 else if p 5 = true then 5 else 0
theorem fstP_at {p : Nat → Bool} {k : Nat} (h1 : 1 ≤ k) (h5 : k ≤ 5) (hk : p k = true) (hb : ∀ j, 1 ≤ j → j < k → p j = false) : fstP p = k := by
  unfold fstP
  rcases (show k = 1 ∨ k = 2 ∨ k = 3 ∨ k = 4 ∨ k = 5 by omega) with rfl | rfl | rfl | rfl | rfl
  · rw [if_pos hk]
  · rw [if_neg (by rw [hb 1 (by omega) (by omega)]; decide), if_pos hk]
  · rw [if_neg (by rw [hb 1 (by omega) (by omega)]; decide), if_neg (by rw [hb 2 (by omega) (by omega)]; decide), if_pos hk]
  · rw [if_neg (by rw [hb 1 (by omega) (by omega)]; decide), if_neg (by rw [hb 2 (by omega) (by omega)]; decide), if_neg (by rw [hb 3 (by omega) (by omega)]; decide), if_pos hk]
  · rw [if_neg (by rw [hb 1 (by omega) (by omega)]; decide), if_neg (by rw [hb 2 (by omega) (by omega)]; decide), if_neg (by rw [hb 3 (by omega) (by omega)]; decide), if_neg (by rw [hb 4 (by omega) (by omega)]; decide), if_pos hk]
theorem fstP_no {p : Nat → Bool} (hb : ∀ j, 1 ≤ j → j < 6 → p j = false) : fstP p = 0 := by
  unfold fstP
  rw [if_neg (by rw [hb 1 (by omega) (by omega)]; decide), if_neg (by rw [hb 2 (by omega) (by omega)]; decide), if_neg (by rw [hb 3 (by omega) (by omega)]; decide), if_neg (by rw [hb 4 (by omega) (by omega)]; decide), if_neg (by rw [hb 5 (by omega) (by omega)]; decide)]
theorem fstP_le (p : Nat → Bool) : fstP p ≤ 5 := by unfold fstP; repeat' split <;> try omega
/-- What the search returns. -/
def fmRes (m : Nat) : Value := if m = 0 then .tuple #[fmZ, .bool false] else .tuple #[fmV m, .bool true]
theorem fmCells_at {w : World} {b : Nat} {f : Nat × Nat} (h : w.heap[b]? = some (.cells fmCells 164 f)) {j : Nat} (hj : j < 5) :
    w.cell? ⟨b, j * 4, none⟩ = some (.int .i64 ((j + 1 : Nat) : Int)) ∧ w.cell? ⟨b, j * 4 + 1, none⟩ = some (.string (wd (j + 1))) ∧ w.cell? ⟨b, j * 4 + 2, none⟩ = some (fnv (fmTk (j + 1))) ∧ w.cell? ⟨b, j * 4 + 3, none⟩ = some (fnv (fmRn (j + 1))) := by
  unfold World.cell?
  rw [h]
  rcases (show j = 0 ∨ j = 1 ∨ j = 2 ∨ j = 3 ∨ j = 4 by omega) with rfl | rfl | rfl | rfl | rfl <;> exact ⟨rfl, rfl, rfl, rfl⟩
/-- What the search's caller hands in: a test on rows, above memory that is kept. -/
def TestF (k : Nat) (cap : Value) (p : Nat → Bool) (w : World) : Prop :=
  ∀ m W, 1 ≤ m → m ≤ 5 → Below w.heap.size w W → Calls Tryz.prog k #[fmV m, cap] W fun e w' => e = .returned (.bool (p m)) ∧ Below W.heap.size W w'

set_option maxRecDepth 100000 in
set_option maxHeartbeats 4000000 in
theorem find_op (cap : Value) (p : Nat → Bool) (w : World) (ht : TestF 148 cap p w) :
    Calls Tryz.prog 147 #[.func (.func 148) #[] #[cap]] w fun e w' => e = .returned (fmRes (fstP p)) ∧ Below w.heap.size w w' := by
  obtain ⟨W0, hW0⟩ : ∃ W, w.alloc (.cells fmZ0 164) = W := ⟨_, rfl⟩
  have hb0 : Below w.heap.size w W0 := by rw [← hW0]; exact (Below.refl _ _).alloc (Nat.le_refl _) _
  have hx0 : W0.heap[w.heap.size]? = some (.cells fmZ0 164 (0, 0)) := by rw [← hW0]; exact (MapKept.heap_alloc w _).1
  have HT := Lib.hid ht; have HB0 := Lib.hid hb0; have HX0 := Lib.hid hx0; have HW0 := Lib.hid hW0
  clear ht hb0 hx0 hW0
  go_enter Tryz.func147, Tryz.ntmps147
  go_wp2_with fail
  rw [HW0.out]
  refine (forms_any _).mono ?_
  rintro e w1 ⟨rfl, hw1⟩
  have hb1 : Below W0.heap.size W0 w1 := by rw [hw1]; exact (Below.refl _ _).alloc (Nat.le_refl _) _
  have hx1 : w1.heap[W0.heap.size]? = some (.cells fmCells 164 (0, 0)) := by rw [hw1]; exact (MapKept.heap_alloc W0 _).1
  have HX1 := Lib.hid hx1; have HX2 := Lib.hid (below_heap hb1 (heap_lt HX0.out) HX0.out); have HB1 := Lib.hid (HB0.out.trans (hb1.mono HB0.out.size))
  clear hw1 hb1 hx1 HX0 HB0 HW0
  obtain ⟨B, hB⟩ : ∃ B, W0.heap.size = B := ⟨_, rfl⟩
  rw [hB] at HX1 ⊢
  clear hB
  go_wp2_with fail
  go_loopw [8] (fun i wr => ∃ (j : Nat), j ≤ 5 ∧ i = .int .i64 j ∧ (∀ m, 1 ≤ m → m < j + 1 → p m = false) ∧ Below w1.heap.size w1 wr)
    (fun i _ => 5 - (intOf i).toNat)
  case atStart => exact ⟨0, Nat.zero_le _, rfl, fun m h1 h2 => by omega, Below.refl _ _⟩
  case round =>
    obtain ⟨j, hj, rfl, hp, hb⟩ := hrel
    have HP := Lib.hid hp; have HB := Lib.hid hb; clear hp hb
    have hx := below_heap HB.out (heap_lt HX1.out) HX1.out
    have hy := below_heap HB.out (heap_lt HX2.out) HX2.out
    by_cases hlt : (j : Int) < 5
    · obtain ⟨c0, c1, c2, c3⟩ := fmCells_at hx (j := j) (by omega)
      have hbB := heap_lt hx
      have hbw := heap_lt hy
      have hV : fmV (j + 1) = .agg #[.int .i64 ((j + 1 : Nat) : Int), .string (wd (j + 1)), fnv (fmTk (j + 1)), fnv (fmRn (j + 1))] := rfl
      obtain ⟨x0, h0⟩ : ∃ u : Int, ((j + 1 : Nat) : Int) = u := ⟨_, rfl⟩
      obtain ⟨s1, h1⟩ : ∃ u, wd (j + 1) = u := ⟨_, rfl⟩
      obtain ⟨q2, h2⟩ : ∃ u, fmTk (j + 1) = u := ⟨_, rfl⟩
      obtain ⟨q3, h3⟩ : ∃ u, fmRn (j + 1) = u := ⟨_, rfl⟩
      rw [h0] at c0; rw [h1] at c1; rw [h2] at c2; rw [h3] at c3; rw [h0, h1, h2, h3] at hV
      replace c2 : _ = some (Value.func (.func q2) #[] #[]) := c2
      replace c3 : _ = some (Value.func (.func q3) #[] #[]) := c3
      replace hV : fmV (j + 1) = .agg #[.int .i64 x0, .string s1, .func (.func q2) #[] #[], .func (.func q3) #[] #[]] := hV
      have HV := Lib.hid hV
      have hba : Below wr.heap.size wr (wr.alloc (.cells #[.int .i64 x0, .string s1, .func (.func q2) #[] #[], .func (.func q3) #[] #[]] 164)) := (Below.refl _ _).alloc (Nat.le_refl _) _
      have HC := Lib.hid (hV ▸ HT.out (j + 1) (wr.alloc (.cells #[.int .i64 x0, .string s1, .func (.func q2) #[] #[], .func (.func q3) #[] #[]] 164)) (by omega) (by omega) ((HB1.out.trans (HB.out.mono HB1.out.size)).trans (hba.mono (by have := HB1.out.size; have := HB.out.size; omega))))
      have HX := Lib.hid hx; have HY := Lib.hid hy
      have HBA := Lib.hid hba
      have HN := Lib.hid (MapKept.heap_alloc wr (.cells #[.int .i64 x0, .string s1, .func (.func q2) #[] #[], .func (.func q3) #[] #[]] 164)).1
      clear hV h0 h1 h2 h3 hba hx hy
      cases hpj : p (j + 1) with
      | true =>
        have HRES := Lib.hid (show fmRes (fstP p) = .tuple #[.agg #[.int .i64 x0, .string s1, .func (.func q2) #[] #[], .func (.func q3) #[] #[]], .bool true] by
          rw [fstP_at (k := j + 1) (by omega) (by omega) hpj (fun m h1 h2 => HP.out m h1 h2), fmRes, if_neg (by omega), HV.out])
        rw [hpj] at HC
        clear hpj
        go_wp2_with fail
        refine HC.out.mono ?_
        rintro e w2 ⟨rfl, hb2⟩
        have HB2 := Lib.hid (HB.out.trans ((HBA.out.trans (hb2.mono HBA.out.size)).mono HB.out.size))
        have hn := below_heap hb2 (heap_lt HN.out) HN.out
        have hy2 := below_heap HB2.out (heap_lt HX2.out) HX2.out
        have d0 := box_cell hn (j := 0) rfl
        have d1 := box_cell hn (j := 1) rfl
        have d2 := box_cell hn (j := 2) rfl
        have d3 := box_cell hn (j := 3) rfl
        have e0 := box_cell hy2 (j := 0) rfl
        have e1 := box_cell hy2 (j := 1) rfl
        have e2 := box_cell hy2 (j := 2) rfl
        have e3 := box_cell hy2 (j := 3) rfl
        have z0 := box_frz hy2 0
        have z1 := box_frz hy2 1
        have z2 := box_frz hy2 2
        have z3 := box_frz hy2 3
        have h1 := heap_one (o := 0) hy2 (.int .i64 x0)
        replace h1 := heap_one (o := 1) h1 (.string s1)
        replace h1 := heap_one (o := 2) h1 (.func (.func q2) #[] #[])
        replace h1 := heap_one (o := 3) h1 (.func (.func q3) #[] #[])
        have f0 := box_cell h1 (j := 0) rfl
        have f1 := box_cell h1 (j := 1) rfl
        have f2 := box_cell h1 (j := 2) rfl
        have f3 := box_cell h1 (j := 3) rfl
        have HFB := Lib.hid (bl_four (HB1.out.trans (HB2.out.mono HB1.out.size)) (.int .i64 x0) (.string s1) (.func (.func q2) #[] #[]) (.func (.func q3) #[] #[]))
        clear hn hy2 h1 hb2 c0 c1 c2 c3
        go_wp2_with fail
        refine bodyPost_ret (v := .tuple #[.agg #[.int .i64 x0, .string s1, .func (.func q2) #[] #[], .func (.func q3) #[] #[]], .bool true]) (by simp [results, Tryz.results147, go_sem, f0, f1, f2, f3]) rfl ?_
        exact ⟨by rw [HRES.out], HFB.out⟩
      | false =>
        have HP2 := Lib.hid (show ∀ m, 1 ≤ m → m < j + 1 + 1 → p m = false from fun m h1 h2 => by
          by_cases e : m = j + 1
          · rw [e]; exact hpj
          · exact HP.out m h1 (by omega))
        rw [hpj] at HC
        clear hpj
        go_wp2_with fail
        refine HC.out.mono ?_
        rintro e w2 ⟨rfl, hb2⟩
        have HB2 := Lib.hid (HB.out.trans ((HBA.out.trans (hb2.mono HBA.out.size)).mono HB.out.size))
        clear hb2 c0 c1 c2 c3
        go_wp2_with fail
        go_roundw
        case rel => exact ⟨j + 1, by omega, by go_num, HP2.out, HB2.out⟩
        case measure => simp [intOf]; omega
    · have hj5 : j = 5 := by omega
      subst hj5
      have HRES := Lib.hid (show fmRes (fstP p) = .tuple #[fmZ, .bool false] by rw [fstP_no fun m h1 h2 => HP.out m h1 h2, fmRes, if_pos rfl])
      have e0 := box_cell hy (j := 0) rfl
      have e1 := box_cell hy (j := 1) rfl
      have e2 := box_cell hy (j := 2) rfl
      have e3 := box_cell hy (j := 3) rfl
      have z0 := box_frz hy 0
      have z1 := box_frz hy 1
      have z2 := box_frz hy 2
      have z3 := box_frz hy 3
      have h1 := heap_one (o := 0) hy (.int .i64 0)
      replace h1 := heap_one (o := 1) h1 (.string ⟨#[]⟩)
      replace h1 := heap_one (o := 2) h1 .nilFunc
      replace h1 := heap_one (o := 3) h1 .nilFunc
      have f0 := box_cell h1 (j := 0) rfl
      have f1 := box_cell h1 (j := 1) rfl
      have f2 := box_cell h1 (j := 2) rfl
      have f3 := box_cell h1 (j := 3) rfl
      have HFB := Lib.hid (bl_four (HB1.out.trans (HB.out.mono HB1.out.size)) (.int .i64 0) (.string ⟨#[]⟩) .nilFunc .nilFunc)
      clear hx hy h1
      go_wp2_with fail
      refine bodyPost_ret (v := .tuple #[fmZ, .bool false]) (by simp [results, Tryz.results147, go_sem, f0, f1, f2, f3]) rfl ?_
      exact ⟨by rw [HRES.out], HFB.out⟩

end Go.Proofs.YtpkicliimhflgaaGreatDoor
namespace Go.Proofs.YtpkicliimhflgaaGreatDoor
open Go.ChangeShapes Go.WideShapes Go.ChangeAt Go.RowKit

/-- The Op as a place in the table; 0 if it is none. -/
def opN (op : Int) : Nat := if 1 ≤ op ∧ op ≤ 5 then op.toNat else 0
theorem opN_le (op : Int) : opN op ≤ 5 := by unfold opN; split <;> omega
theorem opN_yes {op : Int} (h : 1 ≤ op ∧ op ≤ 5) : opN op = op.toNat := by unfold opN; rw [if_pos h]
theorem opN_no {op : Int} (h : ¬ (1 ≤ op ∧ op ≤ 5)) : opN op = 0 := by unfold opN; rw [if_neg h]
theorem fst_op (op : Int) : fstP (fun m => (m : Int) == op) = opN op := by
  by_cases h : 1 ≤ op ∧ op ≤ 5
  · rw [opN_yes h]
    exact fstP_at (by omega) (by omega) (beq_iff_eq.2 (by omega)) fun j h1 h2 => beq_eq_false_iff_ne.2 (by omega)
  · rw [opN_no h]
    exact fstP_no fun j h1 h2 => beq_eq_false_iff_ne.2 (by omega)
theorem fst_word (a : ByteArray) : fstP (fun m => (wd m).toList == a.toList) = wdN a := by
  by_cases h : 1 ≤ wdN a
  · have hw := wdN_is (w := a) rfl h
    refine fstP_at h (wdN_le a) (beqL_yes hw.symm) fun j h1 h2 => beqL_no fun e => ?_
    have := wdN_of j h1 (by have := wdN_le a; omega)
    rw [e] at this; omega
  · rw [show wdN a = 0 by omega]
    refine fstP_no fun j h1 h2 => beqL_no fun e => ?_
    have := wdN_of j h1 (by omega)
    rw [e] at this; omega
/-- The values of a row, by letters. -/
theorem res_form {m : Nat} (h : m ≠ 0) : fmRes m = .tuple #[.agg #[.int .i64 (m : Int), .string (wd m), .func (.func (fmTk m)) #[] #[], .func (.func (fmRn m)) #[] #[]], .bool true] := by unfold fmRes; rw [if_neg h]; rfl
theorem res_zero : fmRes 0 = .tuple #[fmZ, .bool false] := rfl
theorem bl_fourS {w w' : World} (h : Below w.heap.size w w') (u v x y : Value) : Below w.heap.size w ((((w'.setCell ⟨w.heap.size + 1, 0, none⟩ u).setCell ⟨w.heap.size + 1, 1, none⟩ v).setCell ⟨w.heap.size + 1, 2, none⟩ x).setCell ⟨w.heap.size + 1, 3, none⟩ y) :=
  (((h.setCell (Nat.le_succ _) u).setCell (Nat.le_succ _) v).setCell (Nat.le_succ _) x).setCell (Nat.le_succ _) y

set_option maxRecDepth 100000 in
set_option maxHeartbeats 2000000 in
theorem fop_any (op : Int) (w : World) :
    Calls Tryz.prog 114 #[.int .i64 op] w fun e w' => e = .returned (fmRes (opN op)) ∧ Below w.heap.size w w' := by
  have hmf : ∀ (fn : Fn) (first cap : Array Value) (w : World), (Instr.makeFunc fn first cap).run Tryz.prog w = .ok (.func fn first cap) w := fun _ _ _ _ => rfl
  obtain ⟨W0, hW0⟩ : ∃ W, (w.alloc (.cells #[.int .i64 op] 3)).alloc (.cells fmZ0 164) = W := ⟨_, rfl⟩
  have hb1 : Below w.heap.size w (w.alloc (.cells #[.int .i64 op] 3)) := (Below.refl _ _).alloc (Nat.le_refl _) _
  have hb2 : Below (w.alloc (.cells #[.int .i64 op] 3)).heap.size (w.alloc (.cells #[.int .i64 op] 3)) W0 := by rw [← hW0]; exact (Below.refl _ _).alloc (Nat.le_refl _) _
  have hb0 : Below w.heap.size w W0 := hb1.trans (hb2.mono (by rw [size_alloc]; omega))
  have hx0 : W0.heap[w.heap.size]? = some (.cells #[.int .i64 op] 3 (0, 0)) := below_heap hb2 (by rw [size_alloc]; omega) (MapKept.heap_alloc w _).1
  have hx1 : W0.heap[w.heap.size + 1]? = some (.cells fmZ0 164 (0, 0)) := by
    rw [← hW0, ← size_alloc w (.cells #[.int .i64 op] 3)]; exact (MapKept.heap_alloc _ _).1
  have hT : TestF 148 (.pointer (some ⟨w.heap.size, 0, none⟩)) (fun m => (m : Int) == op) W0 := fun m W _ _ hb => clo_op m op w.heap.size W ((hb.cell (heap_lt hx0)).trans (box_cell hx0 rfl))
  have HF := Lib.hid (fst_op op ▸ find_op (.pointer (some ⟨w.heap.size, 0, none⟩)) _ W0 hT)
  have HX := Lib.hid hx1; have HB := Lib.hid hb0; have HW0 := Lib.hid hW0
  obtain ⟨m, hm⟩ : ∃ m, opN op = m := ⟨_, rfl⟩
  rw [hm] at HF ⊢
  clear hb1 hb2 hb0 hx0 hx1 hT hW0 hm
  go_enter Tryz.func114, Tryz.ntmps114
  go_wp2_with fail
  rw [HW0.out]
  refine HF.out.mono ?_
  rintro e w1 ⟨rfl, hb1⟩
  have hy := below_heap hb1 (heap_lt HX.out) HX.out
  have HB1 := Lib.hid (HB.out.trans (hb1.mono HB.out.size)); clear hb1
  have e0 := box_cell hy (j := 0) rfl
  have e1 := box_cell hy (j := 1) rfl
  have e2 := box_cell hy (j := 2) rfl
  have e3 := box_cell hy (j := 3) rfl
  have z0 := box_frz hy 0
  have z1 := box_frz hy 1
  have z2 := box_frz hy 2
  have z3 := box_frz hy 3
  by_cases h0 : m = 0
  · subst h0
    rw [res_zero]
    have h1 := heap_one (o := 0) hy (.int .i64 0)
    replace h1 := heap_one (o := 1) h1 (.string ⟨#[]⟩)
    replace h1 := heap_one (o := 2) h1 .nilFunc
    replace h1 := heap_one (o := 3) h1 .nilFunc
    have f0 := box_cell h1 (j := 0) rfl
    have f1 := box_cell h1 (j := 1) rfl
    have f2 := box_cell h1 (j := 2) rfl
    have f3 := box_cell h1 (j := 3) rfl
    have HFB := Lib.hid (bl_fourS HB1.out (.int .i64 0) (.string ⟨#[]⟩) .nilFunc .nilFunc)
    clear hy h1
    go_wp2_with fail
    refine bodyPost_ret (v := .tuple #[fmZ, .bool false]) (by simp [results, Tryz.results114, go_sem, f0, f1, f2, f3]) rfl ?_
    exact ⟨rfl, HFB.out⟩
  · have HRES := Lib.hid (res_form h0)
    rw [res_form h0]
    obtain ⟨x0, h0'⟩ : ∃ u : Int, (m : Int) = u := ⟨_, rfl⟩
    obtain ⟨s1, h1'⟩ : ∃ u, wd m = u := ⟨_, rfl⟩
    obtain ⟨q2, h2'⟩ : ∃ u, fmTk m = u := ⟨_, rfl⟩
    obtain ⟨q3, h3'⟩ : ∃ u, fmRn m = u := ⟨_, rfl⟩
    rw [h0', h1', h2', h3'] at HRES ⊢
    clear h0' h1' h2' h3' h0 HF
    have h1 := heap_one (o := 0) hy (.int .i64 x0)
    replace h1 := heap_one (o := 1) h1 (.string s1)
    replace h1 := heap_one (o := 2) h1 (.func (.func q2) #[] #[])
    replace h1 := heap_one (o := 3) h1 (.func (.func q3) #[] #[])
    have f0 := box_cell h1 (j := 0) rfl
    have f1 := box_cell h1 (j := 1) rfl
    have f2 := box_cell h1 (j := 2) rfl
    have f3 := box_cell h1 (j := 3) rfl
    have HFB := Lib.hid (bl_fourS HB1.out (.int .i64 x0) (.string s1) (.func (.func q2) #[] #[]) (.func (.func q3) #[] #[]))
    clear hy h1
    go_wp2_with fail
    refine bodyPost_ret (v := .tuple #[.agg #[.int .i64 x0, .string s1, .func (.func q2) #[] #[], .func (.func q3) #[] #[]], .bool true]) (by simp [results, Tryz.results114, go_sem, f0, f1, f2, f3]) rfl ?_
    exact ⟨by rw [HRES.out], HFB.out⟩

end Go.Proofs.YtpkicliimhflgaaGreatDoor
namespace Go.Proofs.YtpkicliimhflgaaGreatDoor
open Go.ChangeShapes Go.WideShapes Go.ChangeAt Go.RowKit

theorem text_any (s : ByteArray) (w : World) :
    Calls Tryz.prog 177 #[.string s] w fun e w' => e = .returned (.bool (decide ((s.size : Int) ≤ 60))) ∧ w = w' := by
  go_enter Tryz.func177, Tryz.ntmps177
  go_wp2
  go_ret
  exact ⟨rfl, rfl⟩
/-- What parseLine returns. -/
def lnV : Option Lnv → Value
  | some x => .tuple #[.agg #[.int .i64 x.1, .string x.2], .bool true]
  | none => .tuple #[.agg #[.int .i64 0, .string ⟨#[]⟩], .bool false]
theorem bl_ln {w w' : World} (h : Below w.heap.size w w') (u v : Value) : Below w.heap.size w ((w'.setCell ⟨w.heap.size, 0, none⟩ u).setCell ⟨w.heap.size, 1, none⟩ v) := (h.setCell (Nat.le_refl _) u).setCell (Nat.le_refl _) v
def isTxt (t : ByteArray) : Bool := decide ((t.size : Int) ≤ 60)
theorem takes_txt {m : Nat} (h : m = 1 ∨ m = 5) (t : ByteArray) : takesB m t = isTxt t := by
  unfold takesB isTxt; rw [if_pos h]
  apply decide_eq_decide.2; omega
theorem takes_nm {m : Nat} (h : ¬ (m = 1 ∨ m = 5)) (t : ByteArray) : takesB m t = isNm t := by unfold takesB; rw [if_neg h]
theorem tk_txt {m : Nat} (h : m = 1 ∨ m = 5) : fmTk m = 177 := by unfold fmTk; rw [if_pos h]
theorem tk_nm {m : Nat} (h : ¬ (m = 1 ∨ m = 5)) : fmTk m = 98 := by unfold fmTk; rw [if_neg h]

end Go.Proofs.YtpkicliimhflgaaGreatDoor
namespace Go.Proofs.YtpkicliimhflgaaGreatDoor
open Go.ChangeShapes Go.WideShapes Go.ChangeAt Go.RowKit

theorem ReadsK.strS {hi n cap k : Nat} {w : World} {a : Option Addr} {xs : List ByteArray} {s : ByteArray} (h : ReadsK encS 1 hi w (.slice a n cap) xs) (hk : xs[k]? = some s) : ∃ g off, a = some ⟨g, off, none⟩ ∧ g < hi ∧ w.cell? ⟨g, off + k, none⟩ = some (.string s) := by
  obtain ⟨a', c', e, _, _, _, hc⟩ := h
  injection e with e1 e2 e3; subst e1
  rcases hc with h0 | ⟨g, off, rfl, hg, hc⟩
  · have := (List.getElem?_eq_some_iff.1 hk).1; omega
  · refine ⟨g, off, rfl, hg, ?_⟩
    have := hc k s hk 0 (by omega)
    rwa [Nat.mul_one] at this
theorem mineS_form {B : Nat} {w0 w : World} {v : Value} {xs : List ByteArray} (h : MineK encS 1 9 B w0 w v xs) : ∃ a c, v = .slice a xs.length c ∧ xs.length ≤ c ∧ c ≤ 9223372036854775807 := by
  obtain ⟨a, c, e, h1, h2, _⟩ := h.own.reads encS_len
  exact ⟨a, c, e, h1, h2⟩

end Go.Proofs.YtpkicliimhflgaaGreatDoor
namespace Go.Proofs.YtpkicliimhflgaaGreatDoor
open Go.ChangeShapes Go.WideShapes Go.ChangeAt Go.RowKit

/-- What ParseScript answers. -/
def ScForm (o : Option (List Lnv)) (X : World) (e : Ending) (w' : World) : Prop :=
  ∃ a n c, e = .returned (.tuple #[.slice a n c, .bool (scB o)]) ∧ MineK encL 2 51 X.heap.size X w' (.slice a n c) (scL o)
theorem sc_size {c : UInt8} {s p : ByteArray} (h : p ∈ splS c s.data.toList) : p.size ≤ s.size := by
  unfold splS at h
  obtain ⟨l, hl, rfl⟩ := List.mem_map.1 h
  have := splitB_piece hl
  rw [size_list] at this
  rw [ofL_size]; exact this
/-- What stands in the loop. -/
structure PL (w wr : World) (v : Value) (xs : List Lnv) (lo : Nat) (kv : Value) (N : List ByteArray) : Prop where
  m : MineK encL 2 51 w.heap.size w wr v xs
  k : OwnK encS 1 9 lo wr.heap.size wr kv N
theorem PL.later {w wr w' : World} {v kv : Value} {xs : List Lnv} {lo : Nat} {N : List ByteArray} (h : PL w wr v xs lo kv N) (hb : Below wr.heap.size wr w') : PL w w' v xs lo kv N :=
  ⟨h.m.later hb, (h.k.later hb).mono (Nat.le_refl _) hb.size⟩
theorem PL.app {w w1 w' : World} {v v' kv : Value} {xs xs' : List Lnv} {lo : Nat} {N : List ByteArray} (h : PL w w1 v xs lo kv N) (hm : MineK encL 2 51 w.heap.size w w' v' xs') (hg : w1.grownBy w' v.ownBlock) : PL w w' v' xs' lo kv N := by
  refine ⟨hm, ⟨h.k.1.kept hg ?_, fun g hb => Nat.lt_of_lt_of_le (h.k.2 g hb) hg.size⟩⟩
  cases hv : kv.ownBlock with
  | none => exact Or.inl rfl
  | some g =>
    right
    intro e
    exact rows_ne h.m.row h.k.1 ln_ne e.symm hv

end Go.Proofs.YtpkicliimhflgaaGreatDoor

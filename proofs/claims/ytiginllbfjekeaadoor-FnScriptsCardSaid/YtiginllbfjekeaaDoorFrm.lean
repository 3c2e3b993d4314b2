/- The program's table of the forms of lines, and its search in it. -/
import Derived.Test.YtiginllbfjekeaaDoorPl8
import Derived.Test.YtiginllbfjekeaaDoorStrLib
import Derived.Laws.EntriesVeiled
namespace Go.Proofs.YtiginllbfjekeaaDoor
open Go.ChangeShapes Go.WideShapes Go.ChangeAt Go.RowKit

def fnv (k : Nat) : Value := .func (.func k) #[] #[]
/-- What the table holds, a row each: op, word, the test, the run. -/
def fmTk (m : Nat) : Nat := if m = 1 ∨ m = 5 then 75 else 77
def fmRn : Nat → Nat
  | 1 => 76
  | 2 => 78
  | 3 => 79
  | 4 => 80
  | _ => 81
def fmRow (m : Nat) : List Value := [.int .i64 (m : Int), .string (wd m), fnv (fmTk m), fnv (fmRn m)]
def fmCells : Array Value := (fmRow 1 ++ fmRow 2 ++ fmRow 3 ++ fmRow 4 ++ fmRow 5).toArray
abbrev fmZ0 : Array Value := #[.int .i64 0, .string ⟨#[]⟩, .nilFunc, .nilFunc]
abbrev fmZ : Value := .agg fmZ0
/-- The form with this Op as a value; none: the zero form. -/
def fmV (m : Nat) : Value := .agg (fmRow m).toArray

theorem forms_any (w : World) : Calls Tryd.prog 67 #[] w fun e w' => e = .returned (.slice (some ⟨w.heap.size, 0, none⟩) 5 5) ∧ w' = w.alloc (.cells fmCells 70) := by
  go_enter Tryd.func67, Tryd.ntmps67
  go_wp2
  go_ret
  exact ⟨rfl, rfl⟩

theorem bl_four {w w' : World} (h : Below w.heap.size w w') (u v x y : Value) : Below w.heap.size w ((((w'.setCell ⟨w.heap.size, 0, none⟩ u).setCell ⟨w.heap.size, 1, none⟩ v).setCell ⟨w.heap.size, 2, none⟩ x).setCell ⟨w.heap.size, 3, none⟩ y) :=
  (((h.setCell (Nat.le_refl _) u).setCell (Nat.le_refl _) v).setCell (Nat.le_refl _) x).setCell (Nat.le_refl _) y
theorem fmV_form (m : Nat) : fmV m = .agg #[.int .i64 (m : Int), .string (wd m), fnv (fmTk m), fnv (fmRn m)] := rfl
set_option maxHeartbeats 1000000 in
theorem clo_op (m : Nat) (op : Int) (b : Nat) (w : World) (hc : w.cell? ⟨b, 0, none⟩ = some (.int .i64 op)) :
    Calls Tryd.prog 60 #[fmV m, .pointer (some ⟨b, 0, none⟩)] w fun e w' => e = .returned (.bool ((m : Int) == op)) ∧ Below w.heap.size w w' := by
  have HB := Lib.hid (((Below.refl w.heap.size w).alloc (Nat.le_refl _) (.cells #[.int .i64 (m : Int), .string (wd m), fnv (fmTk m), fnv (fmRn m)] 70)))
  have hlt := World.block_lt_of_cell? _ _ hc
  obtain ⟨u1, hu1⟩ : ∃ u, wd m = u := ⟨_, rfl⟩
  obtain ⟨u2, hu2⟩ : ∃ u, fnv (fmTk m) = u := ⟨_, rfl⟩
  obtain ⟨u3, hu3⟩ : ∃ u, fnv (fmRn m) = u := ⟨_, rfl⟩
  rw [fmV_form]
  rw [hu1, hu2, hu3] at HB ⊢
  clear hu1 hu2 hu3
  go_enter Tryd.func60, Tryd.ntmps60
  go_wp2
  go_ret
  exact ⟨rfl, HB.out⟩

set_option maxHeartbeats 1000000 in
theorem clo_word (m : Nat) (a : ByteArray) (b : Nat) (w : World) (hc : w.cell? ⟨b, 0, none⟩ = some (.string a)) :
    Calls Tryd.prog 59 #[fmV m, .pointer (some ⟨b, 0, none⟩)] w fun e w' => e = .returned (.bool ((wd m).toList == a.toList)) ∧ Below w.heap.size w w' := by
  have HB := Lib.hid (((Below.refl w.heap.size w).alloc (Nat.le_refl _) (.cells #[.int .i64 (m : Int), .string (wd m), fnv (fmTk m), fnv (fmRn m)] 70)))
  have hlt := World.block_lt_of_cell? _ _ hc
  obtain ⟨u1, hu1⟩ : ∃ u, wd m = u := ⟨_, rfl⟩
  obtain ⟨u2, hu2⟩ : ∃ u, fnv (fmTk m) = u := ⟨_, rfl⟩
  obtain ⟨u3, hu3⟩ : ∃ u, fnv (fmRn m) = u := ⟨_, rfl⟩
  rw [fmV_form]
  rw [hu1, hu2, hu3] at HB ⊢
  clear hu1 hu2 hu3
  go_enter Tryd.func59, Tryd.ntmps59
  go_wp2
  go_ret
  exact ⟨rfl, HB.out⟩

/-- The first of five that passes; 0 if none does. -/
def fstP (p : Nat → Bool) : Nat := if p 1 = true then 1 else if p 2 = true then 2 else if p 3 = true then 3 else if p 4 = true then 4 else if p 5 = true then 5 else 0
theorem fstP_at {p : Nat → Bool} {k : Nat} (h1 : 1 ≤ k) (h5 : k ≤ 5) (hk : p k = true) (hb : ∀ j, 1 ≤ j → j < k → p j = false) : fstP p = k := by
  unfold fstP
  rcases (show k = 1 ∨ k = 2 ∨ k = 3 ∨ k = 4 ∨ k = 5 by omega) with rfl | rfl | rfl | rfl | rfl
  · rw [if_pos hk]
  · rw [if_neg (by rw [hb 1 (by omega) (by omega)]; decide), if_pos hk]
  · rw [if_neg (by rw [hb 1 (by omega) (by omega)]; decide), if_neg (by rw [hb 2 (by omega) (by omega)]; decide), if_pos hk]
  · rw [if_neg (by rw [hb 1 (by omega) (by omega)]; decide), if_neg (by rw [hb 2 (by omega) (by omega)]; decide), if_neg (by rw [hb 3 (by omega) (by omega)]; decide), if_pos hk]
  · rw [if_neg (by rw [hb 1 (by omega) (by omega)]; decide), if_neg (by rw [hb 2 (by omega) (by omega)]; decide), if_neg (by rw [hb 3 (by omega) (by omega)]; decide), if_neg (by rw [hb 4 (by omega) (by omega)]; decide), if_pos hk]
theorem fstP_no {p : Nat → Bool} (hb : ∀ j, 1 ≤ j → j < 6 → p j = false) : fstP p = 0 := by
  unfold fstP
  rw [if_neg (by rw [hb 1 (by omega) (by omega)]; decide), if_neg (by rw [hb 2 (by omega) (by omega)]; decide), if_neg (by rw [hb 3 (by omega) (by omega)]; decide), if_neg (by rw [hb 4 (by omega) (by omega)]; decide), if_neg (by rw [hb 5 (by omega) (by omega)]; decide)]
theorem fstP_le (p : Nat → Bool) : fstP p ≤ 5 := by unfold fstP; repeat' split <;> try omega
/-- What the search returns. -/
def fmRes (m : Nat) : Value := if m = 0 then .tuple #[fmZ, .bool false] else .tuple #[fmV m, .bool true]
theorem fmCells_at {w : World} {b : Nat} {f : Nat × Nat} (h : w.heap[b]? = some (.cells fmCells 70 f)) {j : Nat} (hj : j < 5) :
    w.cell? ⟨b, j * 4, none⟩ = some (.int .i64 ((j + 1 : Nat) : Int)) ∧ w.cell? ⟨b, j * 4 + 1, none⟩ = some (.string (wd (j + 1))) ∧ w.cell? ⟨b, j * 4 + 2, none⟩ = some (fnv (fmTk (j + 1))) ∧ w.cell? ⟨b, j * 4 + 3, none⟩ = some (fnv (fmRn (j + 1))) := by
  unfold World.cell?
  rw [h]
  rcases (show j = 0 ∨ j = 1 ∨ j = 2 ∨ j = 3 ∨ j = 4 by omega) with rfl | rfl | rfl | rfl | rfl <;> exact ⟨rfl, rfl, rfl, rfl⟩
/-- What the search's caller hands in: a test on rows, above memory that is kept. -/
def TestF (k : Nat) (cap : Value) (p : Nat → Bool) (w : World) : Prop :=
  ∀ m W, 1 ≤ m → m ≤ 5 → Below w.heap.size w W → Calls Tryd.prog k #[fmV m, cap] W fun e w' => e = .returned (.bool (p m)) ∧ Below W.heap.size W w'

set_option maxRecDepth 100000 in
set_option maxHeartbeats 4000000 in
theorem find_op (cap : Value) (p : Nat → Bool) (w : World) (ht : TestF 60 cap p w) :
    Calls Tryd.prog 58 #[.func (.func 60) #[] #[cap]] w fun e w' => e = .returned (fmRes (fstP p)) ∧ Below w.heap.size w w' := by
  obtain ⟨W0, hW0⟩ : ∃ W, w.alloc (.cells fmZ0 70) = W := ⟨_, rfl⟩
  have hb0 : Below w.heap.size w W0 := by rw [← hW0]; exact (Below.refl _ _).alloc (Nat.le_refl _) _
  have hx0 : W0.heap[w.heap.size]? = some (.cells fmZ0 70 (0, 0)) := by rw [← hW0]; exact (MapKept.heap_alloc w _).1
  have HT := Lib.hid ht; have HB0 := Lib.hid hb0; have HX0 := Lib.hid hx0; have HW0 := Lib.hid hW0
  clear ht hb0 hx0 hW0
  go_enter Tryd.func58, Tryd.ntmps58
  go_wp2_with fail
  rw [HW0.out]
  refine (forms_any _).mono ?_
  rintro e w1 ⟨rfl, hw1⟩
  have hb1 : Below W0.heap.size W0 w1 := by rw [hw1]; exact (Below.refl _ _).alloc (Nat.le_refl _) _
  have hx1 : w1.heap[W0.heap.size]? = some (.cells fmCells 70 (0, 0)) := by rw [hw1]; exact (MapKept.heap_alloc W0 _).1
  have HX1 := Lib.hid hx1; have HX2 := Lib.hid (below_heap hb1 (heap_lt HX0.out) HX0.out); have HB1 := Lib.hid (HB0.out.trans (hb1.mono HB0.out.size))
  clear hw1 hb1 hx1 HX0 HB0 HW0
  obtain ⟨B, hB⟩ : ∃ B, W0.heap.size = B := ⟨_, rfl⟩
  rw [hB] at HX1 ⊢
  clear hB
  go_wp2_with fail
  go_loopw [8] (fun i wr => ∃ (j : Nat), j ≤ 5 ∧ i = .int .i64 j ∧ (∀ m, 1 ≤ m → m < j + 1 → p m = false) ∧ Below w1.heap.size w1 wr)
    (fun i _ => 5 - (intOf i).toNat)
  case atStart => exact ⟨0, Nat.zero_le _, rfl, fun m h1 h2 => by omega, Below.refl _ _⟩
  case round =>
    obtain ⟨j, hj, rfl, hp, hb⟩ := hrel
    have HP := Lib.hid hp; have HB := Lib.hid hb; clear hp hb
    have hx := below_heap HB.out (heap_lt HX1.out) HX1.out
    have hy := below_heap HB.out (heap_lt HX2.out) HX2.out
    by_cases hlt : (j : Int) < 5
    · obtain ⟨c0, c1, c2, c3⟩ := fmCells_at hx (j := j) (by omega)
      have hbB := heap_lt hx
      have hbw := heap_lt hy
      have hV : fmV (j + 1) = .agg #[.int .i64 ((j + 1 : Nat) : Int), .string (wd (j + 1)), fnv (fmTk (j + 1)), fnv (fmRn (j + 1))] := rfl
      obtain ⟨x0, h0⟩ : ∃ u : Int, ((j + 1 : Nat) : Int) = u := ⟨_, rfl⟩
      obtain ⟨s1, h1⟩ : ∃ u, wd (j + 1) = u := ⟨_, rfl⟩
      obtain ⟨q2, h2⟩ : ∃ u, fmTk (j + 1) = u := ⟨_, rfl⟩
      obtain ⟨q3, h3⟩ : ∃ u, fmRn (j + 1) = u := ⟨_, rfl⟩
      rw [h0] at c0; rw [h1] at c1; rw [h2] at c2; rw [h3] at c3; rw [h0, h1, h2, h3] at hV
      replace c2 : _ = some (Value.func (.func q2) #[] #[]) := c2
      replace c3 : _ = some (Value.func (.func q3) #[] #[]) := c3
      replace hV : fmV (j + 1) = .agg #[.int .i64 x0, .string s1, .func (.func q2) #[] #[], .func (.func q3) #[] #[]] := hV
      have HV := Lib.hid hV
      have hba : Below wr.heap.size wr (wr.alloc (.cells #[.int .i64 x0, .string s1, .func (.func q2) #[] #[], .func (.func q3) #[] #[]] 70)) := (Below.refl _ _).alloc (Nat.le_refl _) _
      have HC := Lib.hid (hV ▸ HT.out (j + 1) (wr.alloc (.cells #[.int .i64 x0, .string s1, .func (.func q2) #[] #[], .func (.func q3) #[] #[]] 70)) (by omega) (by omega) ((HB1.out.trans (HB.out.mono HB1.out.size)).trans (hba.mono (by have := HB1.out.size; have := HB.out.size; omega))))
      have HX := Lib.hid hx; have HY := Lib.hid hy
      have HBA := Lib.hid hba
      have HN := Lib.hid (MapKept.heap_alloc wr (.cells #[.int .i64 x0, .string s1, .func (.func q2) #[] #[], .func (.func q3) #[] #[]] 70)).1
      clear hV h0 h1 h2 h3 hba hx hy
      cases hpj : p (j + 1) with
      | true =>
        have HRES := Lib.hid (show fmRes (fstP p) = .tuple #[.agg #[.int .i64 x0, .string s1, .func (.func q2) #[] #[], .func (.func q3) #[] #[]], .bool true] by
          rw [fstP_at (k := j + 1) (by omega) (by omega) hpj (fun m h1 h2 => HP.out m h1 h2), fmRes, if_neg (by omega), HV.out])
        rw [hpj] at HC
        clear hpj
        go_wp2_with fail
        refine HC.out.mono ?_
        rintro e w2 ⟨rfl, hb2⟩
        have HB2 := Lib.hid (HB.out.trans ((HBA.out.trans (hb2.mono HBA.out.size)).mono HB.out.size))
        have hn := below_heap hb2 (heap_lt HN.out) HN.out
        have hy2 := below_heap HB2.out (heap_lt HX2.out) HX2.out
        have d0 := box_cell hn (j := 0) rfl
        have d1 := box_cell hn (j := 1) rfl
        have d2 := box_cell hn (j := 2) rfl
        have d3 := box_cell hn (j := 3) rfl
        have e0 := box_cell hy2 (j := 0) rfl
        have e1 := box_cell hy2 (j := 1) rfl
        have e2 := box_cell hy2 (j := 2) rfl
        have e3 := box_cell hy2 (j := 3) rfl
        have z0 := box_frz hy2 0
        have z1 := box_frz hy2 1
        have z2 := box_frz hy2 2
        have z3 := box_frz hy2 3
        have h1 := heap_one (o := 0) hy2 (.int .i64 x0)
        replace h1 := heap_one (o := 1) h1 (.string s1)
        replace h1 := heap_one (o := 2) h1 (.func (.func q2) #[] #[])
        replace h1 := heap_one (o := 3) h1 (.func (.func q3) #[] #[])
        have f0 := box_cell h1 (j := 0) rfl
        have f1 := box_cell h1 (j := 1) rfl
        have f2 := box_cell h1 (j := 2) rfl
        have f3 := box_cell h1 (j := 3) rfl
        have HFB := Lib.hid (bl_four (HB1.out.trans (HB2.out.mono HB1.out.size)) (.int .i64 x0) (.string s1) (.func (.func q2) #[] #[]) (.func (.func q3) #[] #[]))
        clear hn hy2 h1 hb2 c0 c1 c2 c3
        go_wp2_with fail
        refine bodyPost_ret (v := .tuple #[.agg #[.int .i64 x0, .string s1, .func (.func q2) #[] #[], .func (.func q3) #[] #[]], .bool true]) (by simp [results, Tryd.results58, go_sem, f0, f1, f2, f3]) rfl ?_
        exact ⟨by rw [HRES.out], HFB.out⟩
      | false =>
        have HP2 := Lib.hid (show ∀ m, 1 ≤ m → m < j + 1 + 1 → p m = false from fun m h1 h2 => by
          by_cases e : m = j + 1
          · rw [e]; exact hpj
          · exact HP.out m h1 (by omega))
        rw [hpj] at HC
        clear hpj
        go_wp2_with fail
        refine HC.out.mono ?_
        rintro e w2 ⟨rfl, hb2⟩
        have HB2 := Lib.hid (HB.out.trans ((HBA.out.trans (hb2.mono HBA.out.size)).mono HB.out.size))
        clear hb2 c0 c1 c2 c3
        go_wp2_with fail
        go_roundw
        case rel => exact ⟨j + 1, by omega, by go_num, HP2.out, HB2.out⟩
        case measure => simp [intOf]; omega
    · have hj5 : j = 5 := by omega
      subst hj5
      have HRES := Lib.hid (show fmRes (fstP p) = .tuple #[fmZ, .bool false] by rw [fstP_no fun m h1 h2 => HP.out m h1 h2, fmRes, if_pos rfl])
      have e0 := box_cell hy (j := 0) rfl
      have e1 := box_cell hy (j := 1) rfl
      have e2 := box_cell hy (j := 2) rfl
      have e3 := box_cell hy (j := 3) rfl
      have z0 := box_frz hy 0
      have z1 := box_frz hy 1
      have z2 := box_frz hy 2
      have z3 := box_frz hy 3
      have h1 := heap_one (o := 0) hy (.int .i64 0)
      replace h1 := heap_one (o := 1) h1 (.string ⟨#[]⟩)
      replace h1 := heap_one (o := 2) h1 .nilFunc
      replace h1 := heap_one (o := 3) h1 .nilFunc
      have f0 := box_cell h1 (j := 0) rfl
      have f1 := box_cell h1 (j := 1) rfl
      have f2 := box_cell h1 (j := 2) rfl
      have f3 := box_cell h1 (j := 3) rfl
      have HFB := Lib.hid (bl_four (HB1.out.trans (HB.out.mono HB1.out.size)) (.int .i64 0) (.string ⟨#[]⟩) .nilFunc .nilFunc)
      clear hx hy h1
      go_wp2_with fail
      refine bodyPost_ret (v := .tuple #[fmZ, .bool false]) (by simp [results, Tryd.results58, go_sem, f0, f1, f2, f3]) rfl ?_
      exact ⟨by rw [HRES.out], HFB.out⟩

set_option maxRecDepth 100000 in
set_option maxHeartbeats 4000000 in
theorem find_word (cap : Value) (p : Nat → Bool) (w : World) (ht : TestF 59 cap p w) :
    Calls Tryd.prog 58 #[.func (.func 59) #[] #[cap]] w fun e w' => e = .returned (fmRes (fstP p)) ∧ Below w.heap.size w w' := by
  obtain ⟨W0, hW0⟩ : ∃ W, w.alloc (.cells fmZ0 70) = W := ⟨_, rfl⟩
  have hb0 : Below w.heap.size w W0 := by rw [← hW0]; exact (Below.refl _ _).alloc (Nat.le_refl _) _
  have hx0 : W0.heap[w.heap.size]? = some (.cells fmZ0 70 (0, 0)) := by rw [← hW0]; exact (MapKept.heap_alloc w _).1
  have HT := Lib.hid ht; have HB0 := Lib.hid hb0; have HX0 := Lib.hid hx0; have HW0 := Lib.hid hW0
  clear ht hb0 hx0 hW0
  go_enter Tryd.func58, Tryd.ntmps58
  go_wp2_with fail
  rw [HW0.out]
  refine (forms_any _).mono ?_
  rintro e w1 ⟨rfl, hw1⟩
  have hb1 : Below W0.heap.size W0 w1 := by rw [hw1]; exact (Below.refl _ _).alloc (Nat.le_refl _) _
  have hx1 : w1.heap[W0.heap.size]? = some (.cells fmCells 70 (0, 0)) := by rw [hw1]; exact (MapKept.heap_alloc W0 _).1
  have HX1 := Lib.hid hx1; have HX2 := Lib.hid (below_heap hb1 (heap_lt HX0.out) HX0.out); have HB1 := Lib.hid (HB0.out.trans (hb1.mono HB0.out.size))
  clear hw1 hb1 hx1 HX0 HB0 HW0
  obtain ⟨B, hB⟩ : ∃ B, W0.heap.size = B := ⟨_, rfl⟩
  rw [hB] at HX1 ⊢
  clear hB
  go_wp2_with fail
  go_loopw [8] (fun i wr => ∃ (j : Nat), j ≤ 5 ∧ i = .int .i64 j ∧ (∀ m, 1 ≤ m → m < j + 1 → p m = false) ∧ Below w1.heap.size w1 wr)
    (fun i _ => 5 - (intOf i).toNat)
  case atStart => exact ⟨0, Nat.zero_le _, rfl, fun m h1 h2 => by omega, Below.refl _ _⟩
  case round =>
    obtain ⟨j, hj, rfl, hp, hb⟩ := hrel
    have HP := Lib.hid hp; have HB := Lib.hid hb; clear hp hb
    have hx := below_heap HB.out (heap_lt HX1.out) HX1.out
    have hy := below_heap HB.out (heap_lt HX2.out) HX2.out
    by_cases hlt : (j : Int) < 5
    · obtain ⟨c0, c1, c2, c3⟩ := fmCells_at hx (j := j) (by omega)
      have hbB := heap_lt hx
      have hbw := heap_lt hy
      have hV : fmV (j + 1) = .agg #[.int .i64 ((j + 1 : Nat) : Int), .string (wd (j + 1)), fnv (fmTk (j + 1)), fnv (fmRn (j + 1))] := rfl
      obtain ⟨x0, h0⟩ : ∃ u : Int, ((j + 1 : Nat) : Int) = u := ⟨_, rfl⟩
      obtain ⟨s1, h1⟩ : ∃ u, wd (j + 1) = u := ⟨_, rfl⟩
      obtain ⟨q2, h2⟩ : ∃ u, fmTk (j + 1) = u := ⟨_, rfl⟩
      obtain ⟨q3, h3⟩ : ∃ u, fmRn (j + 1) = u := ⟨_, rfl⟩
      rw [h0] at c0; rw [h1] at c1; rw [h2] at c2; rw [h3] at c3; rw [h0, h1, h2, h3] at hV
      replace c2 : _ = some (Value.func (.func q2) #[] #[]) := c2
      replace c3 : _ = some (Value.func (.func q3) #[] #[]) := c3
      replace hV : fmV (j + 1) = .agg #[.int .i64 x0, .string s1, .func (.func q2) #[] #[], .func (.func q3) #[] #[]] := hV
      have HV := Lib.hid hV
      have hba : Below wr.heap.size wr (wr.alloc (.cells #[.int .i64 x0, .string s1, .func (.func q2) #[] #[], .func (.func q3) #[] #[]] 70)) := (Below.refl _ _).alloc (Nat.le_refl _) _
      have HC := Lib.hid (hV ▸ HT.out (j + 1) (wr.alloc (.cells #[.int .i64 x0, .string s1, .func (.func q2) #[] #[], .func (.func q3) #[] #[]] 70)) (by omega) (by omega) ((HB1.out.trans (HB.out.mono HB1.out.size)).trans (hba.mono (by have := HB1.out.size; have := HB.out.size; omega))))
      have HX := Lib.hid hx; have HY := Lib.hid hy
      have HBA := Lib.hid hba
      have HN := Lib.hid (MapKept.heap_alloc wr (.cells #[.int .i64 x0, .string s1, .func (.func q2) #[] #[], .func (.func q3) #[] #[]] 70)).1
      clear hV h0 h1 h2 h3 hba hx hy
      cases hpj : p (j + 1) with
      | true =>
        have HRES := Lib.hid (show fmRes (fstP p) = .tuple #[.agg #[.int .i64 x0, .string s1, .func (.func q2) #[] #[], .func (.func q3) #[] #[]], .bool true] by
          rw [fstP_at (k := j + 1) (by omega) (by omega) hpj (fun m h1 h2 => HP.out m h1 h2), fmRes, if_neg (by omega), HV.out])
        rw [hpj] at HC
        clear hpj
        go_wp2_with fail
        refine HC.out.mono ?_
        rintro e w2 ⟨rfl, hb2⟩
        have HB2 := Lib.hid (HB.out.trans ((HBA.out.trans (hb2.mono HBA.out.size)).mono HB.out.size))
        have hn := below_heap hb2 (heap_lt HN.out) HN.out
        have hy2 := below_heap HB2.out (heap_lt HX2.out) HX2.out
        have d0 := box_cell hn (j := 0) rfl
        have d1 := box_cell hn (j := 1) rfl
        have d2 := box_cell hn (j := 2) rfl
        have d3 := box_cell hn (j := 3) rfl
        have e0 := box_cell hy2 (j := 0) rfl
        have e1 := box_cell hy2 (j := 1) rfl
        have e2 := box_cell hy2 (j := 2) rfl
        have e3 := box_cell hy2 (j := 3) rfl
        have z0 := box_frz hy2 0
        have z1 := box_frz hy2 1
        have z2 := box_frz hy2 2
        have z3 := box_frz hy2 3
        have h1 := heap_one (o := 0) hy2 (.int .i64 x0)
        replace h1 := heap_one (o := 1) h1 (.string s1)
        replace h1 := heap_one (o := 2) h1 (.func (.func q2) #[] #[])
        replace h1 := heap_one (o := 3) h1 (.func (.func q3) #[] #[])
        have f0 := box_cell h1 (j := 0) rfl
        have f1 := box_cell h1 (j := 1) rfl
        have f2 := box_cell h1 (j := 2) rfl
        have f3 := box_cell h1 (j := 3) rfl
        have HFB := Lib.hid (bl_four (HB1.out.trans (HB2.out.mono HB1.out.size)) (.int .i64 x0) (.string s1) (.func (.func q2) #[] #[]) (.func (.func q3) #[] #[]))
        clear hn hy2 h1 hb2 c0 c1 c2 c3
        go_wp2_with fail
        refine bodyPost_ret (v := .tuple #[.agg #[.int .i64 x0, .string s1, .func (.func q2) #[] #[], .func (.func q3) #[] #[]], .bool true]) (by simp [results, Tryd.results58, go_sem, f0, f1, f2, f3]) rfl ?_
        exact ⟨by rw [HRES.out], HFB.out⟩
      | false =>
        have HP2 := Lib.hid (show ∀ m, 1 ≤ m → m < j + 1 + 1 → p m = false from fun m h1 h2 => by
          by_cases e : m = j + 1
          · rw [e]; exact hpj
          · exact HP.out m h1 (by omega))
        rw [hpj] at HC
        clear hpj
        go_wp2_with fail
        refine HC.out.mono ?_
        rintro e w2 ⟨rfl, hb2⟩
        have HB2 := Lib.hid (HB.out.trans ((HBA.out.trans (hb2.mono HBA.out.size)).mono HB.out.size))
        clear hb2 c0 c1 c2 c3
        go_wp2_with fail
        go_roundw
        case rel => exact ⟨j + 1, by omega, by go_num, HP2.out, HB2.out⟩
        case measure => simp [intOf]; omega
    · have hj5 : j = 5 := by omega
      subst hj5
      have HRES := Lib.hid (show fmRes (fstP p) = .tuple #[fmZ, .bool false] by rw [fstP_no fun m h1 h2 => HP.out m h1 h2, fmRes, if_pos rfl])
      have e0 := box_cell hy (j := 0) rfl
      have e1 := box_cell hy (j := 1) rfl
      have e2 := box_cell hy (j := 2) rfl
      have e3 := box_cell hy (j := 3) rfl
      have z0 := box_frz hy 0
      have z1 := box_frz hy 1
      have z2 := box_frz hy 2
      have z3 := box_frz hy 3
      have h1 := heap_one (o := 0) hy (.int .i64 0)
      replace h1 := heap_one (o := 1) h1 (.string ⟨#[]⟩)
      replace h1 := heap_one (o := 2) h1 .nilFunc
      replace h1 := heap_one (o := 3) h1 .nilFunc
      have f0 := box_cell h1 (j := 0) rfl
      have f1 := box_cell h1 (j := 1) rfl
      have f2 := box_cell h1 (j := 2) rfl
      have f3 := box_cell h1 (j := 3) rfl
      have HFB := Lib.hid (bl_four (HB1.out.trans (HB.out.mono HB1.out.size)) (.int .i64 0) (.string ⟨#[]⟩) .nilFunc .nilFunc)
      clear hx hy h1
      go_wp2_with fail
      refine bodyPost_ret (v := .tuple #[fmZ, .bool false]) (by simp [results, Tryd.results58, go_sem, f0, f1, f2, f3]) rfl ?_
      exact ⟨by rw [HRES.out], HFB.out⟩

end Go.Proofs.YtiginllbfjekeaaDoor

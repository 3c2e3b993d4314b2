/- Helper contracts over the draws of chapter 4's laws: whatever the bytes, the strings that are drawn are short, and nothing that lay in memory before is written but the reader's own block. Helper contracts over the draws of chapter 5's laws: whatever the bytes, the strings that are drawn are short, a drawn tag holds no ">", and nothing that lay in memory before is written but the reader's own block. The draw of a page of at most 10, 6 or 3 pieces. The draws of chapter 7's laws: a sheet's text. Whatever the bytes: it is short, and of what lay in memory only the reader's block is written. The draw of a script's text. Whatever the bytes: it is short, and of what lay in memory only the reader's block is written. Helper contracts over the library's slices.Grow and slices.Concat at bytes: a new slice that holds the given ones behind each other. Asked: the slices read as the lists named, and together they are no longer than 2^44. Helper contracts over the library's slices.Grow and slices.Concat at integers: a new slice that holds the given ones behind each other. Asked: the slices read as the lists named, and together they are no longer than 2^44. Helper contracts: Hash, KeyedHash and IsValidKey of the program and of the model answer alike: the fold of the numbers named. Asked: the slices read as the lists named. Helper contracts: KeyedHash, IsValidKey and BytesToInts of the program and of the model answer alike. Asked: the slices read as the lists named, and are no longer than 2^40. Helper contracts: DeriveFromString of the program and of the model answer alike. Asked: the string is no longer than 2^20. -/
import Derived.Test.YtkjjiinccljhjaaGreatDoorMe9
import Derived.Test.YtkjjiinccljhjaaGreatDoorMe2
import Derived.Laws.Concat
import Derived.Test.YtkjjiinccljhjaaGreatDoorMe1
import Derived.Test.YtkjjiinccljhjaaGreatDoorMe3
import Derived.Test.YtkjjiinccljhjaaGreatDoorMe5
import Derived.Laws.IdiomStrings
namespace Go.Proofs.YtkjjiinccljhjaaGreatDoor

open Go.ChangeShapes Go.WideShapes Go.ChangeAt Go.RowKit

theorem cur_belowA {b : Nat} {sv : Value} {len B : Nat} {w w' : World} (h : Cur b sv len w) (k : Below B w w') (hB : b < B) : Cur b sv len w' := by
  obtain ⟨i, x, h1, h2, a, cap, e, h3, h4⟩ := h
  refine ⟨i, x, by rw [k.block b hB]; exact h1, h2, a, cap, e, h3, ?_⟩
  rcases h4 with h4 | ⟨blk, off, e2, hb, hc⟩
  · exact Or.inl h4
  · refine Or.inr ⟨blk, off, e2, hb, fun j hj => ?_⟩
    obtain ⟨n, n0, n1, hn⟩ := hc j hj
    exact ⟨n, n0, n1, by rw [k.cell (by show blk < _; omega)]; exact hn⟩
theorem Kept.set {b r : Nat} {w w' : World} (h : Kept b w w') (hr : w.heap.size ≤ r) (o : Nat) (v : Value) : Kept b w (w'.setCell ⟨r, o, none⟩ v) :=
  ⟨h.os, h.tape, h.output, by have := h.size; simp [World.setCell]; omega, fun k hk hkb => (Below.heap_setCell _ _ _ _ (show k ≠ r by omega)).trans (h.block k hk hkb)⟩
theorem Kept.drewN {b : Nat} {w w' : World} (h : Kept b w w') (n : Nat) : Kept b w (w'.drewN n) := ⟨h.os, h.tape, h.output, h.size, h.block⟩
theorem Cur.set {b r : Nat} {sv : Value} {len : Nat} {w : World} (h : Cur b sv len w) (hr : b < r) (o : Nat) (v : Value) : Cur b sv len (w.setCell ⟨r, o, none⟩ v) :=
  cur_belowA h ((Below.refl r w).setCell (Nat.le_refl _) _) hr
theorem Cur.drewN {b : Nat} {sv : Value} {len : Nat} {w : World} (h : Cur b sv len w) (n : Nat) : Cur b sv len (w.drewN n) := h
theorem Kept.heap {b r : Nat} {w w' : World} (h : Kept b w w') (hr : r < w.heap.size) (hb : r ≠ b) {o : Obj} (ho : w.heap[r]? = some o) : w'.heap[r]? = some o := (h.block r hr hb).trans ho

set_option maxHeartbeats 1000000 in
theorem host_any (b : Nat) (sv : Value) (len : Nat) (w : World) (hc : Cur b sv len w) :
    Calls Tryz.prog 177 #[.pointer (some ⟨b, 0, none⟩)] w (StrOut b sv len w) := by
  have HC := Lib.hid hc; clear hc
  go_enter Tryz.func177, Tryz.ntmps177
  go_wp2_with fail
  refine (str_any b sv len _ 4 4 _ (HC.out.alloc _) (by have := (HC.out).lt; omega) (by omega) (by omega) ?_).mono ?_
  · exact cells_str _ _ _ _ (by rfl) (by kernel_rfl)
  rintro e w1 ⟨s, rfl, hs, hc1, ho1⟩
  have HC1 := Lib.hid hc1; have HO1 := Lib.hid ho1; clear hc1 ho1
  go_wp2_with fail
  go_ret
  exact ⟨s, rfl, hs, HC1.out, (Kept.alloc b w _).trans HO1.out⟩

set_option maxHeartbeats 1000000 in
theorem path_any (b : Nat) (sv : Value) (len : Nat) (w : World) (hc : Cur b sv len w) :
    Calls Tryz.prog 205 #[.pointer (some ⟨b, 0, none⟩)] w (StrOut b sv len w) := by
  have HC := Lib.hid hc; clear hc
  go_enter Tryz.func205, Tryz.ntmps205
  go_wp2_with fail
  refine (str_any b sv len _ 7 7 _ (HC.out.alloc _) (by have := (HC.out).lt; omega) (by omega) (by omega) ?_).mono ?_
  · exact cells_str _ _ _ _ (by rfl) (by kernel_rfl)
  rintro e w1 ⟨s, rfl, hs, hc1, ho1⟩
  have HC1 := Lib.hid hc1; have HO1 := Lib.hid ho1; clear hc1 ho1
  go_wp2_with fail
  go_ret
  exact ⟨s, rfl, hs, HC1.out, (Kept.alloc b w _).trans HO1.out⟩

def AddrD (b : Nat) (sv : Value) (len : Nat) (w : World) (e : Ending) (w' : World) : Prop :=
  ∃ h p : ByteArray, e = .returned (.agg #[.string h, .string p]) ∧ h.size ≤ 100 ∧ p.size ≤ 100 ∧ Cur b sv len w' ∧ Kept b w w'
theorem size_alloc1 (w : World) (o : Obj) : (w.alloc o).heap.size = w.heap.size + 1 := by show (w.heap.push o).size = _; simp
theorem heap_new (w : World) (o : Obj) : (w.alloc o).heap[w.heap.size]? = some o := heap_alloc_new w o
theorem heap_two0 {w : World} {b : Nat} {x y u : Value} {T : TypeId} (h : w.heap[b]? = some (.cells #[x, y] T (0, 0))) : (w.setCell ⟨b, 0, none⟩ u).heap[b]? = some (.cells #[u, y] T (0, 0)) := by
  rw [heap_setCell_same w b 0 _ T u h]; rfl
theorem heap_two1 {w : World} {b : Nat} {x y u : Value} {T : TypeId} (h : w.heap[b]? = some (.cells #[x, y] T (0, 0))) : (w.setCell ⟨b, 1, none⟩ u).heap[b]? = some (.cells #[x, u] T (0, 0)) := by
  rw [heap_setCell_same w b 1 _ T u h]; rfl

set_option maxHeartbeats 1000000 in
theorem addr_any (b : Nat) (sv : Value) (len : Nat) (w : World) (hc : Cur b sv len w) :
    Calls Tryz.prog 176 #[.pointer (some ⟨b, 0, none⟩)] w (AddrD b sv len w) := by
  have hbl := hc.lt
  have HC := Lib.hid hc; clear hc
  go_enter Tryz.func176, Tryz.ntmps176
  go_wp2_with fail
  refine (host_any b sv len _ (HC.out.alloc _)).mono ?_
  rintro e w1 ⟨h, rfl, hh, hc1, ho1⟩
  have HC1 := Lib.hid hc1; have HO1 := Lib.hid ((Kept.alloc b w _).trans ho1)
  have HR1 := Lib.hid (ho1.heap (r := w.heap.size) (by rw [size_alloc1]; omega) (by omega) (heap_new w _))
  clear hc1 ho1
  go_wp2_with fail
  refine (path_any b sv len _ HC1.out).mono ?_
  rintro e w2 ⟨p, rfl, hp, hc2, ho2⟩
  have HC2 := Lib.hid hc2; have HO2 := Lib.hid (HO1.out.trans ho2)
  have hr2 := ho2.heap (r := w.heap.size) (lt_heap HR1.out) (by omega) HR1.out
  obtain ⟨c0, c1, f0, f1⟩ := cells_two hr2
  have HK := Lib.hid (heap_two (u := .string h) (v := .string p) hr2)
  clear hc2 ho2 hr2
  go_wp2_with fail
  obtain ⟨q0, q1, _, _⟩ := cells_two HK.out
  refine bodyPost_ret (v := .agg #[.string h, .string p]) (by simp [results, Tryz.results176, go_sem, q0, q1]) rfl ⟨h, p, rfl, hh, hp, (HC2.out.set hbl _ _).set hbl _ _, (HO2.out.set (Nat.le_refl _) _ _).set (Nat.le_refl _) _ _⟩

set_option maxHeartbeats 2000000 in
theorem any_any (b : Nat) (sv : Value) (len : Nat) (w : World) (hc : Cur b sv len w) :
    Calls Tryz.prog 134 #[.pointer (some ⟨b, 0, none⟩)] w (AddrD b sv len w) := by
  have hbl := hc.lt
  have HC := Lib.hid hc; clear hc
  go_enter Tryz.func134, Tryz.ntmps134
  go_wp2_with fail
  refine (addr_any b sv len _ (HC.out.alloc _)).mono ?_
  rintro e w1 ⟨h, p, rfl, hh, hp, hc1, ho1⟩
  have HC1 := Lib.hid (hc1.alloc (.cells #[.string h, .string p] 28))
  have HO1 := Lib.hid (((Kept.alloc b w _).trans ho1).trans (Kept.alloc b w1 (.cells #[.string h, .string p] 28)))
  have hs1 := ho1.size
  rw [size_alloc1] at hs1
  have hr1 := ho1.heap (r := w.heap.size) (by rw [size_alloc1]; omega) (by omega) (heap_new w _)
  have hk0 : (w1.alloc (.cells #[.string h, .string p] 28)).heap[w.heap.size]? = some (.cells #[.string ⟨#[]⟩, .string ⟨#[]⟩] 28 (0, 0)) := by rw [Below.heap_alloc w1 _ _ (lt_heap hr1)]; exact hr1
  have HR1 := Lib.hid hk0
  have HA1 := Lib.hid (heap_new w1 (.cells #[.string h, .string p] 28))
  clear hc1 ho1 hr1 hk0
  go_wp2_with fail
  refine (below_any b sv len 12 _ HC1.out).mono ?_
  rintro e w2 ⟨x, rfl, x0, x1, x2, hc2, ho2⟩
  have HC2 := Lib.hid hc2; have HO2 := Lib.hid (HO1.out.trans ho2.kept)
  have hsz2 : w1.heap.size + 1 ≤ w2.heap.size := by have := ho2.size; rw [size_alloc1] at this; omega
  have HR2 := Lib.hid ((ho2.block w.heap.size (by omega)).trans HR1.out)
  have HA2 := Lib.hid ((ho2.block w1.heap.size (by omega)).trans HA1.out)
  clear hc2 ho2 x1
  have hra : b < w1.heap.size := by omega
  by_cases hx0 : x = 0
  · subst hx0
    go_wp2_with fail
    refine (str_any b sv len _ 4 4 _ (HC2.out.alloc _) (by omega) (by omega) (by omega) ?_).mono ?_
    · exact cells_str _ _ _ _ (by rfl) (by kernel_rfl)
    rintro e w3 ⟨s, rfl, hs, hc3, ho3⟩
    have HC3 := Lib.hid hc3; have HO3 := Lib.hid (HO2.out.trans ((Kept.alloc b w2 _).trans ho3))
    have hr3 : w3.heap[w.heap.size]? = _ := ((Kept.alloc b w2 _).trans ho3).heap (r := w.heap.size) (lt_heap HR2.out) (by omega) HR2.out
    have ha3 : w3.heap[w1.heap.size]? = _ := ((Kept.alloc b w2 _).trans ho3).heap (r := w1.heap.size) (lt_heap HA2.out) (by omega) HA2.out
    obtain ⟨c0, c1, f0, f1⟩ := cells_two ha3
    have ha4 := heap_two0 (u := .string s) ha3
    have hr4 : (w3.setCell ⟨w1.heap.size, 0, none⟩ (.string s)).heap[w.heap.size]? = _ := (Below.heap_setCell _ _ _ _ (show w.heap.size ≠ w1.heap.size by omega)).trans hr3
    obtain ⟨d0, d1, _, _⟩ := cells_two ha4
    obtain ⟨k0, k1, g0, g1⟩ := cells_two hr4
    have HK := Lib.hid (heap_two (u := .string s) (v := .string p) hr4)
    clear hc3 ho3 hr3 ha3 ha4 hr4
    go_wp2_with fail
    obtain ⟨q0, q1, _, _⟩ := cells_two HK.out
    refine bodyPost_ret (v := .agg #[.string s, .string p]) (by simp [results, Tryz.results134, go_sem, q0, q1]) rfl ⟨s, p, rfl, hs, hp, ((HC3.out.set hra _ _).set hbl _ _).set hbl _ _, ((HO3.out.set (by omega) _ _).set (Nat.le_refl _) _ _).set (Nat.le_refl _) _ _⟩
  by_cases hx1 : x = 1
  · subst hx1
    go_wp2_with fail
    refine (str_any b sv len _ 3 3 _ (HC2.out.alloc _) (by omega) (by omega) (by omega) ?_).mono ?_
    · exact cells_str _ _ _ _ (by rfl) (by kernel_rfl)
    rintro e w3 ⟨s, rfl, hs, hc3, ho3⟩
    have HC3 := Lib.hid hc3; have HO3 := Lib.hid (HO2.out.trans ((Kept.alloc b w2 _).trans ho3))
    have hr3 : w3.heap[w.heap.size]? = _ := ((Kept.alloc b w2 _).trans ho3).heap (r := w.heap.size) (lt_heap HR2.out) (by omega) HR2.out
    have ha3 : w3.heap[w1.heap.size]? = _ := ((Kept.alloc b w2 _).trans ho3).heap (r := w1.heap.size) (lt_heap HA2.out) (by omega) HA2.out
    obtain ⟨c0, c1, f0, f1⟩ := cells_two ha3
    have ha4 := heap_two1 (u := .string s) ha3
    have hr4 : (w3.setCell ⟨w1.heap.size, 1, none⟩ (.string s)).heap[w.heap.size]? = _ := (Below.heap_setCell _ _ _ _ (show w.heap.size ≠ w1.heap.size by omega)).trans hr3
    obtain ⟨d0, d1, _, _⟩ := cells_two ha4
    obtain ⟨k0, k1, g0, g1⟩ := cells_two hr4
    have HK := Lib.hid (heap_two (u := .string h) (v := .string s) hr4)
    clear hc3 ho3 hr3 ha3 ha4 hr4
    go_wp2_with fail
    obtain ⟨q0, q1, _, _⟩ := cells_two HK.out
    refine bodyPost_ret (v := .agg #[.string h, .string s]) (by simp [results, Tryz.results134, go_sem, q0, q1]) rfl ⟨h, s, rfl, hh, hs, ((HC3.out.set hra _ _).set hbl _ _).set hbl _ _, ((HO3.out.set (by omega) _ _).set (Nat.le_refl _) _ _).set (Nat.le_refl _) _ _⟩
  · have e0 : (x == 0) = false := beq_eq_false_iff_ne.2 hx0
    have e1 : (x == 1) = false := beq_eq_false_iff_ne.2 hx1
    obtain ⟨d0, d1, _, _⟩ := cells_two HA2.out
    obtain ⟨k0, k1, g0, g1⟩ := cells_two HR2.out
    have HK := Lib.hid (heap_two (u := .string h) (v := .string p) HR2.out)
    clear hx0 hx1
    go_wp2_with fail
    obtain ⟨q0, q1, _, _⟩ := cells_two HK.out
    refine bodyPost_ret (v := .agg #[.string h, .string p]) (by simp [results, Tryz.results134, go_sem, q0, q1]) rfl ⟨h, p, rfl, hh, hp, (HC2.out.set hbl _ _).set hbl _ _, (HO2.out.set (Nat.le_refl _) _ _).set (Nat.le_refl _) _ _⟩

/-- An address of short strings; nothing old is written. -/
def DrawnA (w : World) (en : Ending) (w' : World) : Prop :=
  ∃ h p : ByteArray, en = .returned (.agg #[.string h, .string p]) ∧ h.size ≤ 100 ∧ p.size ≤ 100 ∧ Below w.heap.size w w'

/-- Two short strings; nothing old is written. -/
def DrawnSS (w : World) (en : Ending) (w' : World) : Prop :=
  ∃ s t : ByteArray, en = .returned (.tuple #[.string s, .string t]) ∧ s.size ≤ 100 ∧ t.size ≤ 100 ∧ Below w.heap.size w w'
theorem fmtA_size (a : Ad) : (fmtA a).size ≤ 100 := by
  cases h : isAd a with
  | true =>
    obtain ⟨⟨_, h1⟩, _, h2⟩ := isAd_size h
    have e : slash.size = 1 := rfl
    rw [fmtA_yes h, ByteArray.size_append, ByteArray.size_append, e]; omega
  | false => rw [fmtA_no h]; exact Nat.zero_le _

end Go.Proofs.YtkjjiinccljhjaaGreatDoor
namespace Go.Proofs.YtkjjiinccljhjaaGreatDoor
open Go.ChangeShapes Go.WideShapes Go.ChangeAt Go.RowKit

/-- A short string without ">". -/
def Gt (s : ByteArray) : Prop := s.size ≤ 100 ∧ ∀ b ∈ s.data.toList, b ≠ 62
def gtCell : Value → Bool
  | .string s => decide (s.size ≤ 100) && s.data.toList.all (fun b => !(b == 62))
  | _ => false
theorem gtCell_ok {s : ByteArray} (h : gtCell (.string s) = true) : Gt s := by
  simp only [gtCell, Bool.and_eq_true, decide_eq_true_eq] at h
  refine ⟨h.1, fun b hb e => ?_⟩
  have := List.all_eq_true.1 h.2 b hb
  subst e
  exact absurd this (by decide)
theorem cells_gt (w : World) (C : Array Value) (T : TypeId) (m : Nat) (hm : C.size = m) (h : C.all gtCell = true) : ∀ j, j < m → ∃ s : ByteArray, Gt s ∧ (w.alloc (.cells C T)).cell? ⟨w.heap.size, j, none⟩ = some (.string s) := by
  subst hm
  intro j hj
  have h1 : gtCell C[j] = true := by rw [Array.all_eq_true] at h; exact h j hj
  have h2 : (w.alloc (.cells C T)).cell? ⟨w.heap.size, j, none⟩ = some C[j] := by
    unfold World.cell?
    have h3 : (w.alloc (.cells C T)).heap[w.heap.size]? = some (.cells C T) := by
      show (w.heap.push _)[w.heap.size]? = _
      simp
    rw [h3]
    simp [hj]
  rw [h2]
  cases hc : C[j] with
  | string s => rw [hc] at h1; exact ⟨s, gtCell_ok h1, rfl⟩
  | _ => rw [hc] at h1; simp [gtCell] at h1
def StrP (Q : ByteArray → Prop) (b : Nat) (sv : Value) (len : Nat) (w : World) (e : Ending) (w' : World) : Prop :=
  ∃ s : ByteArray, e = .returned (.string s) ∧ Q s ∧ Cur b sv len w' ∧ Kept b w w'
theorem strP_any (Q : ByteArray → Prop) (b : Nat) (sv : Value) (len : Nat) (g m cap : Nat) (w : World) (hc : Cur b sv len w) (hgb : g ≠ b) (hm : 0 < m) (hm2 : m ≤ 1000)
    (hcells : ∀ j, j < m → ∃ s : ByteArray, Q s ∧ w.cell? ⟨g, j, none⟩ = some (.string s)) :
    Calls Tryz.prog 135 #[.pointer (some ⟨b, 0, none⟩), .slice (some ⟨g, 0, none⟩) m cap] w (StrP Q b sv len w) := by
  have HC := Lib.hid hc; have HS := Lib.hid hcells; clear hc hcells
  go_enter Tryz.func135, Tryz.ntmps135
  go_wp2_with fail
  refine (below_any b sv len m _ HC.out).mono ?_
  rintro e w1 ⟨x, rfl, hx0, hx1, hx2, hc1, ho1⟩
  have hx3 := hx1 (by omega)
  obtain ⟨k, rfl⟩ := Int.eq_ofNat_of_zero_le hx0
  obtain ⟨s, s1, hv⟩ := HS.out k (by omega)
  rw [← ho1.cell (show (⟨g, k, none⟩ : Addr).block ≠ b from hgb)] at hv
  have HC1 := Lib.hid hc1; have HO1 := Lib.hid ho1; clear hc1 ho1 hx1
  go_wp2_with fail
  go_ret
  exact ⟨s, rfl, s1, HC1.out, HO1.out.kept⟩

/-- A drawn tag: not long, without ">". -/
def Tg (s : ByteArray) : Prop := s.size ≤ 400 ∧ ∀ b ∈ s.data.toList, b ≠ 62
theorem Gt.tg {s : ByteArray} (h : Gt s) : Tg s := ⟨by have := h.1; omega, h.2⟩
theorem tg_append {a b : ByteArray} (h1 : ∀ x ∈ a.data.toList, x ≠ 62) (h2 : ∀ x ∈ b.data.toList, x ≠ 62) : ∀ x ∈ (a ++ b).data.toList, x ≠ 62 := by
  intro x hx
  rw [append_list] at hx
  rcases List.mem_append.1 hx with h | h
  · exact h1 x h
  · exact h2 x h
theorem size_alloc0 (w : World) (o : Obj) : (w.alloc o).heap.size = w.heap.size + 1 := by show (w.heap.push o).size = _; simp
theorem size_app (a b : ByteArray) : (a ++ b).size = a.size + b.size := ByteArray.size_append

set_option maxRecDepth 100000 in
set_option maxHeartbeats 4000000 in
theorem tag_any (b : Nat) (sv : Value) (len : Nat) (w : World) (hc : Cur b sv len w) :
    Calls Tryz.prog 148 #[.pointer (some ⟨b, 0, none⟩)] w (StrP Tg b sv len w) := by
  have HC := Lib.hid hc; clear hc
  go_enter Tryz.func148, Tryz.ntmps148
  go_wp2_with fail
  refine (below_any b sv len 8 _ HC.out).mono ?_
  rintro e w1 ⟨x, rfl, hx0, hx1, hx2, hc1, ho1⟩
  have HC1 := Lib.hid hc1; have HO1 := Lib.hid ho1.kept; clear hc1 ho1 hx1 hx2 hx0
  have HL1 := Lib.hid HC1.out.lt
  by_cases x0 : x = 0
  · subst x
    go_wp2_with fail
    refine (strP_any Gt b sv len _ 4 4 _ (HC1.out.alloc _) (by have := HL1.out; omega) (by omega) (by omega) ?_).mono ?_
    · exact cells_gt _ _ _ _ (by rfl) (by kernel_rfl)
    rintro e w2 ⟨s, rfl, hs, hc_w2, ho_w2⟩
    have HC_w2 := Lib.hid hc_w2; have HO_w2 := Lib.hid ho_w2; have HQ_s := Lib.hid hs
    have hz_s := hs.1
    clear hc_w2 ho_w2 hs
    go_wp2_with fail
    go_ret
    exact ⟨_, rfl, ⟨by rw [size_app]; show 1 + s.size ≤ 400; omega, tg_append (by decide) HQ_s.out.2⟩, HC_w2.out, HO1.out.trans ((Kept.alloc b w1 _).trans HO_w2.out)⟩
  have k0 : (x == 0) = false := beq_eq_false_iff_ne.2 x0
  clear x0
  by_cases x1 : x = 1
  · subst x
    go_wp2_with fail
    refine (strP_any Gt b sv len _ 4 4 _ (HC1.out.alloc _) (by have := HL1.out; omega) (by omega) (by omega) ?_).mono ?_
    · exact cells_gt _ _ _ _ (by rfl) (by kernel_rfl)
    rintro e w2 ⟨s, rfl, hs, hc_w2, ho_w2⟩
    have HC_w2 := Lib.hid hc_w2; have HO_w2 := Lib.hid ho_w2; have HQ_s := Lib.hid hs
    have hz_s := hs.1
    clear hc_w2 ho_w2 hs
    go_wp2_with fail
    go_ret
    exact ⟨_, rfl, ⟨by rw [size_app]; show 11 + s.size ≤ 400; omega, tg_append (by decide) HQ_s.out.2⟩, HC_w2.out, HO1.out.trans ((Kept.alloc b w1 _).trans HO_w2.out)⟩
  have k1 : (x == 1) = false := beq_eq_false_iff_ne.2 x1
  clear x1
  by_cases x2 : x = 2
  · subst x
    go_wp2_with fail
    refine (strP_any Gt b sv len _ 2 2 _ (HC1.out.alloc _) (by have := HL1.out; omega) (by omega) (by omega) ?_).mono ?_
    · exact cells_gt _ _ _ _ (by rfl) (by kernel_rfl)
    rintro e w2 ⟨s, rfl, hs, hc_w2, ho_w2⟩
    have HC_w2 := Lib.hid hc_w2; have HO_w2 := Lib.hid ho_w2; have HQ_s := Lib.hid hs
    have hz_s := hs.1
    clear hc_w2 ho_w2 hs
    have HL2 := Lib.hid HC_w2.out.lt
    go_wp2_with fail
    refine (strP_any Gt b sv len _ 2 2 _ (HC_w2.out.alloc _) (by have := HL2.out; omega) (by omega) (by omega) ?_).mono ?_
    · exact cells_gt _ _ _ _ (by rfl) (by kernel_rfl)
    rintro e w3 ⟨t, rfl, ht, hc_w3, ho_w3⟩
    have HC_w3 := Lib.hid hc_w3; have HO_w3 := Lib.hid ho_w3; have HQ_t := Lib.hid ht
    have hz_t := ht.1
    clear hc_w3 ho_w3 ht
    go_wp2_with fail
    go_ret
    exact ⟨_, rfl, ⟨by rw [size_app, size_app, size_app]; show 11 + s.size + 6 + t.size ≤ 400; omega, tg_append (tg_append (tg_append (by decide) HQ_s.out.2) (by decide)) HQ_t.out.2⟩, HC_w3.out, (HO1.out.trans ((Kept.alloc b w1 _).trans HO_w2.out)).trans ((Kept.alloc b w2 _).trans HO_w3.out)⟩
  have k2 : (x == 2) = false := beq_eq_false_iff_ne.2 x2
  clear x2
  by_cases x3 : x = 3
  · subst x
    go_wp2_with fail
    refine (strP_any Gt b sv len _ 2 2 _ (HC1.out.alloc _) (by have := HL1.out; omega) (by omega) (by omega) ?_).mono ?_
    · exact cells_gt _ _ _ _ (by rfl) (by kernel_rfl)
    rintro e w2 ⟨s, rfl, hs, hc_w2, ho_w2⟩
    have HC_w2 := Lib.hid hc_w2; have HO_w2 := Lib.hid ho_w2; have HQ_s := Lib.hid hs
    have hz_s := hs.1
    clear hc_w2 ho_w2 hs
    go_wp2_with fail
    go_ret
    exact ⟨_, rfl, ⟨by rw [size_app]; show 8 + s.size ≤ 400; omega, tg_append (by decide) HQ_s.out.2⟩, HC_w2.out, HO1.out.trans ((Kept.alloc b w1 _).trans HO_w2.out)⟩
  have k3 : (x == 3) = false := beq_eq_false_iff_ne.2 x3
  clear x3
  by_cases x4 : x = 4
  · subst x
    go_wp2_with fail
    refine (strP_any Gt b sv len _ 2 2 _ (HC1.out.alloc _) (by have := HL1.out; omega) (by omega) (by omega) ?_).mono ?_
    · exact cells_gt _ _ _ _ (by rfl) (by kernel_rfl)
    rintro e w2 ⟨s, rfl, hs, hc_w2, ho_w2⟩
    have HC_w2 := Lib.hid hc_w2; have HO_w2 := Lib.hid ho_w2; have HQ_s := Lib.hid hs
    have hz_s := hs.1
    clear hc_w2 ho_w2 hs
    go_wp2_with fail
    go_ret
    exact ⟨_, rfl, ⟨by rw [size_app]; show 10 + s.size ≤ 400; omega, tg_append (by decide) HQ_s.out.2⟩, HC_w2.out, HO1.out.trans ((Kept.alloc b w1 _).trans HO_w2.out)⟩
  have k4 : (x == 4) = false := beq_eq_false_iff_ne.2 x4
  clear x4
  by_cases x5 : x = 5
  · subst x
    go_wp2_with fail
    refine (strP_any Gt b sv len _ 10 10 _ (HC1.out.alloc _) (by have := HL1.out; omega) (by omega) (by omega) ?_).mono ?_
    · exact cells_gt _ _ _ _ (by rfl) (by kernel_rfl)
    rintro e w2 ⟨s, rfl, hs, hc_w2, ho_w2⟩
    have HC_w2 := Lib.hid hc_w2; have HO_w2 := Lib.hid ho_w2; have HQ_s := Lib.hid hs
    have hz_s := hs.1
    clear hc_w2 ho_w2 hs
    go_wp2_with fail
    go_ret
    exact ⟨_, rfl, HQ_s.out.tg, HC_w2.out, HO1.out.trans ((Kept.alloc b w1 _).trans HO_w2.out)⟩
  have k5 : (x == 5) = false := beq_eq_false_iff_ne.2 x5
  clear x5
  go_wp2_with fail
  refine (strP_any Gt b sv len _ 4 4 _ (HC1.out.alloc _) (by have := HL1.out; omega) (by omega) (by omega) ?_).mono ?_
  · exact cells_gt _ _ _ _ (by rfl) (by kernel_rfl)
  rintro e w2 ⟨s, rfl, hs, hc_w2, ho_w2⟩
  have HC_w2 := Lib.hid hc_w2; have HO_w2 := Lib.hid ho_w2; have HQ_s := Lib.hid hs
  have hz_s := hs.1
  clear hc_w2 ho_w2 hs
  go_wp2_with fail
  go_ret
  exact ⟨_, rfl, HQ_s.out.tg, HC_w2.out, HO1.out.trans ((Kept.alloc b w1 _).trans HO_w2.out)⟩

/-- A string, and a slice of numbers, that were drawn; nothing old is written. -/
def DrawnT (Q : ByteArray → Prop) (w : World) (en : Ending) (w' : World) : Prop := ∃ s : ByteArray, en = .returned (.string s) ∧ Q s ∧ Below w.heap.size w w'

/-- A drawn page. -/
def Pg (s : ByteArray) : Prop := s.size ≤ 6000
set_option maxRecDepth 100000 in
set_option maxHeartbeats 2000000 in
theorem page_any (b : Nat) (sv : Value) (len : Nat) (w : World) (hc : Cur b sv len w) :
    Calls Tryz.prog 92 #[.pointer (some ⟨b, 0, none⟩), .int .i64 8] w (StrP Pg b sv len w) := by
  have HC := Lib.hid hc; clear hc
  go_enter Tryz.func92, Tryz.ntmps92
  go_wp2_with fail
  refine (below_any b sv len 9 _ HC.out).mono ?_
  rintro e w1 ⟨x, rfl, hx0, hx1, hx2, hc1, ho1⟩
  have hx3 := hx1 (by omega)
  obtain ⟨m, rfl⟩ := Int.eq_ofNat_of_zero_le hx0
  have hm : m ≤ 8 := by omega
  have HC1 := Lib.hid hc1; have HO1 := Lib.hid ho1.kept; clear hc1 ho1 hx1 hx2 hx0 hx3
  go_wp2_with fail
  go_loopw [5, 6] (fun s i wr => ∃ (k : Nat) (S : ByteArray), k ≤ 8 ∧ i = .int .i64 k ∧ s = .string S ∧ S.size + 500 * k ≤ 4000 ∧ Cur b sv len wr ∧ Kept b w wr) (fun _ i _ => (intOf i).toNat)
  case atStart => exact ⟨m, ⟨#[]⟩, hm, rfl, rfl, by show 0 + 500 * m ≤ 4000; omega, HC1.out, HO1.out⟩
  case round =>
    obtain ⟨k, S, hk, rfl, rfl, hS, hcu, hke⟩ := hrel
    have HCU := Lib.hid hcu; have HK := Lib.hid hke
    clear hcu hke HC1 HO1
    by_cases hlt : (0 : Int) < (k : Int)
    · go_wp2_with fail
      refine (once_any b sv len 3 _ HCU.out).mono ?_
      rintro e w2 ⟨t, rfl, hc2, ho2⟩
      have HC2 := Lib.hid hc2; have HO2 := Lib.hid (HK.out.trans ho2); have HL2 := Lib.hid hc2.lt
      clear hc2 ho2
      cases t with
      | true =>
        go_wp2_with fail
        refine (str_any b sv len _ 5 5 _ (HC2.out.alloc _) (by have := HL2.out; omega) (by omega) (by omega) ?_).mono ?_
        · exact cells_str _ _ _ _ (by rfl) (by kernel_rfl)
        rintro e w3 ⟨s, rfl, hs, hc3, ho3⟩
        have HC3 := Lib.hid hc3; have HO3 := Lib.hid (HO2.out.trans ((Kept.alloc b w2 _).trans ho3))
        clear hc3 ho3
        go_wp2
        go_roundw
        case rel => exact ⟨k - 1, _, by omega, by go_num, rfl, by rw [size_app]; omega, HC3.out, HO3.out⟩
        case measure => simp [intOf] <;> omega
      | false =>
        go_wp2_with fail
        refine (tag_any b sv len _ HC2.out).mono ?_
        rintro e w3 ⟨s, rfl, hs, hc3, ho3⟩
        have hsz := hs.1
        have HC3 := Lib.hid hc3; have HO3 := Lib.hid (HO2.out.trans ho3)
        clear hc3 ho3 hs
        go_wp2
        go_roundw
        case rel => exact ⟨k - 1, _, by omega, by go_num, rfl, by rw [size_app, size_app, size_app]; show S.size + 1 + s.size + 1 + _ ≤ _; omega, HC3.out, HO3.out⟩
        case measure => simp [intOf] <;> omega
    · go_wp2_with fail
      refine (once_any b sv len 6 _ HCU.out).mono ?_
      rintro e w2 ⟨t, rfl, hc2, ho2⟩
      have HC2 := Lib.hid hc2; have HO2 := Lib.hid (HK.out.trans ho2); have HL2 := Lib.hid hc2.lt
      clear hc2 ho2
      cases t with
      | true =>
        go_wp2_with fail
        refine (str_any b sv len _ 3 3 _ (HC2.out.alloc _) (by have := HL2.out; omega) (by omega) (by omega) ?_).mono ?_
        · exact cells_str _ _ _ _ (by rfl) (by kernel_rfl)
        rintro e w3 ⟨s, rfl, hs, hc3, ho3⟩
        have HC3 := Lib.hid hc3; have HO3 := Lib.hid (HO2.out.trans ((Kept.alloc b w2 _).trans ho3))
        clear hc3 ho3
        go_wp2_with fail
        go_ret
        exact ⟨_, rfl, by show (S ++ s).size ≤ 6000; rw [size_app]; omega, HC3.out, HO3.out⟩
      | false =>
        go_wp2_with fail
        go_ret
        exact ⟨_, rfl, by show S.size ≤ 6000; omega, HC2.out, HO2.out⟩

end Go.Proofs.YtkjjiinccljhjaaGreatDoor
namespace Go.Proofs.YtkjjiinccljhjaaGreatDoor
open Go.ChangeShapes Go.WideShapes Go.ChangeAt Go.RowKit

set_option maxRecDepth 100000 in
set_option maxHeartbeats 2000000 in
theorem page10_any (b : Nat) (sv : Value) (len : Nat) (w : World) (hc : Cur b sv len w) :
    Calls Tryz.prog 92 #[.pointer (some ⟨b, 0, none⟩), .int .i64 10] w (StrP Pg b sv len w) := by
  have HC := Lib.hid hc; clear hc
  go_enter Tryz.func92, Tryz.ntmps92
  go_wp2_with fail
  refine (below_any b sv len 11 _ HC.out).mono ?_
  rintro e w1 ⟨x, rfl, hx0, hx1, hx2, hc1, ho1⟩
  have hx3 := hx1 (by omega)
  obtain ⟨m, rfl⟩ := Int.eq_ofNat_of_zero_le hx0
  have hm : m ≤ 10 := by omega
  have HC1 := Lib.hid hc1; have HO1 := Lib.hid ho1.kept; clear hc1 ho1 hx1 hx2 hx0 hx3
  go_wp2_with fail
  go_loopw [5, 6] (fun s i wr => ∃ (k : Nat) (S : ByteArray), k ≤ 10 ∧ i = .int .i64 k ∧ s = .string S ∧ S.size + 500 * k ≤ 5000 ∧ Cur b sv len wr ∧ Kept b w wr) (fun _ i _ => (intOf i).toNat)
  case atStart => exact ⟨m, ⟨#[]⟩, hm, rfl, rfl, by show 0 + 500 * m ≤ 5000; omega, HC1.out, HO1.out⟩
  case round =>
    obtain ⟨k, S, hk, rfl, rfl, hS, hcu, hke⟩ := hrel
    have HCU := Lib.hid hcu; have HK := Lib.hid hke
    clear hcu hke HC1 HO1
    by_cases hlt : (0 : Int) < (k : Int)
    · go_wp2_with fail
      refine (once_any b sv len 3 _ HCU.out).mono ?_
      rintro e w2 ⟨t, rfl, hc2, ho2⟩
      have HC2 := Lib.hid hc2; have HO2 := Lib.hid (HK.out.trans ho2); have HL2 := Lib.hid hc2.lt
      clear hc2 ho2
      cases t with
      | true =>
        go_wp2_with fail
        refine (str_any b sv len _ 5 5 _ (HC2.out.alloc _) (by have := HL2.out; omega) (by omega) (by omega) ?_).mono ?_
        · exact cells_str _ _ _ _ (by rfl) (by kernel_rfl)
        rintro e w3 ⟨s, rfl, hs, hc3, ho3⟩
        have HC3 := Lib.hid hc3; have HO3 := Lib.hid (HO2.out.trans ((Kept.alloc b w2 _).trans ho3))
        clear hc3 ho3
        go_wp2
        go_roundw
        case rel => exact ⟨k - 1, _, by omega, by go_num, rfl, by rw [size_app]; omega, HC3.out, HO3.out⟩
        case measure => simp [intOf] <;> omega
      | false =>
        go_wp2_with fail
        refine (tag_any b sv len _ HC2.out).mono ?_
        rintro e w3 ⟨s, rfl, hs, hc3, ho3⟩
        have hsz := hs.1
        have HC3 := Lib.hid hc3; have HO3 := Lib.hid (HO2.out.trans ho3)
        clear hc3 ho3 hs
        go_wp2
        go_roundw
        case rel => exact ⟨k - 1, _, by omega, by go_num, rfl, by rw [size_app, size_app, size_app]; show S.size + 1 + s.size + 1 + _ ≤ _; omega, HC3.out, HO3.out⟩
        case measure => simp [intOf] <;> omega
    · go_wp2_with fail
      refine (once_any b sv len 6 _ HCU.out).mono ?_
      rintro e w2 ⟨t, rfl, hc2, ho2⟩
      have HC2 := Lib.hid hc2; have HO2 := Lib.hid (HK.out.trans ho2); have HL2 := Lib.hid hc2.lt
      clear hc2 ho2
      cases t with
      | true =>
        go_wp2_with fail
        refine (str_any b sv len _ 3 3 _ (HC2.out.alloc _) (by have := HL2.out; omega) (by omega) (by omega) ?_).mono ?_
        · exact cells_str _ _ _ _ (by rfl) (by kernel_rfl)
        rintro e w3 ⟨s, rfl, hs, hc3, ho3⟩
        have HC3 := Lib.hid hc3; have HO3 := Lib.hid (HO2.out.trans ((Kept.alloc b w2 _).trans ho3))
        clear hc3 ho3
        go_wp2_with fail
        go_ret
        exact ⟨_, rfl, by show (S ++ s).size ≤ 6000; rw [size_app]; omega, HC3.out, HO3.out⟩
      | false =>
        go_wp2_with fail
        go_ret
        exact ⟨_, rfl, by show S.size ≤ 6000; omega, HC2.out, HO2.out⟩

set_option maxRecDepth 100000 in
set_option maxHeartbeats 2000000 in
theorem page8_any (b : Nat) (sv : Value) (len : Nat) (w : World) (hc : Cur b sv len w) :
    Calls Tryz.prog 92 #[.pointer (some ⟨b, 0, none⟩), .int .i64 8] w (StrP Pg b sv len w) := by
  have HC := Lib.hid hc; clear hc
  go_enter Tryz.func92, Tryz.ntmps92
  go_wp2_with fail
  refine (below_any b sv len 9 _ HC.out).mono ?_
  rintro e w1 ⟨x, rfl, hx0, hx1, hx2, hc1, ho1⟩
  have hx3 := hx1 (by omega)
  obtain ⟨m, rfl⟩ := Int.eq_ofNat_of_zero_le hx0
  have hm : m ≤ 8 := by omega
  have HC1 := Lib.hid hc1; have HO1 := Lib.hid ho1.kept; clear hc1 ho1 hx1 hx2 hx0 hx3
  go_wp2_with fail
  go_loopw [5, 6] (fun s i wr => ∃ (k : Nat) (S : ByteArray), k ≤ 8 ∧ i = .int .i64 k ∧ s = .string S ∧ S.size + 500 * k ≤ 4000 ∧ Cur b sv len wr ∧ Kept b w wr) (fun _ i _ => (intOf i).toNat)
  case atStart => exact ⟨m, ⟨#[]⟩, hm, rfl, rfl, by show 0 + 500 * m ≤ 4000; omega, HC1.out, HO1.out⟩
  case round =>
    obtain ⟨k, S, hk, rfl, rfl, hS, hcu, hke⟩ := hrel
    have HCU := Lib.hid hcu; have HK := Lib.hid hke
    clear hcu hke HC1 HO1
    by_cases hlt : (0 : Int) < (k : Int)
    · go_wp2_with fail
      refine (once_any b sv len 3 _ HCU.out).mono ?_
      rintro e w2 ⟨t, rfl, hc2, ho2⟩
      have HC2 := Lib.hid hc2; have HO2 := Lib.hid (HK.out.trans ho2); have HL2 := Lib.hid hc2.lt
      clear hc2 ho2
      cases t with
      | true =>
        go_wp2_with fail
        refine (str_any b sv len _ 5 5 _ (HC2.out.alloc _) (by have := HL2.out; omega) (by omega) (by omega) ?_).mono ?_
        · exact cells_str _ _ _ _ (by rfl) (by kernel_rfl)
        rintro e w3 ⟨s, rfl, hs, hc3, ho3⟩
        have HC3 := Lib.hid hc3; have HO3 := Lib.hid (HO2.out.trans ((Kept.alloc b w2 _).trans ho3))
        clear hc3 ho3
        go_wp2
        go_roundw
        case rel => exact ⟨k - 1, _, by omega, by go_num, rfl, by rw [size_app]; omega, HC3.out, HO3.out⟩
        case measure => simp [intOf] <;> omega
      | false =>
        go_wp2_with fail
        refine (tag_any b sv len _ HC2.out).mono ?_
        rintro e w3 ⟨s, rfl, hs, hc3, ho3⟩
        have hsz := hs.1
        have HC3 := Lib.hid hc3; have HO3 := Lib.hid (HO2.out.trans ho3)
        clear hc3 ho3 hs
        go_wp2
        go_roundw
        case rel => exact ⟨k - 1, _, by omega, by go_num, rfl, by rw [size_app, size_app, size_app]; show S.size + 1 + s.size + 1 + _ ≤ _; omega, HC3.out, HO3.out⟩
        case measure => simp [intOf] <;> omega
    · go_wp2_with fail
      refine (once_any b sv len 6 _ HCU.out).mono ?_
      rintro e w2 ⟨t, rfl, hc2, ho2⟩
      have HC2 := Lib.hid hc2; have HO2 := Lib.hid (HK.out.trans ho2); have HL2 := Lib.hid hc2.lt
      clear hc2 ho2
      cases t with
      | true =>
        go_wp2_with fail
        refine (str_any b sv len _ 3 3 _ (HC2.out.alloc _) (by have := HL2.out; omega) (by omega) (by omega) ?_).mono ?_
        · exact cells_str _ _ _ _ (by rfl) (by kernel_rfl)
        rintro e w3 ⟨s, rfl, hs, hc3, ho3⟩
        have HC3 := Lib.hid hc3; have HO3 := Lib.hid (HO2.out.trans ((Kept.alloc b w2 _).trans ho3))
        clear hc3 ho3
        go_wp2_with fail
        go_ret
        exact ⟨_, rfl, by show (S ++ s).size ≤ 6000; rw [size_app]; omega, HC3.out, HO3.out⟩
      | false =>
        go_wp2_with fail
        go_ret
        exact ⟨_, rfl, by show S.size ≤ 6000; omega, HC2.out, HO2.out⟩

set_option maxRecDepth 100000 in
set_option maxHeartbeats 2000000 in
theorem page6_any (b : Nat) (sv : Value) (len : Nat) (w : World) (hc : Cur b sv len w) :
    Calls Tryz.prog 92 #[.pointer (some ⟨b, 0, none⟩), .int .i64 6] w (StrP Pg b sv len w) := by
  have HC := Lib.hid hc; clear hc
  go_enter Tryz.func92, Tryz.ntmps92
  go_wp2_with fail
  refine (below_any b sv len 7 _ HC.out).mono ?_
  rintro e w1 ⟨x, rfl, hx0, hx1, hx2, hc1, ho1⟩
  have hx3 := hx1 (by omega)
  obtain ⟨m, rfl⟩ := Int.eq_ofNat_of_zero_le hx0
  have hm : m ≤ 6 := by omega
  have HC1 := Lib.hid hc1; have HO1 := Lib.hid ho1.kept; clear hc1 ho1 hx1 hx2 hx0 hx3
  go_wp2_with fail
  go_loopw [5, 6] (fun s i wr => ∃ (k : Nat) (S : ByteArray), k ≤ 6 ∧ i = .int .i64 k ∧ s = .string S ∧ S.size + 500 * k ≤ 3000 ∧ Cur b sv len wr ∧ Kept b w wr) (fun _ i _ => (intOf i).toNat)
  case atStart => exact ⟨m, ⟨#[]⟩, hm, rfl, rfl, by show 0 + 500 * m ≤ 3000; omega, HC1.out, HO1.out⟩
  case round =>
    obtain ⟨k, S, hk, rfl, rfl, hS, hcu, hke⟩ := hrel
    have HCU := Lib.hid hcu; have HK := Lib.hid hke
    clear hcu hke HC1 HO1
    by_cases hlt : (0 : Int) < (k : Int)
    · go_wp2_with fail
      refine (once_any b sv len 3 _ HCU.out).mono ?_
      rintro e w2 ⟨t, rfl, hc2, ho2⟩
      have HC2 := Lib.hid hc2; have HO2 := Lib.hid (HK.out.trans ho2); have HL2 := Lib.hid hc2.lt
      clear hc2 ho2
      cases t with
      | true =>
        go_wp2_with fail
        refine (str_any b sv len _ 5 5 _ (HC2.out.alloc _) (by have := HL2.out; omega) (by omega) (by omega) ?_).mono ?_
        · exact cells_str _ _ _ _ (by rfl) (by kernel_rfl)
        rintro e w3 ⟨s, rfl, hs, hc3, ho3⟩
        have HC3 := Lib.hid hc3; have HO3 := Lib.hid (HO2.out.trans ((Kept.alloc b w2 _).trans ho3))
        clear hc3 ho3
        go_wp2
        go_roundw
        case rel => exact ⟨k - 1, _, by omega, by go_num, rfl, by rw [size_app]; omega, HC3.out, HO3.out⟩
        case measure => simp [intOf] <;> omega
      | false =>
        go_wp2_with fail
        refine (tag_any b sv len _ HC2.out).mono ?_
        rintro e w3 ⟨s, rfl, hs, hc3, ho3⟩
        have hsz := hs.1
        have HC3 := Lib.hid hc3; have HO3 := Lib.hid (HO2.out.trans ho3)
        clear hc3 ho3 hs
        go_wp2
        go_roundw
        case rel => exact ⟨k - 1, _, by omega, by go_num, rfl, by rw [size_app, size_app, size_app]; show S.size + 1 + s.size + 1 + _ ≤ _; omega, HC3.out, HO3.out⟩
        case measure => simp [intOf] <;> omega
    · go_wp2_with fail
      refine (once_any b sv len 6 _ HCU.out).mono ?_
      rintro e w2 ⟨t, rfl, hc2, ho2⟩
      have HC2 := Lib.hid hc2; have HO2 := Lib.hid (HK.out.trans ho2); have HL2 := Lib.hid hc2.lt
      clear hc2 ho2
      cases t with
      | true =>
        go_wp2_with fail
        refine (str_any b sv len _ 3 3 _ (HC2.out.alloc _) (by have := HL2.out; omega) (by omega) (by omega) ?_).mono ?_
        · exact cells_str _ _ _ _ (by rfl) (by kernel_rfl)
        rintro e w3 ⟨s, rfl, hs, hc3, ho3⟩
        have HC3 := Lib.hid hc3; have HO3 := Lib.hid (HO2.out.trans ((Kept.alloc b w2 _).trans ho3))
        clear hc3 ho3
        go_wp2_with fail
        go_ret
        exact ⟨_, rfl, by show (S ++ s).size ≤ 6000; rw [size_app]; omega, HC3.out, HO3.out⟩
      | false =>
        go_wp2_with fail
        go_ret
        exact ⟨_, rfl, by show S.size ≤ 6000; omega, HC2.out, HO2.out⟩

set_option maxRecDepth 100000 in
set_option maxHeartbeats 2000000 in
theorem page3_any (b : Nat) (sv : Value) (len : Nat) (w : World) (hc : Cur b sv len w) :
    Calls Tryz.prog 92 #[.pointer (some ⟨b, 0, none⟩), .int .i64 3] w (StrP Pg b sv len w) := by
  have HC := Lib.hid hc; clear hc
  go_enter Tryz.func92, Tryz.ntmps92
  go_wp2_with fail
  refine (below_any b sv len 4 _ HC.out).mono ?_
  rintro e w1 ⟨x, rfl, hx0, hx1, hx2, hc1, ho1⟩
  have hx3 := hx1 (by omega)
  obtain ⟨m, rfl⟩ := Int.eq_ofNat_of_zero_le hx0
  have hm : m ≤ 3 := by omega
  have HC1 := Lib.hid hc1; have HO1 := Lib.hid ho1.kept; clear hc1 ho1 hx1 hx2 hx0 hx3
  go_wp2_with fail
  go_loopw [5, 6] (fun s i wr => ∃ (k : Nat) (S : ByteArray), k ≤ 3 ∧ i = .int .i64 k ∧ s = .string S ∧ S.size + 500 * k ≤ 1500 ∧ Cur b sv len wr ∧ Kept b w wr) (fun _ i _ => (intOf i).toNat)
  case atStart => exact ⟨m, ⟨#[]⟩, hm, rfl, rfl, by show 0 + 500 * m ≤ 1500; omega, HC1.out, HO1.out⟩
  case round =>
    obtain ⟨k, S, hk, rfl, rfl, hS, hcu, hke⟩ := hrel
    have HCU := Lib.hid hcu; have HK := Lib.hid hke
    clear hcu hke HC1 HO1
    by_cases hlt : (0 : Int) < (k : Int)
    · go_wp2_with fail
      refine (once_any b sv len 3 _ HCU.out).mono ?_
      rintro e w2 ⟨t, rfl, hc2, ho2⟩
      have HC2 := Lib.hid hc2; have HO2 := Lib.hid (HK.out.trans ho2); have HL2 := Lib.hid hc2.lt
      clear hc2 ho2
      cases t with
      | true =>
        go_wp2_with fail
        refine (str_any b sv len _ 5 5 _ (HC2.out.alloc _) (by have := HL2.out; omega) (by omega) (by omega) ?_).mono ?_
        · exact cells_str _ _ _ _ (by rfl) (by kernel_rfl)
        rintro e w3 ⟨s, rfl, hs, hc3, ho3⟩
        have HC3 := Lib.hid hc3; have HO3 := Lib.hid (HO2.out.trans ((Kept.alloc b w2 _).trans ho3))
        clear hc3 ho3
        go_wp2
        go_roundw
        case rel => exact ⟨k - 1, _, by omega, by go_num, rfl, by rw [size_app]; omega, HC3.out, HO3.out⟩
        case measure => simp [intOf] <;> omega
      | false =>
        go_wp2_with fail
        refine (tag_any b sv len _ HC2.out).mono ?_
        rintro e w3 ⟨s, rfl, hs, hc3, ho3⟩
        have hsz := hs.1
        have HC3 := Lib.hid hc3; have HO3 := Lib.hid (HO2.out.trans ho3)
        clear hc3 ho3 hs
        go_wp2
        go_roundw
        case rel => exact ⟨k - 1, _, by omega, by go_num, rfl, by rw [size_app, size_app, size_app]; show S.size + 1 + s.size + 1 + _ ≤ _; omega, HC3.out, HO3.out⟩
        case measure => simp [intOf] <;> omega
    · go_wp2_with fail
      refine (once_any b sv len 6 _ HCU.out).mono ?_
      rintro e w2 ⟨t, rfl, hc2, ho2⟩
      have HC2 := Lib.hid hc2; have HO2 := Lib.hid (HK.out.trans ho2); have HL2 := Lib.hid hc2.lt
      clear hc2 ho2
      cases t with
      | true =>
        go_wp2_with fail
        refine (str_any b sv len _ 3 3 _ (HC2.out.alloc _) (by have := HL2.out; omega) (by omega) (by omega) ?_).mono ?_
        · exact cells_str _ _ _ _ (by rfl) (by kernel_rfl)
        rintro e w3 ⟨s, rfl, hs, hc3, ho3⟩
        have HC3 := Lib.hid hc3; have HO3 := Lib.hid (HO2.out.trans ((Kept.alloc b w2 _).trans ho3))
        clear hc3 ho3
        go_wp2_with fail
        go_ret
        exact ⟨_, rfl, by show (S ++ s).size ≤ 6000; rw [size_app]; omega, HC3.out, HO3.out⟩
      | false =>
        go_wp2_with fail
        go_ret
        exact ⟨_, rfl, by show S.size ≤ 6000; omega, HC2.out, HO2.out⟩

end Go.Proofs.YtkjjiinccljhjaaGreatDoor
namespace Go.Proofs.YtkjjiinccljhjaaGreatDoor
open Go.ChangeShapes Go.WideShapes Go.ChangeAt Go.RowKit

def Tx7 (s : ByteArray) : Prop := s.size ≤ 1000

set_option maxRecDepth 100000 in
set_option maxHeartbeats 2000000 in
theorem text7_any (b : Nat) (sv : Value) (len : Nat) (w : World) (hc : Cur b sv len w) :
    Calls Tryz.prog 157 #[.pointer (some ⟨b, 0, none⟩)] w (StrP Tx7 b sv len w) := by
  have HC := Lib.hid hc; clear hc
  go_enter Tryz.func157, Tryz.ntmps157
  go_wp2_with fail
  refine (below_any b sv len 4 _ HC.out).mono ?_
  rintro e w1 ⟨x, rfl, hx0, hx1, hx2, hc1, ho1⟩
  have hx3 := hx1 (by omega)
  obtain ⟨m, rfl⟩ := Int.eq_ofNat_of_zero_le hx0
  have hm : m ≤ 3 := by omega
  have HC1 := Lib.hid hc1; have HO1 := Lib.hid ho1.kept; clear hc1 ho1 hx1 hx2 hx0 hx3
  go_wp2_with fail
  go_loopw [3, 4] (fun q i wr => ∃ (k : Nat) (S : ByteArray), k ≤ 3 ∧ i = .int .i64 k ∧ q = .string S ∧ S.size + 300 * k ≤ 900 ∧ Cur b sv len wr ∧ Kept b w wr) (fun _ i _ => (intOf i).toNat)
  case atStart => exact ⟨m, ⟨#[]⟩, hm, rfl, rfl, by show 0 + 300 * m ≤ 900; omega, HC1.out, HO1.out⟩
  case round =>
    obtain ⟨k, S, hk, rfl, rfl, hS, hcu, hke⟩ := hrel
    have HCU := Lib.hid hcu; have HK := Lib.hid hke; have HL := Lib.hid hcu.lt
    clear hcu hke HC1 HO1
    by_cases hlt : (0 : Int) < (k : Int)
    · go_wp2_with fail
      refine (strP_any Gt b sv len _ 5 5 _ (HCU.out.alloc _) (by have := HL.out; omega) (by omega) (by omega) ?_).mono ?_
      · exact cells_gt _ _ _ _ (by rfl) (by kernel_rfl)
      rintro e w2 ⟨s, rfl, hs, hc2, ho2⟩
      have hz_s := hs.1
      have HC2 := Lib.hid hc2; have HO2 := Lib.hid (HK.out.trans ((Kept.alloc b _ _).trans ho2)); have HL2 := Lib.hid hc2.lt
      clear hc2 ho2 hs
      go_wp2_with fail
      refine (strP_any Gt b sv len _ 6 6 _ (HC2.out.alloc _) (by have := HL2.out; omega) (by omega) (by omega) ?_).mono ?_
      · exact cells_gt _ _ _ _ (by rfl) (by kernel_rfl)
      rintro e w3 ⟨t, rfl, ht, hc3, ho3⟩
      have hz_t := ht.1
      have HC3 := Lib.hid hc3; have HO3 := Lib.hid (HO2.out.trans ((Kept.alloc b w2 _).trans ho3))
      clear hc3 ho3 ht
      go_wp2
      go_roundw
      case rel => exact ⟨k - 1, _, by omega, by go_num, rfl, by rw [size_app, size_app, size_app, size_app]; show S.size + s.size + 1 + t.size + 1 + _ ≤ _; omega, HC3.out, HO3.out⟩
      case measure => simp [intOf] <;> omega
    · go_wp2_with fail
      go_ret
      exact ⟨_, rfl, by show S.size ≤ 1000; omega, HCU.out, HK.out⟩

end Go.Proofs.YtkjjiinccljhjaaGreatDoor
namespace Go.Proofs.YtkjjiinccljhjaaGreatDoor
open Go.ChangeShapes Go.WideShapes Go.ChangeAt Go.RowKit

theorem empT_size (s : ByteArray) : (s.toList == []) = decide (s.size = 0) := by
  rw [ByteArray.toList_eq]
  by_cases h : s.size = 0
  · rw [decide_eq_true h, beq_iff_eq]; exact List.eq_nil_of_length_eq_zero (by rw [size_list]; exact h)
  · rw [decide_eq_false h]
    refine beq_eq_false_iff_ne.2 fun e => h ?_
    rw [← size_list, e]; rfl
def Short (n : Nat) (s : ByteArray) : Prop := s.size ≤ n
def TextGot (b : Nat) (sv : Value) (len : Nat) (w : World) (e : Ending) (w' : World) : Prop :=
  ∃ s : ByteArray, e = .returned (.string s) ∧ s.size ≤ 600 ∧ Cur b sv len w' ∧ Kept b w w'

set_option maxRecDepth 100000 in
set_option maxHeartbeats 2000000 in
theorem text8_any (b : Nat) (sv : Value) (len : Nat) (M : Nat) (hM : M = 3 ∨ M = 4 ∨ M = 5) (w : World) (hc : Cur b sv len w) :
    Calls Tryz.prog 159 #[.pointer (some ⟨b, 0, none⟩), .int .i64 (M : Int)] w (TextGot b sv len w) := by
  have HC := Lib.hid hc; clear hc
  have hM5 : M ≤ 5 := by omega
  have hM1 : 1 ≤ M := by omega
  clear hM
  go_enter Tryz.func159, Tryz.ntmps159
  go_wp2_with fail
  refine (below_any b sv len (M : Int) _ HC.out).mono ?_
  rintro e w1 ⟨x, rfl, hx0, hx1, hx2, hc1, ho1⟩
  have hx3 := hx1 (by omega)
  obtain ⟨K, rfl⟩ := Int.eq_ofNat_of_zero_le hx0
  have hK : K < 5 := by omega
  have HC1 := Lib.hid hc1; have HK1 := Lib.hid ho1.kept
  clear hc1 ho1 hx1 hx2 hx3 hx0
  go_wp2_with fail
  go_loopw [5, 6] (fun q i wr => ∃ (k : Nat) (s : ByteArray), k ≤ K + 1 ∧ i = .int .i64 k ∧ q = .string s ∧ s.size + 101 * k ≤ 101 * (K + 1) ∧ Cur b sv len wr ∧ Kept b w wr)
    (fun _ i _ => (intOf i).toNat)
  case atStart => exact ⟨K + 1, ⟨#[]⟩, Nat.le_refl _, by go_num, rfl, by show 0 + _ ≤ _; omega, HC1.out, HK1.out⟩
  case round =>
    obtain ⟨k, s, hk, rfl, rfl, hs, hc, hk2⟩ := hrel
    have HCR := Lib.hid hc; have HKR := Lib.hid hk2; clear hc hk2
    by_cases hlt : (0 : Int) < (k : Int)
    · have hltd : decide ((0 : Int) < (k : Int)) = true := decide_eq_true hlt
      obtain ⟨j, rfl⟩ : ∃ j, k = j + 1 := ⟨k - 1, by omega⟩
      have hs6 : s.size ≤ 600 := by omega
      have hHC := HCR.out.lt
      by_cases h0 : s.size = 0
      · have hxe : (s.toList == []) = true := by rw [empT_size, decide_eq_true h0]
        have hxn : (s.toList != []) = false := by rw [bne, hxe]; rfl
        go_wp2_with fail
        refine (str_any _ sv len _ 11 11 _ (HCR.out.alloc _) (by omega) (by omega) (by omega) ?_).mono ?_
        · exact cells_str _ _ _ _ (by rfl) (by kernel_rfl)
        rintro e w2 ⟨t, rfl, ht, hc2, ho2⟩
        have a1 : ∀ W, (Op.stringOp .add s t).run Tryz.prog W = .ok (.string (s ++ t)) W := fun W => run_string_add_sum _ _ _ (by omega)
        have HC2 := Lib.hid hc2
        have HK2 := Lib.hid (HKR.out.trans ((Kept.alloc b _ _).trans ho2))
        have HZ := Lib.hid (show (s ++ t).size + 101 * j ≤ 101 * (K + 1) by rw [ByteArray.size_append]; omega)
        clear hc2 ho2
        go_wp2_with fail
        go_roundw
        case rel => exact ⟨j, s ++ t, by omega, by go_num, rfl, HZ.out, HC2.out, HK2.out⟩
        case measure => simp [intOf] <;> omega
      · have hxe : (s.toList == []) = false := by rw [empT_size, decide_eq_false h0]
        have hxn : (s.toList != []) = true := by rw [bne, hxe]; rfl
        have a0 : ∀ W, (Op.stringOp .add s ⟨#[59]⟩).run Tryz.prog W = .ok (.string (s ++ ⟨#[59]⟩)) W := fun W => run_string_add_sum _ _ _ (by rw [show (⟨#[59]⟩ : ByteArray).size = 1 from rfl]; omega)
        obtain ⟨u, hu⟩ : ∃ u, s ++ ⟨#[59]⟩ = u := ⟨_, rfl⟩
        have huz : u.size = s.size + 1 := by rw [← hu, ByteArray.size_append]; rfl
        rw [hu] at a0
        clear hu
        go_wp2_with fail
        refine (str_any _ sv len _ 11 11 _ (HCR.out.alloc _) (by omega) (by omega) (by omega) ?_).mono ?_
        · exact cells_str _ _ _ _ (by rfl) (by kernel_rfl)
        rintro e w2 ⟨t, rfl, ht, hc2, ho2⟩
        have a1 : ∀ W, (Op.stringOp .add u t).run Tryz.prog W = .ok (.string (u ++ t)) W := fun W => run_string_add_sum _ _ _ (by omega)
        have HC2 := Lib.hid hc2
        have HK2 := Lib.hid (HKR.out.trans ((Kept.alloc b _ _).trans ho2))
        have HZ := Lib.hid (show (u ++ t).size + 101 * j ≤ 101 * (K + 1) by rw [ByteArray.size_append]; omega)
        clear hc2 ho2 a0
        go_wp2_with fail
        go_roundw
        case rel => exact ⟨j, u ++ t, by omega, by go_num, rfl, HZ.out, HC2.out, HK2.out⟩
        case measure => simp [intOf] <;> omega
    · have hltd : decide ((0 : Int) < (k : Int)) = false := decide_eq_false hlt
      go_wp2_with fail
      go_ret
      exact ⟨s, rfl, by omega, HCR.out, HKR.out⟩

end Go.Proofs.YtkjjiinccljhjaaGreatDoor
namespace Go.Proofs.YtkjjiinccljhjaaGreatDoor
open Go.ChangeShapes Go.WideShapes Go.ChangeAt Go.RowKit

def Making (k : IntKind) (e : TypeId) (zs : List Int) (w : World) (en : Ending) (w' : World) : Prop := ∃ v, en = .returned v ∧ Mine k e w.heap.size w w' v zs
theorem Mine.new {k : IntKind} {e : TypeId} {w w' : World} {v : Value} {zs : List Int} (h : Mine k e w.heap.size w w' v zs) : New k e zs w (.returned v) w' := ⟨v, rfl, h.own, h.below⟩

def cat (zs : Nat → List Int) : Nat → List Int
  | 0 => []
  | j + 1 => cat zs j ++ zs j
theorem cat_le (zs : Nat → List Int) (m : Nat) : ∀ j, j ≤ m → (cat zs j).length ≤ (cat zs m).length := by
  induction m with
  | zero => intro j h; have : j = 0 := by omega
            subst this; exact Nat.le_refl _
  | succ m ih =>
    intro j h
    by_cases e : j = m + 1
    · subst e; exact Nat.le_refl _
    · have := ih j (by omega); simp only [cat, List.length_append]; omega

end Go.Proofs.YtkjjiinccljhjaaGreatDoor
namespace Go.Proofs.YtkjjiinccljhjaaGreatDoor
open Go.ChangeShapes Go.WideShapes Go.ChangeAt Go.RowKit

end Go.Proofs.YtkjjiinccljhjaaGreatDoor
namespace Go.Proofs.YtkjjiinccljhjaaGreatDoor
open Go.ChangeShapes Go.WideShapes Go.ChangeAt Go.RowKit

/-- One step of the fold. -/
def hstep (a z : Int) : Int := (a * 1000003 + modI z 2147483647 + 13) % 2147483647
/-- The fold of the first k numbers. -/
def hashL (zs : List Int) : Nat → Int
  | 0 => 11
  | k + 1 => hstep (hashL zs k) (zs.getD k 0)
theorem modI_M (z : Int) : 0 ≤ modI z 2147483647 ∧ modI z 2147483647 < 2147483647 := by
  unfold modI; rw [if_pos (by omega)]; omega
theorem hstep_bd (a z : Int) : 0 ≤ hstep a z ∧ hstep a z < 2147483647 := by unfold hstep; omega
theorem hashL_bd (zs : List Int) (k : Nat) : 0 ≤ hashL zs k ∧ hashL zs k < 2147483647 := by
  cases k with
  | zero => simp [hashL]
  | succ k => exact hstep_bd _ _

set_option maxHeartbeats 1000000 in
theorem specHash_any (v : Value) (hi : Nat) (zs : List Int) (w : World) (hr : Reads .i64 hi w v zs) :
    Calls Tryz.prog 83 #[v] w fun e w' => e = .returned (.int .i64 (hashL zs zs.length)) ∧ w = w' := by
  obtain ⟨a, cap, rfl, h1, h2, -, hcells⟩ := hr
  have HC := Lib.hid hcells; clear hcells
  obtain ⟨n, hn⟩ : ∃ n, zs.length = n := ⟨_, rfl⟩
  rw [hn] at h1 HC ⊢
  go_enter Tryz.func83, Tryz.ntmps83
  go_wp2
  go_loop [3, 4] (fun d i => ∃ k : Nat, k ≤ n ∧ i = .int .i64 k ∧ d = .int .i64 (hashL zs k)) (fun _ i => n - (intOf i).toNat)
  case atStart => exact ⟨0, Nat.zero_le _, rfl, rfl⟩
  case round =>
    obtain ⟨k, hk, rfl, rfl⟩ := hrel
    obtain ⟨D, hD⟩ : ∃ D, hashL zs k = D := ⟨_, rfl⟩
    have hd := hashL_bd zs k
    rw [hD] at hd ⊢
    obtain ⟨hd0, hd1⟩ := hd
    have HD := Lib.hid hD; clear hD
    by_cases hlt : (k : Int) < (n : Int)
    · rcases HC.out with h0 | ⟨g, off, rfl, hg, hcells⟩
      · omega
      · have c1 : w.cell? ⟨g, off + k, none⟩ = some (.int .i64 (zs.getD k 0)) := hcells k (by omega)
        obtain ⟨z, hz⟩ : ∃ z, zs.getD k 0 = z := ⟨_, rfl⟩
        rw [hz] at c1
        have HZ := Lib.hid hz
        clear hcells hz
        go_wp2_with fail
        refine (mod_spec z 2147483647 w).mono ?_
        rintro e w1 ⟨rfl, rfl⟩
        obtain ⟨m, hm⟩ : ∃ m, modI z 2147483647 = m := ⟨_, rfl⟩
        have hmb := modI_M z
        rw [hm] at hmb ⊢
        obtain ⟨hm0, hm1⟩ := hmb
        have HE := Lib.hid (show hashL zs (k + 1) = (D * 1000003 + m + 13) % 2147483647 by simp only [hashL, hstep]; rw [HD.out, HZ.out, hm])
        clear hm
        go_wp2
        go_round
        case rel => exact ⟨k + 1, by omega, by go_num, by rw [HE.out]⟩
        case measure => simp [intOf]; omega
    · have hkn : k = n := by omega
      subst hkn
      go_wp2
      go_ret
      exact ⟨by rw [HD.out]; rfl, rfl⟩

set_option maxHeartbeats 1000000 in
theorem implHash_any (v : Value) (hi : Nat) (zs : List Int) (w : World) (hr : Reads .i64 hi w v zs) :
    Calls Tryz.prog 93 #[v] w fun e w' => e = .returned (.int .i64 (hashL zs zs.length)) ∧ w = w' := by
  obtain ⟨a, cap, rfl, h1, h2, -, hcells⟩ := hr
  have HC := Lib.hid hcells; clear hcells
  obtain ⟨n, hn⟩ : ∃ n, zs.length = n := ⟨_, rfl⟩
  rw [hn] at h1 HC ⊢
  go_enter Tryz.func93, Tryz.ntmps93
  go_wp2
  go_loop [3, 8] (fun d i => ∃ k : Nat, k ≤ n ∧ i = .int .i64 k ∧ d = .int .i64 (hashL zs k)) (fun _ i => n - (intOf i).toNat)
  case atStart => exact ⟨0, Nat.zero_le _, rfl, rfl⟩
  case round =>
    obtain ⟨k, hk, rfl, rfl⟩ := hrel
    obtain ⟨D, hD⟩ : ∃ D, hashL zs k = D := ⟨_, rfl⟩
    have hd := hashL_bd zs k
    rw [hD] at hd ⊢
    obtain ⟨hd0, hd1⟩ := hd
    have HD := Lib.hid hD; clear hD
    by_cases hlt : (k : Int) < (n : Int)
    · rcases HC.out with h0 | ⟨g, off, rfl, hg, hcells⟩
      · omega
      · have c1 : w.cell? ⟨g, off + k, none⟩ = some (.int .i64 (zs.getD k 0)) := hcells k (by omega)
        obtain ⟨z, hz⟩ : ∃ z, zs.getD k 0 = z := ⟨_, rfl⟩
        rw [hz] at c1
        have HZ := Lib.hid hz
        clear hcells hz
        go_wp2_with fail
        refine (mod_impl z 2147483647 w).mono ?_
        rintro e w1 ⟨rfl, rfl⟩
        obtain ⟨m, hm⟩ : ∃ m, modI z 2147483647 = m := ⟨_, rfl⟩
        have hmb := modI_M z
        rw [hm] at hmb ⊢
        obtain ⟨hm0, hm1⟩ := hmb
        have HE := Lib.hid (show hashL zs (k + 1) = (D * 1000003 + m + 13) % 2147483647 by simp only [hashL, hstep]; rw [HD.out, HZ.out, hm])
        clear hm
        go_wp2
        go_round
        case rel => exact ⟨k + 1, by omega, by go_num, by rw [HE.out]⟩
        case measure => simp [intOf]; omega
    · have hkn : k = n := by omega
      subst hkn
      go_wp2
      go_ret
      exact ⟨by rw [HD.out]; rfl, rfl⟩

end Go.Proofs.YtkjjiinccljhjaaGreatDoor
namespace Go.Proofs.YtkjjiinccljhjaaGreatDoor
open Go.ChangeShapes Go.WideShapes Go.ChangeAt Go.RowKit

/-- The keyed hash: the fold of the key, the numbers, the key. -/
def kh (k : Int) (zs : List Int) : Int := hashL (k :: (zs ++ [k])) (k :: (zs ++ [k])).length
theorem kh_bd (k : Int) (zs : List Int) : 0 ≤ kh k zs ∧ kh k zs < 2147483647 := hashL_bd _ _

/-- A literal of one number is the call's own. -/
theorem Mine.lit {k : IntKind} {e : TypeId} {w0 w : World} {B : Nat} (x : Int) (hb : Below B w0 w) (hB : B ≤ w.heap.size) : Mine k e B w0 (w.alloc (.cells #[.int k x] e)) (.slice (some ⟨w.heap.size, 0, none⟩) 1 1) [x] :=
  ⟨World.ownsRow_lit (base := B) (e := e) (size := 1) w #[.int k x] 1 hB (by decide) rfl, hb.alloc hB _, by simp; omega⟩

theorem take_moreK {zs : List Int} {k : Nat} (h : k < zs.length) : zs.take (k + 1) = zs.take k ++ [zs.getD k 0] := by
  rw [List.take_add_one, getD_at h]; rfl
/-- The length, then the numbers. -/
def b2i (zs : List Int) : List Int := (zs.length : Int) :: zs
theorem b2i_len (zs : List Int) : (b2i zs).length = zs.length + 1 := rfl

set_option maxHeartbeats 1000000 in
theorem specB2I_any (v : Value) (hi : Nat) (zs : List Int) (w : World) (hr : Reads .u8 hi w v zs) (hh : hi ≤ w.heap.size) (hzb : Bytes zs) (hl : zs.length ≤ 1099511627776) :
    Calls Tryz.prog 84 #[v] w (New .i64 3 (b2i zs) w) := by
  obtain ⟨i0, hi0, hz0, hz1, hz2⟩ := info_parts info64
  obtain ⟨a, cap, rfl, h1, h2, -, hcells⟩ := hr
  have HC := Lib.hid hcells; have HZB := Lib.hid hzb; clear hcells hzb
  obtain ⟨n, hn⟩ : ∃ n, zs.length = n := ⟨_, rfl⟩
  have HBI := Lib.hid (show b2i zs = (n : Int) :: zs.take n by unfold b2i; rw [← hn, List.take_length])
  rw [hn] at h1 hl HC ⊢
  have HN := Lib.hid hn; clear hn
  have HM := Lib.hid (Mine.lit (k := .i64) (e := 3) (n : Int) (Below.refl w.heap.size w) (Nat.le_refl _))
  go_enter Tryz.func84, Tryz.ntmps84
  go_wp2
  go_loopw [3, 4] (fun v i wr => ∃ k : Nat, k ≤ n ∧ i = .int .i64 k ∧ Mine .i64 3 w.heap.size w wr v ((n : Int) :: zs.take k)) (fun _ i _ => n - (intOf i).toNat)
  case atStart => exact ⟨0, Nat.zero_le _, rfl, HM.out⟩
  case round =>
    obtain ⟨k, hk, rfl, hmine⟩ := hrel
    have HMI := Lib.hid hmine; clear hmine HM
    by_cases hlt : (k : Int) < (n : Int)
    · rcases HC.out with h0 | ⟨g, off, rfl, hg, hcells⟩
      · omega
      · have c1 : wr.cell? ⟨g, off + k, none⟩ = some (.int .u8 (zs.getD k 0)) := by rw [HMI.out.below.cell (show g < w.heap.size by omega)]; exact hcells k (by omega)
        obtain ⟨z0, z1⟩ := HZB.out.at k
        have hmore := take_moreK (zs := zs) (k := k) (by have := HN.out; omega)
        obtain ⟨z, hz⟩ : ∃ z, zs.getD k 0 = z := ⟨_, rfl⟩
        rw [hz] at c1 z0 z1 hmore
        have HT := Lib.hid hmore
        clear hcells hz hmore
        go_wp2_with (at_builtin; refine wpList_app rfl _ _ 71 rfl .i64 3 i0 (.int .i64 0) 8 Tryz.underlying71 hi0 hz0 hz1 hz2 rfl w.heap.size w _ ((n : Int) :: zs.take k) rfl (HMI.out.alloc _) _ _ [z] rfl (reads_one _ _ _ rfl) (by decide) ?c3 ?_)
        case c3 => simp; omega
        intro v' w2 hm2
        have HM2 := Lib.hid (show Mine .i64 3 w.heap.size w w2 v' ((n : Int) :: zs.take (k + 1)) by rw [HT.out]; exact hm2)
        clear hm2
        go_wp2
        go_roundw
        case rel => exact ⟨k + 1, by omega, by go_num, HM2.out⟩
        case measure => simp [intOf]; omega
    · have hkn : k = n := by omega
      subst hkn
      go_wp2
      go_ret
      rw [HBI.out]
      exact ⟨_, rfl, HMI.out.own, HMI.out.below⟩

set_option maxHeartbeats 1000000 in
theorem implB2I_any (v : Value) (hi : Nat) (zs : List Int) (w : World) (hr : Reads .u8 hi w v zs) (hh : hi ≤ w.heap.size) (hzb : Bytes zs) (hl : zs.length ≤ 1099511627776) :
    Calls Tryz.prog 94 #[v] w (New .i64 3 (b2i zs) w) := by
  obtain ⟨i0, hi0, hz0, hz1, hz2⟩ := info_parts info64
  obtain ⟨a, cap, rfl, h1, h2, -, hcells⟩ := hr
  have HC := Lib.hid hcells; have HZB := Lib.hid hzb; clear hcells hzb
  obtain ⟨n, hn⟩ : ∃ n, zs.length = n := ⟨_, rfl⟩
  have HBI := Lib.hid (show b2i zs = (n : Int) :: zs.take n by unfold b2i; rw [← hn, List.take_length])
  rw [hn] at h1 hl HC ⊢
  have HN := Lib.hid hn; clear hn
  have HM := Lib.hid (Mine.lit (k := .i64) (e := 3) (n : Int) (Below.refl w.heap.size w) (Nat.le_refl _))
  go_enter Tryz.func94, Tryz.ntmps94
  go_wp2
  go_loopw [3, 11] (fun v i wr => ∃ k : Nat, k ≤ n ∧ i = .int .i64 k ∧ Mine .i64 3 w.heap.size w wr v ((n : Int) :: zs.take k)) (fun _ i _ => n - (intOf i).toNat)
  case atStart => exact ⟨0, Nat.zero_le _, rfl, HM.out⟩
  case round =>
    obtain ⟨k, hk, rfl, hmine⟩ := hrel
    have HMI := Lib.hid hmine; clear hmine HM
    by_cases hlt : (k : Int) < (n : Int)
    · rcases HC.out with h0 | ⟨g, off, rfl, hg, hcells⟩
      · omega
      · have c1 : wr.cell? ⟨g, off + k, none⟩ = some (.int .u8 (zs.getD k 0)) := by rw [HMI.out.below.cell (show g < w.heap.size by omega)]; exact hcells k (by omega)
        obtain ⟨z0, z1⟩ := HZB.out.at k
        have hmore := take_moreK (zs := zs) (k := k) (by have := HN.out; omega)
        obtain ⟨z, hz⟩ : ∃ z, zs.getD k 0 = z := ⟨_, rfl⟩
        rw [hz] at c1 z0 z1 hmore
        have HT := Lib.hid hmore
        clear hcells hz hmore
        go_wp2_with (at_builtin; refine wpList_app rfl _ _ 71 rfl .i64 3 i0 (.int .i64 0) 8 Tryz.underlying71 hi0 hz0 hz1 hz2 rfl w.heap.size w _ ((n : Int) :: zs.take k) rfl (HMI.out.alloc _) _ _ [z] rfl (reads_one _ _ _ rfl) (by decide) ?c3 ?_)
        case c3 => simp; omega
        intro v' w2 hm2
        have HM2 := Lib.hid (show Mine .i64 3 w.heap.size w w2 v' ((n : Int) :: zs.take (k + 1)) by rw [HT.out]; exact hm2)
        clear hm2
        go_wp2
        go_roundw
        case rel => exact ⟨k + 1, by omega, by go_num, HM2.out⟩
        case measure => simp [intOf]; omega
    · have hkn : k = n := by omega
      subst hkn
      go_wp2
      go_ret
      rw [HBI.out]
      exact ⟨_, rfl, HMI.out.own, HMI.out.below⟩

end Go.Proofs.YtkjjiinccljhjaaGreatDoor
namespace Go.Proofs.YtkjjiinccljhjaaGreatDoor
open Go.ChangeShapes Go.WideShapes Go.ChangeAt Go.RowKit

/-- A string's bytes as numbers. -/
def sbytes (s : ByteArray) : List Int := s.data.toList.map fun b => (b.toNat : Int)
theorem sbytes_len (s : ByteArray) : (sbytes s).length = s.size := by
  simp [sbytes]
theorem sbytes_bytes (s : ByteArray) : Bytes (sbytes s) := by
  intro z hz
  simp only [sbytes, List.mem_map] at hz
  obtain ⟨b, _, rfl⟩ := hz
  have := b.toNat_lt
  omega
theorem reads_conv_of (s : ByteArray) (w : World) (c : Nat) (f : Nat × Nat) (h1 : s.size ≤ c) (h2 : c ≤ 9223372036854775807) :
    Reads .u8 (w.heap.size + 1) (w.alloc (.cells (bytesRow s c) 5 f)) (.slice (some ⟨w.heap.size, 0, none⟩) s.size c) (sbytes s) := by
  refine ⟨some ⟨w.heap.size, 0, none⟩, c, by rw [sbytes_len], by rw [sbytes_len]; exact h1, h2, (fun h => by cases h), Or.inr ⟨w.heap.size, 0, rfl, by omega, fun j hj => ?_⟩⟩
  rw [sbytes_len] at hj
  have h3 : (w.alloc (.cells (bytesRow s c) 5 f)).heap[w.heap.size]? = some (.cells (bytesRow s c) 5 f) := by
    show (w.heap.push _)[w.heap.size]? = _
    simp
  have hj2 : j < s.data.size := hj
  have h4 : (bytesRow s c)[j]? = some (.int .u8 (s.data[j].toNat : Int)) := by
    unfold bytesRow
    rw [Array.getElem?_append_left (by simpa using hj2), Array.getElem?_map, Array.getElem?_eq_getElem hj2]
    rfl
  have h5 : (sbytes s).getD j 0 = (s.data[j].toNat : Int) := by
    rw [List.getD_eq_getElem?_getD]
    simp only [sbytes, List.getElem?_map, Array.getElem?_toList, Array.getElem?_eq_getElem hj2]
    rfl
  rw [h5, Nat.zero_add]
  unfold World.cell?
  rw [h3]
  simpa using h4

/-- A string's bytes in a new slice: of what lay in memory nothing is written. -/
theorem conv_below (w : World) (o : Obj) : Below w.heap.size w (w.drew.alloc o) := (Below.refl _ _).drew.alloc (Nat.le_refl _) _

def derive (k : Int) (s : ByteArray) : Int := maxI 1 (kh k (b2i (sbytes s)))
theorem derive_zero {k : Int} {s : ByteArray} (h : kh k (b2i (sbytes s)) = 0) : derive k s = 1 := by unfold derive maxI; rw [h]; rfl
theorem derive_else {k : Int} {s : ByteArray} (h : ¬ kh k (b2i (sbytes s)) = 0) : derive k s = kh k (b2i (sbytes s)) := by
  have := kh_bd k (b2i (sbytes s))
  unfold derive maxI
  split <;> omega
theorem derive_bd (k : Int) (s : ByteArray) : 1 ≤ derive k s ∧ derive k s ≤ 2147483646 := by
  have := kh_bd k (b2i (sbytes s))
  unfold derive maxI
  split <;> omega

end Go.Proofs.YtkjjiinccljhjaaGreatDoor

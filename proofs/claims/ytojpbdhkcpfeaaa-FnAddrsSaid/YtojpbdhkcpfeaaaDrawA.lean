/- Helper contracts over the draws of chapter 4's laws: whatever the bytes, the strings that are drawn are short, and nothing that lay in memory before is written but the reader's own block. -/
import Derived.Test.YtojpbdhkcpfeaaaBig
import Derived.Test.YtojpbdhkcpfeaaaPrs
namespace Go.Proofs.Ytojpbdhkcpfeaaa
open Go.ChangeShapes Go.WideShapes Go.ChangeAt Go.RowKit

theorem cur_belowA {b : Nat} {sv : Value} {len B : Nat} {w w' : World} (h : Cur b sv len w) (k : Below B w w') (hB : b < B) : Cur b sv len w' := by
  obtain ⟨i, x, h1, h2, a, cap, e, h3, h4⟩ := h
  refine ⟨i, x, by rw [k.block b hB]; exact h1, h2, a, cap, e, h3, ?_⟩
  rcases h4 with h4 | ⟨blk, off, e2, hb, hc⟩
  · exact Or.inl h4
  · refine Or.inr ⟨blk, off, e2, hb, fun j hj => ?_⟩
    obtain ⟨n, n0, n1, hn⟩ := hc j hj
    exact ⟨n, n0, n1, by rw [k.cell (by show blk < _; omega)]; exact hn⟩
theorem Kept.set {b r : Nat} {w w' : World} (h : Kept b w w') (hr : w.heap.size ≤ r) (o : Nat) (v : Value) : Kept b w (w'.setCell ⟨r, o, none⟩ v) :=
  ⟨h.os, h.tape, h.output, by have := h.size; simp [World.setCell]; omega, fun k hk hkb => (Below.heap_setCell _ _ _ _ (show k ≠ r by omega)).trans (h.block k hk hkb)⟩
theorem Kept.drewN {b : Nat} {w w' : World} (h : Kept b w w') (n : Nat) : Kept b w (w'.drewN n) := ⟨h.os, h.tape, h.output, h.size, h.block⟩
theorem Cur.set {b r : Nat} {sv : Value} {len : Nat} {w : World} (h : Cur b sv len w) (hr : b < r) (o : Nat) (v : Value) : Cur b sv len (w.setCell ⟨r, o, none⟩ v) :=
  cur_belowA h ((Below.refl r w).setCell (Nat.le_refl _) _) hr
theorem Cur.drewN {b : Nat} {sv : Value} {len : Nat} {w : World} (h : Cur b sv len w) (n : Nat) : Cur b sv len (w.drewN n) := h
theorem Kept.heap {b r : Nat} {w w' : World} (h : Kept b w w') (hr : r < w.heap.size) (hb : r ≠ b) {o : Obj} (ho : w.heap[r]? = some o) : w'.heap[r]? = some o := (h.block r hr hb).trans ho

set_option maxHeartbeats 1000000 in
theorem host_any (b : Nat) (sv : Value) (len : Nat) (w : World) (hc : Cur b sv len w) :
    Calls Try.prog 59 #[.pointer (some ⟨b, 0, none⟩)] w (StrOut b sv len w) := by
  have HC := Lib.hid hc; clear hc
  go_enter Try.func59, Try.ntmps59
  go_wp2_with fail
  refine (str_any b sv len _ 4 4 _ (HC.out.alloc _) (by have := (HC.out).lt; omega) (by omega) (by omega) ?_).mono ?_
  · exact cells_str _ _ _ _ (by rfl) (by kernel_rfl)
  rintro e w1 ⟨s, rfl, hs, hc1, ho1⟩
  have HC1 := Lib.hid hc1; have HO1 := Lib.hid ho1; clear hc1 ho1
  go_wp2_with fail
  go_ret
  exact ⟨s, rfl, hs, HC1.out, (Kept.alloc b w _).trans HO1.out⟩

set_option maxHeartbeats 1000000 in
theorem path_any (b : Nat) (sv : Value) (len : Nat) (w : World) (hc : Cur b sv len w) :
    Calls Try.prog 60 #[.pointer (some ⟨b, 0, none⟩)] w (StrOut b sv len w) := by
  have HC := Lib.hid hc; clear hc
  go_enter Try.func60, Try.ntmps60
  go_wp2_with fail
  refine (str_any b sv len _ 7 7 _ (HC.out.alloc _) (by have := (HC.out).lt; omega) (by omega) (by omega) ?_).mono ?_
  · exact cells_str _ _ _ _ (by rfl) (by kernel_rfl)
  rintro e w1 ⟨s, rfl, hs, hc1, ho1⟩
  have HC1 := Lib.hid hc1; have HO1 := Lib.hid ho1; clear hc1 ho1
  go_wp2_with fail
  go_ret
  exact ⟨s, rfl, hs, HC1.out, (Kept.alloc b w _).trans HO1.out⟩

def AddrD (b : Nat) (sv : Value) (len : Nat) (w : World) (e : Ending) (w' : World) : Prop :=
  ∃ h p : ByteArray, e = .returned (.agg #[.string h, .string p]) ∧ h.size ≤ 100 ∧ p.size ≤ 100 ∧ Cur b sv len w' ∧ Kept b w w'
theorem size_alloc1 (w : World) (o : Obj) : (w.alloc o).heap.size = w.heap.size + 1 := by show (w.heap.push o).size = _; simp
theorem heap_new (w : World) (o : Obj) : (w.alloc o).heap[w.heap.size]? = some o := heap_alloc_new w o
theorem heap_two0 {w : World} {b : Nat} {x y u : Value} {T : TypeId} (h : w.heap[b]? = some (.cells #[x, y] T (0, 0))) : (w.setCell ⟨b, 0, none⟩ u).heap[b]? = some (.cells #[u, y] T (0, 0)) := by
  rw [heap_setCell_same w b 0 _ T u h]; rfl
theorem heap_two1 {w : World} {b : Nat} {x y u : Value} {T : TypeId} (h : w.heap[b]? = some (.cells #[x, y] T (0, 0))) : (w.setCell ⟨b, 1, none⟩ u).heap[b]? = some (.cells #[x, u] T (0, 0)) := by
  rw [heap_setCell_same w b 1 _ T u h]; rfl

set_option maxHeartbeats 1000000 in
theorem addr_any (b : Nat) (sv : Value) (len : Nat) (w : World) (hc : Cur b sv len w) :
    Calls Try.prog 53 #[.pointer (some ⟨b, 0, none⟩)] w (AddrD b sv len w) := by
  have hbl := hc.lt
  have HC := Lib.hid hc; clear hc
  go_enter Try.func53, Try.ntmps53
  go_wp2_with fail
  refine (host_any b sv len _ (HC.out.alloc _)).mono ?_
  rintro e w1 ⟨h, rfl, hh, hc1, ho1⟩
  have HC1 := Lib.hid hc1; have HO1 := Lib.hid ((Kept.alloc b w _).trans ho1)
  have HR1 := Lib.hid (ho1.heap (r := w.heap.size) (by rw [size_alloc1]; omega) (by omega) (heap_new w _))
  clear hc1 ho1
  go_wp2_with fail
  refine (path_any b sv len _ HC1.out).mono ?_
  rintro e w2 ⟨p, rfl, hp, hc2, ho2⟩
  have HC2 := Lib.hid hc2; have HO2 := Lib.hid (HO1.out.trans ho2)
  have hr2 := ho2.heap (r := w.heap.size) (lt_heap HR1.out) (by omega) HR1.out
  obtain ⟨c0, c1, f0, f1⟩ := cells_two hr2
  have HK := Lib.hid (heap_two (u := .string h) (v := .string p) hr2)
  clear hc2 ho2 hr2
  go_wp2_with fail
  obtain ⟨q0, q1, _, _⟩ := cells_two HK.out
  refine bodyPost_ret (v := .agg #[.string h, .string p]) (by simp [results, Try.results53, go_sem, q0, q1]) rfl ⟨h, p, rfl, hh, hp, (HC2.out.set hbl _ _).set hbl _ _, (HO2.out.set (Nat.le_refl _) _ _).set (Nat.le_refl _) _ _⟩

set_option maxHeartbeats 2000000 in
theorem any_any (b : Nat) (sv : Value) (len : Nat) (w : World) (hc : Cur b sv len w) :
    Calls Try.prog 43 #[.pointer (some ⟨b, 0, none⟩)] w (AddrD b sv len w) := by
  have hbl := hc.lt
  have HC := Lib.hid hc; clear hc
  go_enter Try.func43, Try.ntmps43
  go_wp2_with fail
  refine (addr_any b sv len _ (HC.out.alloc _)).mono ?_
  rintro e w1 ⟨h, p, rfl, hh, hp, hc1, ho1⟩
  have HC1 := Lib.hid (hc1.alloc (.cells #[.string h, .string p] 25))
  have HO1 := Lib.hid (((Kept.alloc b w _).trans ho1).trans (Kept.alloc b w1 (.cells #[.string h, .string p] 25)))
  have hs1 := ho1.size
  rw [size_alloc1] at hs1
  have hr1 := ho1.heap (r := w.heap.size) (by rw [size_alloc1]; omega) (by omega) (heap_new w _)
  have hk0 : (w1.alloc (.cells #[.string h, .string p] 25)).heap[w.heap.size]? = some (.cells #[.string ⟨#[]⟩, .string ⟨#[]⟩] 25 (0, 0)) := by rw [Below.heap_alloc w1 _ _ (lt_heap hr1)]; exact hr1
  have HR1 := Lib.hid hk0
  have HA1 := Lib.hid (heap_new w1 (.cells #[.string h, .string p] 25))
  clear hc1 ho1 hr1 hk0
  go_wp2_with fail
  refine (below_any b sv len 12 _ HC1.out).mono ?_
  rintro e w2 ⟨x, rfl, x0, x1, x2, hc2, ho2⟩
  have HC2 := Lib.hid hc2; have HO2 := Lib.hid (HO1.out.trans ho2.kept)
  have hsz2 : w1.heap.size + 1 ≤ w2.heap.size := by have := ho2.size; rw [size_alloc1] at this; omega
  have HR2 := Lib.hid ((ho2.block w.heap.size (by omega)).trans HR1.out)
  have HA2 := Lib.hid ((ho2.block w1.heap.size (by omega)).trans HA1.out)
  clear hc2 ho2 x1
  have hra : b < w1.heap.size := by omega
  by_cases hx0 : x = 0
  · subst hx0
    go_wp2_with fail
    refine (str_any b sv len _ 4 4 _ (HC2.out.alloc _) (by omega) (by omega) (by omega) ?_).mono ?_
    · exact cells_str _ _ _ _ (by rfl) (by kernel_rfl)
    rintro e w3 ⟨s, rfl, hs, hc3, ho3⟩
    have HC3 := Lib.hid hc3; have HO3 := Lib.hid (HO2.out.trans ((Kept.alloc b w2 _).trans ho3))
    have hr3 : w3.heap[w.heap.size]? = _ := ((Kept.alloc b w2 _).trans ho3).heap (r := w.heap.size) (lt_heap HR2.out) (by omega) HR2.out
    have ha3 : w3.heap[w1.heap.size]? = _ := ((Kept.alloc b w2 _).trans ho3).heap (r := w1.heap.size) (lt_heap HA2.out) (by omega) HA2.out
    obtain ⟨c0, c1, f0, f1⟩ := cells_two ha3
    have ha4 := heap_two0 (u := .string s) ha3
    have hr4 : (w3.setCell ⟨w1.heap.size, 0, none⟩ (.string s)).heap[w.heap.size]? = _ := (Below.heap_setCell _ _ _ _ (show w.heap.size ≠ w1.heap.size by omega)).trans hr3
    obtain ⟨d0, d1, _, _⟩ := cells_two ha4
    obtain ⟨k0, k1, g0, g1⟩ := cells_two hr4
    have HK := Lib.hid (heap_two (u := .string s) (v := .string p) hr4)
    clear hc3 ho3 hr3 ha3 ha4 hr4
    go_wp2_with fail
    obtain ⟨q0, q1, _, _⟩ := cells_two HK.out
    refine bodyPost_ret (v := .agg #[.string s, .string p]) (by simp [results, Try.results43, go_sem, q0, q1]) rfl ⟨s, p, rfl, hs, hp, ((HC3.out.set hra _ _).set hbl _ _).set hbl _ _, ((HO3.out.set (by omega) _ _).set (Nat.le_refl _) _ _).set (Nat.le_refl _) _ _⟩
  by_cases hx1 : x = 1
  · subst hx1
    go_wp2_with fail
    refine (str_any b sv len _ 3 3 _ (HC2.out.alloc _) (by omega) (by omega) (by omega) ?_).mono ?_
    · exact cells_str _ _ _ _ (by rfl) (by kernel_rfl)
    rintro e w3 ⟨s, rfl, hs, hc3, ho3⟩
    have HC3 := Lib.hid hc3; have HO3 := Lib.hid (HO2.out.trans ((Kept.alloc b w2 _).trans ho3))
    have hr3 : w3.heap[w.heap.size]? = _ := ((Kept.alloc b w2 _).trans ho3).heap (r := w.heap.size) (lt_heap HR2.out) (by omega) HR2.out
    have ha3 : w3.heap[w1.heap.size]? = _ := ((Kept.alloc b w2 _).trans ho3).heap (r := w1.heap.size) (lt_heap HA2.out) (by omega) HA2.out
    obtain ⟨c0, c1, f0, f1⟩ := cells_two ha3
    have ha4 := heap_two1 (u := .string s) ha3
    have hr4 : (w3.setCell ⟨w1.heap.size, 1, none⟩ (.string s)).heap[w.heap.size]? = _ := (Below.heap_setCell _ _ _ _ (show w.heap.size ≠ w1.heap.size by omega)).trans hr3
    obtain ⟨d0, d1, _, _⟩ := cells_two ha4
    obtain ⟨k0, k1, g0, g1⟩ := cells_two hr4
    have HK := Lib.hid (heap_two (u := .string h) (v := .string s) hr4)
    clear hc3 ho3 hr3 ha3 ha4 hr4
    go_wp2_with fail
    obtain ⟨q0, q1, _, _⟩ := cells_two HK.out
    refine bodyPost_ret (v := .agg #[.string h, .string s]) (by simp [results, Try.results43, go_sem, q0, q1]) rfl ⟨h, s, rfl, hh, hs, ((HC3.out.set hra _ _).set hbl _ _).set hbl _ _, ((HO3.out.set (by omega) _ _).set (Nat.le_refl _) _ _).set (Nat.le_refl _) _ _⟩
  · have e0 : (x == 0) = false := beq_eq_false_iff_ne.2 hx0
    have e1 : (x == 1) = false := beq_eq_false_iff_ne.2 hx1
    obtain ⟨d0, d1, _, _⟩ := cells_two HA2.out
    obtain ⟨k0, k1, g0, g1⟩ := cells_two HR2.out
    have HK := Lib.hid (heap_two (u := .string h) (v := .string p) HR2.out)
    clear hx0 hx1
    go_wp2_with fail
    obtain ⟨q0, q1, _, _⟩ := cells_two HK.out
    refine bodyPost_ret (v := .agg #[.string h, .string p]) (by simp [results, Try.results43, go_sem, q0, q1]) rfl ⟨h, p, rfl, hh, hp, (HC2.out.set hbl _ _).set hbl _ _, (HO2.out.set (Nat.le_refl _) _ _).set (Nat.le_refl _) _ _⟩

/-- An address of short strings; nothing old is written. -/
def DrawnA (w : World) (en : Ending) (w' : World) : Prop :=
  ∃ h p : ByteArray, en = .returned (.agg #[.string h, .string p]) ∧ h.size ≤ 100 ∧ p.size ≤ 100 ∧ Below w.heap.size w w'

set_option maxHeartbeats 1000000 in
theorem drawIs_any (sv : Value) (len : Nat) (w : World) (hc : CodeOk w.heap.size w sv len) :
    Calls Try.prog 38 #[sv] w (DrawnA w) := by
  have HCO := Lib.hid (codeOk_later hc ((Below.refl w.heap.size w).alloc (Nat.le_refl _) (.cells #[.string ⟨#[]⟩, .string ⟨#[]⟩] 25)))
  clear hc
  go_enter Try.func38, Try.ntmps38
  go_wp2_with fail
  refine (new_any sv len _ HCO.out).mono ?_
  rintro e w1 ⟨rfl, hc1, hb1⟩
  have HC1 := Lib.hid hc1
  rw [size_alloc1] at HC1 hb1 ⊢
  have HR1 := Lib.hid ((hb1.block w.heap.size (by omega)).trans (heap_new w _))
  have HB1 := Lib.hid (((Below.refl w.heap.size w).alloc (Nat.le_refl _) (.cells #[.string ⟨#[]⟩, .string ⟨#[]⟩] 25)).trans (hb1.mono (by omega)))
  have hs1 : w.heap.size + 1 ≤ w1.heap.size := by have := hb1.size; rw [size_alloc1] at this; omega
  clear hc1 hb1
  go_wp2_with fail
  refine (any_any _ sv len _ HC1.out).mono ?_
  rintro e w2 ⟨h, p, rfl, hh, hp, hc2, ho2⟩
  have hr2 := ho2.heap (r := w.heap.size) (by omega) (by omega) HR1.out
  have HB2 := Lib.hid (HB1.out.trans ((ho2.below (by omega)).mono (show w.heap.size ≤ w.heap.size + 1 by omega)))
  obtain ⟨c0, c1, f0, f1⟩ := cells_two hr2
  have HK := Lib.hid (heap_two (u := .string h) (v := .string p) hr2)
  clear hc2 ho2 hr2
  go_wp2_with fail
  obtain ⟨q0, q1, _, _⟩ := cells_two HK.out
  refine bodyPost_ret (v := .agg #[.string h, .string p]) (by simp [results, Try.results38, go_sem, q0, q1]) rfl ⟨h, p, rfl, hh, hp, below_two HB2.out (Nat.le_refl _) _ _⟩

set_option maxHeartbeats 1000000 in
theorem drawFmt_any (sv : Value) (len : Nat) (w : World) (hc : CodeOk w.heap.size w sv len) :
    Calls Try.prog 12 #[sv] w (DrawnA w) := by
  have HCO := Lib.hid (codeOk_later hc ((Below.refl w.heap.size w).alloc (Nat.le_refl _) (.cells #[.string ⟨#[]⟩, .string ⟨#[]⟩] 25)))
  clear hc
  go_enter Try.func12, Try.ntmps12
  go_wp2_with fail
  refine (drawIs_any sv len _ HCO.out).mono ?_
  rintro e w1 ⟨h, p, rfl, hh, hp, hb1⟩
  have hr2 := (hb1.block w.heap.size (by rw [size_alloc1]; omega)).trans (heap_new w _)
  have HB2 := Lib.hid (((Below.refl w.heap.size w).alloc (Nat.le_refl _) (.cells #[.string ⟨#[]⟩, .string ⟨#[]⟩] 25)).trans (hb1.mono (by rw [size_alloc1]; omega)))
  obtain ⟨c0, c1, f0, f1⟩ := cells_two hr2
  have HK := Lib.hid (heap_two (u := .string h) (v := .string p) hr2)
  clear hb1 hr2
  go_wp2_with fail
  obtain ⟨q0, q1, _, _⟩ := cells_two HK.out
  refine bodyPost_ret (v := .agg #[.string h, .string p]) (by simp [results, Try.results12, go_sem, q0, q1]) rfl ⟨h, p, rfl, hh, hp, below_two HB2.out (Nat.le_refl _) _ _⟩

/-- Two short strings; nothing old is written. -/
def DrawnSS (w : World) (en : Ending) (w' : World) : Prop :=
  ∃ s t : ByteArray, en = .returned (.tuple #[.string s, .string t]) ∧ s.size ≤ 100 ∧ t.size ≤ 100 ∧ Below w.heap.size w w'
theorem fmtA_size (a : Ad) : (fmtA a).size ≤ 100 := by
  cases h : isAd a with
  | true =>
    obtain ⟨⟨_, h1⟩, _, h2⟩ := isAd_size h
    have e : slash.size = 1 := rfl
    rw [fmtA_yes h, ByteArray.size_append, ByteArray.size_append, e]; omega
  | false => rw [fmtA_no h]; exact Nat.zero_le _

set_option maxHeartbeats 1000000 in
theorem drawPrs_any (sv : Value) (len : Nat) (w : World) (hc : CodeOk w.heap.size w sv len) :
    Calls Try.prog 15 #[sv] w (DrawnSS w) := by
  go_enter Try.func15, Try.ntmps15
  go_wp2_with fail
  refine (new_any sv len _ hc).mono ?_
  rintro e w1 ⟨rfl, hc1, hb1⟩
  have HC1 := Lib.hid hc1; have HB1 := Lib.hid hb1; have hs1 := hb1.size; clear hc1 hb1 hc
  go_wp2_with fail
  refine (str_any _ sv len _ 4 4 _ (HC1.out.alloc _) (by have := (HC1.out).lt; omega) (by omega) (by omega) ?_).mono ?_
  · exact cells_str _ _ _ _ (by rfl) (by kernel_rfl)
  rintro e w2 ⟨t, rfl, ht, hc2, hk2⟩
  have HC2 := Lib.hid hc2; have HB2 := Lib.hid (HB1.out.trans (((Kept.alloc _ w1 _).trans hk2).below hs1)); have hs2 := Nat.le_trans hs1 ((Kept.alloc _ w1 _).trans hk2).size; clear hc2 hk2
  go_wp2_with fail
  refine (once_any _ sv len 2 _ HC2.out).mono ?_
  rintro e w3 ⟨x, rfl, hc3, hk3⟩
  have HC3 := Lib.hid hc3; have HB3 := Lib.hid (HB2.out.trans (hk3.below hs2)); have hs3 := Nat.le_trans hs2 hk3.size; clear hc3 hk3
  cases x
  · go_wp2_with fail
    refine (str_any _ sv len _ 8 8 _ (HC3.out.alloc _) (by have := (HC3.out).lt; omega) (by omega) (by omega) ?_).mono ?_
    · exact cells_str _ _ _ _ (by rfl) (by kernel_rfl)
    rintro e w4 ⟨s, rfl, hs, hc4, hk4⟩
    have HB4 := Lib.hid (HB3.out.trans (((Kept.alloc _ w3 _).trans hk4).below hs3)); clear hc4 hk4
    go_wp2_with fail
    go_ret2
    exact ⟨s, t, rfl, hs, ht, HB4.out⟩
  · go_wp2_with fail
    refine (any_any _ sv len _ HC3.out).mono ?_
    rintro e w4 ⟨h, p, rfl, hh, hp, hc4, hk4⟩
    have HB4 := Lib.hid (HB3.out.trans (hk4.below hs3)); have hs4 := Nat.le_trans hs3 hk4.size; clear hc4 hk4
    go_wp2_with fail
    refine (fmtA_spec h p (by omega) (by omega) _).mono ?_
    rintro e w5 ⟨rfl, hb5⟩
    have HB5 := Lib.hid (HB4.out.trans (hb5.mono hs4)); clear hb5
    have HF := Lib.hid (fmtA_size (h, p))
    go_wp2_with fail
    go_ret2
    exact ⟨_, t, rfl, HF.out, ht, HB5.out⟩
end Go.Proofs.Ytojpbdhkcpfeaaa

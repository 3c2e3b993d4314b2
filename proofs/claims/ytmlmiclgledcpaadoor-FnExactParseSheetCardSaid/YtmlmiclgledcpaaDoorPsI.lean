/- ParseSheet of the program: its helper on one rule, and the whole. Asked: the string is no longer than 2^31 bytes; the library's listed variables lie in memory as their initialisers lay them. -/
import Derived.Test.YtmlmiclgledcpaaDoorPar
import Derived.Test.YtmlmiclgledcpaaDoorStrLib
import Derived.Test.YtmlmiclgledcpaaDoorSh
namespace Go.Proofs.YtmlmiclgledcpaaDoor
open Go.ChangeShapes Go.WideShapes Go.ChangeAt Go.RowKit

/-- A rule out of a name and the form of a color. -/
def prsAB (a b : ByteArray) : Option Ru :=
  match numOf b.data.toList with
  | some k => if isNm a = true ∧ inB (k : Int) 1 999 = true then some (a, (k : Int)) else none
  | none => none
/-- A rule out of its form. -/
def prsR (s : ByteArray) : Option Ru :=
  if idxB 58 s.data.toList < s.size then prsAB (s.extract 0 (idxB 58 s.data.toList)) (s.extract (idxB 58 s.data.toList + 1) s.size) else none
def ruleV : Option Ru → Value
  | some r => .tuple #[.agg #[.string r.1, .int .i64 r.2], .bool true]
  | none => .tuple #[.agg #[.string ⟨#[]⟩, .int .i64 0], .bool false]
theorem bl_two {w w' : World} (h : Below w.heap.size w w') (u v : Value) : Below w.heap.size w ((w'.setCell ⟨w.heap.size, 0, none⟩ u).setCell ⟨w.heap.size, 1, none⟩ v) := (h.setCell (Nat.le_refl _) u).setCell (Nat.le_refl _) v
theorem numOf_nil : numOf [] = none := numOf_len (by simp)
theorem prsAB_empty (a : ByteArray) : prsAB a ⟨#[]⟩ = none := by
  unfold prsAB
  rw [show (⟨#[]⟩ : ByteArray).data.toList = [] from rfl, numOf_nil]

set_option maxHeartbeats 2000000 in
theorem rule_core (s a b : ByteArray) (f : Bool) (ha : a.size ≤ 281474976710656) (hb : b.size ≤ 281474976710656) (hcut : ∀ W, Calls Tryd.prog 29 #[.string s, .string ⟨#[58]⟩] W fun e w' => e = .returned (.tuple #[.string a, .string b, .bool f]) ∧ ∃ n, w' = W.drewN n)
    (w : World) (hL : Laid w) :
    Calls Tryd.prog 19 #[.string s] w fun e w' => e = .returned (ruleV (prsAB a b)) ∧ Below w.heap.size w w' := by
  obtain ⟨W0, hW0⟩ : ∃ W, w.alloc (.cells #[.string ⟨#[]⟩, .int .i64 0] 42) = W := ⟨_, rfl⟩
  have hb0 : Below w.heap.size w W0 := by rw [← hW0]; exact (Below.refl _ _).alloc (Nat.le_refl _) _
  have hx0 : W0.heap[w.heap.size]? = some (.cells #[.string ⟨#[]⟩, .int .i64 0] 42 (0, 0)) := by rw [← hW0]; exact (MapKept.heap_alloc w _).1
  have HB0 := Lib.hid hb0; have HX0 := Lib.hid hx0; have HW0 := Lib.hid hW0; have HL := Lib.hid (laid_on hL hb0); have HCUT := Lib.hid hcut
  have HPA := Lib.hid (rfl : prsAB a b = prsAB a b)
  clear hb0 hx0 hW0 hL hcut
  go_enter Tryd.func19, Tryd.ntmps19
  go_wp2_with fail
  rw [HW0.out]
  refine (HCUT.out _).mono ?_
  rintro e w1 ⟨rfl, n, rfl⟩
  have hbn : Below W0.heap.size W0 (W0.drewN n) := ((Grw.refl W0).drewN n).below
  have HB1 := Lib.hid (HB0.out.trans (hbn.mono HB0.out.size)); have HX1 := Lib.hid (below_heap hbn (heap_lt HX0.out) HX0.out); have HL1 := Lib.hid (laid_on HL.out hbn)
  clear hbn
  go_wp2_with fail
  refine (parse_impl b hb _ HL1.out).mono ?_
  rintro e w2 ⟨rfl, hb2⟩
  have HB2 := Lib.hid (HB1.out.trans (hb2.mono HB1.out.size)); have HX2 := Lib.hid (below_heap hb2 (heap_lt HX1.out) HX1.out)
  clear hb2
  have q0 := box_cell HX2.out (j := 0) rfl
  have q1 := box_cell HX2.out (j := 1) rfl
  have z0 := box_frz HX2.out 0
  have z1 := box_frz HX2.out 1
  cases hk : numOf b.data.toList with
  | none =>
    have HR := Lib.hid (show prsAB a b = none by unfold prsAB; rw [hk])
    have h1 := heap_one (o := 0) HX2.out (.string ⟨#[]⟩)
    replace h1 := heap_one (o := 1) h1 (.int .i64 0)
    have f0 := box_cell h1 (j := 0) rfl
    have f1 := box_cell h1 (j := 1) rfl
    have HB3 := Lib.hid (bl_two HB2.out (.string ⟨#[]⟩) (.int .i64 0))
    clear hk h1
    unfold parsed
    go_wp2_with fail
    refine bodyPost_ret (v := .tuple #[.agg #[.string ⟨#[]⟩, .int .i64 0], .bool false]) (by simp [results, Tryd.results19, go_sem, f0, f1]) rfl ?_
    exact ⟨by rw [HR.out]; rfl, HB3.out⟩
  | some k =>
    unfold parsed
    obtain ⟨x, hx⟩ : ∃ x, isNm a = x := ⟨_, rfl⟩
    obtain ⟨y, hy⟩ : ∃ y, inB (k : Int) 1 999 = y := ⟨_, rfl⟩
    have HNM := Lib.hid (fun W => show Calls Tryd.prog 31 #[.string a] W fun e w' => e = .returned (.bool x) ∧ W = w' from by rw [← hx]; exact nm_impl a (by omega) W)
    have HIN := Lib.hid (fun W => show Calls Tryd.prog 32 #[.int .i64 (k : Int), .int .i64 1, .int .i64 999] W fun e w' => e = .returned (.bool y) ∧ W = w' from by rw [← hy]; exact rin_any _ _ _ W)
    by_cases hxy : x = true ∧ y = true
    · obtain ⟨rfl, rfl⟩ := hxy
      have HR := Lib.hid (show prsAB a b = some (a, (k : Int)) by unfold prsAB; rw [hk]; exact if_pos ⟨hx, hy⟩)
      have h1 := heap_one (o := 0) HX2.out (.string a)
      replace h1 := heap_one (o := 1) h1 (.int .i64 (k : Int))
      have f0 := box_cell h1 (j := 0) rfl
      have f1 := box_cell h1 (j := 1) rfl
      have HB3 := Lib.hid (bl_two HB2.out (.string a) (.int .i64 (k : Int)))
      clear hk h1 hx hy
      go_wp2_with (first | (go_at_call 31; refine (HNM.out _).mono ?_; rintro e w' ⟨rfl, rfl⟩) | (go_at_call 32; refine (HIN.out _).mono ?_; rintro e w' ⟨rfl, rfl⟩))
      refine bodyPost_ret (v := .tuple #[.agg #[.string a, .int .i64 (k : Int)], .bool true]) (by simp [results, Tryd.results19, go_sem, f0, f1]) rfl ?_
      exact ⟨by rw [HR.out]; rfl, HB3.out⟩
    · have HR := Lib.hid (show prsAB a b = none by unfold prsAB; rw [hk]; exact if_neg (by rw [hx, hy]; exact hxy))
      have h1 := heap_one (o := 0) HX2.out (.string ⟨#[]⟩)
      replace h1 := heap_one (o := 1) h1 (.int .i64 0)
      have f0 := box_cell h1 (j := 0) rfl
      have f1 := box_cell h1 (j := 1) rfl
      have HB3 := Lib.hid (bl_two HB2.out (.string ⟨#[]⟩) (.int .i64 0))
      clear hk h1 hx hy
      cases x with
      | false =>
        clear hxy
        go_wp2_with (first | (go_at_call 31; refine (HNM.out _).mono ?_; rintro e w' ⟨rfl, rfl⟩) | (go_at_call 32; refine (HIN.out _).mono ?_; rintro e w' ⟨rfl, rfl⟩))
        refine bodyPost_ret (v := .tuple #[.agg #[.string ⟨#[]⟩, .int .i64 0], .bool false]) (by simp [results, Tryd.results19, go_sem, f0, f1]) rfl ?_
        exact ⟨by rw [HR.out]; rfl, HB3.out⟩
      | true =>
        obtain rfl : y = false := by cases y with | false => rfl | true => exact absurd ⟨rfl, rfl⟩ hxy
        clear hxy
        go_wp2_with (first | (go_at_call 31; refine (HNM.out _).mono ?_; rintro e w' ⟨rfl, rfl⟩) | (go_at_call 32; refine (HIN.out _).mono ?_; rintro e w' ⟨rfl, rfl⟩))
        refine bodyPost_ret (v := .tuple #[.agg #[.string ⟨#[]⟩, .int .i64 0], .bool false]) (by simp [results, Tryd.results19, go_sem, f0, f1]) rfl ?_
        exact ⟨by rw [HR.out]; rfl, HB3.out⟩

theorem rule_impl (s : ByteArray) (hs : s.size ≤ 4294967280) (w : World) (hL : Laid w) :
    Calls Tryd.prog 19 #[.string s] w fun e w' => e = .returned (ruleV (prsR s)) ∧ Below w.heap.size w w' := by
  by_cases h : idxB 58 s.data.toList < s.size
  · rw [prsR, if_pos h]
    refine rule_core s _ _ true ?_ ?_ (fun W => ?_) w hL
    · rw [ByteArray.size_extract]; omega
    · rw [ByteArray.size_extract]; omega
    · have hc := cutC_any 58 s (by omega) W
      unfold cutC at hc; rw [if_pos h] at hc; exact hc
  · rw [prsR, if_neg h, ← prsAB_empty s]
    refine rule_core s _ _ false (by omega) (by decide) (fun W => ?_) w hL
    have hc := cutC_any 58 s (by omega) W
    unfold cutC at hc; rw [if_neg h] at hc; exact hc
end Go.Proofs.YtmlmiclgledcpaaDoor

/- Helper contracts: isLineText, parseLine of the program. Asked: the string is no longer than 2^31 bytes. -/
import Derived.Test.YtiginllbfjekeaaDoorFrmO
namespace Go.Proofs.YtiginllbfjekeaaDoor
open Go.ChangeShapes Go.WideShapes Go.ChangeAt Go.RowKit

theorem text_any (s : ByteArray) (w : World) :
    Calls Tryd.prog 75 #[.string s] w fun e w' => e = .returned (.bool (decide ((s.size : Int) ≤ 60))) ∧ w = w' := by
  go_enter Tryd.func75, Tryd.ntmps75
  go_wp2
  go_ret
  exact ⟨rfl, rfl⟩
/-- What parseLine returns. -/
def lnV : Option Lnv → Value
  | some x => .tuple #[.agg #[.int .i64 x.1, .string x.2], .bool true]
  | none => .tuple #[.agg #[.int .i64 0, .string ⟨#[]⟩], .bool false]
theorem bl_ln {w w' : World} (h : Below w.heap.size w w') (u v : Value) : Below w.heap.size w ((w'.setCell ⟨w.heap.size, 0, none⟩ u).setCell ⟨w.heap.size, 1, none⟩ v) := (h.setCell (Nat.le_refl _) u).setCell (Nat.le_refl _) v
def isTxt (t : ByteArray) : Bool := decide ((t.size : Int) ≤ 60)
theorem takes_txt {m : Nat} (h : m = 1 ∨ m = 5) (t : ByteArray) : takesB m t = isTxt t := by
  unfold takesB isTxt; rw [if_pos h]
  apply decide_eq_decide.2; omega
theorem takes_nm {m : Nat} (h : ¬ (m = 1 ∨ m = 5)) (t : ByteArray) : takesB m t = isNm t := by unfold takesB; rw [if_neg h]
theorem tk_txt {m : Nat} (h : m = 1 ∨ m = 5) : fmTk m = 75 := by unfold fmTk; rw [if_pos h]
theorem tk_nm {m : Nat} (h : ¬ (m = 1 ∨ m = 5)) : fmTk m = 77 := by unfold fmTk; rw [if_neg h]

set_option maxRecDepth 100000 in
set_option maxHeartbeats 4000000 in
theorem pl_core (s a b : ByteArray) (f : Bool) (hb : b.size ≤ 281474976710656) (hcut : ∀ W, Calls Tryd.prog 44 #[.string s, .string ⟨#[32]⟩] W fun e w' => e = .returned (.tuple #[.string a, .string b, .bool f]) ∧ ∃ n, w' = W.drewN n) (w : World) :
    Calls Tryd.prog 29 #[.string s] w fun e w' => e = .returned (lnV (if f = true then lnW a b else none)) ∧ Below w.heap.size w w' := by
  obtain ⟨W0, hW0⟩ : ∃ W, w.alloc (.cells #[.int .i64 0, .string ⟨#[]⟩] 47) = W := ⟨_, rfl⟩
  have hb0 : Below w.heap.size w W0 := by rw [← hW0]; exact (Below.refl _ _).alloc (Nat.le_refl _) _
  have hx0 : W0.heap[w.heap.size]? = some (.cells #[.int .i64 0, .string ⟨#[]⟩] 47 (0, 0)) := by rw [← hW0]; exact (MapKept.heap_alloc w _).1
  have HB0 := Lib.hid hb0; have HX0 := Lib.hid hx0; have HW0 := Lib.hid hW0; have HCUT := Lib.hid hcut
  obtain ⟨R, hR⟩ : ∃ R, (if f = true then lnW a b else none) = R := ⟨_, rfl⟩
  have HR0 := Lib.hid hR
  rw [hR]
  clear hb0 hx0 hW0 hcut hR
  go_enter Tryd.func29, Tryd.ntmps29
  go_wp2_with fail
  rw [HW0.out]
  refine (HCUT.out _).mono ?_
  rintro e w1 ⟨rfl, n, rfl⟩
  have hbn : Below W0.heap.size W0 (W0.drewN n) := ((Grw.refl W0).drewN n).below
  have HB1 := Lib.hid (HB0.out.trans (hbn.mono HB0.out.size)); have HX1 := Lib.hid (below_heap hbn (heap_lt HX0.out) HX0.out)
  clear hbn
  go_wp2_with fail
  refine (fword_any a _).mono ?_
  rintro e w2 ⟨rfl, hb2⟩
  have HX20 := Lib.hid (below_heap hb2 (heap_lt HX1.out) HX1.out)
  have HB20 := Lib.hid (HB1.out.trans (hb2.mono HB1.out.size))
  clear hb2
  obtain ⟨m, hm⟩ : ∃ m, wdN a = m := ⟨_, rfl⟩
  have HM := Lib.hid hm
  rw [hm]; clear hm
  by_cases h0 : m = 0
  · have HR := Lib.hid (show R = none by rw [← HR0.out, lnW, HM.out, h0]; cases f <;> rfl)
    subst h0
    rw [res_zero]
    have HX2 := Lib.hid (below_heap ((Below.refl _ w2).alloc (Nat.le_refl _) (.cells fmZ0 70)) (heap_lt HX20.out) HX20.out)
    have HB2 := Lib.hid (HB20.out.alloc HB20.out.size (.cells fmZ0 70))
    have q0 := box_cell HX2.out (j := 0) rfl
    have q1 := box_cell HX2.out (j := 1) rfl
    have z0 := box_frz HX2.out 0
    have z1 := box_frz HX2.out 1
    cases f
    all_goals
      have h1 := heap_one (o := 0) HX2.out (.int .i64 0)
      replace h1 := heap_one (o := 1) h1 (.string ⟨#[]⟩)
      have f0 := box_cell h1 (j := 0) rfl
      have f1 := box_cell h1 (j := 1) rfl
      have HB3 := Lib.hid (bl_ln HB2.out (.int .i64 0) (.string ⟨#[]⟩))
      clear h1
      go_wp2_with fail
      refine bodyPost_ret (v := .tuple #[.agg #[.int .i64 0, .string ⟨#[]⟩], .bool false]) (by simp [results, Tryd.results29, go_sem, f0, f1]) rfl ?_
      exact ⟨by rw [HR.out]; rfl, HB3.out⟩
  have HRF := Lib.hid (res_form h0)
  rw [res_form h0]
  obtain ⟨x0, hx0'⟩ : ∃ u : Int, (m : Int) = u := ⟨_, rfl⟩
  obtain ⟨s1, h1'⟩ : ∃ u, wd m = u := ⟨_, rfl⟩
  obtain ⟨q3, h3'⟩ : ∃ u, fmRn m = u := ⟨_, rfl⟩
  have HXM := Lib.hid hx0'
  have HM0 := Lib.hid (show 0 < m by omega)
  rw [hx0', h1', h3']
  clear hx0' h1' h3' h0 HRF
  by_cases ht : m = 1 ∨ m = 5
  · have HT := Lib.hid (takes_txt ht b)
    have HTK := Lib.hid (tk_txt ht)
    rw [tk_txt ht]
    clear ht
    have HX2 := Lib.hid (below_heap ((Below.refl _ w2).alloc (Nat.le_refl _) (.cells #[.int .i64 x0, .string s1, .func (.func 75) #[] #[], .func (.func q3) #[] #[]] 70)) (heap_lt HX20.out) HX20.out)
    have HB2 := Lib.hid (HB20.out.alloc HB20.out.size (.cells #[.int .i64 x0, .string s1, .func (.func 75) #[] #[], .func (.func q3) #[] #[]] 70))
    obtain ⟨T, hT⟩ : ∃ T, isTxt b = T := ⟨_, rfl⟩
    have HC := Lib.hid (fun W => show Calls Tryd.prog 75 #[.string b] W fun e w' => e = .returned (.bool T) ∧ W = w' from by rw [← hT]; exact text_any b W)
    rw [hT] at HT
    clear hT
    have q0 := box_cell HX2.out (j := 0) rfl
    have q1 := box_cell HX2.out (j := 1) rfl
    have z0 := box_frz HX2.out 0
    have z1 := box_frz HX2.out 1
    cases f with
    | false =>
      have HR := Lib.hid (show R = none by rw [← HR0.out]; rfl)
      have h1 := heap_one (o := 0) HX2.out (.int .i64 0)
      replace h1 := heap_one (o := 1) h1 (.string ⟨#[]⟩)
      have f0 := box_cell h1 (j := 0) rfl
      have f1 := box_cell h1 (j := 1) rfl
      have HB3 := Lib.hid (bl_ln HB2.out (.int .i64 0) (.string ⟨#[]⟩))
      clear h1
      go_wp2_with fail
      refine bodyPost_ret (v := .tuple #[.agg #[.int .i64 0, .string ⟨#[]⟩], .bool false]) (by simp [results, Tryd.results29, go_sem, f0, f1]) rfl ?_
      exact ⟨by rw [HR.out]; rfl, HB3.out⟩
    | true =>
      cases T with
      | false =>
        have HR := Lib.hid (show R = none by rw [← HR0.out, if_pos rfl, lnW, HM.out, HT.out]; exact if_neg (by simp))
        have h1 := heap_one (o := 0) HX2.out (.int .i64 0)
        replace h1 := heap_one (o := 1) h1 (.string ⟨#[]⟩)
        have f0 := box_cell h1 (j := 0) rfl
        have f1 := box_cell h1 (j := 1) rfl
        have HB3 := Lib.hid (bl_ln HB2.out (.int .i64 0) (.string ⟨#[]⟩))
        clear h1
        go_wp2_with (go_at_call 75; refine (HC.out _).mono ?_; rintro e w' ⟨rfl, rfl⟩)
        refine bodyPost_ret (v := .tuple #[.agg #[.int .i64 0, .string ⟨#[]⟩], .bool false]) (by simp [results, Tryd.results29, go_sem, f0, f1]) rfl ?_
        exact ⟨by rw [HR.out]; rfl, HB3.out⟩
      | true =>
        have HR := Lib.hid (show R = some (x0, b) by rw [← HR0.out, if_pos rfl, lnW, HM.out, HT.out, if_pos ⟨HM0.out, rfl⟩, HXM.out])
        have h1 := heap_one (o := 0) HX2.out (.int .i64 x0)
        replace h1 := heap_one (o := 1) h1 (.string b)
        have f0 := box_cell h1 (j := 0) rfl
        have f1 := box_cell h1 (j := 1) rfl
        have HB3 := Lib.hid (bl_ln HB2.out (.int .i64 x0) (.string b))
        clear h1
        go_wp2_with (go_at_call 75; refine (HC.out _).mono ?_; rintro e w' ⟨rfl, rfl⟩)
        refine bodyPost_ret (v := .tuple #[.agg #[.int .i64 x0, .string b], .bool true]) (by simp [results, Tryd.results29, go_sem, f0, f1]) rfl ?_
        exact ⟨by rw [HR.out]; rfl, HB3.out⟩
  · have HT := Lib.hid (takes_nm ht b)
    have HTK := Lib.hid (tk_nm ht)
    rw [tk_nm ht]
    clear ht
    have HX2 := Lib.hid (below_heap ((Below.refl _ w2).alloc (Nat.le_refl _) (.cells #[.int .i64 x0, .string s1, .func (.func 77) #[] #[], .func (.func q3) #[] #[]] 70)) (heap_lt HX20.out) HX20.out)
    have HB2 := Lib.hid (HB20.out.alloc HB20.out.size (.cells #[.int .i64 x0, .string s1, .func (.func 77) #[] #[], .func (.func q3) #[] #[]] 70))
    obtain ⟨T, hT⟩ : ∃ T, isNm b = T := ⟨_, rfl⟩
    have HC := Lib.hid (fun W => show Calls Tryd.prog 77 #[.string b] W fun e w' => e = .returned (.bool T) ∧ W = w' from by rw [← hT]; exact nm_impl b (by omega) W)
    rw [hT] at HT
    clear hT
    have q0 := box_cell HX2.out (j := 0) rfl
    have q1 := box_cell HX2.out (j := 1) rfl
    have z0 := box_frz HX2.out 0
    have z1 := box_frz HX2.out 1
    cases f with
    | false =>
      have HR := Lib.hid (show R = none by rw [← HR0.out]; rfl)
      have h1 := heap_one (o := 0) HX2.out (.int .i64 0)
      replace h1 := heap_one (o := 1) h1 (.string ⟨#[]⟩)
      have f0 := box_cell h1 (j := 0) rfl
      have f1 := box_cell h1 (j := 1) rfl
      have HB3 := Lib.hid (bl_ln HB2.out (.int .i64 0) (.string ⟨#[]⟩))
      clear h1
      go_wp2_with fail
      refine bodyPost_ret (v := .tuple #[.agg #[.int .i64 0, .string ⟨#[]⟩], .bool false]) (by simp [results, Tryd.results29, go_sem, f0, f1]) rfl ?_
      exact ⟨by rw [HR.out]; rfl, HB3.out⟩
    | true =>
      cases T with
      | false =>
        have HR := Lib.hid (show R = none by rw [← HR0.out, if_pos rfl, lnW, HM.out, HT.out]; exact if_neg (by simp))
        have h1 := heap_one (o := 0) HX2.out (.int .i64 0)
        replace h1 := heap_one (o := 1) h1 (.string ⟨#[]⟩)
        have f0 := box_cell h1 (j := 0) rfl
        have f1 := box_cell h1 (j := 1) rfl
        have HB3 := Lib.hid (bl_ln HB2.out (.int .i64 0) (.string ⟨#[]⟩))
        clear h1
        go_wp2_with (go_at_call 77; refine (HC.out _).mono ?_; rintro e w' ⟨rfl, rfl⟩)
        refine bodyPost_ret (v := .tuple #[.agg #[.int .i64 0, .string ⟨#[]⟩], .bool false]) (by simp [results, Tryd.results29, go_sem, f0, f1]) rfl ?_
        exact ⟨by rw [HR.out]; rfl, HB3.out⟩
      | true =>
        have HR := Lib.hid (show R = some (x0, b) by rw [← HR0.out, if_pos rfl, lnW, HM.out, HT.out, if_pos ⟨HM0.out, rfl⟩, HXM.out])
        have h1 := heap_one (o := 0) HX2.out (.int .i64 x0)
        replace h1 := heap_one (o := 1) h1 (.string b)
        have f0 := box_cell h1 (j := 0) rfl
        have f1 := box_cell h1 (j := 1) rfl
        have HB3 := Lib.hid (bl_ln HB2.out (.int .i64 x0) (.string b))
        clear h1
        go_wp2_with (go_at_call 77; refine (HC.out _).mono ?_; rintro e w' ⟨rfl, rfl⟩)
        refine bodyPost_ret (v := .tuple #[.agg #[.int .i64 x0, .string b], .bool true]) (by simp [results, Tryd.results29, go_sem, f0, f1]) rfl ?_
        exact ⟨by rw [HR.out]; rfl, HB3.out⟩
theorem pline_impl (s : ByteArray) (hs : s.size ≤ 4294967280) (w : World) :
    Calls Tryd.prog 29 #[.string s] w fun e w' => e = .returned (lnV (lnOf s)) ∧ Below w.heap.size w w' := by
  by_cases h : idxB 32 s.data.toList < s.size
  · have hp := pl_core s (s.extract 0 (idxB 32 s.data.toList)) (s.extract (idxB 32 s.data.toList + 1) s.size) true (by rw [ByteArray.size_extract]; omega) (fun W => by
      have hc := cutC_any 32 s (by omega) W
      unfold cutC at hc; rw [if_pos h] at hc; exact hc) w
    rw [lnOf, if_pos h]
    rw [if_pos rfl] at hp
    exact hp
  · have hp := pl_core s s ⟨#[]⟩ false (by decide) (fun W => by
      have hc := cutC_any 32 s (by omega) W
      unfold cutC at hc; rw [if_neg h] at hc; exact hc) w
    rw [lnOf, if_neg h]
    rw [if_neg (by decide)] at hp
    exact hp
end Go.Proofs.YtiginllbfjekeaaDoor

/- Helper contracts: Allows, AllowsInline, KindName of the program and of the model. Asked: the policy's slices read as named. -/
import Derived.Test.YtkjjiinccljhjaaDoorHasS
namespace Go.Proofs.YtkjjiinccljhjaaDoor
open Go.ChangeShapes Go.WideShapes Go.ChangeAt Go.RowKit

theorem empP_size (s : ByteArray) : (s.toList == []) = decide (s.size = 0) := by
  by_cases h : s.size = 0
  · obtain rfl := emptyB h; rw [ByteArray.toList_eq]; rfl
  · rw [decide_eq_false h]
    refine beq_eq_false_iff_ne.2 fun e => h ?_
    rw [ByteArray.toList_eq] at e
    rw [← size_list, e]; rfl

/-- KindName. -/
def knB (k : Int) : ByteArray := if k = 1 then ⟨#[112, 97, 103, 101]⟩ else if k = 2 then ⟨#[115, 99, 114, 105, 112, 116]⟩ else if k = 3 then ⟨#[115, 116, 121, 108, 101]⟩ else if k = 4 then ⟨#[105, 109, 97, 103, 101]⟩ else if k = 5 then ⟨#[109, 111, 100, 117, 108, 101]⟩ else ⟨#[]⟩
set_option maxRecDepth 100000 in
set_option maxHeartbeats 2000000 in
theorem hostsFor_any (set : Bool) (scr sty img : List ByteArray) (non : ByteArray) (a1 : Option Addr) (n1 c1 : Nat) (a2 : Option Addr) (n2 c2 : Nat) (a3 : Option Addr) (n3 c3 : Nat) (k : Int) (w : World) (hr : ReadP w.heap.size w (.slice a1 n1 c1) (.slice a2 n2 c2) (.slice a3 n3 c3) ⟨set, scr, sty, img, non⟩) :
    Calls Tryd.prog 34 #[.agg #[.bool set, .slice a1 n1 c1, .slice a2 n2 c2, .slice a3 n3 c3, .string non], .int .i64 k] w fun e w' => ∃ (a : Option Addr) (n c : Nat), e = .returned (.slice a n c) ∧ ReadsK encS 1 w'.heap.size w' (.slice a n c) (hostsP ⟨set, scr, sty, img, non⟩ k) ∧ Grw w w' := by
  obtain ⟨W, hW⟩ : ∃ W, w.alloc (.cells #[.bool set, .slice a1 n1 c1, .slice a2 n2 c2, .slice a3 n3 c3, .string non] 26) = W := ⟨_, rfl⟩
  have HG := Lib.hid (show Grw w W by rw [← hW]; exact (Grw.refl w).alloc _)
  have q0 : W.cell? ⟨w.heap.size, 0, none⟩ = some (.bool set) := by rw [← hW]; simp
  have q1 : W.cell? ⟨w.heap.size, 1, none⟩ = some (.slice a1 n1 c1) := by rw [← hW]; simp
  have q2 : W.cell? ⟨w.heap.size, 2, none⟩ = some (.slice a2 n2 c2) := by rw [← hW]; simp
  have q3 : W.cell? ⟨w.heap.size, 3, none⟩ = some (.slice a3 n3 c3) := by rw [← hW]; simp
  have q4 : W.cell? ⟨w.heap.size, 4, none⟩ = some (.string non) := by rw [← hW]; simp
  obtain ⟨hr1, hr2, hr3⟩ := (hr.below HG.out.below (Nat.le_refl _)).mono HG.out.below.size
  have HR1 := Lib.hid hr1; have HR2 := Lib.hid hr2; have HR3 := Lib.hid hr3; clear hr hr1 hr2 hr3
  rcases (show k = 2 ∨ k = 5 ∨ k = 3 ∨ k = 4 ∨ (k ≠ 2 ∧ k ≠ 5 ∧ k ≠ 3 ∧ k ≠ 4) by omega) with rfl | rfl | rfl | rfl | ⟨k2, k5, k3, k4⟩
  · go_enter Tryd.func34, Tryd.ntmps34
    go_wp2_with fail
    go_ret
    exact ⟨_, _, _, rfl, HR1.out, HG.out⟩
  · go_enter Tryd.func34, Tryd.ntmps34
    go_wp2_with fail
    go_ret
    exact ⟨_, _, _, rfl, HR1.out, HG.out⟩
  · go_enter Tryd.func34, Tryd.ntmps34
    go_wp2_with fail
    go_ret
    exact ⟨_, _, _, rfl, HR2.out, HG.out⟩
  · go_enter Tryd.func34, Tryd.ntmps34
    go_wp2_with fail
    go_ret
    exact ⟨_, _, _, rfl, HR3.out, HG.out⟩
  · have e2 : (k == 2) = false := beq_eq_false_iff_ne.2 k2; have e5 : (k == 5) = false := beq_eq_false_iff_ne.2 k5; have e3 : (k == 3) = false := beq_eq_false_iff_ne.2 k3; have e4 : (k == 4) = false := beq_eq_false_iff_ne.2 k4
    have HN := Lib.hid (show hostsP ⟨set, scr, sty, img, non⟩ k = [] by unfold hostsP; rw [if_neg (by omega), if_neg k3, if_neg k4])
    clear k2 k5 k3 k4
    go_enter Tryd.func34, Tryd.ntmps34
    go_wp2_with fail
    go_ret
    exact ⟨none, 0, 0, rfl, by rw [HN.out]; exact ⟨none, 0, rfl, Nat.le_refl _, by omega, (fun _ => rfl), Or.inl rfl⟩, HG.out⟩


set_option maxRecDepth 100000 in
set_option maxHeartbeats 2000000 in
theorem allows_impl (set : Bool) (scr sty img : List ByteArray) (non : ByteArray) (a1 : Option Addr) (n1 c1 : Nat) (a2 : Option Addr) (n2 c2 : Nat) (a3 : Option Addr) (n3 c3 : Nat) (k : Int) (h : ByteArray) (w : World) (hr : ReadP w.heap.size w (.slice a1 n1 c1) (.slice a2 n2 c2) (.slice a3 n3 c3) ⟨set, scr, sty, img, non⟩) :
    Calls Tryd.prog 15 #[.agg #[.bool set, .slice a1 n1 c1, .slice a2 n2 c2, .slice a3 n3 c3, .string non], .int .i64 k, .string h] w fun e w' => e = .returned (.bool (alB ⟨set, scr, sty, img, non⟩ k h)) ∧ Grw w w' := by
  cases set with
  | false =>
    obtain ⟨W, hW⟩ : ∃ W, w.alloc (.cells #[.bool false, .slice a1 n1 c1, .slice a2 n2 c2, .slice a3 n3 c3, .string non] 26) = W := ⟨_, rfl⟩
    have HG := Lib.hid (show Grw w W by rw [← hW]; exact (Grw.refl w).alloc _)
    have q0 : W.cell? ⟨w.heap.size, 0, none⟩ = some (.bool false) := by rw [← hW]; simp
    have q1 : W.cell? ⟨w.heap.size, 1, none⟩ = some (.slice a1 n1 c1) := by rw [← hW]; simp
    have q2 : W.cell? ⟨w.heap.size, 2, none⟩ = some (.slice a2 n2 c2) := by rw [← hW]; simp
    have q3 : W.cell? ⟨w.heap.size, 3, none⟩ = some (.slice a3 n3 c3) := by rw [← hW]; simp
    have q4 : W.cell? ⟨w.heap.size, 4, none⟩ = some (.string non) := by rw [← hW]; simp
    obtain ⟨hr1, hr2, hr3⟩ := (hr.below HG.out.below (Nat.le_refl _)).mono HG.out.below.size
    have HR1 := Lib.hid hr1; have HR2 := Lib.hid hr2; have HR3 := Lib.hid hr3; clear hr hr1 hr2 hr3
    go_enter Tryd.func15, Tryd.ntmps15
    go_wp2_with fail
    go_ret
    exact ⟨rfl, HG.out⟩
  | true =>
    obtain ⟨W, hW⟩ : ∃ W, w.alloc (.cells #[.bool true, .slice a1 n1 c1, .slice a2 n2 c2, .slice a3 n3 c3, .string non] 26) = W := ⟨_, rfl⟩
    have HG := Lib.hid (show Grw w W by rw [← hW]; exact (Grw.refl w).alloc _)
    have q0 : W.cell? ⟨w.heap.size, 0, none⟩ = some (.bool true) := by rw [← hW]; simp
    have q1 : W.cell? ⟨w.heap.size, 1, none⟩ = some (.slice a1 n1 c1) := by rw [← hW]; simp
    have q2 : W.cell? ⟨w.heap.size, 2, none⟩ = some (.slice a2 n2 c2) := by rw [← hW]; simp
    have q3 : W.cell? ⟨w.heap.size, 3, none⟩ = some (.slice a3 n3 c3) := by rw [← hW]; simp
    have q4 : W.cell? ⟨w.heap.size, 4, none⟩ = some (.string non) := by rw [← hW]; simp
    obtain ⟨hr1, hr2, hr3⟩ := (hr.below HG.out.below (Nat.le_refl _)).mono HG.out.below.size
    have HR1 := Lib.hid hr1; have HR2 := Lib.hid hr2; have HR3 := Lib.hid hr3; clear hr hr1 hr2 hr3
    have HAL := Lib.hid (show alB ⟨true, scr, sty, img, non⟩ k h = hasS (hostsP ⟨true, scr, sty, img, non⟩ k) h from rfl)
    have HH := Lib.hid (fun X hx => hostsFor_any true scr sty img non a1 n1 c1 a2 n2 c2 a3 n3 c3 k X hx)
    go_enter Tryd.func15, Tryd.ntmps15
    go_wp2_with fail
    refine (HH.out _ ⟨HR1.out, HR2.out, HR3.out⟩).mono ?_
    rintro e w1 ⟨ax, nx, cx, rfl, hrx, hg1⟩
    have HG1 := Lib.hid (HG.out.trans hg1); clear hg1
    have HC := Lib.hid (contS_lib _ _ _ h _ hrx); clear hrx
    go_wp2_with fail
    refine HC.out.mono ?_
    rintro e w2 ⟨rfl, rfl⟩
    go_wp2_with fail
    go_ret
    exact ⟨by rw [HAL.out]; rfl, HG1.out⟩

set_option maxRecDepth 100000 in
set_option maxHeartbeats 2000000 in
theorem inline_impl (set : Bool) (scr sty img : List ByteArray) (non : ByteArray) (a1 : Option Addr) (n1 c1 : Nat) (a2 : Option Addr) (n2 c2 : Nat) (a3 : Option Addr) (n3 c3 : Nat) (n : ByteArray) (w : World) (hr : ReadP w.heap.size w (.slice a1 n1 c1) (.slice a2 n2 c2) (.slice a3 n3 c3) ⟨set, scr, sty, img, non⟩) :
    Calls Tryd.prog 16 #[.agg #[.bool set, .slice a1 n1 c1, .slice a2 n2 c2, .slice a3 n3 c3, .string non], .string n] w fun e w' => e = .returned (.bool (inlB ⟨set, scr, sty, img, non⟩ n)) ∧ Grw w w' := by
  cases set with
  | false =>
    obtain ⟨W, hW⟩ : ∃ W, w.alloc (.cells #[.bool false, .slice a1 n1 c1, .slice a2 n2 c2, .slice a3 n3 c3, .string non] 26) = W := ⟨_, rfl⟩
    have HG := Lib.hid (show Grw w W by rw [← hW]; exact (Grw.refl w).alloc _)
    have q0 : W.cell? ⟨w.heap.size, 0, none⟩ = some (.bool false) := by rw [← hW]; simp
    have q1 : W.cell? ⟨w.heap.size, 1, none⟩ = some (.slice a1 n1 c1) := by rw [← hW]; simp
    have q2 : W.cell? ⟨w.heap.size, 2, none⟩ = some (.slice a2 n2 c2) := by rw [← hW]; simp
    have q3 : W.cell? ⟨w.heap.size, 3, none⟩ = some (.slice a3 n3 c3) := by rw [← hW]; simp
    have q4 : W.cell? ⟨w.heap.size, 4, none⟩ = some (.string non) := by rw [← hW]; simp
    obtain ⟨hr1, hr2, hr3⟩ := (hr.below HG.out.below (Nat.le_refl _)).mono HG.out.below.size
    have HR1 := Lib.hid hr1; have HR2 := Lib.hid hr2; have HR3 := Lib.hid hr3; clear hr hr1 hr2 hr3
    go_enter Tryd.func16, Tryd.ntmps16
    go_wp2_with fail
    go_ret
    exact ⟨rfl, HG.out⟩
  | true =>
    obtain ⟨W, hW⟩ : ∃ W, w.alloc (.cells #[.bool true, .slice a1 n1 c1, .slice a2 n2 c2, .slice a3 n3 c3, .string non] 26) = W := ⟨_, rfl⟩
    have HG := Lib.hid (show Grw w W by rw [← hW]; exact (Grw.refl w).alloc _)
    have q0 : W.cell? ⟨w.heap.size, 0, none⟩ = some (.bool true) := by rw [← hW]; simp
    have q1 : W.cell? ⟨w.heap.size, 1, none⟩ = some (.slice a1 n1 c1) := by rw [← hW]; simp
    have q2 : W.cell? ⟨w.heap.size, 2, none⟩ = some (.slice a2 n2 c2) := by rw [← hW]; simp
    have q3 : W.cell? ⟨w.heap.size, 3, none⟩ = some (.slice a3 n3 c3) := by rw [← hW]; simp
    have q4 : W.cell? ⟨w.heap.size, 4, none⟩ = some (.string non) := by rw [← hW]; simp
    obtain ⟨hr1, hr2, hr3⟩ := (hr.below HG.out.below (Nat.le_refl _)).mono HG.out.below.size
    have HR1 := Lib.hid hr1; have HR2 := Lib.hid hr2; have HR3 := Lib.hid hr3; clear hr hr1 hr2 hr3
    have HAL := Lib.hid (show inlB ⟨true, scr, sty, img, non⟩ n = (decide (non.size ≠ 0) && decide (non = n)) from rfl)
    by_cases h0 : non.size = 0
    · have e1 : (non.toList == []) = true := by rw [empP_size, decide_eq_true h0]
      have e2 : (non.toList != []) = false := by rw [bne, e1]; rfl
      have HV := Lib.hid (show decide (non.size ≠ 0) = false from decide_eq_false (fun h => h h0)); clear h0
      go_enter Tryd.func16, Tryd.ntmps16
      go_wp2_with fail
      go_ret
      exact ⟨by rw [HAL.out, HV.out]; rfl, HG.out⟩
    · have e1 : (non.toList == []) = false := by rw [empP_size, decide_eq_false h0]
      have e2 : (non.toList != []) = true := by rw [bne, e1]; rfl
      have HV := Lib.hid (show decide (non.size ≠ 0) = true from decide_eq_true h0); clear h0
      by_cases h1 : non = n
      · have e3 : (non.toList == n.toList) = true := beqL_yes h1
        have HW := Lib.hid (show decide (non = n) = true from decide_eq_true h1); clear h1
        go_enter Tryd.func16, Tryd.ntmps16
        go_wp2_with fail
        go_ret
        exact ⟨by rw [HAL.out, HV.out, HW.out]; rfl, HG.out⟩
      · have e3 : (non.toList == n.toList) = false := beqL_no h1
        have HW := Lib.hid (show decide (non = n) = false from decide_eq_false h1); clear h1
        go_enter Tryd.func16, Tryd.ntmps16
        go_wp2_with fail
        go_ret
        exact ⟨by rw [HAL.out, HV.out, HW.out]; rfl, HG.out⟩
end Go.Proofs.YtkjjiinccljhjaaDoor

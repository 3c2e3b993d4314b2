/- Helper contracts: IsAddr, FormatAddr of the program and of the model answer alike. Asked: the strings are shorter than 2^62 bytes. -/
import Derived.Test.YtkjjiinccljhjaaName
import Derived.Below
namespace Go.Proofs.Ytkjjiinccljhjaa
open Go.ChangeShapes Go.WideShapes Go.ChangeAt Go.RowKit

abbrev Ad := ByteArray × ByteArray
def isAd (a : Ad) : Bool := isNm a.1 && isNm a.2
def slash : ByteArray := ⟨#[47]⟩
def fmtA (a : Ad) : ByteArray := if isAd a = true then a.1 ++ slash ++ a.2 else ⟨#[]⟩
theorem isAd_no1 {a : Ad} (h : isNm a.1 = false) : isAd a = false := by unfold isAd; rw [h, Bool.false_and]
theorem isAd_1 {a : Ad} (h : isNm a.1 = true) : isAd a = isNm a.2 := by unfold isAd; rw [h, Bool.true_and]
theorem isNm_size {s : ByteArray} (h : isNm s = true) : 1 ≤ s.size ∧ s.size ≤ 8 := by
  unfold isNm at h
  exact of_decide_eq_true (Bool.and_eq_true_iff.1 h).1
theorem isAd_size {a : Ad} (h : isAd a = true) : (1 ≤ a.1.size ∧ a.1.size ≤ 8) ∧ 1 ≤ a.2.size ∧ a.2.size ≤ 8 := by
  unfold isAd at h
  have := Bool.and_eq_true_iff.1 h
  exact ⟨isNm_size this.1, isNm_size this.2⟩

set_option maxHeartbeats 1000000 in
theorem isAd_impl (h p : ByteArray) (h1 : h.size ≤ 9223372036854775807) (h2 : p.size ≤ 9223372036854775807) (w : World) :
    Calls Try.prog 30 #[.agg #[.string h, .string p]] w fun e w' => e = .returned (.bool (isAd (h, p))) ∧ Below w.heap.size w w' := by
  have HB := Lib.hid ((Below.refl w.heap.size w).alloc (Nat.le_refl _) (.cells #[.string h, .string p] 28))
  by_cases e1 : isNm h = true
  · have HI := Lib.hid (isAd_1 (a := (h, p)) e1)
    go_enter Try.func30, Try.ntmps30
    go_wp2_with fail
    refine (nm_impl h h1 _).mono ?_
    rintro e w' ⟨rfl, rfl⟩
    go_wp2_with fail
    refine (nm_impl p h2 _).mono ?_
    rintro e w' ⟨rfl, rfl⟩
    go_wp2_with fail
    go_ret
    exact ⟨ret_b HI.out.symm, HB.out⟩
  · have e1 : isNm h = false := Bool.eq_false_iff.2 e1
    have HI := Lib.hid (isAd_no1 (a := (h, p)) e1)
    go_enter Try.func30, Try.ntmps30
    go_wp2_with fail
    refine (nm_impl h h1 _).mono ?_
    rintro e w' ⟨rfl, rfl⟩
    go_wp2_with fail
    go_ret
    exact ⟨ret_b HI.out.symm, HB.out⟩

set_option maxHeartbeats 1000000 in
theorem isAd_spec (h p : ByteArray) (h1 : h.size ≤ 9223372036854775807) (h2 : p.size ≤ 9223372036854775807) (w : World) :
    Calls Try.prog 25 #[.agg #[.string h, .string p]] w fun e w' => e = .returned (.bool (isAd (h, p))) ∧ Below w.heap.size w w' := by
  have HB := Lib.hid ((Below.refl w.heap.size w).alloc (Nat.le_refl _) (.cells #[.string h, .string p] 28))
  by_cases e1 : isNm h = true
  · have HI := Lib.hid (isAd_1 (a := (h, p)) e1)
    go_enter Try.func25, Try.ntmps25
    go_wp2_with fail
    refine (nm_spec h h1 _).mono ?_
    rintro e w' ⟨rfl, rfl⟩
    go_wp2_with fail
    refine (nm_spec p h2 _).mono ?_
    rintro e w' ⟨rfl, rfl⟩
    go_wp2_with fail
    go_ret
    exact ⟨ret_b HI.out.symm, HB.out⟩
  · have e1 : isNm h = false := Bool.eq_false_iff.2 e1
    have HI := Lib.hid (isAd_no1 (a := (h, p)) e1)
    go_enter Try.func25, Try.ntmps25
    go_wp2_with fail
    refine (nm_spec h h1 _).mono ?_
    rintro e w' ⟨rfl, rfl⟩
    go_wp2_with fail
    go_ret
    exact ⟨ret_b HI.out.symm, HB.out⟩

theorem fmtA_yes {a : Ad} (h : isAd a = true) : fmtA a = a.1 ++ slash ++ a.2 := by unfold fmtA; rw [if_pos h]
theorem fmtA_no {a : Ad} (h : isAd a = false) : fmtA a = ⟨#[]⟩ := by unfold fmtA; rw [if_neg (by rw [h]; exact Bool.false_ne_true)]
theorem ret_s {a b : ByteArray} (h : a = b) : Ending.returned (.string a) = .returned (.string b) := by rw [h]

end Go.Proofs.Ytkjjiinccljhjaa

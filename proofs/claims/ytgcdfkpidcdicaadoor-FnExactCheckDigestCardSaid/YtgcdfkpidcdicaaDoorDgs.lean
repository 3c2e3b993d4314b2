/- Helper contracts: CheckDigest of the program and of the model answer alike. Asked: the body is no longer than 2^20; for the program: the library's table of powers of ten lies as its initialiser lays it. -/
import Derived.Test.YtgcdfkpidcdicaaDoorDig
import Derived.Test.YtgcdfkpidcdicaaDoorFmtLawD
import Derived.Test.YtgcdfkpidcdicaaDoorStr
namespace Go.Proofs.YtgcdfkpidcdicaaDoor
open Go.ChangeShapes Go.WideShapes Go.ChangeAt Go.RowKit

def chB (s v : ByteArray) : Bool := decide (v.size = 0) || decide (v = fmtS (digN s))
theorem empD_size (s : ByteArray) : (s.toList == []) = decide (s.size = 0) := by
  rw [ByteArray.toList_eq]
  by_cases h : s.size = 0
  · rw [decide_eq_true h, beq_iff_eq]; exact List.eq_nil_of_length_eq_zero (by rw [size_list]; exact h)
  · rw [decide_eq_false h]
    refine beq_eq_false_iff_ne.2 fun e => h ?_
    rw [← size_list, e]; rfl

set_option maxRecDepth 100000 in
set_option maxHeartbeats 2000000 in
theorem chk_spec (s v : ByteArray) (w : World) (hl : s.size ≤ 1048576) :
    Calls Tryd.prog 27 #[.string s, .string v] w fun e w' => e = .returned (.bool (chB s v)) ∧ Below w.heap.size w w' := by
  by_cases h0 : v.size = 0
  · have e1 : (v.toList == []) = true := by rw [empD_size, decide_eq_true h0]
    have HV := Lib.hid (show chB s v = true by unfold chB; rw [decide_eq_true h0]; rfl); clear h0
    go_enter Tryd.func27, Tryd.ntmps27
    go_wp2_with fail
    go_ret
    exact ⟨by rw [HV.out]; rfl, Below.refl _ _⟩
  · have e1 : (v.toList == []) = false := by rw [empD_size, decide_eq_false h0]
    have HD := Lib.hid (dig_spec s w hl)
    have hbd := digN_bd s
    have HC := Lib.hid (show chB s v = decide (v = fmtS (digN s)) by unfold chB; rw [decide_eq_false h0, Bool.false_or]); clear h0
    obtain ⟨D, hD⟩ : ∃ D, digN s = D := ⟨_, rfl⟩
    rw [hD] at HD HC hbd; clear hD
    have hd0 : -9223372036854775808 ≤ D := by omega
    have hd1 : D ≤ 9223372036854775807 := by omega
    by_cases h1 : v = fmtS D
    · have e2 : (v.toList == (fmtS D).toList) = true := beqL_yes h1
      rw [decide_eq_true h1] at HC; clear h1
      go_enter Tryd.func27, Tryd.ntmps27
      go_wp2_with fail
      refine HD.out.mono ?_
      rintro e w1 ⟨rfl, hb1⟩
      have HB1 := Lib.hid hb1; clear hb1
      go_wp2_with fail
      refine (fmt_spec D hd0 hd1 _).mono ?_
      rintro e w2 ⟨rfl, hb2⟩
      have HB2 := Lib.hid (HB1.out.trans (hb2.mono HB1.out.size)); clear hb2
      go_wp2_with fail
      go_ret
      exact ⟨by rw [HC.out]; rfl, HB2.out⟩
    · have e2 : (v.toList == (fmtS D).toList) = false := beqL_no h1
      rw [decide_eq_false h1] at HC; clear h1
      go_enter Tryd.func27, Tryd.ntmps27
      go_wp2_with fail
      refine HD.out.mono ?_
      rintro e w1 ⟨rfl, hb1⟩
      have HB1 := Lib.hid hb1; clear hb1
      go_wp2_with fail
      refine (fmt_spec D hd0 hd1 _).mono ?_
      rintro e w2 ⟨rfl, hb2⟩
      have HB2 := Lib.hid (HB1.out.trans (hb2.mono HB1.out.size)); clear hb2
      go_wp2_with fail
      go_ret
      exact ⟨by rw [HC.out]; rfl, HB2.out⟩

set_option maxRecDepth 100000 in
set_option maxHeartbeats 2000000 in
theorem chk_impl (s v : ByteArray) (w : World) (hl : s.size ≤ 1048576) (htab : Lib.TabIs Tryd.prog w "internal/strconv.uint64pow10" .u64 Lib.pow10Tab) :
    Calls Tryd.prog 28 #[.string s, .string v] w fun e w' => e = .returned (.bool (chB s v)) ∧ Below w.heap.size w w' := by
  have HT := Lib.hid (Lib.tabBelow_of_tabIs htab); clear htab
  by_cases h0 : v.size = 0
  · have e1 : (v.toList == []) = true := by rw [empD_size, decide_eq_true h0]
    have HV := Lib.hid (show chB s v = true by unfold chB; rw [decide_eq_true h0]; rfl); clear h0
    go_enter Tryd.func28, Tryd.ntmps28
    go_wp2_with fail
    go_ret
    exact ⟨by rw [HV.out]; rfl, Below.refl _ _⟩
  · have e1 : (v.toList == []) = false := by rw [empD_size, decide_eq_false h0]
    have HD := Lib.hid (dig_impl s w hl)
    have hbd := digN_bd s
    have HC := Lib.hid (show chB s v = decide (v = fmtS (digN s)) by unfold chB; rw [decide_eq_false h0, Bool.false_or]); clear h0
    obtain ⟨D, hD⟩ : ∃ D, digN s = D := ⟨_, rfl⟩
    rw [hD] at HD HC hbd; clear hD
    have hd0 : -9223372036854775808 ≤ D := by omega
    have hd1 : D ≤ 9223372036854775807 := by omega
    by_cases h1 : v = fmtS D
    · have e2 : (v.toList == (fmtS D).toList) = true := beqL_yes h1
      rw [decide_eq_true h1] at HC; clear h1
      go_enter Tryd.func28, Tryd.ntmps28
      go_wp2_with fail
      refine HD.out.mono ?_
      rintro e w1 ⟨rfl, hb1⟩
      have HB1 := Lib.hid hb1; clear hb1
      go_wp2_with fail
      refine (fmt_impl D hd0 hd1 _ (HT.out _ HB1.out)).mono ?_
      rintro e w2 ⟨rfl, hb2⟩
      have HB2 := Lib.hid (HB1.out.trans (hb2.mono HB1.out.size)); clear hb2
      go_wp2_with fail
      go_ret
      exact ⟨by rw [HC.out]; rfl, HB2.out⟩
    · have e2 : (v.toList == (fmtS D).toList) = false := beqL_no h1
      rw [decide_eq_false h1] at HC; clear h1
      go_enter Tryd.func28, Tryd.ntmps28
      go_wp2_with fail
      refine HD.out.mono ?_
      rintro e w1 ⟨rfl, hb1⟩
      have HB1 := Lib.hid hb1; clear hb1
      go_wp2_with fail
      refine (fmt_impl D hd0 hd1 _ (HT.out _ HB1.out)).mono ?_
      rintro e w2 ⟨rfl, hb2⟩
      have HB2 := Lib.hid (HB1.out.trans (hb2.mono HB1.out.size)); clear hb2
      go_wp2_with fail
      go_ret
      exact ⟨by rw [HC.out]; rfl, HB2.out⟩

end Go.Proofs.YtgcdfkpidcdicaaDoor

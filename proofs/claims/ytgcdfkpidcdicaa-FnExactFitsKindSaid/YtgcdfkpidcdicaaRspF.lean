/- Helper contracts: FitsKind, SizeResponse and NotFound of the program and of the model answer alike. -/
import Derived.Test.YtgcdfkpidcdicaaRsp
namespace Go.Proofs.Ytgcdfkpidcdicaa
open Go.ChangeShapes Go.WideShapes Go.ChangeAt Go.RowKit

def fitB (kd k : Int) : Bool := decide (kd = k) || (decide (k = 5) && decide (kd = 2))
theorem fit_eq {kd k : Int} (h : kd = k) : fitB kd k = true := by unfold fitB; rw [decide_eq_true h]; rfl
theorem fit_not {kd k : Int} (h : kd ≠ k) (h5 : k ≠ 5) : fitB kd k = false := by unfold fitB; rw [decide_eq_false h, decide_eq_false h5]; rfl
theorem fit_yes {kd k : Int} (h5 : k = 5) (h2 : kd = 2) : fitB kd k = true := by unfold fitB; rw [decide_eq_true h5, decide_eq_true h2]; simp
theorem fit_no {kd k : Int} (h : kd ≠ k) (h2 : kd ≠ 2) : fitB kd k = false := by unfold fitB; rw [decide_eq_false h, decide_eq_false h2]; simp

set_option maxRecDepth 100000 in
set_option maxHeartbeats 2000000 in
theorem fits_spec (st kd : Int) (bo : ByteArray) (ag : Int) (sh : Bool) (po : ByteArray) (k : Int) (w : World) :
    Calls Try.prog 22 #[.agg #[.int .i64 st, .int .i64 kd, .string bo, .int .i64 ag, .bool sh, .string po], .int .i64 k] w fun e w' => e = .returned (.bool (fitB kd k)) ∧ Grw w w' := by
  have HG := Lib.hid ((Grw.refl w).alloc (.cells #[.int .i64 st, .int .i64 kd, .string bo, .int .i64 ag, .bool sh, .string po] 33))
  by_cases h1 : kd = k
  · have e1 : (kd == k) = true := beq_iff_eq.2 h1
    have HV := Lib.hid (fit_eq h1); clear h1
    go_enter Try.func22, Try.ntmps22
    go_wp2_with fail
    go_ret
    exact ⟨by rw [HV.out]; rfl, HG.out⟩
  · have e1 : (kd == k) = false := beq_eq_false_iff_ne.2 h1
    by_cases h5 : k = 5
    · have e5 : (k == 5) = true := beq_iff_eq.2 h5
      by_cases h2 : kd = 2
      · have e2 : (kd == 2) = true := beq_iff_eq.2 h2
        have HV := Lib.hid (fit_yes h5 h2); clear h1 h5 h2
        go_enter Try.func22, Try.ntmps22
        go_wp2_with fail
        go_ret
        exact ⟨by rw [HV.out]; rfl, HG.out⟩
      · have e2 : (kd == 2) = false := beq_eq_false_iff_ne.2 h2
        have HV := Lib.hid (fit_no h1 h2); clear h1 h5 h2
        go_enter Try.func22, Try.ntmps22
        go_wp2_with fail
        go_ret
        exact ⟨by rw [HV.out]; rfl, HG.out⟩
    · have e5 : (k == 5) = false := beq_eq_false_iff_ne.2 h5
      have HV := Lib.hid (fit_not h1 h5); clear h1 h5
      go_enter Try.func22, Try.ntmps22
      go_wp2_with fail
      go_ret
      exact ⟨by rw [HV.out]; rfl, HG.out⟩

set_option maxRecDepth 100000 in
set_option maxHeartbeats 2000000 in
theorem fits_impl (st kd : Int) (bo : ByteArray) (ag : Int) (sh : Bool) (po : ByteArray) (k : Int) (w : World) :
    Calls Try.prog 24 #[.agg #[.int .i64 st, .int .i64 kd, .string bo, .int .i64 ag, .bool sh, .string po], .int .i64 k] w fun e w' => e = .returned (.bool (fitB kd k)) ∧ Grw w w' := by
  have HG := Lib.hid ((Grw.refl w).alloc (.cells #[.int .i64 st, .int .i64 kd, .string bo, .int .i64 ag, .bool sh, .string po] 33))
  by_cases h1 : kd = k
  · have e1 : (kd == k) = true := beq_iff_eq.2 h1
    have HV := Lib.hid (fit_eq h1); clear h1
    go_enter Try.func24, Try.ntmps24
    go_wp2_with fail
    go_ret
    exact ⟨by rw [HV.out]; rfl, HG.out⟩
  · have e1 : (kd == k) = false := beq_eq_false_iff_ne.2 h1
    by_cases h5 : k = 5
    · have e5 : (k == 5) = true := beq_iff_eq.2 h5
      by_cases h2 : kd = 2
      · have e2 : (kd == 2) = true := beq_iff_eq.2 h2
        have HV := Lib.hid (fit_yes h5 h2); clear h1 h5 h2
        go_enter Try.func24, Try.ntmps24
        go_wp2_with fail
        go_ret
        exact ⟨by rw [HV.out]; rfl, HG.out⟩
      · have e2 : (kd == 2) = false := beq_eq_false_iff_ne.2 h2
        have HV := Lib.hid (fit_no h1 h2); clear h1 h5 h2
        go_enter Try.func24, Try.ntmps24
        go_wp2_with fail
        go_ret
        exact ⟨by rw [HV.out]; rfl, HG.out⟩
    · have e5 : (k == 5) = false := beq_eq_false_iff_ne.2 h5
      have HV := Lib.hid (fit_not h1 h5); clear h1 h5
      go_enter Try.func24, Try.ntmps24
      go_wp2_with fail
      go_ret
      exact ⟨by rw [HV.out]; rfl, HG.out⟩

set_option maxRecDepth 100000 in
set_option maxHeartbeats 2000000 in
theorem size_spec (st kd : Int) (bo : ByteArray) (ag : Int) (sh : Bool) (po : ByteArray) (hz : bo.size ≤ 1099511627776) (w : World) :
    Calls Try.prog 25 #[.agg #[.int .i64 st, .int .i64 kd, .string bo, .int .i64 ag, .bool sh, .string po]] w fun e w' => e = .returned (.int .i64 ((bo.size : Int) + 20)) ∧ Grw w w' := by
  have HG := Lib.hid ((Grw.refl w).alloc (.cells #[.int .i64 st, .int .i64 kd, .string bo, .int .i64 ag, .bool sh, .string po] 33))
  go_enter Try.func25, Try.ntmps25
  go_wp2_with fail
  go_ret
  exact ⟨rfl, HG.out⟩

set_option maxRecDepth 100000 in
set_option maxHeartbeats 2000000 in
theorem size_impl (st kd : Int) (bo : ByteArray) (ag : Int) (sh : Bool) (po : ByteArray) (hz : bo.size ≤ 1099511627776) (w : World) :
    Calls Try.prog 26 #[.agg #[.int .i64 st, .int .i64 kd, .string bo, .int .i64 ag, .bool sh, .string po]] w fun e w' => e = .returned (.int .i64 ((bo.size : Int) + 20)) ∧ Grw w w' := by
  have HG := Lib.hid ((Grw.refl w).alloc (.cells #[.int .i64 st, .int .i64 kd, .string bo, .int .i64 ag, .bool sh, .string po] 33))
  go_enter Try.func26, Try.ntmps26
  go_wp2_with fail
  go_ret
  exact ⟨rfl, HG.out⟩

set_option maxRecDepth 100000 in
set_option maxHeartbeats 2000000 in
theorem nf_spec (w : World) :
    Calls Try.prog 16 #[] w fun e w' => e = .returned (.agg #[.int .i64 404, .int .i64 1, .string ⟨#[]⟩, .int .i64 0, .bool false, .string ⟨#[]⟩]) ∧ Grw w w' := by
  go_enter Try.func16, Try.ntmps16
  go_wp2_with fail
  refine bodyPost_ret (v := .agg #[.int .i64 404, .int .i64 1, .string ⟨#[]⟩, .int .i64 0, .bool false, .string ⟨#[]⟩]) (by simp [results, Try.results16, go_sem]) rfl ⟨rfl, ?_⟩
  repeat' (first | (with_reducible exact Grw.refl _) | (with_reducible refine Grw.alloc ?_ _))

set_option maxRecDepth 100000 in
set_option maxHeartbeats 2000000 in
theorem nf_impl (w : World) :
    Calls Try.prog 17 #[] w fun e w' => e = .returned (.agg #[.int .i64 404, .int .i64 1, .string ⟨#[]⟩, .int .i64 0, .bool false, .string ⟨#[]⟩]) ∧ Grw w w' := by
  go_enter Try.func17, Try.ntmps17
  go_wp2_with fail
  refine bodyPost_ret (v := .agg #[.int .i64 404, .int .i64 1, .string ⟨#[]⟩, .int .i64 0, .bool false, .string ⟨#[]⟩]) (by simp [results, Try.results17, go_sem]) rfl ⟨rfl, ?_⟩
  repeat' (first | (with_reducible exact Grw.refl _) | (with_reducible refine Grw.alloc ?_ _))

end Go.Proofs.Ytgcdfkpidcdicaa

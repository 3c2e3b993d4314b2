/- Helper contracts: EqualResponses of the program and of the model answer alike: whether all fields are equal. -/
import Derived.Test.YtgcdfkpidcdicaaRsp
namespace Go.Proofs.Ytgcdfkpidcdicaa
open Go.ChangeShapes Go.WideShapes Go.ChangeAt Go.RowKit

def eqRB (st kd : Int) (bo : ByteArray) (ag : Int) (sh : Bool) (po : ByteArray) (st' kd' : Int) (bo' : ByteArray) (ag' : Int) (sh' : Bool) (po' : ByteArray) : Bool := decide (st = st') && decide (kd = kd') && decide (bo = bo') && decide (ag = ag') && (sh == sh') && decide (po = po')
set_option maxRecDepth 100000 in
set_option maxHeartbeats 2000000 in
theorem eqRs_spec (st kd : Int) (bo : ByteArray) (ag : Int) (sh : Bool) (po : ByteArray) (st' kd' : Int) (bo' : ByteArray) (ag' : Int) (sh' : Bool) (po' : ByteArray) (w : World) :
    Calls Try.prog 27 #[.agg #[.int .i64 st, .int .i64 kd, .string bo, .int .i64 ag, .bool sh, .string po], .agg #[.int .i64 st', .int .i64 kd', .string bo', .int .i64 ag', .bool sh', .string po']] w fun e w' => e = .returned (.bool (eqRB st kd bo ag sh po st' kd' bo' ag' sh' po')) ∧ Grw w w' := by
  have HG := Lib.hid (((Grw.refl w).alloc (.cells #[.int .i64 st, .int .i64 kd, .string bo, .int .i64 ag, .bool sh, .string po] 33)).alloc (.cells #[.int .i64 st', .int .i64 kd', .string bo', .int .i64 ag', .bool sh', .string po'] 33))
  by_cases h0 : st = st'
  · have e0 : (st == st') = true := beq_iff_eq.2 h0
    by_cases h1 : kd = kd'
    · have e1 : (kd == kd') = true := beq_iff_eq.2 h1
      by_cases h2 : bo = bo'
      · have e2 : (bo.toList == bo'.toList) = true := beqL_yes h2
        by_cases h3 : ag = ag'
        · have e3 : (ag == ag') = true := beq_iff_eq.2 h3
          by_cases h4 : sh = sh'
          · have e4 : (sh == sh') = true := beq_iff_eq.2 h4
            by_cases h5 : po = po'
            · have e5 : (po.toList == po'.toList) = true := beqL_yes h5
              have HV := Lib.hid (show eqRB st kd bo ag sh po st' kd' bo' ag' sh' po' = true by unfold eqRB; simp [h0, h1, h2, h3, h4, h5])
              clear h0 h1 h2 h3 h4 h5
              go_enter Try.func27, Try.ntmps27
              go_wp2_with fail
              go_ret
              exact ⟨by rw [HV.out]; rfl, HG.out⟩
            · have e5 : (po.toList == po'.toList) = false := beqL_no h5
              have HV := Lib.hid (show eqRB st kd bo ag sh po st' kd' bo' ag' sh' po' = false by unfold eqRB; simp [h0, h1, h2, h3, h4, h5])
              clear h0 h1 h2 h3 h4 h5
              go_enter Try.func27, Try.ntmps27
              go_wp2_with fail
              go_ret
              exact ⟨by rw [HV.out]; rfl, HG.out⟩
          · have e4 : (sh == sh') = false := beq_eq_false_iff_ne.2 h4
            have HV := Lib.hid (show eqRB st kd bo ag sh po st' kd' bo' ag' sh' po' = false by unfold eqRB; simp [h0, h1, h2, h3, h4])
            clear h0 h1 h2 h3 h4
            go_enter Try.func27, Try.ntmps27
            go_wp2_with fail
            go_ret
            exact ⟨by rw [HV.out]; rfl, HG.out⟩
        · have e3 : (ag == ag') = false := beq_eq_false_iff_ne.2 h3
          have HV := Lib.hid (show eqRB st kd bo ag sh po st' kd' bo' ag' sh' po' = false by unfold eqRB; simp [h0, h1, h2, h3])
          clear h0 h1 h2 h3
          go_enter Try.func27, Try.ntmps27
          go_wp2_with fail
          go_ret
          exact ⟨by rw [HV.out]; rfl, HG.out⟩
      · have e2 : (bo.toList == bo'.toList) = false := beqL_no h2
        have HV := Lib.hid (show eqRB st kd bo ag sh po st' kd' bo' ag' sh' po' = false by unfold eqRB; simp [h0, h1, h2])
        clear h0 h1 h2
        go_enter Try.func27, Try.ntmps27
        go_wp2_with fail
        go_ret
        exact ⟨by rw [HV.out]; rfl, HG.out⟩
    · have e1 : (kd == kd') = false := beq_eq_false_iff_ne.2 h1
      have HV := Lib.hid (show eqRB st kd bo ag sh po st' kd' bo' ag' sh' po' = false by unfold eqRB; simp [h0, h1])
      clear h0 h1
      go_enter Try.func27, Try.ntmps27
      go_wp2_with fail
      go_ret
      exact ⟨by rw [HV.out]; rfl, HG.out⟩
  · have e0 : (st == st') = false := beq_eq_false_iff_ne.2 h0
    have HV := Lib.hid (show eqRB st kd bo ag sh po st' kd' bo' ag' sh' po' = false by unfold eqRB; simp [h0])
    clear h0
    go_enter Try.func27, Try.ntmps27
    go_wp2_with fail
    go_ret
    exact ⟨by rw [HV.out]; rfl, HG.out⟩

set_option maxRecDepth 100000 in
set_option maxHeartbeats 2000000 in
theorem eqRs_impl (st kd : Int) (bo : ByteArray) (ag : Int) (sh : Bool) (po : ByteArray) (st' kd' : Int) (bo' : ByteArray) (ag' : Int) (sh' : Bool) (po' : ByteArray) (w : World) :
    Calls Try.prog 28 #[.agg #[.int .i64 st, .int .i64 kd, .string bo, .int .i64 ag, .bool sh, .string po], .agg #[.int .i64 st', .int .i64 kd', .string bo', .int .i64 ag', .bool sh', .string po']] w fun e w' => e = .returned (.bool (eqRB st kd bo ag sh po st' kd' bo' ag' sh' po')) ∧ Grw w w' := by
  have HG := Lib.hid (((Grw.refl w).alloc (.cells #[.int .i64 st, .int .i64 kd, .string bo, .int .i64 ag, .bool sh, .string po] 33)).alloc (.cells #[.int .i64 st', .int .i64 kd', .string bo', .int .i64 ag', .bool sh', .string po'] 33))
  by_cases h0 : st = st'
  · have e0 : (st == st') = true := beq_iff_eq.2 h0
    by_cases h1 : kd = kd'
    · have e1 : (kd == kd') = true := beq_iff_eq.2 h1
      by_cases h2 : bo = bo'
      · have e2 : (bo.toList == bo'.toList) = true := beqL_yes h2
        by_cases h3 : ag = ag'
        · have e3 : (ag == ag') = true := beq_iff_eq.2 h3
          by_cases h4 : sh = sh'
          · have e4 : (sh == sh') = true := beq_iff_eq.2 h4
            by_cases h5 : po = po'
            · have e5 : (po.toList == po'.toList) = true := beqL_yes h5
              have HV := Lib.hid (show eqRB st kd bo ag sh po st' kd' bo' ag' sh' po' = true by unfold eqRB; simp [h0, h1, h2, h3, h4, h5])
              clear h0 h1 h2 h3 h4 h5
              go_enter Try.func28, Try.ntmps28
              go_wp2_with fail
              go_ret
              exact ⟨by rw [HV.out]; rfl, HG.out⟩
            · have e5 : (po.toList == po'.toList) = false := beqL_no h5
              have HV := Lib.hid (show eqRB st kd bo ag sh po st' kd' bo' ag' sh' po' = false by unfold eqRB; simp [h0, h1, h2, h3, h4, h5])
              clear h0 h1 h2 h3 h4 h5
              go_enter Try.func28, Try.ntmps28
              go_wp2_with fail
              go_ret
              exact ⟨by rw [HV.out]; rfl, HG.out⟩
          · have e4 : (sh == sh') = false := beq_eq_false_iff_ne.2 h4
            have HV := Lib.hid (show eqRB st kd bo ag sh po st' kd' bo' ag' sh' po' = false by unfold eqRB; simp [h0, h1, h2, h3, h4])
            clear h0 h1 h2 h3 h4
            go_enter Try.func28, Try.ntmps28
            go_wp2_with fail
            go_ret
            exact ⟨by rw [HV.out]; rfl, HG.out⟩
        · have e3 : (ag == ag') = false := beq_eq_false_iff_ne.2 h3
          have HV := Lib.hid (show eqRB st kd bo ag sh po st' kd' bo' ag' sh' po' = false by unfold eqRB; simp [h0, h1, h2, h3])
          clear h0 h1 h2 h3
          go_enter Try.func28, Try.ntmps28
          go_wp2_with fail
          go_ret
          exact ⟨by rw [HV.out]; rfl, HG.out⟩
      · have e2 : (bo.toList == bo'.toList) = false := beqL_no h2
        have HV := Lib.hid (show eqRB st kd bo ag sh po st' kd' bo' ag' sh' po' = false by unfold eqRB; simp [h0, h1, h2])
        clear h0 h1 h2
        go_enter Try.func28, Try.ntmps28
        go_wp2_with fail
        go_ret
        exact ⟨by rw [HV.out]; rfl, HG.out⟩
    · have e1 : (kd == kd') = false := beq_eq_false_iff_ne.2 h1
      have HV := Lib.hid (show eqRB st kd bo ag sh po st' kd' bo' ag' sh' po' = false by unfold eqRB; simp [h0, h1])
      clear h0 h1
      go_enter Try.func28, Try.ntmps28
      go_wp2_with fail
      go_ret
      exact ⟨by rw [HV.out]; rfl, HG.out⟩
  · have e0 : (st == st') = false := beq_eq_false_iff_ne.2 h0
    have HV := Lib.hid (show eqRB st kd bo ag sh po st' kd' bo' ag' sh' po' = false by unfold eqRB; simp [h0])
    clear h0
    go_enter Try.func28, Try.ntmps28
    go_wp2_with fail
    go_ret
    exact ⟨by rw [HV.out]; rfl, HG.out⟩

end Go.Proofs.Ytgcdfkpidcdicaa

/- Helper contracts over the functions with which the laws copy, measure and compare one response. No conditions beyond the types. -/
import Derived.Test.YtpkicliimhflgaaRec
import Derived.Test.YtpkicliimhflgaaStr
namespace Go.Proofs.Ytpkicliimhflgaa
open Go.ChangeShapes Go.WideShapes Go.ChangeAt Go.RowKit

set_option maxRecDepth 100000 in
set_option maxHeartbeats 2000000 in
theorem toR_any (st kd : Int) (bo : ByteArray) (ag : Int) (sh : Bool) (po : ByteArray) (w : World) :
    Calls Try.prog 38 #[.agg #[.int .i64 st, .int .i64 kd, .string bo, .int .i64 ag, .bool sh, .string po]] w fun e w' => e = .returned (.agg #[.int .i64 st, .int .i64 kd, .string bo, .int .i64 ag, .bool sh, .string po]) ∧ Grw w w' := by
  go_enter Try.func38, Try.ntmps38
  go_wp2_with fail
  refine bodyPost_ret (v := .agg #[.int .i64 st, .int .i64 kd, .string bo, .int .i64 ag, .bool sh, .string po]) (by simp [results, Try.results38, go_sem]) rfl ⟨rfl, ?_⟩
  repeat' (first | (with_reducible exact Grw.refl _) | (with_reducible refine Grw.alloc ?_ _))

def SzR (h p : ByteArray) (left : Int) (w : World) (e : Ending) (w' : World) : Prop :=
  ∃ r : Int, e = .returned (.int .i64 r) ∧ -1 ≤ r ∧ (0 ≤ r → r + h.size + p.size = left) ∧ Below w.heap.size w w'
set_option maxRecDepth 100000 in
set_option maxHeartbeats 2000000 in
theorem szR_any (st kd : Int) (bo : ByteArray) (ag : Int) (sh : Bool) (po : ByteArray) (left : Int) (h1 : bo.size ≤ 9223372036854775807) (h2 : po.size ≤ 9223372036854775807) (l1 : -1 ≤ left) (l2 : left ≤ 1099511627776) (w : World) :
    Calls Try.prog 37 #[.agg #[.int .i64 st, .int .i64 kd, .string bo, .int .i64 ag, .bool sh, .string po], .int .i64 left] w (SzR bo po left w) := by
  have HB := Lib.hid ((Below.refl w.heap.size w).alloc (Nat.le_refl _) (.cells #[.int .i64 st, .int .i64 kd, .string bo, .int .i64 ag, .bool sh, .string po] 62))
  by_cases c1 : left - bo.size < 0
  · go_enter Try.func37, Try.ntmps37
    go_wp2_with fail
    go_ret
    exact ⟨-1, rfl, by omega, by omega, HB.out⟩
  · by_cases c2 : left - bo.size - po.size < 0
    · go_enter Try.func37, Try.ntmps37
      go_wp2_with fail
      go_ret
      exact ⟨-1, rfl, by omega, by omega, HB.out⟩
    · go_enter Try.func37, Try.ntmps37
      go_wp2_with fail
      go_ret
      exact ⟨left - bo.size - po.size, rfl, by omega, by omega, HB.out⟩

set_option maxRecDepth 100000 in
set_option maxHeartbeats 2000000 in
theorem eqR_self (st kd : Int) (bo : ByteArray) (ag : Int) (sh : Bool) (po : ByteArray) (w : World) :
    Calls Try.prog 11 #[.agg #[.int .i64 st, .int .i64 kd, .string bo, .int .i64 ag, .bool sh, .string po], .agg #[.int .i64 st, .int .i64 kd, .string bo, .int .i64 ag, .bool sh, .string po]] w fun e w' => e = .returned (.bool true) ∧ Grw w w' := by
  have HG := Lib.hid (((Grw.refl w).alloc (.cells #[.int .i64 st, .int .i64 kd, .string bo, .int .i64 ag, .bool sh, .string po] 28)).alloc (.cells #[.int .i64 st, .int .i64 kd, .string bo, .int .i64 ag, .bool sh, .string po] 28))
  have e1 : (st != st) = false := bne_self_eq_false _; have e2 : (kd != kd) = false := bne_self_eq_false _; have e3 : (bo.toList != bo.toList) = false := bne_self_eq_false _; have e4 : (ag != ag) = false := bne_self_eq_false _; have e5 : (sh != sh) = false := bne_self_eq_false _; have e6 : (po.toList != po.toList) = false := bne_self_eq_false _
  go_enter Try.func11, Try.ntmps11
  go_wp2_with fail
  go_ret
  exact ⟨rfl, HG.out⟩
end Go.Proofs.Ytpkicliimhflgaa

/- Helper contracts over the functions with which the laws copy, compare, measure and mark slices, by program (deep.py). Asked: what lies in memory is as named. -/
import Derived.Test.YtbegfdfdilnjdaaDoorRaw
import Derived.Test.YtbegfdfdilnjdaaDoorStr
import Derived.Shelf.SlSortCmp.QuietGrown
namespace Go.Proofs.YtbegfdfdilnjdaaDoor
open Go.ChangeShapes Go.WideShapes Go.ChangeAt Go.RowKit

set_option maxHeartbeats 2000000 in
theorem eq_Tokenizer (a0 : ByteArray) (w : World)  :
    Calls Tryd.prog 29 #[.agg #[.string a0], .agg #[.string a0]] w fun e w' => e = .returned (.bool true) ∧ Grw w w' := by
  have e0 : (a0.toList == a0.toList) = true := beqL_yes rfl
  go_enter Tryd.func29, Tryd.ntmps29
  go_wp2_with fail
  go_ret
  exact ⟨rfl, ((Grw.refl w).alloc _).alloc _⟩

set_option maxHeartbeats 2000000 in
theorem to_Tokenizer (a0 : ByteArray) (w : World) :
    Calls Tryd.prog 27 #[.agg #[.string a0]] w fun e w' => e = .returned (.agg #[.string a0]) ∧ Grw w w' := by
  go_enter Tryd.func27, Tryd.ntmps27
  go_wp2_with fail
  refine bodyPost_ret (v := .agg #[.string a0]) (by simp [results, Tryd.results27, go_sem]) rfl ⟨rfl, ?_⟩
  exact (((Grw.refl _).alloc _).alloc _).alloc _

def SzTokenizer (a0 : ByteArray) (left : Int) (w : World) (e : Ending) (w' : World) : Prop :=
  ∃ r : Int, e = .returned (.int .i64 r) ∧ -1 ≤ r ∧ (0 ≤ r → r + (a0.size : Nat) = left) ∧ Grw w w'
set_option maxHeartbeats 2000000 in
theorem sz_Tokenizer (a0 : ByteArray) (left : Int) (l1 : -1 ≤ left) (l2 : left ≤ 1099511627776) (w : World) (z0 : a0.size ≤ 9223372036854775807) :
    Calls Tryd.prog 25 #[.agg #[.string a0], .int .i64 left] w (SzTokenizer a0 left w) := by
  have HB := Lib.hid ((Grw.refl w).alloc (.cells #[.string a0] 45))
  by_cases c0 : left - a0.size < 0
  · go_enter Tryd.func25, Tryd.ntmps25
    go_wp2_with fail
    go_ret
    exact ⟨-1, rfl, by omega, by omega, HB.out⟩
  go_enter Tryd.func25, Tryd.ntmps25
  go_wp2_with fail
  go_ret
  exact ⟨left - a0.size, rfl, by omega, by omega, HB.out⟩
end Go.Proofs.YtbegfdfdilnjdaaDoor

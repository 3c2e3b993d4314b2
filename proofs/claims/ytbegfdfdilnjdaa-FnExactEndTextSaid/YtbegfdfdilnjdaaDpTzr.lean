/- Helper contracts over the functions with which the laws copy, compare, measure and mark slices, by program (deep.py). Asked: what lies in memory is as named. -/
import Derived.Test.YtbegfdfdilnjdaaRaw
import Derived.Test.YtbegfdfdilnjdaaStr
import Derived.Shelf.SlSortCmp.QuietGrown
namespace Go.Proofs.Ytbegfdfdilnjdaa
open Go.ChangeShapes Go.WideShapes Go.ChangeAt Go.RowKit

set_option maxHeartbeats 2000000 in
theorem to_Tokenizer (a0 : ByteArray) (w : World) :
    Calls Try.prog 16 #[.agg #[.string a0]] w fun e w' => e = .returned (.agg #[.string a0]) ∧ Grw w w' := by
  go_enter Try.func16, Try.ntmps16
  go_wp2_with fail
  refine bodyPost_ret (v := .agg #[.string a0]) (by simp [results, Try.results16, go_sem]) rfl ⟨rfl, ?_⟩
  exact (((Grw.refl _).alloc _).alloc _).alloc _

def SzTokenizer (a0 : ByteArray) (left : Int) (w : World) (e : Ending) (w' : World) : Prop :=
  ∃ r : Int, e = .returned (.int .i64 r) ∧ -1 ≤ r ∧ (0 ≤ r → r + (a0.size : Nat) = left) ∧ Grw w w'
set_option maxHeartbeats 2000000 in
theorem sz_Tokenizer (a0 : ByteArray) (left : Int) (l1 : -1 ≤ left) (l2 : left ≤ 1099511627776) (w : World) (z0 : a0.size ≤ 9223372036854775807) :
    Calls Try.prog 14 #[.agg #[.string a0], .int .i64 left] w (SzTokenizer a0 left w) := by
  have HB := Lib.hid ((Grw.refl w).alloc (.cells #[.string a0] 35))
  by_cases c0 : left - a0.size < 0
  · go_enter Try.func14, Try.ntmps14
    go_wp2_with fail
    go_ret
    exact ⟨-1, rfl, by omega, by omega, HB.out⟩
  go_enter Try.func14, Try.ntmps14
  go_wp2_with fail
  go_ret
  exact ⟨left - a0.size, rfl, by omega, by omega, HB.out⟩
end Go.Proofs.Ytbegfdfdilnjdaa

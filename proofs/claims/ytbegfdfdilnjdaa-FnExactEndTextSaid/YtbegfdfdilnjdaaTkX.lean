/- Helper contract: the method token of the program's kind of markup that is a text. No conditions beyond the types. -/
import Derived.Test.YtbegfdfdilnjdaaTagP
namespace Go.Proofs.Ytbegfdfdilnjdaa
open Go.ChangeShapes Go.WideShapes Go.ChangeAt Go.RowKit

set_option maxHeartbeats 1000000 in
theorem tkText_any (n : ByteArray) (w : World) :
    Calls Try.prog 31 #[.agg #[.string n]] w fun e w' => e = .returned (.agg #[.int .i64 3, .string ⟨#[]⟩, .slice none 0 0, .string n]) ∧ Grw w w' := by
  go_enter Try.func31, Try.ntmps31
  go_wp2_with fail
  refine bodyPost_ret (v := .agg #[.int .i64 3, .string ⟨#[]⟩, .slice none 0 0, .string n]) (by simp [results, Try.results31, go_sem]) rfl ⟨rfl, ?_⟩
  exact ((Grw.refl _).alloc _).alloc _

end Go.Proofs.Ytbegfdfdilnjdaa

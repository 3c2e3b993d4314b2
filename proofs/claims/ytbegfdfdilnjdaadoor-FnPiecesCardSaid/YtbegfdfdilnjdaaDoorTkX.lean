/- Helper contract: the method token of the program's kind of markup that is a text. No conditions beyond the types. -/
import Derived.Test.YtbegfdfdilnjdaaDoorTagP
namespace Go.Proofs.YtbegfdfdilnjdaaDoor
open Go.ChangeShapes Go.WideShapes Go.ChangeAt Go.RowKit

set_option maxHeartbeats 1000000 in
theorem tkText_any (n : ByteArray) (w : World) :
    Calls Tryd.prog 50 #[.agg #[.string n]] w fun e w' => e = .returned (.agg #[.int .i64 3, .string ⟨#[]⟩, .slice none 0 0, .string n]) ∧ Grw w w' := by
  go_enter Tryd.func50, Tryd.ntmps50
  go_wp2_with fail
  refine bodyPost_ret (v := .agg #[.int .i64 3, .string ⟨#[]⟩, .slice none 0 0, .string n]) (by simp [results, Tryd.results50, go_sem]) rfl ⟨rfl, ?_⟩
  exact ((Grw.refl _).alloc _).alloc _

end Go.Proofs.YtbegfdfdilnjdaaDoor

/- Helper contracts: the methods token of the program's two kinds of tags. No conditions beyond the types. -/
import Derived.Test.YtbegfdfdilnjdaaDoorTkX
namespace Go.Proofs.YtbegfdfdilnjdaaDoor
open Go.ChangeShapes Go.WideShapes Go.ChangeAt Go.RowKit

set_option maxHeartbeats 1000000 in
theorem tkOpen_any (n : ByteArray) (a : Option Addr) (m c : Nat) (w : World) :
    Calls Tryd.prog 107 #[.agg #[.string n, .slice a m c]] w fun e w' => e = .returned (.agg #[.int .i64 1, .string n, .slice a m c, .string ⟨#[]⟩]) ∧ Grw w w' := by
  go_enter Tryd.func107, Tryd.ntmps107
  go_wp2_with fail
  refine bodyPost_ret (v := .agg #[.int .i64 1, .string n, .slice a m c, .string ⟨#[]⟩]) (by simp [results, Tryd.results107, go_sem]) rfl ⟨rfl, ?_⟩
  exact ((Grw.refl _).alloc _).alloc _

set_option maxHeartbeats 1000000 in
theorem tkClose_any (n : ByteArray) (w : World) :
    Calls Tryd.prog 108 #[.agg #[.string n]] w fun e w' => e = .returned (.agg #[.int .i64 2, .string n, .slice none 0 0, .string ⟨#[]⟩]) ∧ Grw w w' := by
  go_enter Tryd.func108, Tryd.ntmps108
  go_wp2_with fail
  refine bodyPost_ret (v := .agg #[.int .i64 2, .string n, .slice none 0 0, .string ⟨#[]⟩]) (by simp [results, Tryd.results108, go_sem]) rfl ⟨rfl, ?_⟩
  exact ((Grw.refl _).alloc _).alloc _

end Go.Proofs.YtbegfdfdilnjdaaDoor

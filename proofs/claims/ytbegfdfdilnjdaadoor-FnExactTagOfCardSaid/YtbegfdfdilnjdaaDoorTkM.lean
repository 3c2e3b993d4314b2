/- Helper contracts: the methods token of the program's three kinds of markup. No conditions beyond the types. -/
import Derived.Test.YtbegfdfdilnjdaaDoorTagP
namespace Go.Proofs.YtbegfdfdilnjdaaDoor
open Go.ChangeShapes Go.WideShapes Go.ChangeAt Go.RowKit

set_option maxHeartbeats 1000000 in
theorem tkOpen_any (n : ByteArray) (a : Option Addr) (m c : Nat) (w : World) :
    Calls Tryd.prog 107 #[.agg #[.string n, .slice a m c]] w fun e w' => e = .returned (.agg #[.int .i64 1, .string n, .slice a m c, .string ⟨#[]⟩]) ∧ Grw w w' := by
  go_enter Tryd.func107, Tryd.ntmps107
  go_wp2_with fail
  refine bodyPost_ret (v := .agg #[.int .i64 1, .string n, .slice a m c, .string ⟨#[]⟩]) (by simp [results, Tryd.results107, go_sem]) rfl ⟨rfl, ?_⟩
  exact ((Grw.refl _).alloc _).alloc _

set_option maxHeartbeats 1000000 in
theorem tkClose_any (n : ByteArray) (w : World) :
    Calls Tryd.prog 108 #[.agg #[.string n]] w fun e w' => e = .returned (.agg #[.int .i64 2, .string n, .slice none 0 0, .string ⟨#[]⟩]) ∧ Grw w w' := by
  go_enter Tryd.func108, Tryd.ntmps108
  go_wp2_with fail
  refine bodyPost_ret (v := .agg #[.int .i64 2, .string n, .slice none 0 0, .string ⟨#[]⟩]) (by simp [results, Tryd.results108, go_sem]) rfl ⟨rfl, ?_⟩
  exact ((Grw.refl _).alloc _).alloc _

set_option maxHeartbeats 1000000 in
theorem tkText_any (n : ByteArray) (w : World) :
    Calls Tryd.prog 50 #[.agg #[.string n]] w fun e w' => e = .returned (.agg #[.int .i64 3, .string ⟨#[]⟩, .slice none 0 0, .string n]) ∧ Grw w w' := by
  go_enter Tryd.func50, Tryd.ntmps50
  go_wp2_with fail
  refine bodyPost_ret (v := .agg #[.int .i64 3, .string ⟨#[]⟩, .slice none 0 0, .string n]) (by simp [results, Tryd.results50, go_sem]) rfl ⟨rfl, ?_⟩
  exact ((Grw.refl _).alloc _).alloc _

end Go.Proofs.YtbegfdfdilnjdaaDoor

/- The program's FormatInt returns the decimal numeral of every int, and so the law FnExactFormatInt returns true; asked: the library's table of powers of ten lies in memory as its initialiser lays it. -/
import Derived.Test.YtmlmiclgledcpaaDoorFmtD
import Derived.Test.YtmlmiclgledcpaaDoorShelf
import Derived.Lib.AppendIntMem
namespace Go.Proofs.YtmlmiclgledcpaaDoor
open Go.ChangeShapes Go.WideShapes Go.ChangeAt Go.RowKit

theorem fmt_impl (n : Int) (h0 : -9223372036854775808 ≤ n) (h1 : n ≤ 9223372036854775807) (w : World) (htab : Lib.TabIs Tryd.prog w "internal/strconv.uint64pow10" .u64 Lib.pow10Tab) :
    Calls Tryd.prog 26 #[.int .i64 n] w fun e w' => e = .returned (.string (fmtS n)) ∧ Below w.heap.size w w' := by
  go_enter Tryd.func26, Tryd.ntmps26
  go_wp2_with (go_at_call 37; refine (Tryd.strconv_Itoa n h0 h1 _ htab).mono ?_; rintro e w' ⟨rfl, k, os, rfl⟩)
  go_ret
  exact ⟨rfl, Lib.below_grow _ _ (Nat.le_refl _) k os⟩

end Go.Proofs.YtmlmiclgledcpaaDoor

/- The walk of FnAddrs at any row of bytes. -/
import Derived.Test.YtojpbdhkcpfeaaaAddrs
import Derived.Test.YtojpbdhkcpfeaaaRowOf
namespace Go.Proofs.Ytojpbdhkcpfeaaa
open Go.ChangeShapes Go.WideShapes Go.ChangeAt Go.RowKit
theorem addrs_all (a : Option Addr) (len cap : Nat) (zs : List Int) (w : World) (h : IsRow .u8 w a len cap zs) :
    Calls Try.prog 3 #[.slice a len cap] w fun e w' => e = .returned (.bool true) ∧ Below w.heap.size w w' := by
  by_cases hb : (1048576 : Int) < (len : Int)
  · exact addrs_big a len cap w hb
  · exact walkAddrs a len cap w (code_of_row h (by omega))
end Go.Proofs.Ytojpbdhkcpfeaaa

/- Append of attributes to a slice of the call's own. Helper facts, no claim of its own. -/
import Derived.Test.YtgcdfkpidcdicaaGreatDoorTk
import Derived.Test.YtgcdfkpidcdicaaGreatDoorSplP
namespace Go.Proofs.YtgcdfkpidcdicaaGreatDoor
open Go.ChangeShapes Go.WideShapes Go.ChangeAt Go.RowKit

/-- append of attributes to a slice of the call's own. -/
theorem wpList_appA {w : World} {ops : Array Oper} {rest : List Oper} {o : Oper} {a : Act} {Q : Exit → Act → World → Prop} (hgd : o.guard = none) (s x : Operand)
    (ho : o.op = .call { callee := .builtin .append, args := #[s, x], argTypes := #[123, 123] })
    (B : Nat) (w0 : World) (v : Value) (xs : List At) (hs : a.eval s = v) (hM : MineK encA 2 187 B w0 w v xs) (vx : Value) (top : Nat) (ys : List At) (hx : a.eval x = vx) (hr : ReadsK encA 2 top w vx ys)
    (hlen : xs.length + ys.length ≤ 137438953472)
    (h : ∀ v' w', MineK encA 2 187 B w0 w' v' (xs ++ ys) → wpList Tryz.prog ops Q rest (a.put o.dst v') w') : wpList Tryz.prog ops Q (o :: rest) a w := by
  obtain ⟨i, hi, hz, hsize, hby⟩ := info_parts infoAt
  exact wpList_appK hgd s x _ ho encA_len encA_one (by decide) _ i _ 32 Tryz.underlying123 hi hz hsize hby (by rfl) B w0 v xs hs hM vx top ys hx hr (by omega) hlen fun v' w' hM' _ => h v' w' hM'

end Go.Proofs.YtgcdfkpidcdicaaGreatDoor

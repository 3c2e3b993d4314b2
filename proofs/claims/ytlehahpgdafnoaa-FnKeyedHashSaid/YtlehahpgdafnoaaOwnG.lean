/- Helper facts: append to a slice of the call's own behind a guard. No claim of its own. -/
import Derived.Test.YtlehahpgdafnoaaOwn
namespace Go.Proofs.Ytlehahpgdafnoaa
open Go.ChangeShapes Go.WideShapes Go.ChangeAt Go.RowKit

/-- append to a slice of the call's own, at the operation itself. -/
theorem wp_app {P : Program} {w : World} {o : Oper} {a : Act} {K : Act → World → Prop} {Q : Exit → Act → World → Prop} (s x : Operand) (t : TypeId)
    (ho : o.op = .call { callee := .builtin .append, args := #[s, x], argTypes := #[t, t] })
    (k : IntKind) (e : TypeId) (i : TypeInfo) (z : Value) (bytes : Nat) (ht : P.underlying t = some (.slice e)) (hi : P.info? e = some i) (hz : i.zero = some z) (hsize : i.size = 1) (hby : i.bytes = bytes) (hzs : z.cells.size = 1)
    (B : Nat) (w0 : World) (v : Value) (zs : List Int) (hs : a.eval s = v) (hM : Mine k e B w0 w v zs) (vx : Value) (top : Nat) (ys : List Int) (hx : a.eval x = vx) (hr : Reads k top w vx ys)
    (hby8 : bytes ≤ 8) (hlen : zs.length + ys.length ≤ 17592186044416)
    (h : ∀ v' w', Mine k e B w0 w' v' (zs ++ ys) → K (a.put o.dst v') w') : o.wp P a w K Q := by
  obtain ⟨ad, cap, rfl, h1, h2, h3, h4⟩ := id hr
  cases ad with
  | none =>
    obtain ⟨rfl, _, rfl⟩ := hr.nil
    have hrun := run_append_owned_none (P := P) (w := w) B t o.type e i 1 ht hi v zs.length _ hM.row
    have h5 := h v w (by simpa using hM)
    unfold Oper.wp
    have hx0 : a.eval x = .slice none 0 0 := by simpa using hx
    simp [execOp, ho, resolve, invoke, builtin, hs, hx0, hrun, Result.andThen]
    exact h5
  | some ad =>
    refine wp_append_own _ s x t ho B e i z 1 bytes ht hi hz hsize hby hzs (by decide) v zs.length _ hs hM.row ad ys.length cap (ys.map (.int k)) hx (by simp) hr.news (nums_oneCell _ _) ?_ ?_ hM.size ?_
    · unfold maxLen; omega
    · have : (zs.length + ys.length) * bytes ≤ (zs.length + ys.length) * 8 := Nat.mul_le_mul_left _ hby8
      omega
    · intro v' w' hown hgr _
      exact h v' w' (hM.grow hown hgr)

/-- The same behind a guard that holds. -/
theorem wpList_app_g {P : Program} {w : World} {ops : Array Oper} {rest : List Oper} {o : Oper} {a : Act} {Q : Exit → Act → World → Prop} (hw : Region.wanted o (yielded ops a.tmps) = true) (s x : Operand) (t : TypeId)
    (ho : o.op = .call { callee := .builtin .append, args := #[s, x], argTypes := #[t, t] })
    (k : IntKind) (e : TypeId) (i : TypeInfo) (z : Value) (bytes : Nat) (ht : P.underlying t = some (.slice e)) (hi : P.info? e = some i) (hz : i.zero = some z) (hsize : i.size = 1) (hby : i.bytes = bytes) (hzs : z.cells.size = 1)
    (B : Nat) (w0 : World) (v : Value) (zs : List Int) (hs : a.eval s = v) (hM : Mine k e B w0 w v zs) (vx : Value) (top : Nat) (ys : List Int) (hx : a.eval x = vx) (hr : Reads k top w vx ys)
    (hby8 : bytes ≤ 8) (hlen : zs.length + ys.length ≤ 17592186044416)
    (h : ∀ v' w', Mine k e B w0 w' v' (zs ++ ys) → wpList P ops Q rest (a.put o.dst v') w') : wpList P ops Q (o :: rest) a w :=
  wpList_step fun K hK => by
    rw [if_pos hw]
    exact wp_app s x t ho k e i z bytes ht hi hz hsize hby hzs B w0 v zs hs hM vx top ys hx hr hby8 hlen fun v' w' hm => hK _ _ (h v' w' hm)
end Go.Proofs.Ytlehahpgdafnoaa

/- What a tokenizer, a token, and a slice of attributes, that came in is, for the walks. Helper facts, no claim of its own. -/
import Derived.Test.YtpkicliimhflgaaTagP
import Derived.Test.YtpkicliimhflgaaCl
import Derived.Lib.SmallJoins
import Derived.Deep.Slices
import Derived.ShutString
import Derived.ChangeOld
import Derived.Carry
namespace Go.Proofs.Ytpkicliimhflgaa
open Go.ChangeShapes Go.WideShapes Go.ChangeAt Go.RowKit Go.Joins Go.Deep

/-- The strings of an attribute are no longer than a string may be. -/
def AtOk (a : At) : Prop := a.1.size ≤ 9223372036854775807 ∧ a.2.size ≤ 9223372036854775807
theorem atCells_small {ats : List At} (h : ∀ a ∈ ats, AtOk a) : SmallL (atCells ats) := by
  induction ats with
  | nil => rw [atCells, SmallL]; trivial
  | cons a ats ih =>
    rw [atCells, SmallL, SmallL, Rw.Small, Rw.Small]
    exact ⟨(h a List.mem_cons_self).1, (h a List.mem_cons_self).2, ih fun b hb => h b (List.mem_cons_of_mem _ hb)⟩
/-- A slice of attributes that came in. -/
def IsAts (w : World) (a : Option Addr) (len cap : Nat) (xs : List At) : Prop :=
  ReadsK encA 2 w.heap.size w (.slice a len cap) xs ∧ xs.length = len ∧ ∀ x ∈ xs, AtOk x

theorem array1 {α : Type} {cs : Array α} (h : cs.size = 1) : ∃ c0, cs = #[c0] := by
  obtain ⟨l⟩ := cs
  match l, h with
  | [c0], _ => exact ⟨c0, rfl⟩
set_option maxRecDepth 100000 in
theorem open_agg1 {P : Program} {H : Type} {enc : TypeId × Value → H} {w : World} {base : Nat} {spare : Nat → Bool} {held : Bool} {r : Reach} {b0 : Nat} {t : TypeId} {f0 : Field} {v : Value} {d : DataW H} {p : List MemPlace} (hs : P.underlying t = some (.struct #[f0])) (hone : oneCellFields P #[f0] = true) (hC : P.cellsOf t = 1)
    (hv : Value.okWide P w r b0 t v) (h : DataW.Trod enc P w base spare held t v d p) :
    ∃ (v0 : Value) (y0 : DataW H × List MemPlace) (n : Nat), v = .agg #[v0] ∧ d = .agg [y0.1] ∧ p = y0.2 ∧ DataW.trod enc P w base spare held n f0.type [v0] = some y0 := by
  obtain ⟨cs, rfl, hsz⟩ := okWide_struct hs hv
  obtain ⟨c0, rfl⟩ := array1 (hsz.trans hC)
  obtain ⟨fuel, hf⟩ := h
  obtain ⟨y0, n, hx, _, h0⟩ := trod_struct1 hs hf
  obtain ⟨o0, k0⟩ := hone_of hone 0 f0 rfl
  simp only [Prod.mk.injEq] at hx
  exact ⟨c0, y0, n, rfl, hx.1, hx.2, by simpa [Value.cells, o0, k0] using h0⟩

end Go.Proofs.Ytpkicliimhflgaa

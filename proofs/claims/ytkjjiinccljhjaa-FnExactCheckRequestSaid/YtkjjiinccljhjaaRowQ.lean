/- What a request that came in is; a struct by value, opened field by field (fields of any number of cells). Helper facts, no claim of its own. -/
import Derived.Deep.Slices
import Derived.Lib.SmallJoins
import Derived.ShutString
import Derived.ChangeOld
import Derived.Carry
import Derived.Deep.Fields
import Derived.Test.YtkjjiinccljhjaaRec
namespace Go.Proofs.Ytkjjiinccljhjaa
open Go.ChangeShapes Go.WideShapes Go.ChangeAt Go.RowKit Go.Joins Go.Deep

theorem fields_at {P : Program} {H : Type} {enc : TypeId × Value → H} {w : World} {base : Nat} {spare : Nat → Bool} {held : Bool} {t : TypeId} {fs : Array Field} {fuel : Nat} {cs : List Value} {x : DataW H × List MemPlace} (hs : P.underlying t = some (.struct fs)) (h : DataW.trod enc P w base spare held fuel t cs = some x) :
    ∃ n, ∀ (i : Nat) (f : Field), fs[i]? = some f → ∃ y, DataW.trod enc P w base spare held n f.type ((cs.drop f.offset).take (P.cellsOf f.type)) = some y := by
  obtain ⟨ys, n, _, _, _, hlen, hat⟩ := DataW.trod_struct hs h
  refine ⟨n, fun i f hi => ?_⟩
  have hil : i < fs.size := (Array.getElem?_eq_some_iff.1 hi).1
  obtain ⟨y, hy⟩ : ∃ y, ys[i]? = some y := ⟨_, List.getElem?_eq_getElem (by omega)⟩
  exact ⟨y, (hat i f hi).trans hy⟩
theorem array5 {α : Type} {a : Array α} (h : a.size = 5) : ∃ x0 x1 x2 x3 x4, a = #[x0, x1, x2, x3, x4] := by
  obtain ⟨l⟩ := a
  match l, h with
  | [x0, x1, x2, x3, x4], _ => exact ⟨x0, x1, x2, x3, x4, rfl⟩
def RqOk (h p f g : ByteArray) : Prop := h.size ≤ 9223372036854775807 ∧ p.size ≤ 9223372036854775807 ∧ f.size ≤ 9223372036854775807 ∧ g.size ≤ 9223372036854775807

set_option maxRecDepth 100000 in
theorem request_of {H : Type} {enc : TypeId × Value → H} {W : World} {base : Nat} {v : Value} {d : DataW H} {p : List MemPlace} (hv : Value.okWide Try.prog W .any base 25 v) (h : DataW.Trod enc Try.prog W 0 (fun _ => true) true 25 v d p) :
    ∃ (kd : Int) (h p f g : ByteArray), v = .agg #[.int .i64 kd, .string h, .string p, .string f, .string g] ∧ RqOk h p f g := by
  have ei : Try.prog.cellsOf 3 = 1 := by kernel_rfl
  have es : Try.prog.cellsOf 9 = 1 := by kernel_rfl
  have ea : Try.prog.cellsOf 23 = 2 := by kernel_rfl
  have eq : Try.prog.cellsOf 25 = 5 := by kernel_rfl
  obtain ⟨cs, rfl, hsz⟩ := okWide_struct Try.underlying25 hv
  rw [eq] at hsz
  obtain ⟨c0, c1, c2, c3, c4, rfl⟩ := array5 hsz
  obtain ⟨fuel, hf⟩ := h
  obtain ⟨n, hat⟩ := fields_at Try.underlying25 hf
  obtain ⟨y0, t0⟩ := hat 0 _ rfl
  obtain ⟨y1, t1⟩ := hat 1 _ rfl
  obtain ⟨y2, t2⟩ := hat 2 _ rfl
  obtain ⟨y3, t3⟩ := hat 3 _ rfl
  replace t0 : DataW.trod enc Try.prog W 0 (fun _ => true) true n 3 [c0] = some y0 := by
    have h := t0; change DataW.trod _ _ _ _ _ _ _ 3 (List.take (Try.prog.cellsOf 3) _) = _ at h; rw [ei] at h; exact h
  replace t1 : DataW.trod enc Try.prog W 0 (fun _ => true) true n 23 [c1, c2] = some y1 := by
    have h := t1; change DataW.trod _ _ _ _ _ _ _ 23 (List.take (Try.prog.cellsOf 23) _) = _ at h; rw [ea] at h; exact h
  replace t2 : DataW.trod enc Try.prog W 0 (fun _ => true) true n 9 [c3] = some y2 := by
    have h := t2; change DataW.trod _ _ _ _ _ _ _ 9 (List.take (Try.prog.cellsOf 9) _) = _ at h; rw [es] at h; exact h
  replace t3 : DataW.trod enc Try.prog W 0 (fun _ => true) true n 9 [c4] = some y3 := by
    have h := t3; change DataW.trod _ _ _ _ _ _ _ 9 (List.take (Try.prog.cellsOf 9) _) = _ at h; rw [es] at h; exact h
  obtain ⟨m, hau⟩ := fields_at Try.underlying23 t1
  obtain ⟨y4, t4⟩ := hau 0 _ rfl
  obtain ⟨y5, t5⟩ := hau 1 _ rfl
  replace t4 : DataW.trod enc Try.prog W 0 (fun _ => true) true m 9 [c1] = some y4 := by
    have h := t4; change DataW.trod _ _ _ _ _ _ _ 9 (List.take (Try.prog.cellsOf 9) _) = _ at h; rw [es] at h; exact h
  replace t5 : DataW.trod enc Try.prog W 0 (fun _ => true) true m 9 [c2] = some y5 := by
    have h := t5; change DataW.trod _ _ _ _ _ _ _ 9 (List.take (Try.prog.cellsOf 9) _) = _ at h; rw [es] at h; exact h
  obtain ⟨kd, k0, _, w0⟩ := DataW.trod_int Try.underlying3 t0
  obtain ⟨h, k1, _, w1⟩ := DataW.trod_string Try.underlying9 t4
  obtain ⟨p, k2, _, w2⟩ := DataW.trod_string Try.underlying9 t5
  obtain ⟨f, k3, _, w3⟩ := DataW.trod_string Try.underlying9 t2
  obtain ⟨g, k4, _, w4⟩ := DataW.trod_string Try.underlying9 t3
  cases k0; cases k1; cases k2; cases k3; cases k4
  exact ⟨kd, h, p, f, g, rfl, w1, w2, w3, w4⟩
end Go.Proofs.Ytkjjiinccljhjaa

/- What a response that came in is. Helper fact, no claim of its own. -/
import Derived.Test.YtgcdfkpidcdicaaDoorSs
namespace Go.Proofs.YtgcdfkpidcdicaaDoor
open Go.ChangeShapes Go.WideShapes Go.ChangeAt Go.RowKit Go.Joins Go.Deep

set_option maxRecDepth 100000 in
theorem response_of {H : Type} {enc : TypeId × Value → H} {W : World} {base : Nat} {v : Value} {d : DataW H} {p : List MemPlace} (hv : Value.okWide Tryd.prog W .any base 42 v) (h : DataW.Trod enc Tryd.prog W 0 (fun _ => true) true 42 v d p) :
    ∃ (st kd : Int) (bo : ByteArray) (ag : Int) (sh : Bool) (po : ByteArray), v = .agg #[.int .i64 st, .int .i64 kd, .string bo, .int .i64 ag, .bool sh, .string po] ∧ (bo.size ≤ 9223372036854775807 ∧ po.size ≤ 9223372036854775807) := by
  obtain ⟨cs, m, rfl, hsz, hat⟩ := open_fields Tryd.underlying42 (by kernel_rfl) (by kernel_rfl) hv h
  obtain ⟨u0, y0, e0, t0⟩ := hat 0 _ rfl
  obtain ⟨u1, y1, e1, t1⟩ := hat 1 _ rfl
  obtain ⟨u2, y2, e2, t2⟩ := hat 2 _ rfl
  obtain ⟨u3, y3, e3, t3⟩ := hat 3 _ rfl
  obtain ⟨u4, y4, e4, t4⟩ := hat 4 _ rfl
  obtain ⟨u5, y5, e5, t5⟩ := hat 5 _ rfl
  obtain ⟨st, k0, _, w0⟩ := DataW.trod_int Tryd.underlying3 t0
  obtain ⟨kd, k1, _, w1⟩ := DataW.trod_int Tryd.underlying3 t1
  obtain ⟨bo, k2, _, w2⟩ := DataW.trod_string Tryd.underlying9 t2
  obtain ⟨ag, k3, _, w3⟩ := DataW.trod_int Tryd.underlying3 t3
  obtain ⟨sh, k4, _⟩ := DataW.trod_bool Tryd.underlying4 t4
  obtain ⟨po, k5, _, w5⟩ := DataW.trod_string Tryd.underlying9 t5
  cases k0; cases k1; cases k2; cases k3; cases k4; cases k5
  refine ⟨st, kd, bo, ag, sh, po, ?_, w2, w5⟩
  have hsz6 : cs.size = 6 := hsz
  congr 1
  apply Array.ext
  · rw [hsz6]; rfl
  · intro i h1 h2
    rw [hsz6] at h1
    have hh : ∀ {j : Nat} {u : Value} (hj : j < cs.size), cs[j]? = some u → cs[j] = u := fun hj e => Option.some.inj ((Array.getElem?_eq_getElem hj).symm.trans e)
    match i, h1 with
    | 0, _ => exact hh _ e0
    | 1, _ => exact hh _ e1
    | 2, _ => exact hh _ e2
    | 3, _ => exact hh _ e3
    | 4, _ => exact hh _ e4
    | 5, _ => exact hh _ e5
end Go.Proofs.YtgcdfkpidcdicaaDoor

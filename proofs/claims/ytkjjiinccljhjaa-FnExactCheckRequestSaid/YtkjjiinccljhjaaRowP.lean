/- Policies: as plain values, and what a policy that came in is. Helper facts, no claim of its own. -/
import Derived.Test.YtkjjiinccljhjaaSs
import Derived.Test.YtkjjiinccljhjaaDpPol
namespace Go.Proofs.Ytkjjiinccljhjaa
open Go.ChangeShapes Go.WideShapes Go.ChangeAt Go.RowKit Go.Joins Go.Deep

/-- A policy as a plain value. -/
structure Pol where
  set : Bool
  scr : List ByteArray
  sty : List ByteArray
  img : List ByteArray
  non : ByteArray
/-- A policy in memory: its three slices read so. -/
def ReadP (hi : Nat) (w : World) (v1 v2 v3 : Value) (p : Pol) : Prop := ReadsK encS 1 hi w v1 p.scr ∧ ReadsK encS 1 hi w v2 p.sty ∧ ReadsK encS 1 hi w v3 p.img
/-- A policy that came in. -/
def IsPo (w : World) (v1 v2 v3 : Value) (p : Pol) : Prop := IsSts w v1 p.scr ∧ IsSts w v2 p.sty ∧ IsSts w v3 p.img ∧ p.non.size ≤ 9223372036854775807
theorem ReadP.below {hi B : Nat} {w w' : World} {v1 v2 v3 : Value} {p : Pol} (h : ReadP hi w v1 v2 v3 p) (hb : Below B w w') (hB : hi ≤ B) : ReadP hi w' v1 v2 v3 p := ⟨h.1.below hb hB, h.2.1.below hb hB, h.2.2.below hb hB⟩
theorem ReadP.mono {hi hi' : Nat} {w : World} {v1 v2 v3 : Value} {p : Pol} (h : ReadP hi w v1 v2 v3 p) (hh : hi ≤ hi') : ReadP hi' w v1 v2 v3 p := ⟨h.1.mono hh, h.2.1.mono hh, h.2.2.mono hh⟩

set_option maxRecDepth 100000 in
theorem policy_of {H : Type} {enc : TypeId × Value → H} {W : World} {base : Nat} {v : Value} {d : DataW H} {p : List MemPlace} (hv : Value.okWide Try.prog W .any base 35 v) (h : DataW.Trod enc Try.prog W 0 (fun _ => true) true 35 v d p) :
    ∃ (q : Pol) (a1 : Option Addr) (n1 c1 : Nat) (a2 : Option Addr) (n2 c2 : Nat) (a3 : Option Addr) (n3 c3 : Nat), v = .agg #[.bool q.set, .slice a1 n1 c1, .slice a2 n2 c2, .slice a3 n3 c3, .string q.non] ∧ IsPo W (.slice a1 n1 c1) (.slice a2 n2 c2) (.slice a3 n3 c3) q := by
  obtain ⟨cs, m, rfl, hsz, hat⟩ := open_fields Try.underlying35 (by kernel_rfl) (by kernel_rfl) hv h
  obtain ⟨u0, y0, e0, t0⟩ := hat 0 _ rfl
  obtain ⟨u1, y1, e1, t1⟩ := hat 1 _ rfl
  obtain ⟨u2, y2, e2, t2⟩ := hat 2 _ rfl
  obtain ⟨u3, y3, e3, t3⟩ := hat 3 _ rfl
  obtain ⟨u4, y4, e4, t4⟩ := hat 4 _ rfl
  obtain ⟨b, k0, _⟩ := DataW.trod_bool Try.underlying4 t0
  obtain ⟨s, k4, _, w4⟩ := DataW.trod_string Try.underlying9 t4
  cases k0; cases k4
  obtain ⟨x1, i1⟩ := strs_of t1
  obtain ⟨x2, i2⟩ := strs_of t2
  obtain ⟨x3, i3⟩ := strs_of t3
  obtain ⟨a1, n1, c1, rfl⟩ := i1.form
  obtain ⟨a2, n2, c2, rfl⟩ := i2.form
  obtain ⟨a3, n3, c3, rfl⟩ := i3.form
  refine ⟨⟨b, x1, x2, x3, s⟩, a1, n1, c1, a2, n2, c2, a3, n3, c3, ?_, i1, i2, i3, w4⟩
  have hsz5 : cs.size = 5 := hsz
  congr 1
  apply Array.ext
  · rw [hsz5]; rfl
  · intro i h1 h2
    rw [hsz5] at h1
    have hh : ∀ {j : Nat} {u : Value} (hj : j < cs.size), cs[j]? = some u → cs[j] = u := fun hj e => Option.some.inj ((Array.getElem?_eq_getElem hj).symm.trans e)
    match i, h1 with
    | 0, _ => exact hh _ e0
    | 1, _ => exact hh _ e1
    | 2, _ => exact hh _ e2
    | 3, _ => exact hh _ e3
    | 4, _ => exact hh _ e4
end Go.Proofs.Ytkjjiinccljhjaa

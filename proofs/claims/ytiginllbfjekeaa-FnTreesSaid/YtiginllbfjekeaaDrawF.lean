/- What a drawn builder is, and the draws of the laws on TextOf, CountName and IsVoid. -/
import Derived.Test.YtiginllbfjekeaaDrawK
namespace Go.Proofs.Ytiginllbfjekeaa
open Go.ChangeShapes Go.WideShapes Go.ChangeAt Go.RowKit

/-- Few nodes, few open elements, short texts: one more of each than a valid builder may have. -/
structure BdFit (b : Bd) : Prop where
  nodes : b.nodes.length ≤ 41
  opn : b.opn.length ≤ 9
  text : ∀ x ∈ b.nodes, x.text.size ≤ 6000
  att : ∀ x ∈ b.nodes, x.attrs.length ≤ 4
  nam : ∀ x ∈ b.nodes, x.name.size ≤ 6000
theorem BdOk.fit {b : Bd} (h : BdOk 6000 b) : BdFit b := ⟨Nat.le_succ_of_le h.nodes, Nat.le_succ_of_le h.opn, h.text, h.att, h.nam⟩
def AnyGot (b : Nat) (sv : Value) (len : Nat) (w : World) (e : Ending) (w' : World) : Prop :=
  ∃ na nn nc oa on oc ns zs, e = .returned (.agg #[.slice na nn nc, .slice oa on oc]) ∧ BdFit ⟨ns.map Prod.fst, zs⟩ ∧ BdM w.heap.size w' w' (.slice na nn nc) (.slice oa on oc) ns zs ∧ Cur b sv len w' ∧ Kept b w w'

/-- What l6Any gives, as a premise: what DrawAny shows. -/
def AnyS : Prop := ∀ (b : Nat) (sv : Value) (len : Nat) (w : World), Cur b sv len w → Calls Try.prog 22 #[.pointer (some ⟨b, 0, none⟩)] w (AnyGot b sv len w)
/-- A draw's own reader above its box, a drawn builder, and a box that holds it. -/
structure DrwAt (b : Nat) (sv : Value) (len : Nat) (w W : World) (c : Nat) (p q x y nv ov : Value) (ns : List Nv) (zs : List Int) : Prop where
  lb : w.heap.size < b
  lc : b < c
  cur : Cur b sv len W
  bel : Below w.heap.size w W
  m : BdM (b + 1) W W nv ov ns zs
  bx : Box2 W w.heap.size p q
  bc : Box2 W c x y
theorem DrwAt.on {b : Nat} {sv : Value} {len : Nat} {w W W' : World} {c : Nat} {p q x y nv ov : Value} {ns : List Nv} {zs : List Int} (h : DrwAt b sv len w W c p q x y nv ov ns zs) (hb : Below W.heap.size W W') : DrwAt b sv len w W' c p q x y nv ov ns zs :=
  ⟨h.lb, h.lc, h.cur.below hb, h.bel.trans (hb.mono h.bel.size), (h.m.later hb).down (Below.refl _ _) (Nat.le_refl _), h.bx.later hb, h.bc.later hb⟩
theorem DrwAt.draw {b : Nat} {sv : Value} {len : Nat} {w W W' : World} {c : Nat} {p q x y nv ov : Value} {ns : List Nv} {zs : List Int} (h : DrwAt b sv len w W c p q x y nv ov ns zs) (hc : Cur b sv len W') (hk : Kept b W W') : DrwAt b sv len w W' c p q x y nv ov ns zs :=
  ⟨h.lb, h.lc, hc, h.bel.trans ((hk.below (Nat.le_of_lt h.cur.lt)).mono (Nat.le_of_lt h.lb)), bdM_kept h.m hk (Nat.lt_succ_self _), box_kept h.bx hk (Nat.ne_of_lt h.lb), box_kept h.bc hk (Nat.ne_of_gt h.lc)⟩
theorem DrwAt.fin {b : Nat} {sv : Value} {len : Nat} {w W : World} {c : Nat} {p q x y nv ov : Value} {ns : List Nv} {zs : List Int} (h : DrwAt b sv len w W c p q x y nv ov ns zs) (u v : Value) :
    BdM w.heap.size ((W.setCell ⟨w.heap.size, 0, none⟩ u).setCell ⟨w.heap.size, 1, none⟩ v) ((W.setCell ⟨w.heap.size, 0, none⟩ u).setCell ⟨w.heap.size, 1, none⟩ v) nv ov ns zs ∧ Below w.heap.size w ((W.setCell ⟨w.heap.size, 0, none⟩ u).setCell ⟨w.heap.size, 1, none⟩ v) ∧ Box2 ((W.setCell ⟨w.heap.size, 0, none⟩ u).setCell ⟨w.heap.size, 1, none⟩ v) w.heap.size u v :=
  ⟨((((h.m.down (Below.refl _ _) (B' := w.heap.size) (Nat.le_of_lt (Nat.lt_succ_of_lt h.lb))).setT h.bx (Nat.le_refl _)).setT (h.bx.set0 u) (Nat.le_refl _))).down (Below.refl _ _) (Nat.le_refl _), (h.bel.setCell (Nat.le_refl _) _).setCell (Nat.le_refl _) _, (h.bx.set0 u).set1 v⟩
/-- A draw of a builder and of something beside it. -/
def DrawnB (P : Value → Prop) (w : World) (e : Ending) (w' : World) : Prop :=
  ∃ na nn nc oa on oc ns zs r, e = .returned (.tuple #[.agg #[.slice na nn nc, .slice oa on oc], r]) ∧ P r ∧ BdFit ⟨ns.map Prod.fst, zs⟩ ∧ BdM w.heap.size w' w' (.slice na nn nc) (.slice oa on oc) ns zs ∧ Below w.heap.size w w'
end Go.Proofs.Ytiginllbfjekeaa

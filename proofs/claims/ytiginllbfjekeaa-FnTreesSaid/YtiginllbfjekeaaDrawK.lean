/- A builder of the call's own beside a reader of drawn bytes: what draws, new memory, an append and a store leave of them. -/
import Derived.Test.YtiginllbfjekeaaBdD
import Derived.Test.YtiginllbfjekeaaDrawPg
import Derived.Test.YtiginllbfjekeaaAddJ
namespace Go.Proofs.Ytiginllbfjekeaa
open Go.ChangeShapes Go.WideShapes Go.ChangeAt Go.RowKit

/-- A draw leaves what the call owns, but for the reader's block. -/
theorem ownK_kept {α : Type} {enc : α → List Value} {k : Nat} {e : TypeId} {lo hi b : Nat} {w w' : World} {v : Value} {xs : List α} (h : OwnK enc k e lo hi w v xs) (hk : Kept b w w') (hb : b < lo) : OwnK enc k e lo hi w' v xs := by
  refine ⟨⟨h.1.1, ?_⟩, h.2⟩
  rcases h.1.2 with h1 | ⟨g, cap, cur, h1, h2, h3, h4⟩
  · exact Or.inl h1
  · exact Or.inr ⟨g, cap, cur, h1, h2, by rw [hk.block g (heap_lt h3) (by omega)]; exact h3, h4⟩
theorem own_kept {k : IntKind} {e : TypeId} {lo hi b : Nat} {w w' : World} {v : Value} {zs : List Int} (h : Own k e lo hi w v zs) (hk : Kept b w w') (hb : b < lo) : Own k e lo hi w' v zs := by
  refine ⟨⟨h.1.1, ?_⟩, h.2⟩
  rcases h.1.2 with h1 | ⟨g, cap, cur, h1, h2, h3, h4⟩
  · exact Or.inl h1
  · exact Or.inr ⟨g, cap, cur, h1, h2, by rw [hk.block g (heap_lt h3) (by omega)]; exact h3, h4⟩
theorem bdM_kept {B b : Nat} {w0 w w' : World} {nv ov : Value} {ns : List Nv} {zs : List Int} (h : BdM B w0 w nv ov ns zs) (hk : Kept b w w') (hb : b < B) : BdM B w' w' nv ov ns zs :=
  ⟨⟨⟨(ownK_kept h.n.row.own hk hb).1, Below.refl _ _, Nat.le_trans h.n.row.size hk.size⟩, fun p hp => (ownK_kept (h.n.inn p hp) hk hb).mono (Nat.le_refl _) hk.size, h.n.nod⟩, ⟨(own_kept h.o.own hk hb).1, Below.refl _ _, Nat.le_trans h.o.size hk.size⟩⟩

theorem kept_set {b r : Nat} {w w' : World} (h : Kept b w w') (hr : w.heap.size ≤ r) (o : Nat) (v : Value) : Kept b w (w'.setCell ⟨r, o, none⟩ v) :=
  ⟨h.os, h.tape, h.output, Nat.le_trans h.size (size_set _ _ _), fun k hk hb => by rw [Below.heap_setCell _ _ _ _ (show k ≠ r by omega)]; exact h.block k hk hb⟩
theorem cur_setB {b r : Nat} {sv : Value} {len : Nat} {w : World} (h : Cur b sv len w) (hr : b < r) (o : Nat) (v : Value) : Cur b sv len (w.setCell ⟨r, o, none⟩ v) := by
  obtain ⟨i, hh, h1, h2, a, cap, h3, h4, h5⟩ := h
  refine ⟨i, hh, by rw [Below.heap_setCell _ _ _ _ (show b ≠ r by omega)]; exact h1, h2, a, cap, h3, h4, ?_⟩
  rcases h5 with h5 | ⟨blk, off, h6, h7, h8⟩
  · exact Or.inl h5
  · refine Or.inr ⟨blk, off, h6, h7, fun j hj => ?_⟩
    obtain ⟨n, n0, n1, n2⟩ := h8 j hj
    exact ⟨n, n0, n1, by rw [World.cell?_of_block (w := w) (Below.heap_setCell _ _ _ _ (show blk ≠ r by omega))]; exact n2⟩
theorem box_kept {b c : Nat} {w w' : World} {x y : Value} (h : Box2 w c x y) (hk : Kept b w w') (hb : c ≠ b) : Box2 w' c x y := (hk.block c h.lt hb).trans h

/-- A builder that was drawn. -/
def BdGot (b : Nat) (sv : Value) (len : Nat) (w : World) (e : Ending) (w' : World) : Prop :=
  ∃ na nn nc oa on oc ns zs, e = .returned (.agg #[.slice na nn nc, .slice oa on oc]) ∧ BdOk 6000 ⟨ns.map Prod.fst, zs⟩ ∧ BdM w.heap.size w' w' (.slice na nn nc) (.slice oa on oc) ns zs ∧ Cur b sv len w' ∧ Kept b w w'

theorem cur_belowB {b B : Nat} {sv : Value} {len : Nat} {w w' : World} (h : Cur b sv len w) (k : Below B w w') (hB : b < B) : Cur b sv len w' := by
  obtain ⟨i, x, h1, h2, a, cap, e, h3, h4⟩ := h
  refine ⟨i, x, by rw [k.block b hB]; exact h1, h2, a, cap, e, h3, ?_⟩
  rcases h4 with h4 | ⟨blk, off, e2, hb, hc⟩
  · exact Or.inl h4
  · refine Or.inr ⟨blk, off, e2, hb, fun j hj => ?_⟩
    obtain ⟨n, n0, n1, hn⟩ := hc j hj
    exact ⟨n, n0, n1, by rw [k.cell (by show blk < _; omega)]; exact hn⟩
theorem kept_down {b : Nat} {w W W' : World} (h : Kept b w W) (k : Below w.heap.size W W') : Kept b w W' :=
  ⟨k.os.trans h.os, k.tape.trans h.tape, k.output.trans h.output, Nat.le_trans h.size k.size, fun i hi hn => (k.block i hi).trans (h.block i hi hn)⟩

theorem hp_al {w : World} {g : Nat} {o : Obj} (h : w.heap[g]? = some o) (o' : Obj) : (w.alloc o').heap[g]? = some o := below_heap ((Below.refl _ w).alloc (Nat.le_refl _) o') (heap_lt h) h
theorem hp_kp {b g : Nat} {w w' : World} {o : Obj} (hk : Kept b w w') (hne : g ≠ b) (h : w.heap[g]? = some o) : w'.heap[g]? = some o := (hk.block g (heap_lt h) hne).trans h

/-- A reader, a builder of the call's own, and two boxes that hold builders. -/
structure AnyAt (b : Nat) (sv : Value) (len : Nat) (w W : World) (c : Nat) (p q x y nv ov : Value) (ns : List Nv) (zs : List Int) : Prop where
  lb : b < w.heap.size
  lc : w.heap.size < c
  cur : Cur b sv len W
  kept : Kept b w W
  m : BdM w.heap.size W W nv ov ns zs
  bx : Box2 W w.heap.size p q
  bc : Box2 W c x y
theorem AnyAt.bel {b : Nat} {sv : Value} {len : Nat} {w W W' : World} {c : Nat} {p q x y nv ov : Value} {ns : List Nv} {zs : List Int} (h : AnyAt b sv len w W c p q x y nv ov ns zs) (hb : Below W.heap.size W W') : AnyAt b sv len w W' c p q x y nv ov ns zs :=
  ⟨h.lb, h.lc, h.cur.below hb, h.kept.trans (Kept.of_below hb), (h.m.later hb).down (Below.refl _ _) (Nat.le_refl _), h.bx.later hb, h.bc.later hb⟩
theorem any_dr {b : Nat} {sv : Value} {len : Nat} {w W : World} {c : Nat} {p q x y nv ov : Value} {ns : List Nv} {zs : List Int} (h : AnyAt b sv len w W c p q x y nv ov ns zs) : AnyAt b sv len w W.drew c p q x y nv ov ns zs := h.bel (Below.refl _ _).drew
theorem any_al {b : Nat} {sv : Value} {len : Nat} {w W : World} {c : Nat} {p q x y nv ov : Value} {ns : List Nv} {zs : List Int} (h : AnyAt b sv len w W c p q x y nv ov ns zs) (o : Obj) : AnyAt b sv len w (W.alloc o) c p q x y nv ov ns zs := h.bel ((Below.refl _ _).alloc (Nat.le_refl _) o)
theorem AnyAt.draw {b : Nat} {sv : Value} {len : Nat} {w W W' : World} {c : Nat} {p q x y nv ov : Value} {ns : List Nv} {zs : List Int} (h : AnyAt b sv len w W c p q x y nv ov ns zs) (hc : Cur b sv len W') (hk : Kept b W W') : AnyAt b sv len w W' c p q x y nv ov ns zs :=
  ⟨h.lb, h.lc, hc, h.kept.trans hk, bdM_kept h.m hk h.lb, box_kept h.bx hk (by have := h.lb; omega), box_kept h.bc hk (by have := h.lb; have := h.lc; omega)⟩
theorem AnyAt.num {b : Nat} {sv : Value} {len : Nat} {w W W' : World} {c : Nat} {p q x y nv ov ov' : Value} {ns : List Nv} {zs zs' : List Int} (h : AnyAt b sv len w W c p q x y nv ov ns zs) (hm : Mine .i64 3 w.heap.size W W' ov' zs') (hg : W.grownBy W' ov.ownBlock) : AnyAt b sv len w W' c p q x y nv ov' ns zs' :=
  ⟨h.lb, h.lc, cur_belowB h.cur hm.below h.lb, kept_down h.kept hm.below, (h.m.num hm hg).down (Below.refl _ _) (Nat.le_refl _), (hg.block _ h.bx.lt (row_ne_box h.m.o.row h.bx bd_ne.2.2.symm)).trans h.bx, (hg.block _ h.bc.lt (row_ne_box h.m.o.row h.bc bd_ne.2.2.symm)).trans h.bc⟩
theorem AnyAt.node {b : Nat} {sv : Value} {len : Nat} {w W W' : World} {c : Nat} {p q x y nv nv' ov : Value} {ns ns' : List Nv} {zs : List Int} (h : AnyAt b sv len w W c p q x y nv ov ns zs) (hm : MineN w.heap.size W W' nv' ns') (hg : W.grownBy W' nv.ownBlock) : AnyAt b sv len w W' c p q x y nv' ov ns' zs :=
  ⟨h.lb, h.lc, cur_belowB h.cur hm.row.below h.lb, kept_down h.kept hm.row.below, (h.m.node hm hg).down (Below.refl _ _) (Nat.le_refl _), (hg.block _ h.bx.lt (row_ne_box h.m.n.row.row h.bx bd_ne.1.symm)).trans h.bx, (hg.block _ h.bc.lt (row_ne_box h.m.n.row.row h.bc bd_ne.1.symm)).trans h.bc⟩
theorem AnyAt.set0 {b : Nat} {sv : Value} {len : Nat} {w W : World} {c : Nat} {p q x y nv ov : Value} {ns : List Nv} {zs : List Int} (h : AnyAt b sv len w W c p q x y nv ov ns zs) (u : Value) : AnyAt b sv len w (W.setCell ⟨c, 0, none⟩ u) c p q u y nv ov ns zs :=
  ⟨h.lb, h.lc, cur_setB h.cur (Nat.lt_trans h.lb h.lc) _ _, kept_set h.kept (Nat.le_of_lt h.lc) _ _, (h.m.setT h.bc (Nat.le_of_lt h.lc)).down (Below.refl _ _) (Nat.le_refl _), h.bx.far (Nat.ne_of_lt h.lc) u, h.bc.set0 u⟩
theorem AnyAt.set1 {b : Nat} {sv : Value} {len : Nat} {w W : World} {c : Nat} {p q x y nv ov : Value} {ns : List Nv} {zs : List Int} (h : AnyAt b sv len w W c p q x y nv ov ns zs) (u : Value) : AnyAt b sv len w (W.setCell ⟨c, 1, none⟩ u) c p q x u nv ov ns zs :=
  ⟨h.lb, h.lc, cur_setB h.cur (Nat.lt_trans h.lb h.lc) _ _, kept_set h.kept (Nat.le_of_lt h.lc) _ _, (h.m.setT h.bc (Nat.le_of_lt h.lc)).down (Below.refl _ _) (Nat.le_refl _), h.bx.far (Nat.ne_of_lt h.lc) u, h.bc.set1 u⟩
/-- append of one number to numbers of the call's own, at a step of a drawn region. -/
theorem step_appIG {w : World} {ops : Array Oper} {o : Oper} {a : Act} {K : Act → World → Prop} {Q : Exit → Act → World → Prop} {E : Prop} (hgd : o.guard = none) (s x : Operand)
    (ho : o.op = .call { callee := .builtin .append, args := #[s, x], argTypes := #[25, 25] })
    (B : Nat) (w0 : World) (v : Value) (zs : List Int) (hs : a.eval s = v) (hM : Mine .i64 3 B w0 w v zs) (ad : Addr) (top : Nat) (z : Int) (hx : a.eval x = .slice (some ad) 1 1) (hr : Reads .i64 top w (.slice (some ad) 1 1) [z])
    (n : Nat) (hn : zs.length = n) (hlen : n ≤ 68719476736)
    (h : ∀ ad' cap' w', Mine .i64 3 B w0 w' (.slice ad' (n + 1) cap') (zs ++ [z]) → w.grownBy w' v.ownBlock → K (a.put o.dst (.slice ad' (n + 1) cap')) w') :
    if Region.wanted o (yielded ops a.tmps) = true then Oper.wp Try.prog o a w K Q else E := by
  subst hn
  have hw : Region.wanted o (yielded ops a.tmps) = true := by simp [Region.wanted, hgd]
  rw [if_pos hw]
  obtain ⟨i, hi, hz, hsize, hby⟩ := info_parts infoInt
  refine wp_append_own _ s x _ ho B _ i _ 1 8 Try.underlying25 hi hz hsize hby (by rfl) (by decide) v zs.length _ hs hM.row ad 1 1 ([z].map (.int .i64)) hx (by simp) hr.news (nums_oneCell _ _) ?_ ?_ hM.size ?_
  · unfold maxLen; omega
  · omega
  · intro v' w' hown hgr _
    have hM' : Mine .i64 3 B w0 w' v' (zs ++ [z]) := hM.grow (ys := [z]) hown hgr
    obtain ⟨a', c', e⟩ := mine_form hM'
    rw [List.length_append] at e
    subst e
    exact h _ _ w' hM' hgr
theorem readsI_blk {w : World} {g : Nat} {z : Int} (hg : w.heap[g]? = some (.cells #[.int .i64 z] 3 (0, 0))) : Reads .i64 (g + 1) w (.slice (some ⟨g, 0, none⟩) 1 1) [z] := by
  refine ⟨_, 1, rfl, by simp, by omega, (fun h => by cases h), Or.inr ⟨_, 0, rfl, by omega, fun j hj => ?_⟩⟩
  have : j = 0 := by simp at hj; omega
  subst this
  exact box_cell hg rfl
def iCellB : Value → Bool
  | .int .i64 v => decide (-9223372036854775808 ≤ v) && decide (v ≤ 9223372036854775807)
  | _ => false
theorem cells_blk {w : World} {g : Nat} {C : Array Value} {T : TypeId} (m : Nat) (hq : w.heap[g]? = some (.cells C T (0, 0))) (hm : C.size = m) (h : C.all iCellB = true) : ∀ j, j < m → ∃ v : Int, -9223372036854775808 ≤ v ∧ v ≤ 9223372036854775807 ∧ w.cell? ⟨g, j, none⟩ = some (.int .i64 v) := by
  subst hm
  intro j hj
  have h1 : iCellB C[j] = true := by rw [Array.all_eq_true] at h; exact h j hj
  have h2 : w.cell? ⟨g, j, none⟩ = some C[j] := box_cell hq (by simp [hj])
  rw [h2]
  cases hc : C[j] with
  | int k v =>
    rw [hc] at h1
    cases k with
    | i64 => simp only [iCellB, Bool.and_eq_true, decide_eq_true_eq] at h1; exact ⟨v, h1.1, h1.2, rfl⟩
    | _ => simp [iCellB] at h1
  | _ => rw [hc] at h1; simp [iCellB] at h1
theorem cells_gtb {w : World} {g : Nat} {C : Array Value} {T : TypeId} (m : Nat) (hq : w.heap[g]? = some (.cells C T (0, 0))) (hm : C.size = m) (h : C.all gtCell = true) : ∀ j, j < m → ∃ s : ByteArray, Gt s ∧ w.cell? ⟨g, j, none⟩ = some (.string s) := by
  subst hm
  intro j hj
  have h1 : gtCell C[j] = true := by rw [Array.all_eq_true] at h; exact h j hj
  have h2 : w.cell? ⟨g, j, none⟩ = some C[j] := box_cell hq (by simp [hj])
  rw [h2]
  cases hc : C[j] with
  | string s => rw [hc] at h1; exact ⟨s, gtCell_ok h1, rfl⟩
  | _ => rw [hc] at h1; simp [gtCell] at h1
end Go.Proofs.Ytiginllbfjekeaa

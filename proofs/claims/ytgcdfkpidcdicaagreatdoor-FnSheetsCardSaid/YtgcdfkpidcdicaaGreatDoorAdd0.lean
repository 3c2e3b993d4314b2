/- Builders of the call's own in memory: append to their rows of nodes and of numbers, boxes of two cells. Helper facts, no claim of its own. -/
import Derived.Test.YtgcdfkpidcdicaaGreatDoorNd
import Derived.Test.YtgcdfkpidcdicaaGreatDoorTr
import Derived.Test.YtgcdfkpidcdicaaGreatDoorCnt
import Derived.Test.YtgcdfkpidcdicaaGreatDoorSpl
import Derived.Test.YtgcdfkpidcdicaaGreatDoorTagP
import Derived.Test.YtgcdfkpidcdicaaGreatDoorBdV
namespace Go.Proofs.YtgcdfkpidcdicaaGreatDoor
open Go.ChangeShapes Go.WideShapes Go.ChangeAt Go.RowKit

/-- Blocks of other types than this are kept. -/
def KeepT (e : TypeId) (w w' : World) : Prop := ∀ (b : Nat) (cs : Array Value) (T : TypeId), T ≠ e → w.heap[b]? = some (.cells cs T (0, 0)) → w'.heap[b]? = some (.cells cs T (0, 0))
theorem keep_of {w w' : World} {B k n : Nat} {e : TypeId} {v : Value} {xs : List Value} (h : w.ownsRow B e k v n xs) (hg : w.grownBy w' v.ownBlock) : KeepT e w w' :=
  fun b _ _ hT hb => (hg.block b (heap_lt hb) (row_ne_box h hb hT.symm)).trans hb
theorem grown_refl (w : World) (r : Option Nat) : w.grownBy w r := ⟨rfl, rfl, rfl, Nat.le_refl _, fun _ _ _ => rfl⟩
theorem infoInt : (Tryz.prog.info? 3).map (fun i => (i.zero, i.size, i.bytes)) = some (some (.int .i64 0), 1, 8) := by kernel_rfl
theorem int_ne : 3 ≠ 187 ∧ 3 ≠ 125 ∧ 187 ≠ 125 := by decide

/-- append to nodes of the call's own; what else is written is told. -/
theorem wpList_appNG {w : World} {ops : Array Oper} {rest : List Oper} {o : Oper} {a : Act} {Q : Exit → Act → World → Prop} (hgd : o.guard = none) (s x : Operand)
    (ho : o.op = .call { callee := .builtin .append, args := #[s, x], argTypes := #[37, 37] })
    (B : Nat) (w0 : World) (v : Value) (ts : List Nv) (hs : a.eval s = v) (hM : MineN B w0 w v ts) (vx : Value) (top : Nat) (us : List Nv) (hx : a.eval x = vx) (hr : ReadsK encN 4 top w vx us)
    (hin : ∀ p ∈ us, OwnK encA 2 187 B w.heap.size w (sv p.2) p.1.attrs) (hnd : (insN ts ++ insN us).Nodup)
    (hlen : ts.length + us.length ≤ 137438953472)
    (h : ∀ v' w', MineN B w0 w' v' (ts ++ us) → w.grownBy w' v.ownBlock → wpList Tryz.prog ops Q rest (a.put o.dst v') w') : wpList Tryz.prog ops Q (o :: rest) a w := by
  obtain ⟨i, hi, hz, hsize, hby⟩ := info_parts infoNd
  obtain ⟨ad, cap, rfl, h1, h2, h3, h4⟩ := id hr
  cases ad with
  | none =>
    obtain ⟨rfl, _, rfl⟩ := hr.nil
    refine wpList_append_own_none hgd s x _ ho B _ i 4 Tryz.underlying37 hi v ts.length _ hs hM.row.row hx ?_
    exact h v w (by simpa using hM) (grown_refl _ _)
  | some ad =>
    refine wpList_append_own _ hgd s x _ ho B _ i _ 4 64 Tryz.underlying37 hi hz hsize hby (by rfl) (by decide) v ts.length _ hs hM.row.row ad us.length cap (us.flatMap encN) hx (flat_len encN_len us) (hr.news encN_len) ?_ ?_ ?_ hM.row.size ?_
    · intro u hu
      obtain ⟨y, _, hy⟩ := List.mem_flatMap.1 hu
      exact encN_one y u hy
    · unfold maxLen; omega
    · have : (ts.length + us.length) * 64 ≤ (ts.length + us.length) * 1024 := Nat.mul_le_mul_left _ (by omega)
      omega
    · intro v' w' hown hgr hn
      refine h v' w' ⟨hM.row.grow hown hgr, fun p hp => ?_, by rw [insN_append]; exact hnd⟩ hgr
      have hall : OwnK encA 2 187 B w.heap.size w (sv p.2) p.1.attrs := by
        rcases List.mem_append.1 hp with h | h
        · exact hM.inn p h
        · exact hin p h
      refine ⟨hall.1.kept hgr ?_, fun g hg => Nat.lt_of_lt_of_le (hall.2 g hg) hgr.size⟩
      cases hv : (sv p.2).ownBlock with
      | none => exact Or.inl rfl
      | some g =>
        right
        intro e
        exact rows_ne hM.row.row hall.1 nd_ne_at e.symm hv
/-- append to numbers of the call's own; what else is written is told. -/
theorem wpList_appIG {w : World} {ops : Array Oper} {rest : List Oper} {o : Oper} {a : Act} {Q : Exit → Act → World → Prop} (hgd : o.guard = none) (s x : Operand)
    (ho : o.op = .call { callee := .builtin .append, args := #[s, x], argTypes := #[38, 38] })
    (B : Nat) (w0 : World) (v : Value) (zs : List Int) (hs : a.eval s = v) (hM : Mine .i64 3 B w0 w v zs) (vx : Value) (top : Nat) (ys : List Int) (hx : a.eval x = vx) (hr : Reads .i64 top w vx ys)
    (hlen : zs.length + ys.length ≤ 17592186044416)
    (h : ∀ v' w', Mine .i64 3 B w0 w' v' (zs ++ ys) → w.grownBy w' v.ownBlock → wpList Tryz.prog ops Q rest (a.put o.dst v') w') : wpList Tryz.prog ops Q (o :: rest) a w := by
  obtain ⟨i, hi, hz, hsize, hby⟩ := info_parts infoInt
  obtain ⟨ad, cap, rfl, h1, h2, h3, h4⟩ := id hr
  cases ad with
  | none =>
    obtain ⟨rfl, _, rfl⟩ := hr.nil
    refine wpList_append_own_none hgd s x _ ho B _ i 1 Tryz.underlying38 hi v zs.length _ hs hM.row hx ?_
    exact h v w (by simpa using hM) (grown_refl _ _)
  | some ad =>
    refine wpList_append_own _ hgd s x _ ho B _ i _ 1 8 Tryz.underlying38 hi hz hsize hby (by rfl) (by decide) v zs.length _ hs hM.row ad ys.length cap (ys.map (.int .i64)) hx (by simp) hr.news (nums_oneCell _ _) ?_ ?_ hM.size ?_
    · unfold maxLen; omega
    · omega
    · intro v' w' hown hgr _
      exact h v' w' (hM.grow hown hgr) hgr

/-- A builder of the call's own, its nodes with the places of their attributes. -/
structure BdM (B : Nat) (w0 w : World) (nv ov : Value) (ns : List Nv) (zs : List Int) : Prop where
  n : MineN B w0 w nv ns
  o : Mine .i64 3 B w0 w ov zs
theorem BdM.at {B : Nat} {w0 w : World} {nv ov : Value} {ns : List Nv} {b : Bd} (h : BdM B w0 w nv ov ns b.opn) (hn : ns.map Prod.fst = b.nodes) : BdAt B w0 w nv ov b := ⟨ns, hn, h.n, h.o⟩
theorem BdM.later {B : Nat} {w0 w w' : World} {nv ov : Value} {ns : List Nv} {zs : List Int} (h : BdM B w0 w nv ov ns zs) (hb : Below w.heap.size w w') : BdM B w0 w' nv ov ns zs := ⟨h.n.later hb, h.o.later hb⟩
theorem BdM.setT {B c o : Nat} {w0 w : World} {nv ov u : Value} {ns : List Nv} {zs : List Int} {cs : Array Value} (h : BdM B w0 w nv ov ns zs) (hb : w.heap[c]? = some (.cells cs 40 (0, 0))) (hB : B ≤ c) : BdM B w0 (w.setCell ⟨c, o, none⟩ u) nv ov ns zs := ⟨h.n.setT hb hB, mine_setT h.o hb hB⟩
theorem kept_ne {w : World} {B B' k k' n n' : Nat} {e e' : TypeId} {v v' : Value} {xs xs' : List Value} (h : w.ownsRow B e k v n xs) (h' : w.ownsRow B' e' k' v' n' xs') (hne : e ≠ e') : v'.ownBlock = none ∨ v'.ownBlock ≠ v.ownBlock := by
  cases hv : v'.ownBlock with
  | none => exact Or.inl rfl
  | some g =>
    right
    intro e0
    exact rows_ne h h' hne e0.symm hv
theorem BdM.node {B : Nat} {w0 w w' : World} {nv nv' ov : Value} {ns ns' : List Nv} {zs : List Int} (h : BdM B w0 w nv ov ns zs) (hm : MineN B w0 w' nv' ns') (hg : w.grownBy w' nv.ownBlock) : BdM B w0 w' nv' ov ns' zs :=
  ⟨hm, ⟨h.o.row.kept hg (kept_ne h.n.row.row h.o.row int_ne.2.1.symm), hm.row.below, Nat.le_trans h.o.size hg.size⟩⟩
theorem BdM.num {B : Nat} {w0 w w' : World} {nv ov ov' : Value} {ns : List Nv} {zs zs' : List Int} (h : BdM B w0 w nv ov ns zs) (hm : Mine .i64 3 B w0 w' ov' zs') (hg : w.grownBy w' ov.ownBlock) : BdM B w0 w' nv ov' ns zs' :=
  ⟨⟨⟨h.n.row.row.kept hg (kept_ne h.o.row h.n.row.row int_ne.2.1), hm.below, Nat.le_trans h.o.size hg.size⟩, fun p hp => ⟨(h.n.inn p hp).1.kept hg (kept_ne h.o.row (h.n.inn p hp).1 int_ne.1), fun g hgg => Nat.lt_of_lt_of_le ((h.n.inn p hp).2 g hgg) hg.size⟩, h.n.nod⟩, hm⟩
theorem BdM.down {B B' : Nat} {w0 w0' w : World} {nv ov : Value} {ns : List Nv} {zs : List Int} (h : BdM B w0 w nv ov ns zs) (hb : Below B' w0' w) (hB : B' ≤ B) : BdM B' w0' w nv ov ns zs :=
  ⟨⟨⟨(h.n.row.own.mono hB (Nat.le_refl _)).1, hb, Nat.le_trans hB h.n.row.size⟩, fun p hp => (h.n.inn p hp).mono hB (Nat.le_refl _), h.n.nod⟩, ⟨(h.o.own.mono hB (Nat.le_refl _)).1, hb, Nat.le_trans hB h.o.size⟩⟩
theorem BdM.reads {B : Nat} {w0 w : World} {nv ov : Value} {ns : List Nv} {b : Bd} (h : BdM B w0 w nv ov ns b.opn) (hn : ns.map Prod.fst = b.nodes) : BdIn w.heap.size w nv ov b := (h.at hn).reads (Nat.le_refl _)

/-- A box that holds a builder's two slices. -/
def Box2 (w : World) (c : Nat) (x y : Value) : Prop := w.heap[c]? = some (.cells #[x, y] 40 (0, 0))
theorem Box2.lt {w : World} {c : Nat} {x y : Value} (h : Box2 w c x y) : c < w.heap.size := heap_lt h
theorem Box2.keep {w w' : World} {c : Nat} {x y : Value} {e : TypeId} (h : Box2 w c x y) (hk : KeepT e w w') (hne : 40 ≠ e) : Box2 w' c x y := hk c _ _ hne h
theorem Box2.below {w w' : World} {B c : Nat} {x y : Value} (h : Box2 w c x y) (hb : Below B w w') (hc : c < B) : Box2 w' c x y := below_heap hb hc h
theorem Box2.set0 {w : World} {c : Nat} {x y : Value} (h : Box2 w c x y) (u : Value) : Box2 (w.setCell ⟨c, 0, none⟩ u) c u y := heap_one (o := 0) h u
theorem Box2.set1 {w : World} {c : Nat} {x y : Value} (h : Box2 w c x y) (u : Value) : Box2 (w.setCell ⟨c, 1, none⟩ u) c x u := heap_one (o := 1) h u
theorem Box2.far {w : World} {c c' o : Nat} {x y : Value} (h : Box2 w c x y) (hne : c ≠ c') (u : Value) : Box2 (w.setCell ⟨c', o, none⟩ u) c x y := box_far h hne o u
theorem Box2.alloc {w : World} {c : Nat} {x y : Value} (h : Box2 w c x y) (o : Obj) : Box2 (w.alloc o) c x y := h.below ((Below.refl _ _).alloc (Nat.le_refl _) o) h.lt
theorem Box2.cells {w : World} {c : Nat} {x y : Value} (h : Box2 w c x y) : (w.cell? ⟨c, 0, none⟩ = some x ∧ w.cell? ⟨c, 1, none⟩ = some y) ∧ w.frozen? ⟨c, 0, none⟩ = false ∧ w.frozen? ⟨c, 1, none⟩ = false :=
  ⟨⟨box_cell h rfl, box_cell h rfl⟩, box_frz h 0, box_frz h 1⟩
theorem Box2.new (w : World) (x y : Value) : Box2 (w.alloc (.cells #[x, y] 40)) w.heap.size x y := heap_alloc_new w _
theorem bd_ne : 40 ≠ 125 ∧ 40 ≠ 187 ∧ 40 ≠ 3 := by decide

/-- A copy of attributes. -/
theorem cpA_spec (v : Value) (hi : Nat) (xs : List At) (w : World) (hr : ReadsK encA 2 hi w v xs) (hh : hi ≤ w.heap.size) (hl : xs.length ≤ 137438953472) :
    Calls Tryz.prog 138 #[v] w (NewK encA 2 187 xs w) := by
  have HR := Lib.hid (hr.below ((Below.refl _ w).alloc (Nat.le_refl _) (.cells #[] 187)) hh)
  obtain ⟨a, cap, rfl, _⟩ := id hr
  clear hr
  go_enter Tryz.func138, Tryz.ntmps138
  go_wp2_with (at_builtin; refine wpList_appA rfl _ _ rfl w.heap.size w _ [] rfl (MineK.empty _ _ _ w w _ (Below.refl _ _) (Nat.le_refl _)) _ hi xs rfl HR.out ?cl ?_)
  case cl => simpa using hl
  intro v2 w2 hm
  have HM := Lib.hid hm; clear hm
  go_wp2
  go_ret
  exact ⟨_, rfl, by simpa using HM.out.own, HM.out.below⟩

theorem cpA_impl (v : Value) (hi : Nat) (xs : List At) (w : World) (hr : ReadsK encA 2 hi w v xs) (hh : hi ≤ w.heap.size) (hl : xs.length ≤ 137438953472) :
    Calls Tryz.prog 134 #[v] w (NewK encA 2 187 xs w) := by
  have HR := Lib.hid (hr.below ((Below.refl _ w).alloc (Nat.le_refl _) (.cells #[] 187)) hh)
  obtain ⟨a, cap, rfl, _⟩ := id hr
  clear hr
  go_enter Tryz.func134, Tryz.ntmps134
  go_wp2_with (at_builtin; refine wpList_appA rfl _ _ rfl w.heap.size w _ [] rfl (MineK.empty _ _ _ w w _ (Below.refl _ _) (Nat.le_refl _)) _ hi xs rfl HR.out ?cl ?_)
  case cl => simpa using hl
  intro v2 w2 hm
  have HM := Lib.hid hm; clear hm
  go_wp2
  go_ret
  exact ⟨_, rfl, by simpa using HM.out.own, HM.out.below⟩
end Go.Proofs.YtgcdfkpidcdicaaGreatDoor

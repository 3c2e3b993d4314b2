/- Helper contracts: appendNode, appendText, openElement, closeElement, addMarkup of the program: what they do to a builder of the call's own in a box. -/
import Derived.Test.YtgcdfkpidcdicaaGreatDoorAddT
import Derived.Deep.RegionHeld3
import Derived.Deep.RegionWith
import Derived.Deep.RegionLaw
import Derived.Deep.CutRange
namespace Go.Proofs.YtgcdfkpidcdicaaGreatDoor
open Go.ChangeShapes Go.WideShapes Go.ChangeAt Go.RowKit

/-- Boxes of builders other than this one are as they were. -/
def Upd (c : Nat) (w w' : World) : Prop := ∀ d x y, d ≠ c → Box2 w d x y → Box2 w' d x y
theorem Upd.refl (c : Nat) (w : World) : Upd c w w := fun _ _ _ _ h => h
theorem Upd.trans {c : Nat} {w w1 w2 : World} (h : Upd c w w1) (k : Upd c w1 w2) : Upd c w w2 := fun d x y hd hb => k d x y hd (h d x y hd hb)
theorem Upd.below {c : Nat} {w w' : World} (h : Below w.heap.size w w') : Upd c w w' := fun _ _ _ _ hb => hb.later h
theorem Upd.keep {c : Nat} {w w' : World} {e : TypeId} (h : KeepT e w w') (hne : 40 ≠ e) : Upd c w w' := fun _ _ _ _ hb => hb.keep h hne
theorem Upd.set {c o : Nat} {w : World} {u : Value} : Upd c w (w.setCell ⟨c, o, none⟩ u) := fun _ _ _ hd hb => hb.far hd u
theorem Upd.alloc {c : Nat} {w w' : World} (h : Upd c w w') (o : Obj) : Upd c w (w'.alloc o) := h.trans (Upd.below ((Below.refl _ _).alloc (Nat.le_refl _) o))

theorem bl_st {B c o : Nat} {w w' : World} (h : Below B w w') (hb : B ≤ c) (u : Value) : Below B w (w'.setCell ⟨c, o, none⟩ u) := h.setCell hb u
theorem bl_dr {B : Nat} {w w' : World} (h : Below B w w') : Below B w w'.drew := h.drew
theorem bl_al {w w' : World} (h : Below w.heap.size w w') (o : Obj) : Below w.heap.size w (w'.alloc o) := h.alloc h.size o
theorem hp_dr {w : World} {g : Nat} {o : Obj} (h : w.heap[g]? = some o) : w.drew.heap[g]? = some o := h
theorem hp_nw {w : World} {g : Nat} {o : Obj} (h : w.heap.size = g) : (w.alloc o).heap[g]? = some o := by subst h; exact heap_alloc_new w o
theorem readsN_blk {w : World} {g : Nat} (p : Nv) {k : Int} {nm tx : ByteArray} {u : Value} (hg : w.heap[g]? = some (.cells #[.string nm, .string tx, .int .i64 k, u] 125 (0, 0))) (h1 : p.1.name = nm) (h2 : p.1.text = tx) (h3 : p.1.parent = k) (h4 : sv p.2 = u) :
    ReadsK encN 4 (g + 1) w (.slice (some ⟨g, 0, none⟩) 1 1) [p] := by
  subst h1; subst h2; subst h3; subst h4
  refine ⟨_, 1, rfl, by simp, by omega, (fun h => by cases h), Or.inr ⟨_, 0, rfl, by omega, fun j y hy i hi' => ?_⟩⟩
  have hj : j = 0 := by have := (List.getElem?_eq_some_iff.1 hy).1; simp at this; omega
  subst hj
  simp only [List.getElem?_cons_zero, Option.some.injEq] at hy
  subst hy
  rcases (show i = 0 ∨ i = 1 ∨ i = 2 ∨ i = 3 by omega) with rfl | rfl | rfl | rfl <;> exact box_cell hg rfl
theorem own_up {B : Nat} {w w' : World} {v : Value} {xs : List At} (h : OwnK encA 2 187 B w.heap.size w v xs) (hb : Below w.heap.size w w') : OwnK encA 2 187 B w'.heap.size w' v xs := (h.later hb).mono (Nat.le_refl _) hb.size
theorem BdM.drew {B : Nat} {w0 w : World} {nv ov : Value} {ns : List Nv} {zs : List Int} (h : BdM B w0 w nv ov ns zs) : BdM B w0 w.drew nv ov ns zs := h.later (Below.refl _ _).drew
/-- append of one node to nodes of the call's own, at a step of a drawn region. -/
theorem step_appNG {w : World} {ops : Array Oper} {o : Oper} {a : Act} {K : Act → World → Prop} {Q : Exit → Act → World → Prop} {E : Prop} (hgd : o.guard = none) (s x : Operand)
    (ho : o.op = .call { callee := .builtin .append, args := #[s, x], argTypes := #[37, 37] })
    (B : Nat) (w0 : World) (v : Value) (ts : List Nv) (hs : a.eval s = v) (hM : MineN B w0 w v ts) (ad : Addr) (top : Nat) (p : Nv) (hx : a.eval x = .slice (some ad) 1 1) (hr : ReadsK encN 4 top w (.slice (some ad) 1 1) [p])
    (hin : OwnK encA 2 187 B w.heap.size w (sv p.2) p.1.attrs) (hnd : (insN ts ++ insN [p]).Nodup)
    (n : Nat) (hn : ts.length = n) (hlen : n ≤ 68719476736)
    (h : ∀ ad' cap' w', MineN B w0 w' (.slice ad' (n + 1) cap') (ts ++ [p]) → w.grownBy w' v.ownBlock → K (a.put o.dst (.slice ad' (n + 1) cap')) w') :
    if Region.wanted o (yielded ops a.tmps) = true then Oper.wp Tryz.prog o a w K Q else E := by
  subst hn
  have hw : Region.wanted o (yielded ops a.tmps) = true := by simp [Region.wanted, hgd]
  rw [if_pos hw]
  obtain ⟨i, hi, hz, hsize, hby⟩ := info_parts infoNd
  refine wp_append_own _ s x _ ho B _ i _ 4 64 Tryz.underlying37 hi hz hsize hby (by rfl) (by decide) v ts.length _ hs hM.row.row ad 1 1 ([p].flatMap encN) hx (flat_len encN_len [p]) (hr.news encN_len) ?_ ?_ ?_ hM.row.size ?_
  · intro u hu
    obtain ⟨y, _, hy⟩ := List.mem_flatMap.1 hu
    exact encN_one y u hy
  · unfold maxLen; omega
  · have : (ts.length + 1) * 64 ≤ (ts.length + 1) * 1024 := Nat.mul_le_mul_left _ (by omega)
    omega
  · intro v' w' hown hgr hn
    have hM' : MineN B w0 w' v' (ts ++ [p]) := ⟨hM.row.grow (ys := [p]) hown hgr, fun q hq => by
      have hall : OwnK encA 2 187 B w.heap.size w (sv q.2) q.1.attrs := by
        rcases List.mem_append.1 hq with h | h
        · exact hM.inn q h
        · rw [List.mem_singleton] at h; subst h; exact hin
      exact ⟨hall.1.kept hgr (kept_ne hM.row.row hall.1 nd_ne_at), fun g hg => Nat.lt_of_lt_of_le (hall.2 g hg) hgr.size⟩, by rw [insN_append]; exact hnd⟩
    obtain ⟨a', c', e⟩ := mineN_form hM'
    rw [List.length_append] at e
    subst e
    exact h _ _ w' hM' hgr

/-- What appendNode does. -/
def PushOut (B : Nat) (w0 : World) (c : Nat) (ns : List Nv) (zs : List Int) (p : Nv) (w : World) (e : Ending) (w' : World) : Prop :=
  ∃ nv ov, Box2 w' c nv ov ∧ Upd c w w' ∧ (if 40 ≤ ns.length ∨ zs.length = 0 then e = .returned (.int .i64 (-1)) ∧ BdM B w0 w' nv ov ns zs
    else e = .returned (.int .i64 (ns.length : Int)) ∧ BdM B w0 w' nv ov (ns ++ [(⟨p.1.name, p.1.text, zs.getD (zs.length - 1) 0, p.1.attrs⟩, p.2)]) zs)

end Go.Proofs.YtgcdfkpidcdicaaGreatDoor

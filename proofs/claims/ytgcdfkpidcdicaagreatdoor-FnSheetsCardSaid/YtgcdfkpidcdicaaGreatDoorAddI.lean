/- Helper contracts: copyBuilder of the program. Asked: the builder lies in memory as named. -/
import Derived.Test.YtgcdfkpidcdicaaGreatDoorAddS
import Derived.Deep.RegionHeld3
import Derived.Deep.RegionWith
import Derived.Deep.CutRange
namespace Go.Proofs.YtgcdfkpidcdicaaGreatDoor
open Go.ChangeShapes Go.WideShapes Go.ChangeAt Go.RowKit

theorem below_al {w w' : World} (h : Below w.heap.size w w') (o : Obj) : Below w.heap.size w (w'.alloc o) := h.alloc h.size o
theorem below_st {B c o : Nat} {w w' : World} (h : Below B w w') (hb : B ≤ c) (u : Value) : Below B w (w'.setCell ⟨c, o, none⟩ u) := h.setCell hb u
theorem below_dr {B : Nat} {w w' : World} (h : Below B w w') : Below B w w'.drew := h.drew
theorem heap_dr {w : World} {g : Nat} {o : Obj} (h : w.heap[g]? = some o) : w.drew.heap[g]? = some o := h
theorem heap_al {w : World} {g : Nat} {o : Obj} (h : w.heap[g]? = some o) (o' : Obj) : (w.alloc o').heap[g]? = some o := below_heap ((Below.refl _ w).alloc (Nat.le_refl _) o') (heap_lt h) h
theorem heap_nw {w : World} {g : Nat} {o : Obj} (h : w.heap.size = g) : (w.alloc o).heap[g]? = some o := by subst h; exact heap_alloc_new w o
theorem size_dr (w : World) : w.drew.heap.size = w.heap.size := rfl
theorem lay_box {P : Prop} {w : World} {c : Nat} {x y : Value} (h : w.heap[c]? = some (.cells #[x, y] 40 (0, 0))) (k : w.cell? ⟨c, 0, none⟩ = some x → w.cell? ⟨c, 1, none⟩ = some y → w.frozen? ⟨c, 0, none⟩ = false → w.frozen? ⟨c, 1, none⟩ = false → P) : P :=
  k (box_cell h rfl) (box_cell h rfl) (box_frz h 0) (box_frz h 1)
theorem heap_kp {w w' : World} {e T : TypeId} {g : Nat} {cs : Array Value} (hk : KeepT e w w') (hne : T ≠ e) (h : w.heap[g]? = some (.cells cs T (0, 0))) : w'.heap[g]? = some (.cells cs T (0, 0)) := hk g cs T hne h
theorem mk_al {enc : Nv → List Value} {w w' : World} {v : Value} {xs : List Nv} {e : TypeId} {B : Nat} (h : MineK enc 4 e B w w' v xs) (o : Obj) : MineK enc 4 e B w (w'.alloc o) v xs := h.alloc o
theorem mk_dr {enc : Nv → List Value} {w w' : World} {v : Value} {xs : List Nv} {e : TypeId} {B : Nat} (h : MineK enc 4 e B w w' v xs) : MineK enc 4 e B w w'.drew v xs := ⟨h.row, h.below.drew, h.size⟩
theorem mk_kp {enc : Nv → List Value} {w w' w'' : World} {v : Value} {xs : List Nv} {e e' : TypeId} (hk : KeepT e' w' w'') (hne : e ≠ e') (hb : Below w.heap.size w w'') (h : MineK enc 4 e w.heap.size w w' v xs) : MineK enc 4 e w.heap.size w w'' v xs := by
  refine ⟨⟨h.row.1, ?_⟩, hb, hb.size⟩
  rcases h.row.2 with h1 | ⟨g, cap, cur, e1, h2, h3, h4⟩
  · exact Or.inl h1
  · exact Or.inr ⟨g, cap, cur, e1, h2, hk _ _ _ hne h3, h4⟩
theorem mk_st {enc : Nv → List Value} {w w' : World} {v u : Value} {xs : List Nv} {e T : TypeId} {B b o : Nat} {cs : Array Value} (hb : w'.heap[b]? = some (.cells cs T (0, 0))) (hne : e ≠ T) (hB : B ≤ b) (h : MineK enc 4 e B w w' v xs) : MineK enc 4 e B w (w'.setCell ⟨b, o, none⟩ u) v xs :=
  ⟨(ownK_setT h.own hb hne).1, h.below.setCell hB _, by rw [size_setC]; exact h.size⟩
theorem mi_al {w w' : World} {v : Value} {zs : List Int} {e : TypeId} {B : Nat} (h : Mine .i64 e B w w' v zs) (o : Obj) : Mine .i64 e B w (w'.alloc o) v zs := h.alloc o
theorem mi_dr {w w' : World} {v : Value} {zs : List Int} {e : TypeId} {B : Nat} (h : Mine .i64 e B w w' v zs) : Mine .i64 e B w w'.drew v zs := ⟨h.row, h.below.drew, h.size⟩
theorem mi_kp {w w' w'' : World} {v : Value} {zs : List Int} {e e' : TypeId} (hk : KeepT e' w' w'') (hne : e ≠ e') (hb : Below w.heap.size w w'') (h : Mine .i64 e w.heap.size w w' v zs) : Mine .i64 e w.heap.size w w'' v zs := by
  refine ⟨⟨h.row.1, ?_⟩, hb, hb.size⟩
  rcases h.row.2 with h1 | ⟨g, cap, cur, e1, h2, h3, h4⟩
  · exact Or.inl h1
  · exact Or.inr ⟨g, cap, cur, e1, h2, hk _ _ _ hne h3, h4⟩
theorem mi_st {w w' : World} {v u : Value} {zs : List Int} {e T : TypeId} {B b o : Nat} {cs : Array Value} (hb : w'.heap[b]? = some (.cells cs T (0, 0))) (hne : e ≠ T) (hB : B ≤ b) (h : Mine .i64 e B w w' v zs) : Mine .i64 e B w (w'.setCell ⟨b, o, none⟩ u) v zs :=
  ⟨(own_setT h.own hb hne).1, h.below.setCell hB _, by rw [size_setC]; exact h.size⟩
theorem empty_row {w : World} {e : TypeId} {k g B : Nat} (h : w.heap[g]? = some (.cells #[] e (0, 0))) (hB : B ≤ g) : w.ownsRow B e k (.slice (some ⟨g, 0, none⟩) 0 0) 0 [] :=
  ⟨by simp, Or.inr ⟨g, 0, #[], rfl, hB, h, Nat.le_refl _, by decide, by simp, by simp⟩⟩

/-- append(new empty slice, nodes..) at a step of a drawn region. -/
theorem step_appN0 {w0 w : World} {ops : Array Oper} {o : Oper} {a : Act} {K : Act → World → Prop} {Q : Exit → Act → World → Prop} {E : Prop} (hgd : o.guard = none) (s x : Operand)
    (ho : o.op = .call { callee := .builtin .append, args := #[s, x], argTypes := #[37, 37] })
    (g : Nat) (hs : a.eval s = .slice (some ⟨g, 0, none⟩) 0 0) (hg : w.heap[g]? = some (.cells #[] 125 (0, 0))) (hBg : w0.heap.size ≤ g) (hb : Below w0.heap.size w0 w)
    (vx : Value) (us : List Nv) (hx : a.eval x = vx) (hr : ReadsK encN 4 w0.heap.size w0 vx us) (n : Nat) (hn : us.length = n) (hlen : us.length ≤ 137438953472)
    (h : ∀ ad cap w', MineK encN 4 125 w0.heap.size w0 w' (.slice ad n cap) us → KeepT 125 w w' → K (a.put o.dst (.slice ad n cap)) w') :
    if Region.wanted o (yielded ops a.tmps) = true then Oper.wp Tryz.prog o a w K Q else E := by
  subst hn
  have hw : Region.wanted o (yielded ops a.tmps) = true := by simp [Region.wanted, hgd]
  rw [if_pos hw]
  have hrow := empty_row (k := 4) hg hBg
  have hr' := hr.below hb (Nat.le_refl _)
  obtain ⟨i, hi, hz, hsize, hby⟩ := info_parts infoNd
  obtain ⟨ad, cap, rfl, h1, h2, h3, h4⟩ := id hr'
  cases ad with
  | none =>
    obtain ⟨rfl, _, rfl⟩ := hr'.nil
    have hrun := run_append_owned_none (P := Tryz.prog) (w := w) w0.heap.size 37 o.type 125 i 4 Tryz.underlying37 hi _ 0 _ hrow
    have h5 := h (some ⟨g, 0, none⟩) 0 w ⟨hrow, hb, hb.size⟩ (fun _ _ _ _ h => h)
    unfold Oper.wp
    have hx0 : a.eval x = .slice none 0 0 := by simpa using hx
    simp [execOp, ho, resolve, invoke, builtin, hs, hx0, hrun, Result.andThen]
    exact h5
  | some ad =>
    refine wp_append_own _ s x _ ho w0.heap.size _ i _ 4 64 Tryz.underlying37 hi hz hsize hby (by rfl) (by decide) _ 0 _ hs hrow ad us.length cap (us.flatMap encN) hx (flat_len encN_len us) (hr'.news encN_len) ?_ ?_ ?_ hb.size ?_
    · intro u hu
      obtain ⟨y, _, hy⟩ := List.mem_flatMap.1 hu
      exact encN_one y u hy
    · unfold maxLen; omega
    · omega
    · intro v' w' hown hgr hn
      rw [Nat.zero_add, List.nil_append] at hown
      have hM : MineK encN 4 125 w0.heap.size w0 w' v' us := ⟨hown, (OwnK.back (enc := encN) (k := 4) (xs := []) ⟨hrow, fun g hg => (hrow.lt g hg).2⟩ hb hb.size hgr), Nat.le_trans hb.size hgr.size⟩
      rcases hown.2 with ⟨e, h0⟩ | ⟨g', cap', cur, e, _⟩
      · subst e
        have := h none 0 w'
        rw [h0] at this
        exact this hM (keep_of hrow hgr)
      · subst e
        exact h _ _ w' hM (keep_of hrow hgr)
/-- append(new empty slice, numbers..) at a step of a drawn region. -/
theorem step_appI0 {w0 w : World} {ops : Array Oper} {o : Oper} {a : Act} {K : Act → World → Prop} {Q : Exit → Act → World → Prop} {E : Prop} (hgd : o.guard = none) (s x : Operand)
    (ho : o.op = .call { callee := .builtin .append, args := #[s, x], argTypes := #[38, 38] })
    (g : Nat) (hs : a.eval s = .slice (some ⟨g, 0, none⟩) 0 0) (hg : w.heap[g]? = some (.cells #[] 3 (0, 0))) (hBg : w0.heap.size ≤ g) (hb : Below w0.heap.size w0 w)
    (vx : Value) (ys : List Int) (hx : a.eval x = vx) (hr : Reads .i64 w0.heap.size w0 vx ys) (n : Nat) (hn : ys.length = n) (hlen : ys.length ≤ 17592186044416)
    (h : ∀ ad cap w', Mine .i64 3 w0.heap.size w0 w' (.slice ad n cap) ys → KeepT 3 w w' → K (a.put o.dst (.slice ad n cap)) w') :
    if Region.wanted o (yielded ops a.tmps) = true then Oper.wp Tryz.prog o a w K Q else E := by
  subst hn
  have hw : Region.wanted o (yielded ops a.tmps) = true := by simp [Region.wanted, hgd]
  rw [if_pos hw]
  have hrow := empty_row (k := 1) hg hBg
  have hr' := hr.below hb (Nat.le_refl _)
  obtain ⟨i, hi, hz, hsize, hby⟩ := info_parts infoInt
  obtain ⟨ad, cap, rfl, h1, h2, h3, h4⟩ := id hr'
  cases ad with
  | none =>
    obtain ⟨rfl, _, rfl⟩ := hr'.nil
    have hrun := run_append_owned_none (P := Tryz.prog) (w := w) w0.heap.size 38 o.type 3 i 1 Tryz.underlying38 hi _ 0 _ hrow
    have h5 := h (some ⟨g, 0, none⟩) 0 w ⟨hrow, hb, hb.size⟩ (fun _ _ _ _ h => h)
    unfold Oper.wp
    have hx0 : a.eval x = .slice none 0 0 := by simpa using hx
    simp [execOp, ho, resolve, invoke, builtin, hs, hx0, hrun, Result.andThen]
    exact h5
  | some ad =>
    refine wp_append_own _ s x _ ho w0.heap.size _ i _ 1 8 Tryz.underlying38 hi hz hsize hby (by rfl) (by decide) _ 0 _ hs hrow ad ys.length cap (ys.map (.int .i64)) hx (by simp) hr'.news (nums_oneCell _ _) ?_ ?_ hb.size ?_
    · unfold maxLen; omega
    · omega
    · intro v' w' hown hgr hn
      rw [Nat.zero_add, List.nil_append] at hown
      have hM : Mine .i64 3 w0.heap.size w0 w' v' ys := ⟨hown, (Own.back (k := .i64) (zs := []) ⟨hrow, fun g hg => (hrow.lt g hg).2⟩ hb hb.size hgr), Nat.le_trans hb.size hgr.size⟩
      rcases hown.2 with ⟨e, h0⟩ | ⟨g', cap', cur, e, _⟩
      · subst e
        have := h none 0 w'
        rw [h0] at this
        exact this hM (keep_of hrow hgr)
      · subst e
        exact h _ _ w' hM (keep_of hrow hgr)
theorem int_ne_bd : 3 ≠ 40 := by decide
abbrev zBd : Array Value := #[.slice none 0 0, .slice none 0 0]
theorem bx_both {w : World} {c : Nat} (h : w.heap[c]? = some (.cells zBd 40 (0, 0))) (u v : Value) : ((w.setCell ⟨c, 0, none⟩ u).setCell ⟨c, 1, none⟩ v).heap[c]? = some (.cells #[u, v] 40 (0, 0)) := (Box2.set0 h u).set1 v
theorem mk_st2 {w w' : World} {v u u' : Value} {xs : List Nv} {B c : Nat} (hb : w'.heap[c]? = some (.cells zBd 40 (0, 0))) (hB : B ≤ c) (h : MineK encN 4 125 B w w' v xs) : MineK encN 4 125 B w ((w'.setCell ⟨c, 0, none⟩ u).setCell ⟨c, 1, none⟩ u') v xs :=
  mk_st (Box2.set0 hb u) nd_ne_bd.1 hB (mk_st hb nd_ne_bd.1 hB h)
theorem mi_st2 {w w' : World} {v u u' : Value} {zs : List Int} {B c : Nat} (hb : w'.heap[c]? = some (.cells zBd 40 (0, 0))) (hB : B ≤ c) (h : Mine .i64 3 B w w' v zs) : Mine .i64 3 B w ((w'.setCell ⟨c, 0, none⟩ u).setCell ⟨c, 1, none⟩ u') v zs :=
  mi_st (Box2.set0 hb u) int_ne_bd hB (mi_st hb int_ne_bd hB h)

/-- A node's attributes are put in anew. -/
theorem put_attrs {B g n cap k : Nat} {w0 w : World} {vs rest : List Nv} {p : Nv} {s : Sv} (h : MineK encN 4 125 B w0 w (.slice (some ⟨g, 0, none⟩) n cap) (vs ++ p :: rest)) (hk : vs.length = k) :
    MineK encN 4 125 B w0 (w.setCell ⟨g, k * 4 + 3, none⟩ (sv s)) (.slice (some ⟨g, 0, none⟩) n cap) (vs ++ (p.1, s) :: rest) ∧ w.grownBy (w.setCell ⟨g, k * 4 + 3, none⟩ (sv s)) (some g) := by
  have hn : n = (vs ++ p :: rest).length := by
    rcases h.row.2 with ⟨e, _⟩ | ⟨g', cap', cur, e, _⟩
    · cases e
    · cases e; rfl
  subst hn
  have hst := h.row.stored (k * 4 + 3) (sv s)
  have e1 : ((vs ++ p :: rest).flatMap encN).set (k * 4 + 3) (sv s) = (vs ++ (p.1, s) :: rest).flatMap encN := by
    rw [List.flatMap_append, List.flatMap_append, List.flatMap_cons, List.flatMap_cons, List.set_append_right _ _ (by rw [flat_len encN_len, hk]; omega), flat_len encN_len, hk, show k * 4 + 3 - k * 4 = 3 by omega]
    rfl
  have hl : (vs ++ (p.1, s) :: rest).length = (vs ++ p :: rest).length := by simp
  refine ⟨⟨?_, h.below.trans (Below.setCell (Below.refl _ _) ?_ _), by rw [size_setC]; exact h.size⟩, hst.2⟩
  · rw [hl, ← e1]; exact hst.1
  · exact (h.row.lt g rfl).1
theorem row_at {B n cap k : Nat} {w0 w : World} {a : Option Addr} {us : List Nv} {p : Nv} (h : MineK encN 4 125 B w0 w (.slice a n cap) us) (hp : us[k]? = some p) :
    ∃ g, a = some ⟨g, 0, none⟩ ∧ g < w.heap.size ∧ B ≤ g ∧ w.cell? ⟨g, k * 4 + 3, none⟩ = some (sv p.2) ∧ w.frozen? ⟨g, k * 4 + 3, none⟩ = false := by
  have hlt := (List.getElem?_eq_some_iff.1 hp).1
  have hr := h.own.reads encN_len
  rcases h.row.2 with ⟨e, h0⟩ | ⟨g, cap', cur, e, hg, hh, hc, hm, _⟩
  · omega
  · cases e
    refine ⟨g, rfl, heap_lt hh, hg, ?_, box_frz hh _⟩
    have := hr.news encN_len (k * 4 + 3) (sv p.2) (by have := flat_at encN_len hp (show 3 < 4 by decide); simpa [encN] using this)
    rwa [add_off, Nat.zero_add] at this

set_option maxRecDepth 100000 in
set_option maxHeartbeats 16000000 in
theorem copy_impl (p : Nat) (nv ov : Value) (b : Bd) (w : World) (hb : BdIn w.heap.size w nv ov b) (hf : Fits b) (c0 : w.cell? ⟨p, 0, none⟩ = some nv) (c1 : w.cell? ⟨p, 1, none⟩ = some ov) (hp : p < w.heap.size) :
    Calls Tryz.prog 83 #[.pointer (some ⟨p, 0, none⟩)] w fun e w' => ∃ nv' ov', e = .returned (.agg #[nv', ov']) ∧ BdAt w.heap.size w w' nv' ov' b := by
  obtain ⟨ns, hns, hrn, hro⟩ := hb
  obtain ⟨na, nc, rfl, hn1, hn2⟩ := hrn.form
  obtain ⟨oa, oc, rfl, ho1, ho2⟩ := reads_form hro
  obtain ⟨n, hn⟩ : ∃ n, ns.length = n := ⟨_, rfl⟩
  obtain ⟨on, hon⟩ : ∃ n, b.opn.length = n := ⟨_, rfl⟩
  rw [hn] at hrn hn1 c0; rw [hon] at hro ho1 c1
  obtain ⟨W0, hW0⟩ : ∃ W, w.alloc (.cells #[.slice none 0 0, .slice none 0 0] 40) = W := ⟨_, rfl⟩
  have hB0 : Below w.heap.size w W0 := by rw [← hW0]; exact (Below.refl _ _).alloc (Nat.le_refl _) _
  have q2 : Box2 W0 w.heap.size (.slice none 0 0) (.slice none 0 0) := by rw [← hW0]; exact Box2.new _ _ _
  have hS0 : W0.heap.size = w.heap.size + 1 := by rw [← hW0, size_alloc]
  have hrn0 : ReadN W0.heap.size W0 (.slice na n nc) ns := (hrn.below hB0 (Nat.le_refl _)).mono hB0.size
  have hro0 : Reads .i64 W0.heap.size W0 (.slice oa on oc) b.opn := (hro.below hB0 (Nat.le_refl _)).mono hB0.size
  have hp0 : p < W0.heap.size := by omega
  replace c0 : W0.cell? ⟨p, 0, none⟩ = some (.slice na n nc) := (hB0.cell hp).trans c0
  replace c1 : W0.cell? ⟨p, 1, none⟩ = some (.slice oa on oc) := (hB0.cell hp).trans c1
  have KEEP := Lib.hid (fun (w' : World) (h : Below W0.heap.size W0 w') => show Below W0.heap.size W0 w' ∧ w'.cell? ⟨p, 0, none⟩ = some (.slice na n nc) ∧ w'.cell? ⟨p, 1, none⟩ = some (.slice oa on oc) from ⟨h, (h.cell hp0).trans c0, (h.cell hp0).trans c1⟩)
  have HLN := Lib.hid (show ns.length ≤ 137438953472 by have h2 := ndW_len b.nodes; have h3 := hf.1; rw [← hns, List.length_map, hns] at h2; omega)
  have HLO := Lib.hid (show b.opn.length ≤ 17592186044416 by have h3 := hf.2; omega)
  have HF := Lib.hid hf; have HNS := Lib.hid hns; have HN := Lib.hid hn; have HON := Lib.hid hon; have HRN := Lib.hid hrn0; have HRN1 := Lib.hid hrn0.1; have HRO := Lib.hid hro0; have HW0 := Lib.hid hW0; have Q2 := Lib.hid q2; have HB0 := Lib.hid hB0; have HS0 := Lib.hid hS0
  clear hf hns hn hon hrn hro hW0 q2 hB0 hrn0 hro0 hS0
  go_enter Tryz.func83, Tryz.ntmps83
  go_upto_region 1 with (fail)
  rw [HW0.out]
  go_cut [3] from 6 to 18 (fun c wx => ∃ C na' nc' oa' oc', c = .pointer (some ⟨C, 0, none⟩) ∧ Box2 wx C (.slice na' n nc') (.slice oa' on oc') ∧ W0.heap.size ≤ C ∧ MineK encN 4 125 W0.heap.size W0 wx (.slice na' n nc') ns ∧ Mine .i64 3 W0.heap.size W0 wx (.slice oa' on oc') b.opn)
  case first =>
    go_region_held3 (fun w' => Below W0.heap.size W0 w' ∧ w'.cell? ⟨p, 0, none⟩ = some (.slice na n nc) ∧ w'.cell? ⟨p, 1, none⟩ = some (.slice oa on oc))
      (exact KEEP.out _ (by (repeat' (first | (with_reducible exact Below.refl _ _) | (with_reducible exact hmI.below) | (with_reducible exact hmN.below) | (with_reducible refine below_dr ?_) | (with_reducible refine below_al ?_ _) | (with_reducible refine below_st ?_ (by first | omega | (have := hmI.below.size; omega) | (have := hmN.below.size; omega)) _)))))
      (first
      | (refine step_appN0 (w0 := W0) (by rfl) _ _ (by rfl) _ (by rfl) (by (repeat' (first | (with_reducible refine heap_dr ?_) | ((with_reducible refine heap_nw ?_); (first | (with_reducible rfl) | (simp only [size_alloc]; done))) | (with_reducible refine heap_al ?_ _) | (with_reducible refine heap_kp hkN (by decide) ?_) | (with_reducible refine heap_kp hkI (by decide) ?_)))) (by first | omega | (have := hmI.below.size; omega) | (have := hmN.below.size; omega)) (by (repeat' (first | (with_reducible exact Below.refl _ _) | (with_reducible exact hmI.below) | (with_reducible exact hmN.below) | (with_reducible refine below_dr ?_) | (with_reducible refine below_al ?_ _) | (with_reducible refine below_st ?_ (by first | omega | (have := hmI.below.size; omega) | (have := hmN.below.size; omega)) _)))) _ ns (by rfl) HRN1.out n HN.out HLN.out ?_; intro aN cN wN hmN hkN; (first | (refine lay_box (w := wN) (c := W0.heap.size) (x := .slice none 0 0) (y := .slice none 0 0) ?_ ?_; (focus (refine heap_kp hkN (by decide) ?_; (repeat' (first | (with_reducible refine heap_dr ?_) | ((with_reducible refine heap_nw ?_); (first | (with_reducible rfl) | (simp only [size_alloc]; done))) | (with_reducible refine heap_al ?_ _) | (with_reducible refine heap_kp hkN (by decide) ?_) | (with_reducible refine heap_kp hkI (by decide) ?_))))); intro x0 x1 x2 x3) | (refine lay_box (w := wN) (c := W0.heap.size + 1) (x := .slice none 0 0) (y := .slice none 0 0) ?_ ?_; (focus (refine heap_kp hkN (by decide) ?_; (repeat' (first | (with_reducible refine heap_dr ?_) | ((with_reducible refine heap_nw ?_); (first | (with_reducible rfl) | (simp only [size_alloc]; done))) | (with_reducible refine heap_al ?_ _) | (with_reducible refine heap_kp hkN (by decide) ?_) | (with_reducible refine heap_kp hkI (by decide) ?_))))); intro x0 x1 x2 x3) | (refine lay_box (w := wN) (c := W0.heap.size + 2) (x := .slice none 0 0) (y := .slice none 0 0) ?_ ?_; (focus (refine heap_kp hkN (by decide) ?_; (repeat' (first | (with_reducible refine heap_dr ?_) | ((with_reducible refine heap_nw ?_); (first | (with_reducible rfl) | (simp only [size_alloc]; done))) | (with_reducible refine heap_al ?_ _) | (with_reducible refine heap_kp hkN (by decide) ?_) | (with_reducible refine heap_kp hkI (by decide) ?_))))); intro x0 x1 x2 x3) | skip))
      | (refine step_appI0 (w0 := W0) (by rfl) _ _ (by rfl) _ (by rfl) (by (repeat' (first | (with_reducible refine heap_dr ?_) | ((with_reducible refine heap_nw ?_); (first | (with_reducible rfl) | (simp only [size_alloc]; done))) | (with_reducible refine heap_al ?_ _) | (with_reducible refine heap_kp hkN (by decide) ?_) | (with_reducible refine heap_kp hkI (by decide) ?_)))) (by first | omega | (have := hmI.below.size; omega) | (have := hmN.below.size; omega)) (by (repeat' (first | (with_reducible exact Below.refl _ _) | (with_reducible exact hmI.below) | (with_reducible exact hmN.below) | (with_reducible refine below_dr ?_) | (with_reducible refine below_al ?_ _) | (with_reducible refine below_st ?_ (by first | omega | (have := hmI.below.size; omega) | (have := hmN.below.size; omega)) _)))) _ b.opn (by rfl) HRO.out on HON.out HLO.out ?_; intro aI cI wI hmI hkI; (first | (refine lay_box (w := wI) (c := W0.heap.size) (x := .slice none 0 0) (y := .slice none 0 0) ?_ ?_; (focus (refine heap_kp hkI (by decide) ?_; (repeat' (first | (with_reducible refine heap_dr ?_) | ((with_reducible refine heap_nw ?_); (first | (with_reducible rfl) | (simp only [size_alloc]; done))) | (with_reducible refine heap_al ?_ _) | (with_reducible refine heap_kp hkN (by decide) ?_) | (with_reducible refine heap_kp hkI (by decide) ?_))))); intro x0 x1 x2 x3) | (refine lay_box (w := wI) (c := W0.heap.size + 1) (x := .slice none 0 0) (y := .slice none 0 0) ?_ ?_; (focus (refine heap_kp hkI (by decide) ?_; (repeat' (first | (with_reducible refine heap_dr ?_) | ((with_reducible refine heap_nw ?_); (first | (with_reducible rfl) | (simp only [size_alloc]; done))) | (with_reducible refine heap_al ?_ _) | (with_reducible refine heap_kp hkN (by decide) ?_) | (with_reducible refine heap_kp hkI (by decide) ?_))))); intro x0 x1 x2 x3) | (refine lay_box (w := wI) (c := W0.heap.size + 2) (x := .slice none 0 0) (y := .slice none 0 0) ?_ ?_; (focus (refine heap_kp hkI (by decide) ?_; (repeat' (first | (with_reducible refine heap_dr ?_) | ((with_reducible refine heap_nw ?_); (first | (with_reducible rfl) | (simp only [size_alloc]; done))) | (with_reducible refine heap_al ?_ _) | (with_reducible refine heap_kp hkN (by decide) ?_) | (with_reducible refine heap_kp hkI (by decide) ?_))))); intro x0 x1 x2 x3) | (refine lay_box (w := wI) (c := wN.heap.size) (x := .slice none 0 0) (y := .slice none 0 0) ?_ ?_; (focus (refine heap_kp hkI (by decide) ?_; (repeat' (first | (with_reducible refine heap_dr ?_) | ((with_reducible refine heap_nw ?_); (first | (with_reducible rfl) | (simp only [size_alloc]; done))) | (with_reducible refine heap_al ?_ _) | (with_reducible refine heap_kp hkN (by decide) ?_) | (with_reducible refine heap_kp hkI (by decide) ?_))))); intro x0 x1 x2 x3) | (refine lay_box (w := wI) (c := wN.heap.size + 1) (x := .slice none 0 0) (y := .slice none 0 0) ?_ ?_; (focus (refine heap_kp hkI (by decide) ?_; (repeat' (first | (with_reducible refine heap_dr ?_) | ((with_reducible refine heap_nw ?_); (first | (with_reducible rfl) | (simp only [size_alloc]; done))) | (with_reducible refine heap_al ?_ _) | (with_reducible refine heap_kp hkN (by decide) ?_) | (with_reducible refine heap_kp hkI (by decide) ?_))))); intro x0 x1 x2 x3) | skip)))
    all_goals
      go_wp2_with fail
      go_meet
      refine ⟨_, aN, cN, aI, cI, rfl, ?_, ?_, ?_, ?_⟩
      · unfold Box2
        first | ((with_reducible refine bx_both ?_ _ _); repeat' (first | (with_reducible refine heap_dr ?_) | ((with_reducible refine heap_nw ?_); (first | (with_reducible rfl) | (simp only [size_alloc]; done))) | (with_reducible refine heap_al ?_ _) | (with_reducible refine heap_kp hkN (by decide) ?_) | (with_reducible refine heap_kp hkI (by decide) ?_))) | (repeat' (first | (with_reducible refine heap_dr ?_) | ((with_reducible refine heap_nw ?_); (first | (with_reducible rfl) | (simp only [size_alloc]; done))) | (with_reducible refine heap_al ?_ _) | (with_reducible refine heap_kp hkN (by decide) ?_) | (with_reducible refine heap_kp hkI (by decide) ?_)))
      · first | omega | (have := hmI.below.size; omega) | (have := hmN.below.size; omega)
      · repeat' (first | (with_reducible exact hmN) | (with_reducible refine mk_dr ?_) | (with_reducible refine mk_al ?_ _) | (with_reducible refine mk_st2 (by repeat' (first | (with_reducible refine heap_dr ?_) | ((with_reducible refine heap_nw ?_); (first | (with_reducible rfl) | (simp only [size_alloc]; done))) | (with_reducible refine heap_al ?_ _) | (with_reducible refine heap_kp hkN (by decide) ?_) | (with_reducible refine heap_kp hkI (by decide) ?_))) (by first | omega | (have := hmI.below.size; omega) | (have := hmN.below.size; omega)) ?_) | (with_reducible refine mk_kp hkI (by decide) hmI.below ?_))
      · repeat' (first | (with_reducible exact hmI) | (with_reducible refine mi_dr ?_) | (with_reducible refine mi_al ?_ _) | (with_reducible refine mi_st2 (by repeat' (first | (with_reducible refine heap_dr ?_) | ((with_reducible refine heap_nw ?_); (first | (with_reducible rfl) | (simp only [size_alloc]; done))) | (with_reducible refine heap_al ?_ _) | (with_reducible refine heap_kp hkN (by decide) ?_) | (with_reducible refine heap_kp hkI (by decide) ?_))) (by first | omega | (have := hmI.below.size; omega) | (have := hmN.below.size; omega)) ?_))
  obtain ⟨C, na2, nc2, oa2, oc2, rfl, hq3, hC, hmN, hmI⟩ := hcut
  have HC := Lib.hid hC; have HMN := Lib.hid hmN; have HMI := Lib.hid hmI; have HQ3 := Lib.hid hq3
  have q3a := hq3.cells.1.1
  clear hC hmN hmI hq3 c0 c1 KEEP
  go_wp2_with fail
  go_loopw [22] (fun i wr => ∃ (k : Nat) (vs : List Nv), k ≤ n ∧ i = .int .i64 k ∧ vs.length = k ∧ vs.map Prod.fst = b.nodes.take k ∧ Box2 wr C (.slice na2 n nc2) (.slice oa2 on oc2) ∧ MineK encN 4 125 W0.heap.size W0 wr (.slice na2 n nc2) (vs ++ ns.drop k) ∧ (∀ q ∈ vs, OwnK encA 2 187 W0.heap.size wr.heap.size wr (sv q.2) q.1.attrs) ∧ (insN vs).Nodup ∧ Mine .i64 3 W0.heap.size W0 wr (.slice oa2 on oc2) b.opn)
    (fun i _ => n - (intOf i).toNat)
  case atStart => exact ⟨0, [], Nat.zero_le _, rfl, rfl, rfl, HQ3.out, by simpa using HMN.out, fun q hq => absurd hq (List.not_mem_nil), List.nodup_nil, HMI.out⟩
  case round =>
    obtain ⟨k, vs, hk, rfl, hvl, hvm, hq, hm, hin, hnd, hmi⟩ := hrel
    have HVL := Lib.hid hvl; have HVM := Lib.hid hvm; have HQ := Lib.hid hq; have HM := Lib.hid hm; have HIN := Lib.hid hin; have HND := Lib.hid hnd; have HMI2 := Lib.hid hmi
    have d0 := hq.cells.1.1; have d1 := hq.cells.1.2
    have bC := hq.lt
    clear hvl hvm hq hm hin hnd hmi
    by_cases hlt : (k : Int) < (n : Int)
    · obtain ⟨p, hp⟩ := nd_at (ns := ns) (k := k) (by rw [HN.out]; omega)
      have hdr : ns.drop k = p :: ns.drop (k + 1) := dropL_at hp
      have hm := HM.out
      rw [hdr] at hm
      have hp2 : (vs ++ p :: ns.drop (k + 1))[k]? = some p := by rw [List.getElem?_append_right (by rw [HVL.out]; exact Nat.le_refl _), HVL.out, Nat.sub_self]; rfl
      obtain ⟨g, rfl, hgl, hgB, cg, fg⟩ := row_at hm hp2
      have HM2 := Lib.hid hm
      have HPM := Lib.hid ((HRN.out.2 p (List.mem_of_getElem? hp)).below HM.out.below (Nat.le_refl _))
      have hpn := map_fst_at HNS.out hp
      have HAL := Lib.hid (show p.1.attrs.length ≤ 68719476736 by have := ndW_at (List.mem_of_getElem? hpn); have := HF.out.1; omega)
      have HPN := Lib.hid hpn
      have HNA := Lib.hid (nodeAt_in C g 0 n nc2 k wr d0 (by omega) (by omega))
      obtain ⟨⟨at0, sa, sn, sc⟩, rfl⟩ : ∃ q : Nv, p = q := ⟨p, rfl⟩
      replace cg : _ = some (Value.slice sa sn sc) := cg
      clear hp hdr hm hp2 hpn
      go_wp2_with (go_at_call 80; refine HNA.out.mono ?_; rintro e w' ⟨rfl, rfl⟩)
      refine (cpA_impl _ W0.heap.size at0.attrs _ HPM.out (HM.out.below.size) (by have := HAL.out; omega)).mono ?_
      rintro e w3 ⟨v3, rfl, ho3, hb3⟩
      obtain ⟨⟨xa, xn, xc⟩, rfl⟩ := ho3.sv
      have HB3 := Lib.hid hb3; have HO3 := Lib.hid ho3
      have hm3 := HM2.out.later hb3
      have hput := put_attrs (s := (xa, xn, xc)) hm3 HVL.out
      have hkp := keep_of hm3.row hput.2
      have HM3 := Lib.hid hput.1
      have HQ3' := Lib.hid ((HQ.out.later hb3).keep hkp bd_ne.1)
      have HMI3 := Lib.hid (mi_kp hkp int_ne.2.1 hput.1.below (HMI2.out.later hb3))
      have hsz : w3.heap.size = (w3.setCell ⟨g, k * 4 + 3, none⟩ (sv (xa, xn, xc))).heap.size := (size_setC _ _ _).symm
      have HIN3 := Lib.hid (show ∀ q ∈ vs ++ [((at0, xa, xn, xc) : Nv)], OwnK encA 2 187 W0.heap.size (w3.setCell ⟨g, k * 4 + 3, none⟩ (sv (xa, xn, xc))).heap.size (w3.setCell ⟨g, k * 4 + 3, none⟩ (sv (xa, xn, xc))) (sv q.2) q.1.attrs from fun q hq => by
        rw [← hsz]
        have hall : OwnK encA 2 187 W0.heap.size w3.heap.size w3 (sv q.2) q.1.attrs := by
          rcases List.mem_append.1 hq with h | h
          · exact ((HIN.out q h).later hb3).mono (Nat.le_refl _) hb3.size
          · rw [List.mem_singleton] at h; subst h
            exact ho3.mono (HM.out.below.size) (Nat.le_refl _)
        exact ⟨hall.1.kept hput.2 (kept_ne hm3.row hall.1 nd_ne_at), hall.2⟩)
      have HND3 := Lib.hid (show (insN (vs ++ [((at0, xa, xn, xc) : Nv)])).Nodup from by
        rw [insN_append]
        refine List.nodup_append.2 ⟨HND.out, by unfold insN; cases hv : (sv (xa, xn, xc)).ownBlock <;> simp [hv], fun a ha c hc e => ?_⟩
        obtain ⟨q, hq, hqb⟩ := insN_mem.1 ha
        have h1 := ((HIN.out q hq).lt a hqb).2
        obtain ⟨p, hp, hpb⟩ := insN_mem.1 hc
        rw [List.mem_singleton] at hp; subst hp
        have h2 := (ho3.lt c hpb).1
        omega)
      have HVM3 := Lib.hid (show (vs ++ [((at0, xa, xn, xc) : Nv)]).map Prod.fst = b.nodes.take (k + 1) by rw [List.map_append, HVM.out, take_moreN HPN.out]; rfl)
      have cg3 : w3.cell? ⟨g, k * 4 + 3, none⟩ = some (.slice sa sn sc) := (hb3.cell hgl).trans cg
      have fg3 : w3.frozen? ⟨g, k * 4 + 3, none⟩ = false := by
        obtain ⟨g', e, _, _, _, hf⟩ := row_at hm3 (k := k) (p := (at0, sa, sn, sc)) (by rw [List.getElem?_append_right (by rw [HVL.out]; exact Nat.le_refl _), HVL.out, Nat.sub_self]; rfl)
        cases e; exact hf
      have hgl3 : g < w3.heap.size := Nat.lt_of_lt_of_le hgl hb3.size
      clear hm3 hput hkp hsz hb3 ho3
      rw [show sv (xa, xn, xc) = Value.slice xa xn xc from rfl]
      go_wp2_with fail
      go_roundw
      case rel => exact ⟨k + 1, vs ++ [((at0, xa, xn, xc) : Nv)], by omega, by go_num, by rw [List.length_append, HVL.out]; rfl, HVM3.out, HQ3'.out, by rw [List.append_assoc]; exact HM3.out, HIN3.out, HND3.out, HMI3.out⟩
      case measure => simp [intOf]; omega
    · have hkn : k = n := by omega
      subst hkn
      have hbb := HM.out.below
      have hq2 : Box2 wr w.heap.size (.slice none 0 0) (.slice none 0 0) := Q2.out.below hbb (by rw [HS0.out]; omega)
      have hvs : vs ++ ns.drop k = vs := by rw [List.drop_of_length_le (by rw [HN.out]; exact Nat.le_refl _), List.append_nil]
      have hmm := HM.out
      rw [hvs] at hmm
      have hbd : BdM W0.heap.size W0 wr (.slice na2 k nc2) (.slice oa2 on oc2) vs b.opn := ⟨⟨hmm, HIN.out, HND.out⟩, HMI2.out⟩
      have hbd2 := hbd.down (HB0.out.trans (hbb.mono HB0.out.size)) HB0.out.size
      have HO := Lib.hid (show Box2 ((wr.setCell ⟨w.heap.size, 0, none⟩ (.slice na2 k nc2)).setCell ⟨w.heap.size, 1, none⟩ (.slice oa2 on oc2)) w.heap.size (.slice na2 k nc2) (.slice oa2 on oc2) from (hq2.set0 _).set1 _)
      have HO2 := Lib.hid ((hbd2.setT (u := .slice na2 k nc2) (o := 0) hq2 (Nat.le_refl _)).setT (u := .slice oa2 on oc2) (o := 1) (hq2.set0 _) (Nat.le_refl _))
      have HVF := Lib.hid (show vs.map Prod.fst = b.nodes by rw [HVM.out, List.take_of_length_le]; have h1 := congrArg List.length HNS.out; rw [List.length_map, HN.out] at h1; omega)
      obtain ⟨⟨e0, e1⟩, f0, f1⟩ := hq2.cells
      have bH := hq2.lt
      clear hbb hq2 hvs hmm hbd hbd2
      go_wp2_with fail
      obtain ⟨⟨r0, r1⟩, _⟩ := HO.out.cells
      refine bodyPost_ret (v := .agg #[.slice na2 k nc2, .slice oa2 on oc2]) (by simp [results, Tryz.results83, go_sem, r0, r1]) rfl ?_
      exact ⟨_, _, rfl, HO2.out.at HVF.out⟩
end Go.Proofs.YtgcdfkpidcdicaaGreatDoor

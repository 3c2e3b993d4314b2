/- Helper contracts: copyBuilder of the program. Asked: the builder lies in memory as named. Helper contract: RunLine of the program. Asked: the text is no longer than 2^20; the builder and the sheets read as named and fit; the library's MaxLen and table of powers of ten hold what their initialisers lay. Helper contract: RunLine of the model. Asked: the text is no longer than 2^20; the builder and the sheets read as named and fit. -/
import Derived.Test.YtpkicliimhflgaaGreatDoorMf8
import Derived.Deep.RegionHeld3
import Derived.Deep.RegionWith
import Derived.Deep.CutRange
import Derived.Test.YtpkicliimhflgaaGreatDoorMf15
namespace Go.Proofs.YtpkicliimhflgaaGreatDoor

open Go.ChangeShapes Go.WideShapes Go.ChangeAt Go.RowKit

theorem below_al {w w' : World} (h : Below w.heap.size w w') (o : Obj) : Below w.heap.size w (w'.alloc o) := h.alloc h.size o
theorem below_st {B c o : Nat} {w w' : World} (h : Below B w w') (hb : B ≤ c) (u : Value) : Below B w (w'.setCell ⟨c, o, none⟩ u) := h.setCell hb u
theorem below_dr {B : Nat} {w w' : World} (h : Below B w w') : Below B w w'.drew := h.drew
theorem heap_dr {w : World} {g : Nat} {o : Obj} (h : w.heap[g]? = some o) : w.drew.heap[g]? = some o := h
theorem heap_al {w : World} {g : Nat} {o : Obj} (h : w.heap[g]? = some o) (o' : Obj) : (w.alloc o').heap[g]? = some o := below_heap ((Below.refl _ w).alloc (Nat.le_refl _) o') (heap_lt h) h
theorem heap_nw {w : World} {g : Nat} {o : Obj} (h : w.heap.size = g) : (w.alloc o).heap[g]? = some o := by subst h; exact heap_alloc_new w o
theorem size_dr (w : World) : w.drew.heap.size = w.heap.size := rfl
theorem lay_box {P : Prop} {w : World} {c : Nat} {x y : Value} (h : w.heap[c]? = some (.cells #[x, y] 41 (0, 0))) (k : w.cell? ⟨c, 0, none⟩ = some x → w.cell? ⟨c, 1, none⟩ = some y → w.frozen? ⟨c, 0, none⟩ = false → w.frozen? ⟨c, 1, none⟩ = false → P) : P :=
  k (box_cell h rfl) (box_cell h rfl) (box_frz h 0) (box_frz h 1)
theorem heap_kp {w w' : World} {e T : TypeId} {g : Nat} {cs : Array Value} (hk : KeepT e w w') (hne : T ≠ e) (h : w.heap[g]? = some (.cells cs T (0, 0))) : w'.heap[g]? = some (.cells cs T (0, 0)) := hk g cs T hne h
theorem mk_al {enc : Nv → List Value} {w w' : World} {v : Value} {xs : List Nv} {e : TypeId} {B : Nat} (h : MineK enc 4 e B w w' v xs) (o : Obj) : MineK enc 4 e B w (w'.alloc o) v xs := h.alloc o
theorem mk_dr {enc : Nv → List Value} {w w' : World} {v : Value} {xs : List Nv} {e : TypeId} {B : Nat} (h : MineK enc 4 e B w w' v xs) : MineK enc 4 e B w w'.drew v xs := ⟨h.row, h.below.drew, h.size⟩
theorem mk_kp {enc : Nv → List Value} {w w' w'' : World} {v : Value} {xs : List Nv} {e e' : TypeId} (hk : KeepT e' w' w'') (hne : e ≠ e') (hb : Below w.heap.size w w'') (h : MineK enc 4 e w.heap.size w w' v xs) : MineK enc 4 e w.heap.size w w'' v xs := by
  refine ⟨⟨h.row.1, ?_⟩, hb, hb.size⟩
  rcases h.row.2 with h1 | ⟨g, cap, cur, e1, h2, h3, h4⟩
  · exact Or.inl h1
  · exact Or.inr ⟨g, cap, cur, e1, h2, hk _ _ _ hne h3, h4⟩
theorem mk_st {enc : Nv → List Value} {w w' : World} {v u : Value} {xs : List Nv} {e T : TypeId} {B b o : Nat} {cs : Array Value} (hb : w'.heap[b]? = some (.cells cs T (0, 0))) (hne : e ≠ T) (hB : B ≤ b) (h : MineK enc 4 e B w w' v xs) : MineK enc 4 e B w (w'.setCell ⟨b, o, none⟩ u) v xs :=
  ⟨(ownK_setT h.own hb hne).1, h.below.setCell hB _, by rw [size_setC]; exact h.size⟩
theorem mi_al {w w' : World} {v : Value} {zs : List Int} {e : TypeId} {B : Nat} (h : Mine .i64 e B w w' v zs) (o : Obj) : Mine .i64 e B w (w'.alloc o) v zs := h.alloc o
theorem mi_dr {w w' : World} {v : Value} {zs : List Int} {e : TypeId} {B : Nat} (h : Mine .i64 e B w w' v zs) : Mine .i64 e B w w'.drew v zs := ⟨h.row, h.below.drew, h.size⟩
theorem mi_kp {w w' w'' : World} {v : Value} {zs : List Int} {e e' : TypeId} (hk : KeepT e' w' w'') (hne : e ≠ e') (hb : Below w.heap.size w w'') (h : Mine .i64 e w.heap.size w w' v zs) : Mine .i64 e w.heap.size w w'' v zs := by
  refine ⟨⟨h.row.1, ?_⟩, hb, hb.size⟩
  rcases h.row.2 with h1 | ⟨g, cap, cur, e1, h2, h3, h4⟩
  · exact Or.inl h1
  · exact Or.inr ⟨g, cap, cur, e1, h2, hk _ _ _ hne h3, h4⟩
theorem mi_st {w w' : World} {v u : Value} {zs : List Int} {e T : TypeId} {B b o : Nat} {cs : Array Value} (hb : w'.heap[b]? = some (.cells cs T (0, 0))) (hne : e ≠ T) (hB : B ≤ b) (h : Mine .i64 e B w w' v zs) : Mine .i64 e B w (w'.setCell ⟨b, o, none⟩ u) v zs :=
  ⟨(own_setT h.own hb hne).1, h.below.setCell hB _, by rw [size_setC]; exact h.size⟩
theorem empty_row {w : World} {e : TypeId} {k g B : Nat} (h : w.heap[g]? = some (.cells #[] e (0, 0))) (hB : B ≤ g) : w.ownsRow B e k (.slice (some ⟨g, 0, none⟩) 0 0) 0 [] :=
  ⟨by simp, Or.inr ⟨g, 0, #[], rfl, hB, h, Nat.le_refl _, by decide, by simp, by simp⟩⟩

/-- append(new empty slice, nodes..) at a step of a drawn region. -/
theorem step_appN0 {w0 w : World} {ops : Array Oper} {o : Oper} {a : Act} {K : Act → World → Prop} {Q : Exit → Act → World → Prop} {E : Prop} (hgd : o.guard = none) (s x : Operand)
    (ho : o.op = .call { callee := .builtin .append, args := #[s, x], argTypes := #[38, 38] })
    (g : Nat) (hs : a.eval s = .slice (some ⟨g, 0, none⟩) 0 0) (hg : w.heap[g]? = some (.cells #[] 117 (0, 0))) (hBg : w0.heap.size ≤ g) (hb : Below w0.heap.size w0 w)
    (vx : Value) (us : List Nv) (hx : a.eval x = vx) (hr : ReadsK encN 4 w0.heap.size w0 vx us) (n : Nat) (hn : us.length = n) (hlen : us.length ≤ 137438953472)
    (h : ∀ ad cap w', MineK encN 4 117 w0.heap.size w0 w' (.slice ad n cap) us → KeepT 117 w w' → K (a.put o.dst (.slice ad n cap)) w') :
    if Region.wanted o (yielded ops a.tmps) = true then Oper.wp Tryz.prog o a w K Q else E := by
  subst hn
  have hw : Region.wanted o (yielded ops a.tmps) = true := by simp [Region.wanted, hgd]
  rw [if_pos hw]
  have hrow := empty_row (k := 4) hg hBg
  have hr' := hr.below hb (Nat.le_refl _)
  obtain ⟨i, hi, hz, hsize, hby⟩ := info_parts infoNd
  obtain ⟨ad, cap, rfl, h1, h2, h3, h4⟩ := id hr'
  cases ad with
  | none =>
    obtain ⟨rfl, _, rfl⟩ := hr'.nil
    have hrun := run_append_owned_none (P := Tryz.prog) (w := w) w0.heap.size 38 o.type 117 i 4 Tryz.underlying38 hi _ 0 _ hrow
    have h5 := h (some ⟨g, 0, none⟩) 0 w ⟨hrow, hb, hb.size⟩ (fun _ _ _ _ h => h)
    unfold Oper.wp
    have hx0 : a.eval x = .slice none 0 0 := by simpa using hx
    simp [execOp, ho, resolve, invoke, builtin, hs, hx0, hrun, Result.andThen]
    exact h5
  | some ad =>
    refine wp_append_own _ s x _ ho w0.heap.size _ i _ 4 64 Tryz.underlying38 hi hz hsize hby (by rfl) (by decide) _ 0 _ hs hrow ad us.length cap (us.flatMap encN) hx (flat_len encN_len us) (hr'.news encN_len) ?_ ?_ ?_ hb.size ?_
    · intro u hu
      obtain ⟨y, _, hy⟩ := List.mem_flatMap.1 hu
      exact encN_one y u hy
    · unfold maxLen; omega
    · omega
    · intro v' w' hown hgr hn
      rw [Nat.zero_add, List.nil_append] at hown
      have hM : MineK encN 4 117 w0.heap.size w0 w' v' us := ⟨hown, (OwnK.back (enc := encN) (k := 4) (xs := []) ⟨hrow, fun g hg => (hrow.lt g hg).2⟩ hb hb.size hgr), Nat.le_trans hb.size hgr.size⟩
      rcases hown.2 with ⟨e, h0⟩ | ⟨g', cap', cur, e, _⟩
      · subst e
        have := h none 0 w'
        rw [h0] at this
        exact this hM (keep_of hrow hgr)
      · subst e
        exact h _ _ w' hM (keep_of hrow hgr)
/-- append(new empty slice, numbers..) at a step of a drawn region. -/
theorem step_appI0 {w0 w : World} {ops : Array Oper} {o : Oper} {a : Act} {K : Act → World → Prop} {Q : Exit → Act → World → Prop} {E : Prop} (hgd : o.guard = none) (s x : Operand)
    (ho : o.op = .call { callee := .builtin .append, args := #[s, x], argTypes := #[39, 39] })
    (g : Nat) (hs : a.eval s = .slice (some ⟨g, 0, none⟩) 0 0) (hg : w.heap[g]? = some (.cells #[] 3 (0, 0))) (hBg : w0.heap.size ≤ g) (hb : Below w0.heap.size w0 w)
    (vx : Value) (ys : List Int) (hx : a.eval x = vx) (hr : Reads .i64 w0.heap.size w0 vx ys) (n : Nat) (hn : ys.length = n) (hlen : ys.length ≤ 17592186044416)
    (h : ∀ ad cap w', Mine .i64 3 w0.heap.size w0 w' (.slice ad n cap) ys → KeepT 3 w w' → K (a.put o.dst (.slice ad n cap)) w') :
    if Region.wanted o (yielded ops a.tmps) = true then Oper.wp Tryz.prog o a w K Q else E := by
  subst hn
  have hw : Region.wanted o (yielded ops a.tmps) = true := by simp [Region.wanted, hgd]
  rw [if_pos hw]
  have hrow := empty_row (k := 1) hg hBg
  have hr' := hr.below hb (Nat.le_refl _)
  obtain ⟨i, hi, hz, hsize, hby⟩ := info_parts infoInt
  obtain ⟨ad, cap, rfl, h1, h2, h3, h4⟩ := id hr'
  cases ad with
  | none =>
    obtain ⟨rfl, _, rfl⟩ := hr'.nil
    have hrun := run_append_owned_none (P := Tryz.prog) (w := w) w0.heap.size 39 o.type 3 i 1 Tryz.underlying39 hi _ 0 _ hrow
    have h5 := h (some ⟨g, 0, none⟩) 0 w ⟨hrow, hb, hb.size⟩ (fun _ _ _ _ h => h)
    unfold Oper.wp
    have hx0 : a.eval x = .slice none 0 0 := by simpa using hx
    simp [execOp, ho, resolve, invoke, builtin, hs, hx0, hrun, Result.andThen]
    exact h5
  | some ad =>
    refine wp_append_own _ s x _ ho w0.heap.size _ i _ 1 8 Tryz.underlying39 hi hz hsize hby (by rfl) (by decide) _ 0 _ hs hrow ad ys.length cap (ys.map (.int .i64)) hx (by simp) hr'.news (nums_oneCell _ _) ?_ ?_ hb.size ?_
    · unfold maxLen; omega
    · omega
    · intro v' w' hown hgr hn
      rw [Nat.zero_add, List.nil_append] at hown
      have hM : Mine .i64 3 w0.heap.size w0 w' v' ys := ⟨hown, (Own.back (k := .i64) (zs := []) ⟨hrow, fun g hg => (hrow.lt g hg).2⟩ hb hb.size hgr), Nat.le_trans hb.size hgr.size⟩
      rcases hown.2 with ⟨e, h0⟩ | ⟨g', cap', cur, e, _⟩
      · subst e
        have := h none 0 w'
        rw [h0] at this
        exact this hM (keep_of hrow hgr)
      · subst e
        exact h _ _ w' hM (keep_of hrow hgr)
theorem int_ne_bd : 3 ≠ 41 := by decide
abbrev zBd : Array Value := #[.slice none 0 0, .slice none 0 0]
theorem bx_both {w : World} {c : Nat} (h : w.heap[c]? = some (.cells zBd 41 (0, 0))) (u v : Value) : ((w.setCell ⟨c, 0, none⟩ u).setCell ⟨c, 1, none⟩ v).heap[c]? = some (.cells #[u, v] 41 (0, 0)) := (Box2.set0 h u).set1 v
theorem mk_st2 {w w' : World} {v u u' : Value} {xs : List Nv} {B c : Nat} (hb : w'.heap[c]? = some (.cells zBd 41 (0, 0))) (hB : B ≤ c) (h : MineK encN 4 117 B w w' v xs) : MineK encN 4 117 B w ((w'.setCell ⟨c, 0, none⟩ u).setCell ⟨c, 1, none⟩ u') v xs :=
  mk_st (Box2.set0 hb u) nd_ne_bd.1 hB (mk_st hb nd_ne_bd.1 hB h)
theorem mi_st2 {w w' : World} {v u u' : Value} {zs : List Int} {B c : Nat} (hb : w'.heap[c]? = some (.cells zBd 41 (0, 0))) (hB : B ≤ c) (h : Mine .i64 3 B w w' v zs) : Mine .i64 3 B w ((w'.setCell ⟨c, 0, none⟩ u).setCell ⟨c, 1, none⟩ u') v zs :=
  mi_st (Box2.set0 hb u) int_ne_bd hB (mi_st hb int_ne_bd hB h)

/-- A node's attributes are put in anew. -/
theorem put_attrs {B g n cap k : Nat} {w0 w : World} {vs rest : List Nv} {p : Nv} {s : Sv} (h : MineK encN 4 117 B w0 w (.slice (some ⟨g, 0, none⟩) n cap) (vs ++ p :: rest)) (hk : vs.length = k) :
    MineK encN 4 117 B w0 (w.setCell ⟨g, k * 4 + 3, none⟩ (sv s)) (.slice (some ⟨g, 0, none⟩) n cap) (vs ++ (p.1, s) :: rest) ∧ w.grownBy (w.setCell ⟨g, k * 4 + 3, none⟩ (sv s)) (some g) := by
  have hn : n = (vs ++ p :: rest).length := by
    rcases h.row.2 with ⟨e, _⟩ | ⟨g', cap', cur, e, _⟩
    · cases e
    · cases e; rfl
  subst hn
  have hst := h.row.stored (k * 4 + 3) (sv s)
  have e1 : ((vs ++ p :: rest).flatMap encN).set (k * 4 + 3) (sv s) = (vs ++ (p.1, s) :: rest).flatMap encN := by
    rw [List.flatMap_append, List.flatMap_append, List.flatMap_cons, List.flatMap_cons, List.set_append_right _ _ (by rw [flat_len encN_len, hk]; omega), flat_len encN_len, hk, show k * 4 + 3 - k * 4 = 3 by omega]
    rfl
  have hl : (vs ++ (p.1, s) :: rest).length = (vs ++ p :: rest).length := by simp
  refine ⟨⟨?_, h.below.trans (Below.setCell (Below.refl _ _) ?_ _), by rw [size_setC]; exact h.size⟩, hst.2⟩
  · rw [hl, ← e1]; exact hst.1
  · exact (h.row.lt g rfl).1
theorem row_at {B n cap k : Nat} {w0 w : World} {a : Option Addr} {us : List Nv} {p : Nv} (h : MineK encN 4 117 B w0 w (.slice a n cap) us) (hp : us[k]? = some p) :
    ∃ g, a = some ⟨g, 0, none⟩ ∧ g < w.heap.size ∧ B ≤ g ∧ w.cell? ⟨g, k * 4 + 3, none⟩ = some (sv p.2) ∧ w.frozen? ⟨g, k * 4 + 3, none⟩ = false := by
  have hlt := (List.getElem?_eq_some_iff.1 hp).1
  have hr := h.own.reads encN_len
  rcases h.row.2 with ⟨e, h0⟩ | ⟨g, cap', cur, e, hg, hh, hc, hm, _⟩
  · omega
  · cases e
    refine ⟨g, rfl, heap_lt hh, hg, ?_, box_frz hh _⟩
    have := hr.news encN_len (k * 4 + 3) (sv p.2) (by have := flat_at encN_len hp (show 3 < 4 by decide); simpa [encN] using this)
    rwa [add_off, Nat.zero_add] at this

set_option maxRecDepth 100000 in
set_option maxHeartbeats 16000000 in
theorem copy_impl (p : Nat) (nv ov : Value) (b : Bd) (w : World) (hb : BdIn w.heap.size w nv ov b) (hf : Fits b) (c0 : w.cell? ⟨p, 0, none⟩ = some nv) (c1 : w.cell? ⟨p, 1, none⟩ = some ov) (hp : p < w.heap.size) :
    Calls Tryz.prog 62 #[.pointer (some ⟨p, 0, none⟩)] w fun e w' => ∃ nv' ov', e = .returned (.agg #[nv', ov']) ∧ BdAt w.heap.size w w' nv' ov' b := by
  obtain ⟨ns, hns, hrn, hro⟩ := hb
  obtain ⟨na, nc, rfl, hn1, hn2⟩ := hrn.form
  obtain ⟨oa, oc, rfl, ho1, ho2⟩ := reads_form hro
  obtain ⟨n, hn⟩ : ∃ n, ns.length = n := ⟨_, rfl⟩
  obtain ⟨on, hon⟩ : ∃ n, b.opn.length = n := ⟨_, rfl⟩
  rw [hn] at hrn hn1 c0; rw [hon] at hro ho1 c1
  obtain ⟨W0, hW0⟩ : ∃ W, w.alloc (.cells #[.slice none 0 0, .slice none 0 0] 41) = W := ⟨_, rfl⟩
  have hB0 : Below w.heap.size w W0 := by rw [← hW0]; exact (Below.refl _ _).alloc (Nat.le_refl _) _
  have q2 : Box2 W0 w.heap.size (.slice none 0 0) (.slice none 0 0) := by rw [← hW0]; exact Box2.new _ _ _
  have hS0 : W0.heap.size = w.heap.size + 1 := by rw [← hW0, size_alloc]
  have hrn0 : ReadN W0.heap.size W0 (.slice na n nc) ns := (hrn.below hB0 (Nat.le_refl _)).mono hB0.size
  have hro0 : Reads .i64 W0.heap.size W0 (.slice oa on oc) b.opn := (hro.below hB0 (Nat.le_refl _)).mono hB0.size
  have hp0 : p < W0.heap.size := by omega
  replace c0 : W0.cell? ⟨p, 0, none⟩ = some (.slice na n nc) := (hB0.cell hp).trans c0
  replace c1 : W0.cell? ⟨p, 1, none⟩ = some (.slice oa on oc) := (hB0.cell hp).trans c1
  have KEEP := Lib.hid (fun (w' : World) (h : Below W0.heap.size W0 w') => show Below W0.heap.size W0 w' ∧ w'.cell? ⟨p, 0, none⟩ = some (.slice na n nc) ∧ w'.cell? ⟨p, 1, none⟩ = some (.slice oa on oc) from ⟨h, (h.cell hp0).trans c0, (h.cell hp0).trans c1⟩)
  have HLN := Lib.hid (show ns.length ≤ 137438953472 by have h2 := ndW_len b.nodes; have h3 := hf.1; rw [← hns, List.length_map, hns] at h2; omega)
  have HLO := Lib.hid (show b.opn.length ≤ 17592186044416 by have h3 := hf.2; omega)
  have HF := Lib.hid hf; have HNS := Lib.hid hns; have HN := Lib.hid hn; have HON := Lib.hid hon; have HRN := Lib.hid hrn0; have HRN1 := Lib.hid hrn0.1; have HRO := Lib.hid hro0; have HW0 := Lib.hid hW0; have Q2 := Lib.hid q2; have HB0 := Lib.hid hB0; have HS0 := Lib.hid hS0
  clear hf hns hn hon hrn hro hW0 q2 hB0 hrn0 hro0 hS0
  go_enter Tryz.func62, Tryz.ntmps62
  go_upto_region 1 with (fail)
  rw [HW0.out]
  go_cut [3] from 6 to 18 (fun c wx => ∃ C na' nc' oa' oc', c = .pointer (some ⟨C, 0, none⟩) ∧ Box2 wx C (.slice na' n nc') (.slice oa' on oc') ∧ W0.heap.size ≤ C ∧ MineK encN 4 117 W0.heap.size W0 wx (.slice na' n nc') ns ∧ Mine .i64 3 W0.heap.size W0 wx (.slice oa' on oc') b.opn)
  case first =>
    go_region_held3 (fun w' => Below W0.heap.size W0 w' ∧ w'.cell? ⟨p, 0, none⟩ = some (.slice na n nc) ∧ w'.cell? ⟨p, 1, none⟩ = some (.slice oa on oc))
      (exact KEEP.out _ (by (repeat' (first | (with_reducible exact Below.refl _ _) | (with_reducible exact hmI.below) | (with_reducible exact hmN.below) | (with_reducible refine below_dr ?_) | (with_reducible refine below_al ?_ _) | (with_reducible refine below_st ?_ (by first | omega | (have := hmI.below.size; omega) | (have := hmN.below.size; omega)) _)))))
      (first
      | (refine step_appN0 (w0 := W0) (by rfl) _ _ (by rfl) _ (by rfl) (by (repeat' (first | (with_reducible refine heap_dr ?_) | ((with_reducible refine heap_nw ?_); (first | (with_reducible rfl) | (simp only [size_alloc]; done))) | (with_reducible refine heap_al ?_ _) | (with_reducible refine heap_kp hkN (by decide) ?_) | (with_reducible refine heap_kp hkI (by decide) ?_)))) (by first | omega | (have := hmI.below.size; omega) | (have := hmN.below.size; omega)) (by (repeat' (first | (with_reducible exact Below.refl _ _) | (with_reducible exact hmI.below) | (with_reducible exact hmN.below) | (with_reducible refine below_dr ?_) | (with_reducible refine below_al ?_ _) | (with_reducible refine below_st ?_ (by first | omega | (have := hmI.below.size; omega) | (have := hmN.below.size; omega)) _)))) _ ns (by rfl) HRN1.out n HN.out HLN.out ?_; intro aN cN wN hmN hkN; (first | (refine lay_box (w := wN) (c := W0.heap.size) (x := .slice none 0 0) (y := .slice none 0 0) ?_ ?_; (focus (refine heap_kp hkN (by decide) ?_; (repeat' (first | (with_reducible refine heap_dr ?_) | ((with_reducible refine heap_nw ?_); (first | (with_reducible rfl) | (simp only [size_alloc]; done))) | (with_reducible refine heap_al ?_ _) | (with_reducible refine heap_kp hkN (by decide) ?_) | (with_reducible refine heap_kp hkI (by decide) ?_))))); intro x0 x1 x2 x3) | (refine lay_box (w := wN) (c := W0.heap.size + 1) (x := .slice none 0 0) (y := .slice none 0 0) ?_ ?_; (focus (refine heap_kp hkN (by decide) ?_; (repeat' (first | (with_reducible refine heap_dr ?_) | ((with_reducible refine heap_nw ?_); (first | (with_reducible rfl) | (simp only [size_alloc]; done))) | (with_reducible refine heap_al ?_ _) | (with_reducible refine heap_kp hkN (by decide) ?_) | (with_reducible refine heap_kp hkI (by decide) ?_))))); intro x0 x1 x2 x3) | (refine lay_box (w := wN) (c := W0.heap.size + 2) (x := .slice none 0 0) (y := .slice none 0 0) ?_ ?_; (focus (refine heap_kp hkN (by decide) ?_; (repeat' (first | (with_reducible refine heap_dr ?_) | ((with_reducible refine heap_nw ?_); (first | (with_reducible rfl) | (simp only [size_alloc]; done))) | (with_reducible refine heap_al ?_ _) | (with_reducible refine heap_kp hkN (by decide) ?_) | (with_reducible refine heap_kp hkI (by decide) ?_))))); intro x0 x1 x2 x3) | skip))
      | (refine step_appI0 (w0 := W0) (by rfl) _ _ (by rfl) _ (by rfl) (by (repeat' (first | (with_reducible refine heap_dr ?_) | ((with_reducible refine heap_nw ?_); (first | (with_reducible rfl) | (simp only [size_alloc]; done))) | (with_reducible refine heap_al ?_ _) | (with_reducible refine heap_kp hkN (by decide) ?_) | (with_reducible refine heap_kp hkI (by decide) ?_)))) (by first | omega | (have := hmI.below.size; omega) | (have := hmN.below.size; omega)) (by (repeat' (first | (with_reducible exact Below.refl _ _) | (with_reducible exact hmI.below) | (with_reducible exact hmN.below) | (with_reducible refine below_dr ?_) | (with_reducible refine below_al ?_ _) | (with_reducible refine below_st ?_ (by first | omega | (have := hmI.below.size; omega) | (have := hmN.below.size; omega)) _)))) _ b.opn (by rfl) HRO.out on HON.out HLO.out ?_; intro aI cI wI hmI hkI; (first | (refine lay_box (w := wI) (c := W0.heap.size) (x := .slice none 0 0) (y := .slice none 0 0) ?_ ?_; (focus (refine heap_kp hkI (by decide) ?_; (repeat' (first | (with_reducible refine heap_dr ?_) | ((with_reducible refine heap_nw ?_); (first | (with_reducible rfl) | (simp only [size_alloc]; done))) | (with_reducible refine heap_al ?_ _) | (with_reducible refine heap_kp hkN (by decide) ?_) | (with_reducible refine heap_kp hkI (by decide) ?_))))); intro x0 x1 x2 x3) | (refine lay_box (w := wI) (c := W0.heap.size + 1) (x := .slice none 0 0) (y := .slice none 0 0) ?_ ?_; (focus (refine heap_kp hkI (by decide) ?_; (repeat' (first | (with_reducible refine heap_dr ?_) | ((with_reducible refine heap_nw ?_); (first | (with_reducible rfl) | (simp only [size_alloc]; done))) | (with_reducible refine heap_al ?_ _) | (with_reducible refine heap_kp hkN (by decide) ?_) | (with_reducible refine heap_kp hkI (by decide) ?_))))); intro x0 x1 x2 x3) | (refine lay_box (w := wI) (c := W0.heap.size + 2) (x := .slice none 0 0) (y := .slice none 0 0) ?_ ?_; (focus (refine heap_kp hkI (by decide) ?_; (repeat' (first | (with_reducible refine heap_dr ?_) | ((with_reducible refine heap_nw ?_); (first | (with_reducible rfl) | (simp only [size_alloc]; done))) | (with_reducible refine heap_al ?_ _) | (with_reducible refine heap_kp hkN (by decide) ?_) | (with_reducible refine heap_kp hkI (by decide) ?_))))); intro x0 x1 x2 x3) | (refine lay_box (w := wI) (c := wN.heap.size) (x := .slice none 0 0) (y := .slice none 0 0) ?_ ?_; (focus (refine heap_kp hkI (by decide) ?_; (repeat' (first | (with_reducible refine heap_dr ?_) | ((with_reducible refine heap_nw ?_); (first | (with_reducible rfl) | (simp only [size_alloc]; done))) | (with_reducible refine heap_al ?_ _) | (with_reducible refine heap_kp hkN (by decide) ?_) | (with_reducible refine heap_kp hkI (by decide) ?_))))); intro x0 x1 x2 x3) | (refine lay_box (w := wI) (c := wN.heap.size + 1) (x := .slice none 0 0) (y := .slice none 0 0) ?_ ?_; (focus (refine heap_kp hkI (by decide) ?_; (repeat' (first | (with_reducible refine heap_dr ?_) | ((with_reducible refine heap_nw ?_); (first | (with_reducible rfl) | (simp only [size_alloc]; done))) | (with_reducible refine heap_al ?_ _) | (with_reducible refine heap_kp hkN (by decide) ?_) | (with_reducible refine heap_kp hkI (by decide) ?_))))); intro x0 x1 x2 x3) | skip)))
    all_goals
      go_wp2_with fail
      go_meet
      refine ⟨_, aN, cN, aI, cI, rfl, ?_, ?_, ?_, ?_⟩
      · unfold Box2
        first | ((with_reducible refine bx_both ?_ _ _); repeat' (first | (with_reducible refine heap_dr ?_) | ((with_reducible refine heap_nw ?_); (first | (with_reducible rfl) | (simp only [size_alloc]; done))) | (with_reducible refine heap_al ?_ _) | (with_reducible refine heap_kp hkN (by decide) ?_) | (with_reducible refine heap_kp hkI (by decide) ?_))) | (repeat' (first | (with_reducible refine heap_dr ?_) | ((with_reducible refine heap_nw ?_); (first | (with_reducible rfl) | (simp only [size_alloc]; done))) | (with_reducible refine heap_al ?_ _) | (with_reducible refine heap_kp hkN (by decide) ?_) | (with_reducible refine heap_kp hkI (by decide) ?_)))
      · first | omega | (have := hmI.below.size; omega) | (have := hmN.below.size; omega)
      · repeat' (first | (with_reducible exact hmN) | (with_reducible refine mk_dr ?_) | (with_reducible refine mk_al ?_ _) | (with_reducible refine mk_st2 (by repeat' (first | (with_reducible refine heap_dr ?_) | ((with_reducible refine heap_nw ?_); (first | (with_reducible rfl) | (simp only [size_alloc]; done))) | (with_reducible refine heap_al ?_ _) | (with_reducible refine heap_kp hkN (by decide) ?_) | (with_reducible refine heap_kp hkI (by decide) ?_))) (by first | omega | (have := hmI.below.size; omega) | (have := hmN.below.size; omega)) ?_) | (with_reducible refine mk_kp hkI (by decide) hmI.below ?_))
      · repeat' (first | (with_reducible exact hmI) | (with_reducible refine mi_dr ?_) | (with_reducible refine mi_al ?_ _) | (with_reducible refine mi_st2 (by repeat' (first | (with_reducible refine heap_dr ?_) | ((with_reducible refine heap_nw ?_); (first | (with_reducible rfl) | (simp only [size_alloc]; done))) | (with_reducible refine heap_al ?_ _) | (with_reducible refine heap_kp hkN (by decide) ?_) | (with_reducible refine heap_kp hkI (by decide) ?_))) (by first | omega | (have := hmI.below.size; omega) | (have := hmN.below.size; omega)) ?_))
  obtain ⟨C, na2, nc2, oa2, oc2, rfl, hq3, hC, hmN, hmI⟩ := hcut
  have HC := Lib.hid hC; have HMN := Lib.hid hmN; have HMI := Lib.hid hmI; have HQ3 := Lib.hid hq3
  have q3a := hq3.cells.1.1
  clear hC hmN hmI hq3 c0 c1 KEEP
  go_wp2_with fail
  go_loopw [22] (fun i wr => ∃ (k : Nat) (vs : List Nv), k ≤ n ∧ i = .int .i64 k ∧ vs.length = k ∧ vs.map Prod.fst = b.nodes.take k ∧ Box2 wr C (.slice na2 n nc2) (.slice oa2 on oc2) ∧ MineK encN 4 117 W0.heap.size W0 wr (.slice na2 n nc2) (vs ++ ns.drop k) ∧ (∀ q ∈ vs, OwnK encA 2 178 W0.heap.size wr.heap.size wr (sv q.2) q.1.attrs) ∧ (insN vs).Nodup ∧ Mine .i64 3 W0.heap.size W0 wr (.slice oa2 on oc2) b.opn)
    (fun i _ => n - (intOf i).toNat)
  case atStart => exact ⟨0, [], Nat.zero_le _, rfl, rfl, rfl, HQ3.out, by simpa using HMN.out, fun q hq => absurd hq (List.not_mem_nil), List.nodup_nil, HMI.out⟩
  case round =>
    obtain ⟨k, vs, hk, rfl, hvl, hvm, hq, hm, hin, hnd, hmi⟩ := hrel
    have HVL := Lib.hid hvl; have HVM := Lib.hid hvm; have HQ := Lib.hid hq; have HM := Lib.hid hm; have HIN := Lib.hid hin; have HND := Lib.hid hnd; have HMI2 := Lib.hid hmi
    have d0 := hq.cells.1.1; have d1 := hq.cells.1.2
    have bC := hq.lt
    clear hvl hvm hq hm hin hnd hmi
    by_cases hlt : (k : Int) < (n : Int)
    · obtain ⟨p, hp⟩ := nd_at (ns := ns) (k := k) (by rw [HN.out]; omega)
      have hdr : ns.drop k = p :: ns.drop (k + 1) := dropL_at hp
      have hm := HM.out
      rw [hdr] at hm
      have hp2 : (vs ++ p :: ns.drop (k + 1))[k]? = some p := by rw [List.getElem?_append_right (by rw [HVL.out]; exact Nat.le_refl _), HVL.out, Nat.sub_self]; rfl
      obtain ⟨g, rfl, hgl, hgB, cg, fg⟩ := row_at hm hp2
      have HM2 := Lib.hid hm
      have HPM := Lib.hid ((HRN.out.2 p (List.mem_of_getElem? hp)).below HM.out.below (Nat.le_refl _))
      have hpn := map_fst_at HNS.out hp
      have HAL := Lib.hid (show p.1.attrs.length ≤ 68719476736 by have := ndW_at (List.mem_of_getElem? hpn); have := HF.out.1; omega)
      have HPN := Lib.hid hpn
      have HNA := Lib.hid (nodeAt_in C g 0 n nc2 k wr d0 (by omega) (by omega))
      obtain ⟨⟨at0, sa, sn, sc⟩, rfl⟩ : ∃ q : Nv, p = q := ⟨p, rfl⟩
      replace cg : _ = some (Value.slice sa sn sc) := cg
      clear hp hdr hm hp2 hpn
      go_wp2_with (go_at_call 67; refine HNA.out.mono ?_; rintro e w' ⟨rfl, rfl⟩)
      refine (cpA_impl _ W0.heap.size at0.attrs _ HPM.out (HM.out.below.size) (by have := HAL.out; omega)).mono ?_
      rintro e w3 ⟨v3, rfl, ho3, hb3⟩
      obtain ⟨⟨xa, xn, xc⟩, rfl⟩ := ho3.sv
      have HB3 := Lib.hid hb3; have HO3 := Lib.hid ho3
      have hm3 := HM2.out.later hb3
      have hput := put_attrs (s := (xa, xn, xc)) hm3 HVL.out
      have hkp := keep_of hm3.row hput.2
      have HM3 := Lib.hid hput.1
      have HQ3' := Lib.hid ((HQ.out.later hb3).keep hkp bd_ne.1)
      have HMI3 := Lib.hid (mi_kp hkp int_ne.2.1 hput.1.below (HMI2.out.later hb3))
      have hsz : w3.heap.size = (w3.setCell ⟨g, k * 4 + 3, none⟩ (sv (xa, xn, xc))).heap.size := (size_setC _ _ _).symm
      have HIN3 := Lib.hid (show ∀ q ∈ vs ++ [((at0, xa, xn, xc) : Nv)], OwnK encA 2 178 W0.heap.size (w3.setCell ⟨g, k * 4 + 3, none⟩ (sv (xa, xn, xc))).heap.size (w3.setCell ⟨g, k * 4 + 3, none⟩ (sv (xa, xn, xc))) (sv q.2) q.1.attrs from fun q hq => by
        rw [← hsz]
        have hall : OwnK encA 2 178 W0.heap.size w3.heap.size w3 (sv q.2) q.1.attrs := by
          rcases List.mem_append.1 hq with h | h
          · exact ((HIN.out q h).later hb3).mono (Nat.le_refl _) hb3.size
          · rw [List.mem_singleton] at h; subst h
            exact ho3.mono (HM.out.below.size) (Nat.le_refl _)
        exact ⟨hall.1.kept hput.2 (kept_ne hm3.row hall.1 nd_ne_at), hall.2⟩)
      have HND3 := Lib.hid (show (insN (vs ++ [((at0, xa, xn, xc) : Nv)])).Nodup from by
        rw [insN_append]
        refine List.nodup_append.2 ⟨HND.out, by unfold insN; cases hv : (sv (xa, xn, xc)).ownBlock <;> simp [hv], fun a ha c hc e => ?_⟩
        obtain ⟨q, hq, hqb⟩ := insN_mem.1 ha
        have h1 := ((HIN.out q hq).lt a hqb).2
        obtain ⟨p, hp, hpb⟩ := insN_mem.1 hc
        rw [List.mem_singleton] at hp; subst hp
        have h2 := (ho3.lt c hpb).1
        omega)
      have HVM3 := Lib.hid (show (vs ++ [((at0, xa, xn, xc) : Nv)]).map Prod.fst = b.nodes.take (k + 1) by rw [List.map_append, HVM.out, take_moreN HPN.out]; rfl)
      have cg3 : w3.cell? ⟨g, k * 4 + 3, none⟩ = some (.slice sa sn sc) := (hb3.cell hgl).trans cg
      have fg3 : w3.frozen? ⟨g, k * 4 + 3, none⟩ = false := by
        obtain ⟨g', e, _, _, _, hf⟩ := row_at hm3 (k := k) (p := (at0, sa, sn, sc)) (by rw [List.getElem?_append_right (by rw [HVL.out]; exact Nat.le_refl _), HVL.out, Nat.sub_self]; rfl)
        cases e; exact hf
      have hgl3 : g < w3.heap.size := Nat.lt_of_lt_of_le hgl hb3.size
      clear hm3 hput hkp hsz hb3 ho3
      rw [show sv (xa, xn, xc) = Value.slice xa xn xc from rfl]
      go_wp2_with fail
      go_roundw
      case rel => exact ⟨k + 1, vs ++ [((at0, xa, xn, xc) : Nv)], by omega, by go_num, by rw [List.length_append, HVL.out]; rfl, HVM3.out, HQ3'.out, by rw [List.append_assoc]; exact HM3.out, HIN3.out, HND3.out, HMI3.out⟩
      case measure => simp [intOf]; omega
    · have hkn : k = n := by omega
      subst hkn
      have hbb := HM.out.below
      have hq2 : Box2 wr w.heap.size (.slice none 0 0) (.slice none 0 0) := Q2.out.below hbb (by rw [HS0.out]; omega)
      have hvs : vs ++ ns.drop k = vs := by rw [List.drop_of_length_le (by rw [HN.out]; exact Nat.le_refl _), List.append_nil]
      have hmm := HM.out
      rw [hvs] at hmm
      have hbd : BdM W0.heap.size W0 wr (.slice na2 k nc2) (.slice oa2 on oc2) vs b.opn := ⟨⟨hmm, HIN.out, HND.out⟩, HMI2.out⟩
      have hbd2 := hbd.down (HB0.out.trans (hbb.mono HB0.out.size)) HB0.out.size
      have HO := Lib.hid (show Box2 ((wr.setCell ⟨w.heap.size, 0, none⟩ (.slice na2 k nc2)).setCell ⟨w.heap.size, 1, none⟩ (.slice oa2 on oc2)) w.heap.size (.slice na2 k nc2) (.slice oa2 on oc2) from (hq2.set0 _).set1 _)
      have HO2 := Lib.hid ((hbd2.setT (u := .slice na2 k nc2) (o := 0) hq2 (Nat.le_refl _)).setT (u := .slice oa2 on oc2) (o := 1) (hq2.set0 _) (Nat.le_refl _))
      have HVF := Lib.hid (show vs.map Prod.fst = b.nodes by rw [HVM.out, List.take_of_length_le]; have h1 := congrArg List.length HNS.out; rw [List.length_map, HN.out] at h1; omega)
      obtain ⟨⟨e0, e1⟩, f0, f1⟩ := hq2.cells
      have bH := hq2.lt
      clear hbb hq2 hvs hmm hbd hbd2
      go_wp2_with fail
      obtain ⟨⟨r0, r1⟩, _⟩ := HO.out.cells
      refine bodyPost_ret (v := .agg #[.slice na2 k nc2, .slice oa2 on oc2]) (by simp [results, Tryz.results62, go_sem, r0, r1]) rfl ?_
      exact ⟨_, _, rfl, HO2.out.at HVF.out⟩

end Go.Proofs.YtpkicliimhflgaaGreatDoor
namespace Go.Proofs.YtpkicliimhflgaaGreatDoor
open Go.ChangeShapes Go.WideShapes Go.ChangeAt Go.RowKit

/-- The nodes behind a line. -/
def rlN (l : List Nd) (op : Int) (tx : ByteArray) : List Nd := if op = 2 ∧ 1 ≤ l.length ∧ l.length ≤ 39 ∧ isNm tx = true then l ++ [⟨tx, ⟨#[]⟩, 0, []⟩] else l
theorem nsL_map {ns : List Nv} {l : List Nd} (h : ns.map Prod.fst = l) (op : Int) (tx : ByteArray) : (nsL ns op tx).map Prod.fst = rlN l op tx := by
  have hl : l.length = ns.length := by rw [← h, List.length_map]
  unfold nsL rlN addN
  by_cases h2 : op = 2
  · rw [if_pos h2]
    by_cases h3 : 1 ≤ ns.length ∧ ns.length ≤ 39 ∧ isNm tx = true
    · rw [if_pos h3, if_pos ⟨h2, by rw [hl]; exact h3.1, by rw [hl]; exact h3.2.1, h3.2.2⟩, List.map_append, h]; rfl
    · rw [if_neg h3, if_neg (by rintro ⟨_, a, b, c⟩; rw [hl] at a b; exact h3 ⟨a, b, c⟩)]; exact h
  · rw [if_neg h2, if_neg (fun h => h2 h.1)]; exact h
/-- What RunLine answers. -/
def RlOut (b : Bd) (rs : List Ru) (op : Int) (tx : ByteArray) (w : World) (e : Ending) (w' : World) : Prop :=
  ∃ nv' ov' ns', e = .returned (.tuple #[.agg #[nv', ov'], .string (wrtS op tx), .string (lgdS b.nodes rs op tx)]) ∧ ns'.map Prod.fst = rlN b.nodes op tx ∧ BdM w.heap.size w w' nv' ov' ns' b.opn

set_option maxRecDepth 100000 in
set_option maxHeartbeats 4000000 in
theorem runLine_impl (op : Int) (tx : ByteArray) (v : Value) (ss : List Shv) (nv ov : Value) (b : Bd) (hx : tx.size ≤ 1048576) (w : World) (hb : BdIn w.heap.size w nv ov b) (hfit : Fits b) (hs : ReadH w.heap.size w v ss) (hf : ShFit ss) (hm : Max0 w) (htab : Lib.TabIs Tryz.prog w "internal/strconv.uint64pow10" .u64 Lib.pow10Tab) :
    Calls Tryz.prog 18 #[.agg #[nv, ov], v, .agg #[.int .i64 op, .string tx]] w (RlOut b (flatR ss) op tx w) := by
  have HM := Lib.hid hm; have HT := Lib.hid (Lib.tabBelow_of_tabIs htab); clear hm htab
  obtain ⟨W0, hW0⟩ : ∃ W, ((w.alloc (.cells #[nv, ov] 41)).alloc (.cells #[.int .i64 op, .string tx] 51)).alloc (.cells #[.slice none 0 0, .slice none 0 0] 41) = W := ⟨_, rfl⟩
  have HB := Lib.hid (show Below w.heap.size w W0 by rw [← hW0]; exact bl_aw (bl_aw (bl_aw (Below.refl _ _) _) _) _)
  have XB := Lib.hid (show Box2 W0 w.heap.size nv ov by rw [← hW0]; exact box3_0 _ _ _ _)
  have XL := Lib.hid (show W0.heap[w.heap.size + 1]? = some (.cells #[.int .i64 op, .string tx] 51 (0, 0)) by rw [← hW0]; exact box3_1 _ _ _ _)
  have XR := Lib.hid (show Box2 W0 (w.heap.size + 1 + 1) (.slice none 0 0) (.slice none 0 0) by rw [← hW0]; exact box3_2 _ _ _ _)
  have HW0 := Lib.hid hW0; clear hW0
  have HBI := Lib.hid (hb.up HB.out); have HRH := Lib.hid (hs.up HB.out); have hNL := hfit.1; have hnl := ndW_len b.nodes; clear hb hs
  have HCP := Lib.hid (copy_impl w.heap.size nv ov b W0 HBI.out hfit XB.out.cells.1.1 XB.out.cells.1.2 XB.out.lt)
  go_enter Tryz.func18, Tryz.ntmps18
  go_wp2_with fail
  rw [HW0.out]
  refine HCP.out.mono ?_
  rintro e w1 ⟨nv1, ov1, rfl, hat⟩
  clear HCP
  obtain ⟨ns, hns, hmn, hmo⟩ := hat
  have hbm : BdM W0.heap.size W0 w1 nv1 ov1 ns b.opn := ⟨hmn, hmo⟩
  have hb1 : Below W0.heap.size W0 w1 := hmo.below
  obtain ⟨na1, nc1, rfl⟩ := mineN_form hmn
  obtain ⟨oa1, oc1, rfl⟩ := mine_form hmo
  obtain ⟨n1, hn1⟩ : ∃ n, ns.length = n := ⟨_, rfl⟩
  obtain ⟨o1, ho1⟩ : ∃ n, b.opn.length = n := ⟨_, rfl⟩
  rw [hn1, ho1] at hbm; rw [hn1, ho1]
  have hlen0 : ns.length = b.nodes.length := by rw [← hns, List.length_map]
  have hlen : ns.length ≤ 68719476736 := by omega
  clear hlen0
  replace HB := Lib.hid (HB.out.trans (hb1.mono HB.out.size))
  have hdn := hbm.down HB.out (show w.heap.size ≤ W0.heap.size from by have := heap_lt XL.out; omega)
  replace XL := Lib.hid (below_heap hb1 (heap_lt XL.out) XL.out); replace XR := Lib.hid (XR.out.later hb1); replace HRH := Lib.hid (HRH.out.up hb1)
  have HNS := Lib.hid hns; have HLN := Lib.hid hlen; have HBM := Lib.hid hdn; clear hmn hmo hbm hb1 hdn hn1 ho1 hns hlen hNL hnl HBI XB
  obtain ⟨W1, hW1⟩ : ∃ W, w1.alloc (.cells #[.slice na1 n1 nc1, .slice oa1 o1 oc1] 41) = W := ⟨_, rfl⟩
  have hb2 : Below w1.heap.size w1 W1 := by rw [← hW1]; exact bl_aw (Below.refl _ _) _
  have XC := Lib.hid (show Box2 W1 w1.heap.size (.slice na1 n1 nc1) (.slice oa1 o1 oc1) by rw [← hW1]; exact Box2.new _ _ _)
  have PRC := Lib.hid XR.out.lt
  replace XL := Lib.hid (below_heap hb2 (heap_lt XL.out) XL.out); replace XR := Lib.hid (XR.out.later hb2); replace HRH := Lib.hid (HRH.out.up hb2); replace HBM := Lib.hid (HBM.out.later hb2); replace HB := Lib.hid (HB.out.trans (hb2.mono HB.out.size)); have HW1 := Lib.hid hW1; clear hb2 hW1
  have HRL := Lib.hid (runL_any op tx v ss (zs := b.opn) b HNS.out rfl hx XC.out (show w.heap.size ≤ w1.heap.size from by have := PRC.out; omega) HBM.out HLN.out HRH.out hf (HM.out.on HB.out) (HT.out _ HB.out))
  go_upto_region 2 with (fail)
  rw [HW1.out]
  have y0 := box_cell XL.out (j := 0) rfl; have y1 := box_cell XL.out (j := 1) rfl
  go_wp2_with fail
  clear y0 y1
  refine HRL.out.mono ?_
  rintro e w2 ⟨rfl, nv2, ov2, hq2, hu2, hd2, -⟩
  clear HRL
  have XR2 := Lib.hid (hu2 _ _ _ (show w.heap.size + 1 + 1 ≠ w1.heap.size from by have := PRC.out; omega) XR.out)
  obtain ⟨na2, nc2, rfl⟩ := mineN_form hd2.n
  obtain ⟨oa2, oc2, rfl⟩ := mine_form hd2.o
  have HD := Lib.hid hd2; have HQ := Lib.hid hq2; clear hd2 hq2 hu2
  obtain ⟨m2, hm2⟩ : ∃ n, (nsL ns op tx).length = n := ⟨_, rfl⟩
  obtain ⟨o2, ho2⟩ : ∃ n, b.opn.length = n := ⟨_, rfl⟩
  rw [hm2, ho2] at HD HQ; clear hm2 ho2
  obtain ⟨⟨q0, q1⟩, -, -⟩ := HQ.out.cells
  obtain ⟨⟨r0, r1⟩, f0, f1⟩ := XR2.out.cells
  have lt := PRC.out
  go_wp2_with fail
  clear q0 q1 r0 r1 f0 f1 lt
  obtain ⟨w9, hw9⟩ : ∃ x, (w2.setCell ⟨w.heap.size + 1 + 1, 0, none⟩ (.slice na2 m2 nc2)).setCell ⟨w.heap.size + 1 + 1, 1, none⟩ (.slice oa2 o2 oc2) = x := ⟨_, rfl⟩
  rw [hw9]
  have hX := (XR2.out.set0 (.slice na2 m2 nc2)).set1 (.slice oa2 o2 oc2)
  have hD := (HD.out.setT (o := 0) (u := .slice na2 m2 nc2) XR2.out (show w.heap.size ≤ w.heap.size + 1 + 1 by omega)).setT (o := 1) (u := .slice oa2 o2 oc2) (XR2.out.set0 _) (show w.heap.size ≤ w.heap.size + 1 + 1 by omega)
  rw [hw9] at hX hD
  obtain ⟨⟨r0, r1⟩, -, -⟩ := hX.cells
  refine bodyPost_ret (v := .tuple #[.agg #[.slice na2 m2 nc2, .slice oa2 o2 oc2], .string (wrtS op tx), .string (lgdS b.nodes (flatR ss) op tx)]) (by simp [results, Tryz.results18, go_sem, r0, r1]) rfl ?_
  exact ⟨_, _, _, rfl, nsL_map HNS.out op tx, hD⟩

end Go.Proofs.YtpkicliimhflgaaGreatDoor
namespace Go.Proofs.YtpkicliimhflgaaGreatDoor
open Go.ChangeShapes Go.WideShapes Go.ChangeAt Go.RowKit

theorem frm_3 (tx : ByteArray) : frmS (3, tx) = ⟨#[99, 111, 117, 110, 116, 32]⟩ ++ tx := by
  rw [frmS_yes (frm_yes (x := (3, tx)) (show (1 : Int) ≤ 3 ∧ (3 : Int) ≤ 5 from by decide))]
  show wd 3 ++ sp ++ tx = _
  rw [show wd 3 ++ sp = ⟨#[99, 111, 117, 110, 116, 32]⟩ from by first | rfl | decide | kernel_rfl]
theorem frm_4 (tx : ByteArray) : frmS (4, tx) = ⟨#[108, 111, 111, 107, 32]⟩ ++ tx := by
  rw [frmS_yes (frm_yes (x := (4, tx)) (show (1 : Int) ≤ 4 ∧ (4 : Int) ≤ 5 from by decide))]
  show wd 4 ++ sp ++ tx = _
  rw [show wd 4 ++ sp = ⟨#[108, 111, 111, 107, 32]⟩ from by first | rfl | decide | kernel_rfl]
theorem frm_5 (tx : ByteArray) : frmS (5, tx) = ⟨#[115, 97, 121, 32]⟩ ++ tx := by
  rw [frmS_yes (frm_yes (x := (5, tx)) (show (1 : Int) ≤ 5 ∧ (5 : Int) ≤ 5 from by decide))]
  show wd 5 ++ sp ++ tx = _
  rw [show wd 5 ++ sp = ⟨#[115, 97, 121, 32]⟩ from by first | rfl | decide | kernel_rfl]

set_option maxRecDepth 100000 in
set_option maxHeartbeats 4000000 in
theorem rls_write (tx : ByteArray) (v : Value) (ss : List Shv) (nv ov : Value) (b : Bd) (hx : tx.size ≤ 1048576) (w : World) (hb : BdIn w.heap.size w nv ov b) (hfit : Fits b) (hs : ReadH w.heap.size w v ss) :
    Calls Tryz.prog 23 #[.agg #[nv, ov], v, .agg #[.int .i64 1, .string tx]] w (RlOut b (flatR ss) 1 tx w) := by
  obtain ⟨nsb, hnsb, hrn, hro⟩ := hb
  obtain ⟨na, nc, rfl, hq1, hq2⟩ := hrn.form
  obtain ⟨oa, oc, rfl, -⟩ := reads_form hro
  have hbd : BdIn w.heap.size w (.slice na nsb.length nc) (.slice oa b.opn.length oc) b := ⟨nsb, hnsb, hrn, hro⟩
  have hlb : nsb.length = b.nodes.length := by rw [← hnsb, List.length_map]
  obtain ⟨n, hn⟩ : ∃ n, nsb.length = n := ⟨_, rfl⟩
  obtain ⟨on, hon⟩ : ∃ n, b.opn.length = n := ⟨_, rfl⟩
  rw [hn, hon] at hbd; rw [hn] at hlb; rw [hn, hon]; have HLB := Lib.hid hlb; clear hrn hro hnsb hn hq1 hq2 hon hlb
  obtain ⟨W0, hW0⟩ : ∃ W, ((w.alloc (.cells #[.slice na n nc, .slice oa on oc] 41)).alloc (.cells #[.int .i64 1, .string tx] 51)).alloc (.cells #[.slice none 0 0, .slice none 0 0] 41) = W := ⟨_, rfl⟩
  have HB := Lib.hid (show Below w.heap.size w W0 by rw [← hW0]; exact bl_aw (bl_aw (bl_aw (Below.refl _ _) _) _) _)
  have XB := Lib.hid (show Box2 W0 w.heap.size (.slice na n nc) (.slice oa on oc) by rw [← hW0]; exact box3_0 _ _ _ _)
  have XL := Lib.hid (show W0.heap[w.heap.size + 1]? = some (.cells #[.int .i64 1, .string tx] 51 (0, 0)) by rw [← hW0]; exact box3_1 _ _ _ _)
  have XR := Lib.hid (show Box2 W0 (w.heap.size + 1 + 1) (.slice none 0 0) (.slice none 0 0) by rw [← hW0]; exact box3_2 _ _ _ _)
  have HW0 := Lib.hid hW0; clear hW0
  have HBI := Lib.hid (hbd.up HB.out); have HRH := Lib.hid (hs.up HB.out); have hNL := hfit.1; have hnl := ndW_len b.nodes; clear hbd hs
  have HCP := Lib.hid (copy_spec _ _ b W0 HBI.out hfit)
  obtain ⟨⟨y0, y1⟩, -, -⟩ := XB.out.cells
  go_enter Tryz.func23, Tryz.ntmps23
  go_wp2_with fail
  rw [HW0.out]
  clear y0 y1
  refine HCP.out.mono ?_
  rintro e w1 ⟨nv1, ov1, rfl, hat⟩
  clear HCP
  obtain ⟨ns, hns, hmn, hmo⟩ := hat
  have hbm : BdM W0.heap.size W0 w1 nv1 ov1 ns b.opn := ⟨hmn, hmo⟩
  have hb1 : Below W0.heap.size W0 w1 := hmo.below
  obtain ⟨na1, nc1, rfl⟩ := mineN_form hmn
  obtain ⟨oa1, oc1, rfl⟩ := mine_form hmo
  obtain ⟨n1, hn1⟩ : ∃ n, ns.length = n := ⟨_, rfl⟩
  obtain ⟨o1, ho1⟩ : ∃ n, b.opn.length = n := ⟨_, rfl⟩
  rw [hn1, ho1] at hbm; rw [hn1, ho1]
  have hlen0 : ns.length = b.nodes.length := by rw [← hns, List.length_map]
  have hlen : ns.length ≤ 68719476736 := by omega
  have hnn : n1 = n := by have := HLB.out; omega
  clear hlen0
  replace HB := Lib.hid (HB.out.trans (hb1.mono HB.out.size))
  have hdn := hbm.down HB.out (show w.heap.size ≤ W0.heap.size from by have := heap_lt XL.out; omega)
  replace XL := Lib.hid (below_heap hb1 (heap_lt XL.out) XL.out); replace XR := Lib.hid (XR.out.later hb1); replace XB := Lib.hid (XB.out.later hb1); replace HRH := Lib.hid (HRH.out.up hb1); replace HBI := Lib.hid (HBI.out.up hb1)
  have HNS := Lib.hid hns; have HLN := Lib.hid hlen; have HBM := Lib.hid hdn; have HN1 := Lib.hid hn1; have HNN := Lib.hid hnn; have HNL := Lib.hid (show b.nodes.length ≤ 68719476736 by omega); clear hmn hmo hbm hb1 hdn hn1 ho1 hns hlen hNL hnl hnn
  obtain ⟨W1, hW1⟩ : ∃ W, w1.alloc (.cells #[.slice na1 n1 nc1, .slice oa1 o1 oc1] 41) = W := ⟨_, rfl⟩
  have hb2 : Below w1.heap.size w1 W1 := by rw [← hW1]; exact bl_aw (Below.refl _ _) _
  have XC := Lib.hid (show Box2 W1 w1.heap.size (.slice na1 n1 nc1) (.slice oa1 o1 oc1) by rw [← hW1]; exact Box2.new _ _ _)
  have PRC := Lib.hid XR.out.lt
  replace XL := Lib.hid (below_heap hb2 (heap_lt XL.out) XL.out); replace XR := Lib.hid (XR.out.later hb2); replace XB := Lib.hid (XB.out.later hb2); replace HRH := Lib.hid (HRH.out.up hb2); replace HBI := Lib.hid (HBI.out.up hb2); replace HBM := Lib.hid (HBM.out.later hb2); replace HB := Lib.hid (HB.out.trans (hb2.mono HB.out.size)); have HW1 := Lib.hid hW1; clear hb2 hW1
  go_upto_region 2 with (fail)
  rw [HW1.out]
  obtain ⟨C, hC⟩ : ∃ c, w1.heap.size = c := ⟨_, rfl⟩
  rw [hC] at XC PRC; try simp only [hC]
  clear hC
  obtain ⟨⟨c0, c1⟩, -, -⟩ := XC.out.cells; obtain ⟨⟨b0, b1⟩, -, -⟩ := XB.out.cells; obtain ⟨⟨r0, r1⟩, f0, f1⟩ := XR.out.cells; have l0 := box_cell XL.out (j := 0) rfl; have l1 := box_cell XL.out (j := 1) rfl
  have lt := PRC.out
  go_upto_region 4 with (fail)
  go_region_with (first | (go_at_call 69; refine (markup_spec tx (by omega) (World.drew W1)).mono ?_; rintro e wA ⟨rfl, hbA⟩; have kA := ((Below.refl W1.heap.size W1).drew).trans hbA; have XCA := XC.out.later kA; have XBA := XB.out.later kA; have XRA := XR.out.later kA; have XLA := below_heap kA (heap_lt XL.out) XL.out; obtain ⟨⟨c0A, c1A⟩, -, -⟩ := XCA.cells; obtain ⟨⟨b0A, b1A⟩, -, -⟩ := XBA.cells; obtain ⟨⟨r0A, r1A⟩, f0A, f1A⟩ := XRA.cells; have l0A := box_cell XLA (j := 0) rfl; have l1A := box_cell XLA (j := 1) rfl))
  all_goals
    obtain ⟨w9, hw9⟩ : ∃ x, (wA.setCell ⟨w.heap.size + 1 + 1, 0, none⟩ (.slice na1 n1 nc1)).setCell ⟨w.heap.size + 1 + 1, 1, none⟩ (.slice oa1 o1 oc1) = x := ⟨_, rfl⟩
    rw [hw9]
    have hX := (XRA.set0 (.slice na1 n1 nc1)).set1 (.slice oa1 o1 oc1)
    have hD := ((HBM.out.later kA).setT (o := 0) (u := .slice na1 n1 nc1) XRA (show w.heap.size ≤ w.heap.size + 1 + 1 by omega)).setT (o := 1) (u := .slice oa1 o1 oc1) (XRA.set0 _) (show w.heap.size ≤ w.heap.size + 1 + 1 by omega)
    rw [hw9] at hX hD
    obtain ⟨⟨p0, p1⟩, -, -⟩ := hX.cells
    go_wp2_with fail
    refine bodyPost_ret (v := .tuple #[.agg #[.slice na1 n1 nc1, .slice oa1 o1 oc1], .string (mkU tx), .string ⟨#[]⟩]) (by simp [results, Tryz.results23, go_sem, p0, p1]) rfl ?_
    exact ⟨_, _, ns, rfl, by unfold rlN; rw [if_neg (by omega)]; exact HNS.out, hD⟩

set_option maxRecDepth 100000 in
set_option maxHeartbeats 4000000 in
theorem rls_say (tx : ByteArray) (v : Value) (ss : List Shv) (nv ov : Value) (b : Bd) (hx : tx.size ≤ 1048576) (w : World) (hb : BdIn w.heap.size w nv ov b) (hfit : Fits b) (hs : ReadH w.heap.size w v ss) :
    Calls Tryz.prog 23 #[.agg #[nv, ov], v, .agg #[.int .i64 5, .string tx]] w (RlOut b (flatR ss) 5 tx w) := by
  obtain ⟨nsb, hnsb, hrn, hro⟩ := hb
  obtain ⟨na, nc, rfl, hq1, hq2⟩ := hrn.form
  obtain ⟨oa, oc, rfl, -⟩ := reads_form hro
  have hbd : BdIn w.heap.size w (.slice na nsb.length nc) (.slice oa b.opn.length oc) b := ⟨nsb, hnsb, hrn, hro⟩
  have hlb : nsb.length = b.nodes.length := by rw [← hnsb, List.length_map]
  obtain ⟨n, hn⟩ : ∃ n, nsb.length = n := ⟨_, rfl⟩
  obtain ⟨on, hon⟩ : ∃ n, b.opn.length = n := ⟨_, rfl⟩
  rw [hn, hon] at hbd; rw [hn] at hlb; rw [hn, hon]; have HLB := Lib.hid hlb; clear hrn hro hnsb hn hq1 hq2 hon hlb
  obtain ⟨W0, hW0⟩ : ∃ W, ((w.alloc (.cells #[.slice na n nc, .slice oa on oc] 41)).alloc (.cells #[.int .i64 5, .string tx] 51)).alloc (.cells #[.slice none 0 0, .slice none 0 0] 41) = W := ⟨_, rfl⟩
  have HB := Lib.hid (show Below w.heap.size w W0 by rw [← hW0]; exact bl_aw (bl_aw (bl_aw (Below.refl _ _) _) _) _)
  have XB := Lib.hid (show Box2 W0 w.heap.size (.slice na n nc) (.slice oa on oc) by rw [← hW0]; exact box3_0 _ _ _ _)
  have XL := Lib.hid (show W0.heap[w.heap.size + 1]? = some (.cells #[.int .i64 5, .string tx] 51 (0, 0)) by rw [← hW0]; exact box3_1 _ _ _ _)
  have XR := Lib.hid (show Box2 W0 (w.heap.size + 1 + 1) (.slice none 0 0) (.slice none 0 0) by rw [← hW0]; exact box3_2 _ _ _ _)
  have HW0 := Lib.hid hW0; clear hW0
  have HBI := Lib.hid (hbd.up HB.out); have HRH := Lib.hid (hs.up HB.out); have hNL := hfit.1; have hnl := ndW_len b.nodes; clear hbd hs
  have HCP := Lib.hid (copy_spec _ _ b W0 HBI.out hfit)
  obtain ⟨⟨y0, y1⟩, -, -⟩ := XB.out.cells
  go_enter Tryz.func23, Tryz.ntmps23
  go_wp2_with fail
  rw [HW0.out]
  clear y0 y1
  refine HCP.out.mono ?_
  rintro e w1 ⟨nv1, ov1, rfl, hat⟩
  clear HCP
  obtain ⟨ns, hns, hmn, hmo⟩ := hat
  have hbm : BdM W0.heap.size W0 w1 nv1 ov1 ns b.opn := ⟨hmn, hmo⟩
  have hb1 : Below W0.heap.size W0 w1 := hmo.below
  obtain ⟨na1, nc1, rfl⟩ := mineN_form hmn
  obtain ⟨oa1, oc1, rfl⟩ := mine_form hmo
  obtain ⟨n1, hn1⟩ : ∃ n, ns.length = n := ⟨_, rfl⟩
  obtain ⟨o1, ho1⟩ : ∃ n, b.opn.length = n := ⟨_, rfl⟩
  rw [hn1, ho1] at hbm; rw [hn1, ho1]
  have hlen0 : ns.length = b.nodes.length := by rw [← hns, List.length_map]
  have hlen : ns.length ≤ 68719476736 := by omega
  have hnn : n1 = n := by have := HLB.out; omega
  clear hlen0
  replace HB := Lib.hid (HB.out.trans (hb1.mono HB.out.size))
  have hdn := hbm.down HB.out (show w.heap.size ≤ W0.heap.size from by have := heap_lt XL.out; omega)
  replace XL := Lib.hid (below_heap hb1 (heap_lt XL.out) XL.out); replace XR := Lib.hid (XR.out.later hb1); replace XB := Lib.hid (XB.out.later hb1); replace HRH := Lib.hid (HRH.out.up hb1); replace HBI := Lib.hid (HBI.out.up hb1)
  have HNS := Lib.hid hns; have HLN := Lib.hid hlen; have HBM := Lib.hid hdn; have HN1 := Lib.hid hn1; have HNN := Lib.hid hnn; have HNL := Lib.hid (show b.nodes.length ≤ 68719476736 by omega); clear hmn hmo hbm hb1 hdn hn1 ho1 hns hlen hNL hnl hnn
  obtain ⟨W1, hW1⟩ : ∃ W, w1.alloc (.cells #[.slice na1 n1 nc1, .slice oa1 o1 oc1] 41) = W := ⟨_, rfl⟩
  have hb2 : Below w1.heap.size w1 W1 := by rw [← hW1]; exact bl_aw (Below.refl _ _) _
  have XC := Lib.hid (show Box2 W1 w1.heap.size (.slice na1 n1 nc1) (.slice oa1 o1 oc1) by rw [← hW1]; exact Box2.new _ _ _)
  have PRC := Lib.hid XR.out.lt
  replace XL := Lib.hid (below_heap hb2 (heap_lt XL.out) XL.out); replace XR := Lib.hid (XR.out.later hb2); replace XB := Lib.hid (XB.out.later hb2); replace HRH := Lib.hid (HRH.out.up hb2); replace HBI := Lib.hid (HBI.out.up hb2); replace HBM := Lib.hid (HBM.out.later hb2); replace HB := Lib.hid (HB.out.trans (hb2.mono HB.out.size)); have HW1 := Lib.hid hW1; clear hb2 hW1
  go_upto_region 2 with (fail)
  rw [HW1.out]
  obtain ⟨C, hC⟩ : ∃ c, w1.heap.size = c := ⟨_, rfl⟩
  rw [hC] at XC PRC; try simp only [hC]
  clear hC
  have HLG := Lib.hid (show lgdS b.nodes (flatR ss) 5 tx = ⟨#[115, 97, 121, 32]⟩ ++ tx from frm_5 tx)
  have a0 : ∀ W, (Op.stringOp .add ⟨#[115, 97, 121, 32]⟩ tx).run Tryz.prog W = .ok (.string (⟨#[115, 97, 121, 32]⟩ ++ tx)) W := fun W => run_string_add_sum _ _ _ (by rw [show (⟨#[115, 97, 121, 32]⟩ : ByteArray).size = 4 from rfl]; omega)
  obtain ⟨Z, hZ⟩ : ∃ Z, (⟨#[115, 97, 121, 32]⟩ : ByteArray) ++ tx = Z := ⟨_, rfl⟩
  rw [hZ] at a0 HLG; clear hZ
  obtain ⟨⟨c0, c1⟩, -, -⟩ := XC.out.cells; obtain ⟨⟨b0, b1⟩, -, -⟩ := XB.out.cells; obtain ⟨⟨r0, r1⟩, f0, f1⟩ := XR.out.cells; have l0 := box_cell XL.out (j := 0) rfl; have l1 := box_cell XL.out (j := 1) rfl
  have lt := PRC.out
  go_upto_region 14 with (fail)
  go_region
  have kD := (Below.refl W1.heap.size W1)
  obtain ⟨w9, hw9⟩ : ∃ x, (W1.setCell ⟨w.heap.size + 1 + 1, 0, none⟩ (.slice na1 n1 nc1)).setCell ⟨w.heap.size + 1 + 1, 1, none⟩ (.slice oa1 o1 oc1) = x := ⟨_, rfl⟩
  rw [hw9]
  have hX := (XR.out.set0 (.slice na1 n1 nc1)).set1 (.slice oa1 o1 oc1)
  have hD := ((HBM.out).setT (o := 0) (u := .slice na1 n1 nc1) XR.out (show w.heap.size ≤ w.heap.size + 1 + 1 by omega)).setT (o := 1) (u := .slice oa1 o1 oc1) (XR.out.set0 _) (show w.heap.size ≤ w.heap.size + 1 + 1 by omega)
  rw [hw9] at hX hD
  obtain ⟨⟨p0, p1⟩, -, -⟩ := hX.cells
  go_wp2_with fail
  refine bodyPost_ret (v := .tuple #[.agg #[.slice na1 n1 nc1, .slice oa1 o1 oc1], .string ⟨#[]⟩, .string Z]) (by simp [results, Tryz.results23, go_sem, p0, p1]) rfl ?_
  exact ⟨_, _, ns, by rw [HLG.out]; rfl, by unfold rlN; rw [if_neg (by omega)]; exact HNS.out, by first | exact hD | exact hD.drew⟩

set_option maxRecDepth 100000 in
set_option maxHeartbeats 4000000 in
theorem rls_none (op : Int) (tx : ByteArray) (v : Value) (ss : List Shv) (nv ov : Value) (b : Bd) (w : World) (hb : BdIn w.heap.size w nv ov b) (hfit : Fits b) (hs : ReadH w.heap.size w v ss) (hop : op ≠ 1 ∧ op ≠ 2 ∧ op ≠ 3 ∧ op ≠ 4 ∧ op ≠ 5) :
    Calls Tryz.prog 23 #[.agg #[nv, ov], v, .agg #[.int .i64 op, .string tx]] w (RlOut b (flatR ss) op tx w) := by
  obtain ⟨nsb, hnsb, hrn, hro⟩ := hb
  obtain ⟨na, nc, rfl, hq1, hq2⟩ := hrn.form
  obtain ⟨oa, oc, rfl, -⟩ := reads_form hro
  have hbd : BdIn w.heap.size w (.slice na nsb.length nc) (.slice oa b.opn.length oc) b := ⟨nsb, hnsb, hrn, hro⟩
  have hlb : nsb.length = b.nodes.length := by rw [← hnsb, List.length_map]
  obtain ⟨n, hn⟩ : ∃ n, nsb.length = n := ⟨_, rfl⟩
  obtain ⟨on, hon⟩ : ∃ n, b.opn.length = n := ⟨_, rfl⟩
  rw [hn, hon] at hbd; rw [hn] at hlb; rw [hn, hon]; have HLB := Lib.hid hlb; clear hrn hro hnsb hn hq1 hq2 hon hlb
  obtain ⟨W0, hW0⟩ : ∃ W, ((w.alloc (.cells #[.slice na n nc, .slice oa on oc] 41)).alloc (.cells #[.int .i64 op, .string tx] 51)).alloc (.cells #[.slice none 0 0, .slice none 0 0] 41) = W := ⟨_, rfl⟩
  have HB := Lib.hid (show Below w.heap.size w W0 by rw [← hW0]; exact bl_aw (bl_aw (bl_aw (Below.refl _ _) _) _) _)
  have XB := Lib.hid (show Box2 W0 w.heap.size (.slice na n nc) (.slice oa on oc) by rw [← hW0]; exact box3_0 _ _ _ _)
  have XL := Lib.hid (show W0.heap[w.heap.size + 1]? = some (.cells #[.int .i64 op, .string tx] 51 (0, 0)) by rw [← hW0]; exact box3_1 _ _ _ _)
  have XR := Lib.hid (show Box2 W0 (w.heap.size + 1 + 1) (.slice none 0 0) (.slice none 0 0) by rw [← hW0]; exact box3_2 _ _ _ _)
  have HW0 := Lib.hid hW0; clear hW0
  have HBI := Lib.hid (hbd.up HB.out); have HRH := Lib.hid (hs.up HB.out); have hNL := hfit.1; have hnl := ndW_len b.nodes; clear hbd hs
  have HCP := Lib.hid (copy_spec _ _ b W0 HBI.out hfit)
  obtain ⟨⟨y0, y1⟩, -, -⟩ := XB.out.cells
  go_enter Tryz.func23, Tryz.ntmps23
  go_wp2_with fail
  rw [HW0.out]
  clear y0 y1
  refine HCP.out.mono ?_
  rintro e w1 ⟨nv1, ov1, rfl, hat⟩
  clear HCP
  obtain ⟨ns, hns, hmn, hmo⟩ := hat
  have hbm : BdM W0.heap.size W0 w1 nv1 ov1 ns b.opn := ⟨hmn, hmo⟩
  have hb1 : Below W0.heap.size W0 w1 := hmo.below
  obtain ⟨na1, nc1, rfl⟩ := mineN_form hmn
  obtain ⟨oa1, oc1, rfl⟩ := mine_form hmo
  obtain ⟨n1, hn1⟩ : ∃ n, ns.length = n := ⟨_, rfl⟩
  obtain ⟨o1, ho1⟩ : ∃ n, b.opn.length = n := ⟨_, rfl⟩
  rw [hn1, ho1] at hbm; rw [hn1, ho1]
  have hlen0 : ns.length = b.nodes.length := by rw [← hns, List.length_map]
  have hlen : ns.length ≤ 68719476736 := by omega
  have hnn : n1 = n := by have := HLB.out; omega
  clear hlen0
  replace HB := Lib.hid (HB.out.trans (hb1.mono HB.out.size))
  have hdn := hbm.down HB.out (show w.heap.size ≤ W0.heap.size from by have := heap_lt XL.out; omega)
  replace XL := Lib.hid (below_heap hb1 (heap_lt XL.out) XL.out); replace XR := Lib.hid (XR.out.later hb1); replace XB := Lib.hid (XB.out.later hb1); replace HRH := Lib.hid (HRH.out.up hb1); replace HBI := Lib.hid (HBI.out.up hb1)
  have HNS := Lib.hid hns; have HLN := Lib.hid hlen; have HBM := Lib.hid hdn; have HN1 := Lib.hid hn1; have HNN := Lib.hid hnn; have HNL := Lib.hid (show b.nodes.length ≤ 68719476736 by omega); clear hmn hmo hbm hb1 hdn hn1 ho1 hns hlen hNL hnl hnn
  obtain ⟨W1, hW1⟩ : ∃ W, w1.alloc (.cells #[.slice na1 n1 nc1, .slice oa1 o1 oc1] 41) = W := ⟨_, rfl⟩
  have hb2 : Below w1.heap.size w1 W1 := by rw [← hW1]; exact bl_aw (Below.refl _ _) _
  have XC := Lib.hid (show Box2 W1 w1.heap.size (.slice na1 n1 nc1) (.slice oa1 o1 oc1) by rw [← hW1]; exact Box2.new _ _ _)
  have PRC := Lib.hid XR.out.lt
  replace XL := Lib.hid (below_heap hb2 (heap_lt XL.out) XL.out); replace XR := Lib.hid (XR.out.later hb2); replace XB := Lib.hid (XB.out.later hb2); replace HRH := Lib.hid (HRH.out.up hb2); replace HBI := Lib.hid (HBI.out.up hb2); replace HBM := Lib.hid (HBM.out.later hb2); replace HB := Lib.hid (HB.out.trans (hb2.mono HB.out.size)); have HW1 := Lib.hid hW1; clear hb2 hW1
  go_upto_region 2 with (fail)
  rw [HW1.out]
  obtain ⟨C, hC⟩ : ∃ c, w1.heap.size = c := ⟨_, rfl⟩
  rw [hC] at XC PRC; try simp only [hC]
  clear hC
  obtain ⟨n1', n2', n3', n4', n5'⟩ := hop
  have e1 : (op == 1) = false := beq_eq_false_iff_ne.2 n1'; have e2 : (op == 2) = false := beq_eq_false_iff_ne.2 n2'; have e3 : (op == 3) = false := beq_eq_false_iff_ne.2 n3'; have e4 : (op == 4) = false := beq_eq_false_iff_ne.2 n4'; have e5 : (op == 5) = false := beq_eq_false_iff_ne.2 n5'
  have hz1 : wrtS op tx = ⟨#[]⟩ := by unfold wrtS; rw [if_neg n1']
  have hz2 : lgdS b.nodes (flatR ss) op tx = ⟨#[]⟩ := by unfold lgdS; rw [if_neg n3', if_neg n4', if_neg n5']
  have hz3 : rlN b.nodes op tx = b.nodes := by unfold rlN; rw [if_neg (fun h => n2' h.1)]
  have HZ1 := Lib.hid hz1; have HZ2 := Lib.hid hz2; have HZ3 := Lib.hid hz3; clear hz1 hz2 hz3 n1' n2' n3' n4' n5'
  obtain ⟨⟨c0, c1⟩, -, -⟩ := XC.out.cells; obtain ⟨⟨b0, b1⟩, -, -⟩ := XB.out.cells; obtain ⟨⟨r0, r1⟩, f0, f1⟩ := XR.out.cells; have l0 := box_cell XL.out (j := 0) rfl; have l1 := box_cell XL.out (j := 1) rfl
  have lt := PRC.out
  go_wp2_with fail
  obtain ⟨w9, hw9⟩ : ∃ x, (W1.setCell ⟨w.heap.size + 1 + 1, 0, none⟩ (.slice na1 n1 nc1)).setCell ⟨w.heap.size + 1 + 1, 1, none⟩ (.slice oa1 o1 oc1) = x := ⟨_, rfl⟩
  rw [hw9]
  have hX := (XR.out.set0 (.slice na1 n1 nc1)).set1 (.slice oa1 o1 oc1)
  have hD := ((HBM.out).setT (o := 0) (u := .slice na1 n1 nc1) XR.out (show w.heap.size ≤ w.heap.size + 1 + 1 by omega)).setT (o := 1) (u := .slice oa1 o1 oc1) (XR.out.set0 _) (show w.heap.size ≤ w.heap.size + 1 + 1 by omega)
  rw [hw9] at hX hD
  obtain ⟨⟨p0, p1⟩, -, -⟩ := hX.cells
  refine bodyPost_ret (v := .tuple #[.agg #[.slice na1 n1 nc1, .slice oa1 o1 oc1], .string ⟨#[]⟩, .string ⟨#[]⟩]) (by simp [results, Tryz.results23, go_sem, p0, p1]) rfl ?_
  exact ⟨_, _, ns, by rw [HZ1.out, HZ2.out], by rw [HZ3.out]; exact HNS.out, hD⟩

end Go.Proofs.YtpkicliimhflgaaGreatDoor

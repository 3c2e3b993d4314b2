/- The draw of any builder of chapter 6. -/
import Derived.Test.YtgcdfkpidcdicaaGreatDoorDrwB
import Derived.Test.YtgcdfkpidcdicaaGreatDoorAddL
namespace Go.Proofs.YtgcdfkpidcdicaaGreatDoor
open Go.ChangeShapes Go.WideShapes Go.ChangeAt Go.RowKit

theorem BdOk.fit1 {ns : List Nv} {zs : List Int} {nm tx : ByteArray} {z : Int} (h : BdOk 6000 ⟨ns.map Prod.fst, zs⟩) (ht : Gt tx) (hnm : Gt nm) : BdFit ⟨(ns ++ [((⟨nm, tx, z, []⟩, (none, 0, 0)) : Nv)]).map Prod.fst, zs⟩ := by
  rw [List.map_append]
  refine ⟨?_, Nat.le_succ_of_le h.opn, fun x hx => ?_, fun x hx => ?_, fun x hx => ?_⟩
  · rw [List.length_append]; have := h.nodes; show _ + 1 ≤ 41; exact Nat.succ_le_succ this
  · rcases List.mem_append.1 hx with h1 | h1
    · exact h.text x h1
    · rw [List.map_cons, List.map_nil, List.mem_singleton] at h1; subst h1; have := ht.1; show tx.size ≤ 6000; omega
  · rcases List.mem_append.1 hx with h1 | h1
    · exact h.att x h1
    · rw [List.map_cons, List.map_nil, List.mem_singleton] at h1; subst h1; exact Nat.zero_le _
  · rcases List.mem_append.1 hx with h1 | h1
    · exact h.nam x h1
    · rw [List.map_cons, List.map_nil, List.mem_singleton] at h1; subst h1; have := hnm.1; show nm.size ≤ 6000; omega
/-- The end of the draw: the answer is laid into its own box. -/
theorem any_fin {b c : Nat} {sv : Value} {len : Nat} {w w2 : World} {nv ov ov' x y p q : Value} {ns : List Nv} {zs : List Int} (hb : b < w.heap.size) (hc : w.heap.size < c) (hB : Box2 w2 c x y) (hX : Box2 (w2.setCell ⟨c, 1, none⟩ ov') w.heap.size p q) (hK : Kept b w w2) (hC : Cur b sv len w2) (hM : BdM w.heap.size w2 w2 nv ov ns zs) (u : Value) :
    BdM w.heap.size (((w2.setCell ⟨c, 1, none⟩ ov').setCell ⟨w.heap.size, 0, none⟩ nv).setCell ⟨w.heap.size, 1, none⟩ u) (((w2.setCell ⟨c, 1, none⟩ ov').setCell ⟨w.heap.size, 0, none⟩ nv).setCell ⟨w.heap.size, 1, none⟩ u) nv ov ns zs ∧ Cur b sv len (((w2.setCell ⟨c, 1, none⟩ ov').setCell ⟨w.heap.size, 0, none⟩ nv).setCell ⟨w.heap.size, 1, none⟩ u) ∧ Kept b w (((w2.setCell ⟨c, 1, none⟩ ov').setCell ⟨w.heap.size, 0, none⟩ nv).setCell ⟨w.heap.size, 1, none⟩ u) :=
  ⟨(((hM.setT hB (by omega)).setT hX (Nat.le_refl _)).setT (hX.set0 _) (Nat.le_refl _)).down (Below.refl _ _) (Nat.le_refl _), cur_setB (cur_setB (cur_setB hC (by omega) _ _) hb _ _) hb _ _, kept_set (kept_set (kept_set hK (by omega) _ _) (Nat.le_refl _) _ _) (Nat.le_refl _) _ _⟩
theorem any_fin0 {b : Nat} {sv : Value} {len : Nat} {w w2 : World} {nv ov p q : Value} {ns : List Nv} {zs : List Int} (hb : b < w.heap.size) (hX : Box2 w2 w.heap.size p q) (hK : Kept b w w2) (hC : Cur b sv len w2) (hM : BdM w.heap.size w2 w2 nv ov ns zs) (u : Value) :
    BdM w.heap.size ((w2.setCell ⟨w.heap.size, 0, none⟩ nv).setCell ⟨w.heap.size, 1, none⟩ u) ((w2.setCell ⟨w.heap.size, 0, none⟩ nv).setCell ⟨w.heap.size, 1, none⟩ u) nv ov ns zs ∧ Cur b sv len ((w2.setCell ⟨w.heap.size, 0, none⟩ nv).setCell ⟨w.heap.size, 1, none⟩ u) ∧ Kept b w ((w2.setCell ⟨w.heap.size, 0, none⟩ nv).setCell ⟨w.heap.size, 1, none⟩ u) :=
  ⟨((hM.setT hX (Nat.le_refl _)).setT (hX.set0 _) (Nat.le_refl _)).down (Below.refl _ _) (Nat.le_refl _), cur_setB (cur_setB hC hb _ _) hb _ _, kept_set (kept_set hK (Nat.le_refl _) _ _) (Nat.le_refl _) _ _⟩
/-- What l6Builder gives, as a premise: what DrawBd shows. -/
def BuilderS : Prop := ∀ (b : Nat) (sv : Value) (len : Nat) (w : World), Cur b sv len w → Calls Tryz.prog 128 #[.pointer (some ⟨b, 0, none⟩)] w (BdGot b sv len w)
theorem str3_go (b : Nat) (sv : Value) (len : Nat) (g : Nat) (w : World) {Q : Ending → World → Prop} (hc : Cur b sv len w) (hgb : g ≠ b) (hcells : ∀ j, j < 3 → ∃ s : ByteArray, Gt s ∧ w.cell? ⟨g, j, none⟩ = some (.string s)) (k : ∀ e w', StrP Gt b sv len w e w' → Q e w') :
    Calls Tryz.prog 63 #[.pointer (some ⟨b, 0, none⟩), .slice (some ⟨g, 0, none⟩) 3 3] w Q := (strP_any Gt b sv len g 3 3 w hc hgb (by decide) (by decide) hcells).mono k
theorem str2_go (b : Nat) (sv : Value) (len : Nat) (g : Nat) (w : World) {Q : Ending → World → Prop} (hc : Cur b sv len w) (hgb : g ≠ b) (hcells : ∀ j, j < 2 → ∃ s : ByteArray, Gt s ∧ w.cell? ⟨g, j, none⟩ = some (.string s)) (k : ∀ e w', StrP Gt b sv len w e w' → Q e w') :
    Calls Tryz.prog 63 #[.pointer (some ⟨b, 0, none⟩), .slice (some ⟨g, 0, none⟩) 2 2] w Q := (strP_any Gt b sv len g 2 2 w hc hgb (by decide) (by decide) hcells).mono k
/-- How far a builder is from its most nodes. -/
def fillM (c : Nat) (w : World) : Nat := 40 - (match w.cell? ⟨c, 0, none⟩ with | some (.slice _ n _) => n | _ => 0)
theorem fillM_at {c : Nat} {w : World} {a : Option Addr} {n k : Nat} {y : Value} (h : Box2 w c (.slice a n k) y) : fillM c w = 40 - n := by
  unfold fillM; rw [h.cells.1.1]
theorem bd_al {B : Nat} {w0 w : World} {nv ov : Value} {ns : List Nv} {zs : List Int} (h : BdM B w0 w nv ov ns zs) (o : Obj) : BdM B w0 (w.alloc o) nv ov ns zs := h.later ((Below.refl _ _).alloc (Nat.le_refl _) o)
theorem AnyAt.fresh {b : Nat} {sv : Value} {len : Nat} {w W W' : World} {c : Nat} {p q x y nv ov nv' ov' : Value} {ns ns' : List Nv} {zs zs' : List Int} (h : AnyAt b sv len w W c p q x y nv ov ns zs) (hm : BdM W.heap.size W W' nv' ov' ns' zs') : AnyAt b sv len w W' c p q x y nv' ov' ns' zs' :=
  ⟨h.lb, h.lc, h.cur.below hm.n.row.below, h.kept.trans (Kept.of_below hm.n.row.below), hm.down (Below.refl _ _) h.kept.size, h.bx.later hm.n.row.below, h.bc.later hm.n.row.below⟩
theorem readsK_none {α : Type} (enc : α → List Value) (k hi : Nat) (w : World) : ReadsK enc k hi w (.slice none 0 0) [] := ⟨none, 0, rfl, Nat.le_refl _, by omega, fun _ => rfl, Or.inl rfl⟩
theorem ndW_few : ∀ ns : List Nd, (∀ x ∈ ns, x.attrs.length ≤ 4) → ndW ns ≤ 11 * ns.length
  | [], _ => Nat.le_refl _
  | x :: ns, h => by
    have h1 := h x List.mem_cons_self
    have h2 := ndW_few ns fun u hu => h u (List.mem_cons_of_mem _ hu)
    rw [ndW, List.length_cons]; omega
set_option maxRecDepth 100000 in
set_option maxHeartbeats 40000000 in
theorem any_any (HT : BuilderS) (b : Nat) (sv : Value) (len : Nat) (w : World) (hc : Cur b sv len w) :
    Calls Tryz.prog 78 #[.pointer (some ⟨b, 0, none⟩)] w (AnyGot b sv len w) := by
  have HC := Lib.hid hc; have HL := Lib.hid hc.lt; have HTK := Lib.hid HT; clear hc HT
  go_enter Tryz.func78, Tryz.ntmps78
  go_wp2_with fail
  refine (HTK.out b sv len _ (HC.out.alloc _)).mono ?_
  rintro e w1 ⟨na, nn, nc, oa, on, oc, ns, zs, rfl, hok, hM, hc1, hk1⟩
  have HX1 := Lib.hid (box_kept (Box2.new w (.slice none 0 0) (.slice none 0 0)) hk1 (by have := HL.out; omega))
  have HK1 := Lib.hid ((Kept.alloc b w _).trans hk1)
  have HM1 := Lib.hid (hM.down (Below.refl _ _) (B' := w.heap.size) (by rw [size_alloc]; exact Nat.le_succ _))
  have HC1 := Lib.hid hc1; have HOK := Lib.hid hok
  clear hok hM hc1 hk1
  go_wp2_with fail
  have HB2 := Lib.hid (Box2.new w1 (.slice na nn nc) (.slice oa on oc))
  have HX2 := Lib.hid (HX1.out.alloc (.cells #[.slice na nn nc, .slice oa on oc] 40))
  have HM2 := Lib.hid ((bd_al HM1.out (.cells #[.slice na nn nc, .slice oa on oc] 40)).down (Below.refl _ _) (Nat.le_refl _))
  have HC2 := Lib.hid (HC1.out.alloc (.cells #[.slice na nn nc, .slice oa on oc] 40))
  have HK2 := Lib.hid (HK1.out.trans (Kept.alloc b w1 (.cells #[.slice na nn nc, .slice oa on oc] 40)))
  refine (below_any b sv len 14 _ HC2.out).mono ?_
  rintro e w2 ⟨x, rfl, hx0, hx1, hx2, hc3, ho3⟩
  have HS1 := Lib.hid (show w.heap.size < w1.heap.size from HX1.out.lt)
  have HM3 := Lib.hid (bdM_kept HM2.out ho3.kept HL.out)
  have HX3 := Lib.hid (box_kept HX2.out ho3.kept (by have := HL.out; omega))
  have HB3 := Lib.hid (box_kept HB2.out ho3.kept (by have := HL.out; have := HS1.out; omega))
  have HK3 := Lib.hid (HK2.out.trans ho3.kept); have HC3 := Lib.hid hc3
  clear hc3 ho3 HX1 HM1 HC1 HK1 HX2 HM2 HC2 HK2 HB2
  obtain ⟨c, hc⟩ : ∃ c, w1.heap.size = c := ⟨_, rfl⟩
  rw [hc] at HB3 HS1 ⊢
  clear hc
  obtain ⟨⟨c0, c1⟩, f0, f1⟩ := HB3.out.cells
  have hx3 := hx1 (by omega)
  have HNE := Lib.hid (show w.heap.size ≠ c by have := HS1.out; omega)
  have HA := Lib.hid (show AnyAt b sv len w w2 c (.slice none 0 0) (.slice none 0 0) (.slice na nn nc) (.slice oa on oc) (.slice na nn nc) (.slice oa on oc) ns zs from ⟨HL.out, HS1.out, HC3.out, HK3.out, HM3.out, HX3.out, HB3.out⟩)
  by_cases e2 : x = 2
  · subst e2
    have HX4 := Lib.hid (HX3.out.far (o := 1) HNE.out (.slice none 0 0))
    obtain ⟨⟨g0, g1⟩, h0, h1⟩ := HX4.out.cells
    go_wp2_with fail
    have HFIN := Lib.hid (any_fin HL.out HS1.out HB3.out HX4.out HK3.out HC3.out (HM3.out.numT (Mine.nil _ _ _ _ _ (Below.refl _ _) HK3.out.size)) (.slice none 0 0))
    obtain ⟨⟨r0, r1⟩, -⟩ := ((HX4.out.set0 (.slice na nn nc)).set1 (.slice none 0 0)).cells
    refine bodyPost_ret (v := .agg #[.slice na nn nc, .slice none 0 0]) (by simp [results, Tryz.results78, go_sem, r0, r1]) rfl ?_
    exact ⟨na, nn, nc, none, 0, 0, ns, [], rfl, ⟨HOK.out.fit.nodes, Nat.zero_le _, HOK.out.text, HOK.out.att, HOK.out.nam⟩, HFIN.out.1, HFIN.out.2⟩
  by_cases e0 : x = 0
  · subst e0
    obtain ⟨on', hon⟩ : ∃ n, zs.length = n := ⟨_, rfl⟩
    have HON := Lib.hid hon
    have HON2 := Lib.hid (show on' ≤ 8 by rw [← hon]; exact HOK.out.opn)
    clear hon
    have v1 := HB3.out.lt
    go_wp2_with fail
    go_region_law (first
      | (refine step_appIG (by rfl) (.tmp 11) (.tmp 15) (by rfl) w.heap.size _ _ zs (by rfl) (hA3.bel (by repeat' (first | (with_reducible exact Below.refl _ _) | (with_reducible refine bl_dr ?_) | (with_reducible refine bl_al ?_ _)))).m.o _ _ z (by rfl) (readsI_blk (by repeat' (first | (with_reducible refine hp_dr ?_) | ((with_reducible refine hp_nw ?_); (first | (with_reducible rfl) | (simp only [size_alloc]; done)))))) on' HON.out (by have := HON2.out; omega) ?_; intro a4 c4 w4 hm4 hg4; have hA4 := AnyAt.num (hA3.bel (by repeat' (first | (with_reducible exact Below.refl _ _) | (with_reducible refine bl_dr ?_) | (with_reducible refine bl_al ?_ _)))) hm4 hg4; obtain ⟨⟨y0, y1⟩, y2, y3⟩ := hA4.bc.cells)
      | (go_simp; go_at_call 129; refine (int_any b sv len _ 4 4 _ (HA.out.bel (by repeat' (first | (with_reducible exact Below.refl _ _) | (with_reducible refine bl_dr ?_) | (with_reducible refine bl_al ?_ _)))).cur (Nat.ne_of_gt HA.out.cur.lt) (by decide) (by decide) (cells_blk 4 (by repeat' (first | (with_reducible refine hp_dr ?_) | ((with_reducible refine hp_nw ?_); (first | (with_reducible rfl) | (simp only [size_alloc]; done))))) (by rfl) (by kernel_rfl))).mono ?_; rintro e w3 ⟨z, rfl, hz0, hz1, hc3, hk3⟩; have hA3 := AnyAt.draw (HA.out.bel (by repeat' (first | (with_reducible exact Below.refl _ _) | (with_reducible refine bl_dr ?_) | (with_reducible refine bl_al ?_ _)))) hc3 hk3; obtain ⟨⟨x0, x1⟩, x2, x3⟩ := hA3.bc.cells; have z1 := hA3.bc.lt))
    all_goals
      have HA4 := Lib.hid (hA4.set1 (.slice a4 (on' + 1) c4))
      obtain ⟨⟨p0, p1⟩, p2, p3⟩ := (hA4.set1 (.slice a4 (on' + 1) c4)).bx.cells
      obtain ⟨⟨q0, q1⟩, q2, q3⟩ := (hA4.set1 (.slice a4 (on' + 1) c4)).bc.cells
      clear hA4 hA3 hm4 hg4 y0 y1 y2 y3 x0 x1 x2 x3 z1 v1 hc3 hk3 c0 c1 f0 f1
      go_wp2_with fail
      have HFIN := Lib.hid (any_fin0 HL.out HA4.out.bx HA4.out.kept HA4.out.cur HA4.out.m (.slice a4 (on' + 1) c4))
      obtain ⟨⟨r0, r1⟩, -⟩ := ((HA4.out.bx.set0 (.slice na nn nc)).set1 (.slice a4 (on' + 1) c4)).cells
      refine bodyPost_ret (v := .agg #[.slice na nn nc, .slice a4 (on' + 1) c4]) (by simp [results, Tryz.results78, go_sem, r0, r1]) rfl ?_
      exact ⟨na, nn, nc, a4, on' + 1, c4, ns, zs ++ [z], rfl, ⟨HOK.out.fit.nodes, by show (zs ++ [z]).length ≤ 9; rw [List.length_append, HON.out]; have := HON2.out; show on' + 1 ≤ 9; omega, HOK.out.text, HOK.out.att, HOK.out.nam⟩, HFIN.out.1, HFIN.out.2⟩
  by_cases e1 : x = 1
  · subst e1
    obtain ⟨nl, hnl⟩ : ∃ n, ns.length = n := ⟨_, rfl⟩
    have HNL := Lib.hid hnl
    have HNL2 := Lib.hid (show nl ≤ 40 by rw [← hnl, ← List.length_map (f := Prod.fst)]; exact HOK.out.nodes)
    have HND := Lib.hid (show (insN ns ++ []).Nodup by rw [List.append_nil]; exact HM3.out.n.nod)
    clear hnl
    have v1 := HB3.out.lt
    have v2 := HC3.out.lt
    go_wp2_with fail
    go_region_law (first
      | (refine step_appNG (by rfl) (.tmp 21) (.tmp 32) (by rfl) w.heap.size _ _ ns (by rfl) (hC.bel (by repeat' (first | (with_reducible exact Below.refl _ _) | (with_reducible refine bl_dr ?_) | (with_reducible refine bl_al ?_ _)))).m.n _ _ ((⟨nm, tx, y - 1, []⟩, (none, 0, 0)) : Nv) (by rfl) (readsN_blk (nm := nm) (tx := tx) (k := y - 1) (u := .slice none 0 0) _ (by repeat' (first | (with_reducible refine hp_dr ?_) | ((with_reducible refine hp_nw ?_); (first | (with_reducible rfl) | (simp only [size_alloc]; done))) | (with_reducible refine hp_al ?_ _) | (with_reducible refine hp_kp hBk (by omega) ?_) | (with_reducible refine hp_kp hAk (by omega) ?_))) rfl rfl rfl rfl) (ownK_nil _ _ _ _ _ _) HND.out nl HNL.out (by have := HNL2.out; omega) ?_; intro a4 c4 w6 hm4 hg4; have hA4 := AnyAt.node (hC.bel (by repeat' (first | (with_reducible exact Below.refl _ _) | (with_reducible refine bl_dr ?_) | (with_reducible refine bl_al ?_ _)))) hm4 hg4; obtain ⟨⟨y0, y1⟩, y2, y3⟩ := hA4.bc.cells)
      | (go_simp; go_at_call 63; (with_reducible refine str3_go b sv len _ _ ?_ ?_ ?_ ?_); exact (HA.out.bel (by repeat' (first | (with_reducible exact Below.refl _ _) | (with_reducible refine bl_dr ?_) | (with_reducible refine bl_al ?_ _)))).cur; omega; exact (cells_gtb 3 (by repeat' (first | (with_reducible refine hp_dr ?_) | ((with_reducible refine hp_nw ?_); (first | (with_reducible rfl) | (simp only [size_alloc]; done))) | (with_reducible refine hp_al ?_ _) | (with_reducible refine hp_kp hBk (by omega) ?_) | (with_reducible refine hp_kp hAk (by omega) ?_))) (by rfl) (by kernel_rfl)); rintro e w3 ⟨nm, rfl, hAg, hAc, hAk⟩; have hA := AnyAt.draw (HA.out.bel (by repeat' (first | (with_reducible exact Below.refl _ _) | (with_reducible refine bl_dr ?_) | (with_reducible refine bl_al ?_ _)))) hAc hAk; obtain ⟨⟨hA0, hA1⟩, hA2, hA3⟩ := hA.bc.cells; have hAl := hA.bc.lt; have hAb := hA.cur.lt; have hAs := hAk.size)
      | (go_simp; go_at_call 79; refine (below_any b sv len 3 _ (hA.bel (by repeat' (first | (with_reducible exact Below.refl _ _) | (with_reducible refine bl_dr ?_) | (with_reducible refine bl_al ?_ _)))).cur).mono ?_; rintro e w4 ⟨y, rfl, hy0, hy1, hy2, hBc, hBo⟩; have hBk := hBo.kept; have hB := AnyAt.draw (hA.bel (by repeat' (first | (with_reducible exact Below.refl _ _) | (with_reducible refine bl_dr ?_) | (with_reducible refine bl_al ?_ _)))) hBc hBk; obtain ⟨⟨hB0, hB1⟩, hB2, hB3⟩ := hB.bc.cells; have hBl := hB.bc.lt; have hBb := hB.cur.lt; have hBs := hBk.size; replace hy1 := hy1 (by decide); have hyw : IntKind.i64.wrap (y - 1) = y - 1 := (by rw [IntKind.wrap_i64]; omega))
      | (go_simp; go_at_call 63; (with_reducible refine str2_go b sv len _ _ ?_ ?_ ?_ ?_); exact (hB.bel (by repeat' (first | (with_reducible exact Below.refl _ _) | (with_reducible refine bl_dr ?_) | (with_reducible refine bl_al ?_ _)))).cur; omega; exact (cells_gtb 2 (by repeat' (first | (with_reducible refine hp_dr ?_) | ((with_reducible refine hp_nw ?_); (first | (with_reducible rfl) | (simp only [size_alloc]; done))) | (with_reducible refine hp_al ?_ _) | (with_reducible refine hp_kp hBk (by omega) ?_) | (with_reducible refine hp_kp hAk (by omega) ?_))) (by rfl) (by kernel_rfl)); rintro e w5 ⟨tx, rfl, hCg, hCc, hCk⟩; have hC := AnyAt.draw (hB.bel (by repeat' (first | (with_reducible exact Below.refl _ _) | (with_reducible refine bl_dr ?_) | (with_reducible refine bl_al ?_ _)))) hCc hCk; obtain ⟨⟨hC0, hC1⟩, hC2, hC3⟩ := hC.bc.cells; have hCl := hC.bc.lt; have hCb := hC.cur.lt; have hCs := hCk.size))
    all_goals
      have HTX := Lib.hid hCg
      have HNX := Lib.hid hAg
      have HA4 := Lib.hid (hA4.set0 (.slice a4 (nl + 1) c4))
      obtain ⟨⟨p0, p1⟩, p2, p3⟩ := (hA4.set0 (.slice a4 (nl + 1) c4)).bx.cells
      obtain ⟨⟨q0, q1⟩, q2, q3⟩ := (hA4.set0 (.slice a4 (nl + 1) c4)).bc.cells
      clear hAb hBb hCb hA4 hA hB hC hm4 hg4 y0 y1 y2 y3 hAg hAc hAk hAs hA0 hA1 hA2 hA3 hAl hBc hBk hBo hBs hB0 hB1 hB2 hB3 hBl hCg hCc hCk hCs hC0 hC1 hC2 hC3 hCl c0 c1 f0 f1 v1 v2
      go_wp2_with fail
      have HFIN := Lib.hid (any_fin0 HL.out HA4.out.bx HA4.out.kept HA4.out.cur HA4.out.m (.slice oa on oc))
      obtain ⟨⟨r0, r1⟩, -⟩ := ((HA4.out.bx.set0 (.slice a4 (nl + 1) c4)).set1 (.slice oa on oc)).cells
      refine bodyPost_ret (v := .agg #[.slice a4 (nl + 1) c4, .slice oa on oc]) (by simp [results, Tryz.results78, go_sem, r0, r1]) rfl ?_
      exact ⟨a4, nl + 1, c4, oa, on, oc, ns ++ [(⟨nm, tx, y - 1, []⟩, (none, 0, 0))], zs, rfl, HOK.out.fit1 HTX.out HNX.out, HFIN.out.1, HFIN.out.2⟩
  by_cases e3 : x = 3
  · subst e3
    obtain ⟨nl, hnl⟩ : ∃ n, ns.length = n := ⟨_, rfl⟩
    have HNN := Lib.hid (show nn = ns.length from (by obtain ⟨a, c', e⟩ := mineN_form HM3.out.n; cases e; rfl))
    clear c0 c1 f0 f1 hnl
    go_wp2_with fail
    go_loopw [] (fun wr => ∃ (na nn nc oa on oc : _) (ns : List Nv) (zs : List Int), AnyAt b sv len w wr c (.slice none 0 0) (.slice none 0 0) (.slice na nn nc) (.slice oa on oc) (.slice na nn nc) (.slice oa on oc) ns zs ∧ BdOk 6000 ⟨ns.map Prod.fst, zs⟩ ∧ nn = ns.length) (fun wr => fillM c wr)
    case atStart => exact ⟨na, nn, nc, oa, on, oc, ns, zs, HA.out, HOK.out, HNN.out⟩
    case round =>
      obtain ⟨na, nn, nc, oa, on, oc, ns, zs, hA, hok, hnn⟩ := hrel
      have HA := Lib.hid hA; have HOK := Lib.hid hok; have HNN := Lib.hid hnn
      obtain ⟨⟨c0, c1⟩, f0, f1⟩ := hA.bc.cells
      obtain ⟨⟨p0, p1⟩, p2, p3⟩ := hA.bx.cells
      clear hA hok hnn
      by_cases hlt : (nn : Int) < 40
      · go_wp2_with fail
        have HFT := Lib.hid (show Fits ⟨ns.map Prod.fst, zs⟩ from ⟨by
          have h1 : ndW (ns.map Prod.fst) ≤ 11 * (ns.map Prod.fst).length := ndW_few _ HOK.out.att
          have h2 := HOK.out.nodes
          show ndW (ns.map Prod.fst) ≤ _
          have h3 : (ns.map Prod.fst).length ≤ 40 := h2
          omega, Nat.le_trans HOK.out.opn (by decide)⟩)
        refine (add_spec (.slice na nn nc) (.slice oa on oc) ⟨ns.map Prod.fst, zs⟩ ⟨3, ⟨#[]⟩, [], ⟨#[116]⟩⟩ none 0 0 _ (HA.out.m.reads (b := ⟨ns.map Prod.fst, zs⟩) rfl) HFT.out (readsK_none _ _ _ _) (Nat.zero_le _)).mono ?_
        rintro e w5 ⟨nv', ov', rfl, hb⟩
        obtain ⟨na', nn', nc', oa', on', oc', rfl, rfl⟩ := hb.lens
        rw [add_text (b := ⟨ns.map Prod.fst, zs⟩) rfl (by decide) (roomB_yes (by show (ns.map Prod.fst).length < 40; rw [List.length_map, ← HNN.out]; omega) HOK.out.pos)] at hb
        obtain ⟨ns', hns, hm, ho⟩ := hb
        replace hns : ns'.map Prod.fst = ns.map Prod.fst ++ [⟨⟨#[]⟩, ⟨#[116]⟩, lastOpen ⟨ns.map Prod.fst, zs⟩, []⟩] := hns
        replace ho : Mine .i64 3 _ _ _ _ zs := ho
        have hl5 : ns'.length = ns.length + 1 := by rw [← List.length_map (f := Prod.fst), hns, List.length_append, List.length_map]; rfl
        have hn5 : nn' = ns'.length := (by obtain ⟨a, c', e⟩ := mineN_form hm; cases e; rfl)
        have HA5 := Lib.hid (AnyAt.fresh HA.out ⟨hm, ho⟩)
        have HOK5 := Lib.hid (show BdOk 6000 ⟨ns'.map Prod.fst, zs⟩ by
          rw [hns]
          exact bdOk_push HOK.out (by show (ns.map Prod.fst).length < 40; rw [List.length_map, ← HNN.out]; omega) (by show (1 : Nat) ≤ 6000; omega) (Nat.zero_le _) (Nat.zero_le _) HOK.out.opn HOK.out.pos)
        have HN5 := Lib.hid hn5; have HL5 := Lib.hid hl5
        obtain ⟨⟨d0, d1⟩, g0, g1⟩ := HA5.out.bc.cells
        clear hns ho hm hl5 hn5 p0 p1 p2 p3
        go_wp2_with fail
        go_roundw
        case rel => exact ⟨na', nn', nc', oa', on', oc', ns', zs, (HA5.out.set0 _).set1 _, HOK5.out, HN5.out⟩
        case measure =>
          rw [fillM_at ((HA5.out.set0 (.slice na' nn' nc')).set1 (.slice oa' on' oc')).bc, fillM_at HA.out.bc]
          have h1 := HN5.out; have h2 := HL5.out; have h3 := HNN.out
          omega
      · go_wp2_with fail
        have HFIN := Lib.hid (any_fin0 HL.out HA.out.bx HA.out.kept HA.out.cur HA.out.m (.slice oa on oc))
        obtain ⟨⟨r0, r1⟩, -⟩ := ((HA.out.bx.set0 (.slice na nn nc)).set1 (.slice oa on oc)).cells
        refine bodyPost_ret (v := .agg #[.slice na nn nc, .slice oa on oc]) (by simp [results, Tryz.results78, go_sem, r0, r1]) rfl ?_
        exact ⟨na, nn, nc, oa, on, oc, ns, zs, rfl, HOK.out.fit, HFIN.out.1, HFIN.out.2⟩
  have q0 : (x == 0) = false := beq_eq_false_iff_ne.2 e0
  have q1 : (x == 1) = false := beq_eq_false_iff_ne.2 e1
  have q2 : (x == 2) = false := beq_eq_false_iff_ne.2 e2
  have q3 : (x == 3) = false := beq_eq_false_iff_ne.2 e3
  obtain ⟨⟨g0, g1⟩, h0, h1⟩ := HX3.out.cells
  go_wp2_with fail
  have HFIN := Lib.hid (any_fin0 HL.out HX3.out HK3.out HC3.out HM3.out (.slice oa on oc))
  obtain ⟨⟨r0, r1⟩, -⟩ := ((HX3.out.set0 (.slice na nn nc)).set1 (.slice oa on oc)).cells
  refine bodyPost_ret (v := .agg #[.slice na nn nc, .slice oa on oc]) (by simp [results, Tryz.results78, go_sem, r0, r1]) rfl ?_
  exact ⟨na, nn, nc, oa, on, oc, ns, zs, rfl, HOK.out.fit, HFIN.out.1, HFIN.out.2⟩
end Go.Proofs.YtgcdfkpidcdicaaGreatDoor

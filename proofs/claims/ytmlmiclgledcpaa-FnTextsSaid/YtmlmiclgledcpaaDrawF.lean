/- What a drawn builder is, and the draws of the laws on TextOf, CountName and IsVoid. -/
import Derived.Test.YtmlmiclgledcpaaDrawK
namespace Go.Proofs.Ytmlmiclgledcpaa
open Go.ChangeShapes Go.WideShapes Go.ChangeAt Go.RowKit

/-- Few nodes, few open elements, short texts: one more of each than a valid builder may have. -/
structure BdFit (b : Bd) : Prop where
  nodes : b.nodes.length ≤ 41
  opn : b.opn.length ≤ 9
  text : ∀ x ∈ b.nodes, x.text.size ≤ 6000
  att : ∀ x ∈ b.nodes, x.attrs.length ≤ 4
theorem BdOk.fit {b : Bd} (h : BdOk 6000 b) : BdFit b := ⟨Nat.le_succ_of_le h.nodes, Nat.le_succ_of_le h.opn, h.text, h.att⟩
def AnyGot (b : Nat) (sv : Value) (len : Nat) (w : World) (e : Ending) (w' : World) : Prop :=
  ∃ na nn nc oa on oc ns zs, e = .returned (.agg #[.slice na nn nc, .slice oa on oc]) ∧ BdFit ⟨ns.map Prod.fst, zs⟩ ∧ BdM w.heap.size w' w' (.slice na nn nc) (.slice oa on oc) ns zs ∧ Cur b sv len w' ∧ Kept b w w'

/-- What l6Any gives, as a premise: what DrawAny shows. -/
def AnyS : Prop := ∀ (b : Nat) (sv : Value) (len : Nat) (w : World), Cur b sv len w → Calls Try.prog 46 #[.pointer (some ⟨b, 0, none⟩)] w (AnyGot b sv len w)
/-- A draw's own reader above its box, a drawn builder, and a box that holds it. -/
structure DrwAt (b : Nat) (sv : Value) (len : Nat) (w W : World) (c : Nat) (p q x y nv ov : Value) (ns : List Nv) (zs : List Int) : Prop where
  lb : w.heap.size < b
  lc : b < c
  cur : Cur b sv len W
  bel : Below w.heap.size w W
  m : BdM (b + 1) W W nv ov ns zs
  bx : Box2 W w.heap.size p q
  bc : Box2 W c x y
theorem DrwAt.on {b : Nat} {sv : Value} {len : Nat} {w W W' : World} {c : Nat} {p q x y nv ov : Value} {ns : List Nv} {zs : List Int} (h : DrwAt b sv len w W c p q x y nv ov ns zs) (hb : Below W.heap.size W W') : DrwAt b sv len w W' c p q x y nv ov ns zs :=
  ⟨h.lb, h.lc, h.cur.below hb, h.bel.trans (hb.mono h.bel.size), (h.m.later hb).down (Below.refl _ _) (Nat.le_refl _), h.bx.later hb, h.bc.later hb⟩
theorem DrwAt.draw {b : Nat} {sv : Value} {len : Nat} {w W W' : World} {c : Nat} {p q x y nv ov : Value} {ns : List Nv} {zs : List Int} (h : DrwAt b sv len w W c p q x y nv ov ns zs) (hc : Cur b sv len W') (hk : Kept b W W') : DrwAt b sv len w W' c p q x y nv ov ns zs :=
  ⟨h.lb, h.lc, hc, h.bel.trans ((hk.below (Nat.le_of_lt h.cur.lt)).mono (Nat.le_of_lt h.lb)), bdM_kept h.m hk (Nat.lt_succ_self _), box_kept h.bx hk (Nat.ne_of_lt h.lb), box_kept h.bc hk (Nat.ne_of_gt h.lc)⟩
theorem DrwAt.fin {b : Nat} {sv : Value} {len : Nat} {w W : World} {c : Nat} {p q x y nv ov : Value} {ns : List Nv} {zs : List Int} (h : DrwAt b sv len w W c p q x y nv ov ns zs) (u v : Value) :
    BdM w.heap.size ((W.setCell ⟨w.heap.size, 0, none⟩ u).setCell ⟨w.heap.size, 1, none⟩ v) ((W.setCell ⟨w.heap.size, 0, none⟩ u).setCell ⟨w.heap.size, 1, none⟩ v) nv ov ns zs ∧ Below w.heap.size w ((W.setCell ⟨w.heap.size, 0, none⟩ u).setCell ⟨w.heap.size, 1, none⟩ v) ∧ Box2 ((W.setCell ⟨w.heap.size, 0, none⟩ u).setCell ⟨w.heap.size, 1, none⟩ v) w.heap.size u v :=
  ⟨((((h.m.down (Below.refl _ _) (B' := w.heap.size) (Nat.le_of_lt (Nat.lt_succ_of_lt h.lb))).setT h.bx (Nat.le_refl _)).setT (h.bx.set0 u) (Nat.le_refl _))).down (Below.refl _ _) (Nat.le_refl _), (h.bel.setCell (Nat.le_refl _) _).setCell (Nat.le_refl _) _, (h.bx.set0 u).set1 v⟩
/-- A draw of a builder and of something beside it. -/
def DrawnB (P : Value → Prop) (w : World) (e : Ending) (w' : World) : Prop :=
  ∃ na nn nc oa on oc ns zs r, e = .returned (.tuple #[.agg #[.slice na nn nc, .slice oa on oc], r]) ∧ P r ∧ BdFit ⟨ns.map Prod.fst, zs⟩ ∧ BdM w.heap.size w' w' (.slice na nn nc) (.slice oa on oc) ns zs ∧ Below w.heap.size w w'

set_option maxRecDepth 100000 in
set_option maxHeartbeats 4000000 in
theorem drawTextOf_any (HA : AnyS) (sv : Value) (len : Nat) (w : World) (hc : CodeOk w.heap.size w sv len) :
    Calls Try.prog 20 #[sv] w (DrawnB (fun r => ∃ z : Int, r = .int .i64 z ∧ -1 ≤ z ∧ z ≤ 16777215) w) := by
  have HCO := Lib.hid hc; have HAN := Lib.hid HA; clear hc HA
  go_enter Try.func20, Try.ntmps20
  go_wp2_with fail
  refine (new_any sv len _ (codeOk_later HCO.out ((Below.refl _ w).alloc (Nat.le_refl _) _))).mono ?_
  rintro e w1 ⟨rfl, hc1, hb1⟩
  simp only [size_alloc] at hc1 hb1 ⊢
  have HC1 := Lib.hid hc1
  have HX1 := Lib.hid (below_heap hb1 (Nat.lt_succ_self _) (Box2.new w (.slice none 0 0) (.slice none 0 0)))
  have HB1 := Lib.hid (((Below.refl _ w).alloc (Nat.le_refl _) (.cells #[.slice none 0 0, .slice none 0 0] 27)).trans (hb1.mono (Nat.le_succ _)))
  clear hc1 hb1
  go_wp2_with fail
  refine (HAN.out _ sv len _ HC1.out).mono ?_
  rintro e w2 ⟨na, nn, nc, oa, on, oc, ns, zs, rfl, hfit, hm, hc2, hk2⟩
  have HD0 := Lib.hid (show DrwAt (w.heap.size + 1) sv len w (w2.alloc (.cells #[.slice na nn nc, .slice oa on oc] 27)) w2.heap.size (.slice none 0 0) (.slice none 0 0) (.slice na nn nc) (.slice oa on oc) (.slice na nn nc) (.slice oa on oc) ns zs from
    ⟨Nat.lt_succ_self _, Nat.lt_of_lt_of_le HC1.out.lt hk2.size, hc2.alloc _, (HB1.out.trans ((hk2.below (Nat.le_of_lt HC1.out.lt)).mono (Nat.le_succ _))).alloc (Nat.le_trans HB1.out.size hk2.size) _, (hm.later ((Below.refl _ _).alloc (Nat.le_refl _) _)).down (Below.refl _ _) HC1.out.lt, (box_kept HX1.out hk2 (Nat.ne_of_lt (Nat.lt_succ_self _))).alloc _, Box2.new _ _ _⟩)
  have HFIT := Lib.hid hfit
  have hnn : nn ≤ 41 := by
    obtain ⟨a, c', e⟩ := mineN_form hm.n
    cases e
    have h := hfit.nodes
    rw [show (Bd.mk (ns.map Prod.fst) zs).nodes = ns.map Prod.fst from rfl, List.length_map] at h
    exact h
  clear hfit hm hc2 hk2
  obtain ⟨c, hc⟩ : ∃ c, w2.heap.size = c := ⟨_, rfl⟩
  go_wp2_with fail
  obtain ⟨W3, hW3⟩ : ∃ W, w2.alloc (.cells #[.slice na nn nc, .slice oa on oc] 27) = W := ⟨_, rfl⟩
  try simp only [hc]
  rw [hW3, hc] at HD0
  rw [hW3]
  have HD := HD0
  obtain ⟨⟨c0, c1⟩, f0, f1⟩ := HD.out.bc.cells
  obtain ⟨⟨p0, p1⟩, p2, p3⟩ := HD.out.bx.cells
  have v1 := HD.out.bc.lt
  have v2 := HD.out.bx.lt
  have v3 := HD.out.cur.lt
  clear HD0 hc hW3
  go_region_law (go_simp; go_at_call 49; refine (below_any _ sv len _ _ (HD.out.on (by repeat' (first | (with_reducible exact Below.refl _ _) | (with_reducible refine bl_dr ?_) | (with_reducible refine bl_al ?_ _)))).cur).mono ?_; rintro e w4 ⟨y, rfl, hy0, hy1, hy2, hBc, hBo⟩; have hyw : IntKind.i64.wrap (y - 1) = y - 1 := (by rw [IntKind.wrap_i64]; omega); have hB := DrwAt.draw (HD.out.on (by repeat' (first | (with_reducible exact Below.refl _ _) | (with_reducible refine bl_dr ?_) | (with_reducible refine bl_al ?_ _)))) hBc hBo.kept; obtain ⟨⟨x0, x1⟩, x2, x3⟩ := hB.bc.cells; obtain ⟨⟨z0, z1⟩, z2, z3⟩ := hB.bx.cells)
  all_goals
    have HB5 := Lib.hid hB
    have HP := Lib.hid (show ∃ z : Int, Value.int .i64 (y - 1) = .int .i64 z ∧ -1 ≤ z ∧ z ≤ 16777215 from ⟨_, rfl, by omega, by omega⟩)
    clear hB x0 x1 x2 x3 z0 z1 z2 z3 c0 c1 f0 f1 p0 p1 p2 p3 hBc hBo
    have HFIN := Lib.hid (HB5.out.fin (.slice na nn nc) (.slice oa on oc))
    obtain ⟨⟨r0, r1⟩, -⟩ := HFIN.out.2.2.cells
    try go_wp2_with fail
    refine bodyPost_ret (v := .tuple #[.agg #[.slice na nn nc, .slice oa on oc], .int .i64 (y - 1)]) (by simp [results, Try.results20, go_sem, r0, r1]) rfl ?_
    exact ⟨na, nn, nc, oa, on, oc, ns, zs, _, rfl, HP.out, HFIT.out, HFIN.out.1, HFIN.out.2.1⟩

set_option maxRecDepth 100000 in
set_option maxHeartbeats 4000000 in
theorem drawCount_any (HA : AnyS) (sv : Value) (len : Nat) (w : World) (hc : CodeOk w.heap.size w sv len) :
    Calls Try.prog 22 #[sv] w (DrawnB (fun r => ∃ z : ByteArray, r = .string z ∧ Gt z) w) := by
  have HCO := Lib.hid hc; have HAN := Lib.hid HA; clear hc HA
  go_enter Try.func22, Try.ntmps22
  go_wp2_with fail
  refine (new_any sv len _ (codeOk_later HCO.out ((Below.refl _ w).alloc (Nat.le_refl _) _))).mono ?_
  rintro e w1 ⟨rfl, hc1, hb1⟩
  simp only [size_alloc] at hc1 hb1 ⊢
  have HC1 := Lib.hid hc1
  have HX1 := Lib.hid (below_heap hb1 (Nat.lt_succ_self _) (Box2.new w (.slice none 0 0) (.slice none 0 0)))
  have HB1 := Lib.hid (((Below.refl _ w).alloc (Nat.le_refl _) (.cells #[.slice none 0 0, .slice none 0 0] 27)).trans (hb1.mono (Nat.le_succ _)))
  clear hc1 hb1
  go_wp2_with fail
  refine (HAN.out _ sv len _ HC1.out).mono ?_
  rintro e w2 ⟨na, nn, nc, oa, on, oc, ns, zs, rfl, hfit, hm, hc2, hk2⟩
  have HD0 := Lib.hid (show DrwAt (w.heap.size + 1) sv len w (w2.alloc (.cells #[.slice na nn nc, .slice oa on oc] 27)) w2.heap.size (.slice none 0 0) (.slice none 0 0) (.slice na nn nc) (.slice oa on oc) (.slice na nn nc) (.slice oa on oc) ns zs from
    ⟨Nat.lt_succ_self _, Nat.lt_of_lt_of_le HC1.out.lt hk2.size, hc2.alloc _, (HB1.out.trans ((hk2.below (Nat.le_of_lt HC1.out.lt)).mono (Nat.le_succ _))).alloc (Nat.le_trans HB1.out.size hk2.size) _, (hm.later ((Below.refl _ _).alloc (Nat.le_refl _) _)).down (Below.refl _ _) HC1.out.lt, (box_kept HX1.out hk2 (Nat.ne_of_lt (Nat.lt_succ_self _))).alloc _, Box2.new _ _ _⟩)
  have HFIT := Lib.hid hfit
  have hnn : nn ≤ 41 := by
    obtain ⟨a, c', e⟩ := mineN_form hm.n
    cases e
    have h := hfit.nodes
    rw [show (Bd.mk (ns.map Prod.fst) zs).nodes = ns.map Prod.fst from rfl, List.length_map] at h
    exact h
  clear hfit hm hc2 hk2
  obtain ⟨c, hc⟩ : ∃ c, w2.heap.size = c := ⟨_, rfl⟩
  go_wp2_with fail
  obtain ⟨W3, hW3⟩ : ∃ W, w2.alloc (.cells #[.slice na nn nc, .slice oa on oc] 27) = W := ⟨_, rfl⟩
  try simp only [hc]
  rw [hW3, hc] at HD0
  rw [hW3]
  have HD := HD0
  obtain ⟨⟨c0, c1⟩, f0, f1⟩ := HD.out.bc.cells
  obtain ⟨⟨p0, p1⟩, p2, p3⟩ := HD.out.bx.cells
  have v1 := HD.out.bc.lt
  have v2 := HD.out.bx.lt
  have v3 := HD.out.cur.lt
  clear HD0 hc hW3
  go_region_law (go_simp; go_at_call 67; refine (strP_any Gt _ sv len _ 5 5 _ (HD.out.on (by repeat' (first | (with_reducible exact Below.refl _ _) | (with_reducible refine bl_dr ?_) | (with_reducible refine bl_al ?_ _)))).cur (by omega) (by decide) (by decide) (cells_gtb 5 (by repeat' (first | (with_reducible refine hp_dr ?_) | ((with_reducible refine hp_nw ?_); (first | (with_reducible rfl) | (simp only [size_alloc]; done))))) (by rfl) (by kernel_rfl))).mono ?_; rintro e w4 ⟨y, rfl, hyg, hBc, hBo⟩; have hB := DrwAt.draw (HD.out.on (by repeat' (first | (with_reducible exact Below.refl _ _) | (with_reducible refine bl_dr ?_) | (with_reducible refine bl_al ?_ _)))) hBc hBo; obtain ⟨⟨x0, x1⟩, x2, x3⟩ := hB.bc.cells; obtain ⟨⟨z0, z1⟩, z2, z3⟩ := hB.bx.cells)
  all_goals
    have HB5 := Lib.hid hB
    have HP := Lib.hid (show ∃ z : ByteArray, Value.string y = .string z ∧ Gt z from ⟨_, rfl, hyg⟩)
    clear hB x0 x1 x2 x3 z0 z1 z2 z3 c0 c1 f0 f1 p0 p1 p2 p3 hBc hBo
    have HFIN := Lib.hid (HB5.out.fin (.slice na nn nc) (.slice oa on oc))
    obtain ⟨⟨r0, r1⟩, -⟩ := HFIN.out.2.2.cells
    try go_wp2_with fail
    refine bodyPost_ret (v := .tuple #[.agg #[.slice na nn nc, .slice oa on oc], .string y]) (by simp [results, Try.results22, go_sem, r0, r1]) rfl ?_
    exact ⟨na, nn, nc, oa, on, oc, ns, zs, _, rfl, HP.out, HFIT.out, HFIN.out.1, HFIN.out.2.1⟩

set_option maxRecDepth 100000 in
set_option maxHeartbeats 1000000 in
theorem drawVoid_any (sv : Value) (len : Nat) (w : World) (hc : CodeOk w.heap.size w sv len) :
    Calls Try.prog 23 #[sv] w (DrawnT Gt w) := by
  have HCO := Lib.hid hc; clear hc
  go_enter Try.func23, Try.ntmps23
  go_wp2_with fail
  refine (new_any sv len _ HCO.out).mono ?_
  rintro e w1 ⟨rfl, hc1, hb1⟩
  have HC1 := Lib.hid hc1; have HB1 := Lib.hid hb1; have HL1 := Lib.hid hc1.lt; clear hc1 hb1
  go_wp2_with fail
  refine (strP_any Gt _ sv len _ 5 5 _ (HC1.out.alloc _) (by have := HL1.out; omega) (by omega) (by omega) ?_).mono ?_
  · exact cells_gt _ _ _ _ (by rfl) (by kernel_rfl)
  rintro e w3 ⟨s, rfl, hs, hc3, ho3⟩
  have HS := Lib.hid hs
  have HB3 := Lib.hid ((HB1.out.alloc HB1.out.size _).trans (ho3.below (Nat.le_trans HB1.out.size (by rw [size_alloc0]; omega))))
  clear hs hc3 ho3
  go_wp2_with fail
  go_ret
  exact ⟨_, rfl, HS.out, HB3.out⟩
end Go.Proofs.Ytmlmiclgledcpaa

/- 7 texts in one. -/
import Derived.Test.YtiginllbfjekeaaDrawF
import Derived.Test.YtiginllbfjekeaaDrawPg
import Derived.Test.YtiginllbfjekeaaAddL
import Derived.Test.YtiginllbfjekeaaBdAll
import Derived.Test.YtiginllbfjekeaaBdD
import Derived.Test.YtiginllbfjekeaaCnt
import Derived.Test.YtiginllbfjekeaaTagP
import Derived.Shelf.SlSortCmp.QuietGrown
import Derived.Test.YtiginllbfjekeaaAddS
import Derived.Deep.RegionWith
import Derived.Deep.CutRange
namespace Go.Proofs.Ytiginllbfjekeaa
/- DrawH -/
open Go.ChangeShapes Go.WideShapes Go.ChangeAt Go.RowKit

theorem kept_own (w : World) (r o : Nat) (v : Value) : Kept r w (w.setCell ⟨r, o, none⟩ v) :=
  ⟨((Below.refl 0 w).setCell (Nat.zero_le r) v).os, ((Below.refl 0 w).setCell (Nat.zero_le r) v).tape, ((Below.refl 0 w).setCell (Nat.zero_le r) v).output, ((Below.refl 0 w).setCell (Nat.zero_le r) v).size, fun _ _ hk => Below.heap_setCell _ _ _ _ hk⟩
theorem boxT_kept {b c : Nat} {w w' : World} {k : Int} {nm tx : ByteArray} {v : Value} (h : BoxT w c k nm v tx) (hk : Kept b w w') (hb : c ≠ b) : BoxT w' c k nm v tx := (hk.block c h.lt hb).trans h
theorem BoxT.set0 {w : World} {c : Nat} {k z : Int} {nm tx : ByteArray} {v : Value} (h : BoxT w c k nm v tx) : BoxT (w.setCell ⟨c, 0, none⟩ (.int .i64 z)) c z nm v tx := heap_one (o := 0) h _
theorem BoxT.set1 {w : World} {c : Nat} {k : Int} {nm tx z : ByteArray} {v : Value} (h : BoxT w c k nm v tx) : BoxT (w.setCell ⟨c, 1, none⟩ (.string z)) c k z v tx := heap_one (o := 1) h _
theorem BoxT.set2 {w : World} {c : Nat} {k : Int} {nm tx : ByteArray} {v z : Value} (h : BoxT w c k nm v tx) : BoxT (w.setCell ⟨c, 2, none⟩ z) c k nm z tx := heap_one (o := 2) h _
theorem BoxT.set3 {w : World} {c : Nat} {k : Int} {nm tx z : ByteArray} {v : Value} (h : BoxT w c k nm v tx) : BoxT (w.setCell ⟨c, 3, none⟩ (.string z)) c k nm v z := heap_one (o := 3) h _
/-- The end of the draw: both results are laid into their boxes. -/
def outW (W : World) (r : Nat) (u v : Value) (k : Int) (nm : ByteArray) (tv : Value) (tx : ByteArray) : World :=
  (((((W.setCell ⟨r, 0, none⟩ u).setCell ⟨r, 1, none⟩ v).setCell ⟨r + 1, 0, none⟩ (.int .i64 k)).setCell ⟨r + 1, 1, none⟩ (.string nm)).setCell ⟨r + 1, 2, none⟩ tv).setCell ⟨r + 1, 3, none⟩ (.string tx)
set_option maxHeartbeats 4000000 in
theorem DrwAt.fin2 {b : Nat} {sv : Value} {len : Nat} {w W : World} {c : Nat} {p q x y nv ov : Value} {ns : List Nv} {zs : List Int} (h : DrwAt b sv len w W c p q x y nv ov ns zs) (hb : w.heap.size + 1 < b) {k0 : Int} {n0 x0 : ByteArray} {v0 : Value} (ht : BoxT W (w.heap.size + 1) k0 n0 v0 x0) (u v : Value) (k : Int) (nm : ByteArray) (tv : Value) (tx : ByteArray) {lo : Nat} {ats : List At} (ho : OwnK encA 2 104 lo W.heap.size W tv ats) (hlo : tv = .slice none 0 0 ∨ b < lo) :
    BdM w.heap.size (outW W w.heap.size u v k nm tv tx) (outW W w.heap.size u v k nm tv tx) nv ov ns zs ∧ Below w.heap.size w (outW W w.heap.size u v k nm tv tx) ∧ Box2 (outW W w.heap.size u v k nm tv tx) w.heap.size u v ∧ BoxT (outW W w.heap.size u v k nm tv tx) (w.heap.size + 1) k nm tv tx ∧ ReadsK encA 2 (outW W w.heap.size u v k nm tv tx).heap.size (outW W w.heap.size u v k nm tv tx) tv ats := by
  have hs : (outW W w.heap.size u v k nm tv tx).heap.size = W.heap.size := by unfold outW; simp only [size_setC]
  refine ⟨?_, ?_, ?_, ?_, ?_⟩
  · unfold outW
    exact (bdM_kept (bdM_kept (bdM_kept (bdM_kept (bdM_kept (bdM_kept h.m (kept_own _ _ _ _) (by omega)) (kept_own _ _ _ _) (by omega)) (kept_own _ _ _ _) (by omega)) (kept_own _ _ _ _) (by omega)) (kept_own _ _ _ _) (by omega)) (kept_own _ _ _ _) (by omega)).down (Below.refl _ _) (by omega)
  · unfold outW
    exact (((((h.bel.setCell (Nat.le_refl _) _).setCell (Nat.le_refl _) _).setCell (Nat.le_succ _) _).setCell (Nat.le_succ _) _).setCell (Nat.le_succ _) _).setCell (Nat.le_succ _) _
  · unfold outW
    exact (((((h.bx.set0 u).set1 v).far (by omega) _).far (by omega) _).far (by omega) _).far (by omega) _
  · unfold outW
    exact ((((show BoxT ((W.setCell ⟨w.heap.size, 0, none⟩ u).setCell ⟨w.heap.size, 1, none⟩ v) (w.heap.size + 1) k0 n0 v0 x0 from box_far (box_far ht (by omega) _ _) (by omega) _ _).set0).set1).set2).set3
  · rcases hlo with rfl | hlo
    · have e : ats = [] := by
        obtain ⟨a, c', e⟩ := ho.slice
        injection e with _ e _
        exact List.eq_nil_of_length_eq_zero e.symm
      subst e
      exact ⟨none, 0, rfl, Nat.le_refl _, by omega, fun _ => rfl, Or.inl rfl⟩
    · rw [hs]
      have h1 : OwnK encA 2 104 lo W.heap.size (outW W w.heap.size u v k nm tv tx) tv ats := by
        unfold outW
        have g1 := ownK_kept ho (kept_own W w.heap.size 0 u) (by omega)
        have g2 := ownK_kept g1 (kept_own _ w.heap.size 1 v) (by omega)
        have g3 := ownK_kept g2 (kept_own _ (w.heap.size + 1) 0 (.int .i64 k)) (by omega)
        have g4 := ownK_kept g3 (kept_own _ (w.heap.size + 1) 1 (.string nm)) (by omega)
        have g5 := ownK_kept g4 (kept_own _ (w.heap.size + 1) 2 tv) (by omega)
        exact ownK_kept g5 (kept_own _ (w.heap.size + 1) 3 (.string tx)) (by omega)
      exact h1.reads encA_len

/- DrawG -/
open Go.ChangeShapes Go.WideShapes Go.ChangeAt Go.RowKit

/-- A draw of a builder and a token. -/
def DrawnBT (w : World) (e : Ending) (w' : World) : Prop :=
  ∃ (na : Option Addr) (nn nc : Nat) (oa : Option Addr) (on oc : Nat) (ns : List Nv) (zs : List Int) (kd : Int) (nm : ByteArray) (ats : List At) (tx : ByteArray) (ta : Option Addr) (tn tc : Nat), e = .returned (.tuple #[.agg #[.slice na nn nc, .slice oa on oc], .agg #[.int .i64 kd, .string nm, .slice ta tn tc, .string tx]]) ∧ BdFit ⟨ns.map Prod.fst, zs⟩ ∧ BdM w.heap.size w' w' (.slice na nn nc) (.slice oa on oc) ns zs ∧ ReadsK encA 2 w'.heap.size w' (.slice ta tn tc) ats ∧ ats.length ≤ 4 ∧ nm.size ≤ 6000 ∧ Below w.heap.size w w'
/-- A draw of a builder and tokens. -/
def DrawnBTs (w : World) (e : Ending) (w' : World) : Prop :=
  ∃ (na : Option Addr) (nn nc : Nat) (oa : Option Addr) (on oc : Nat) (ns : List Nv) (zs : List Int) (la : Option Addr) (ln lc : Nat) (tvs : List Tv), e = .returned (.tuple #[.agg #[.slice na nn nc, .slice oa on oc], .slice la ln lc]) ∧ BdFit ⟨ns.map Prod.fst, zs⟩ ∧ BdM w.heap.size w' w' (.slice na nn nc) (.slice oa on oc) ns zs ∧ ReadT w'.heap.size w' (.slice la ln lc) tvs ∧ tkW (tvs.map Prod.fst) ≤ 100000 ∧ tvs.length = ln ∧ ln ≤ 6001 ∧ Below w.heap.size w w'

set_option maxRecDepth 100000 in
set_option maxHeartbeats 8000000 in
theorem drawAdd_any (HA : AnyS) (HT : ToksS) (sv : Value) (len : Nat) (w : World) (hc : CodeOk w.heap.size w sv len) :
    Calls Try.prog 6 #[sv] w (DrawnBT w) := by
  have HCO := Lib.hid hc; have HAN := Lib.hid HA; have HTK := Lib.hid HT; clear hc HA HT
  go_enter Try.func6, Try.ntmps6
  go_wp2_with fail
  obtain ⟨W0, hW0⟩ : ∃ W, (w.alloc (.cells #[.slice none 0 0, .slice none 0 0] 27)).alloc (.cells #[.int .i64 0, .string ⟨#[]⟩, .slice none 0 0, .string ⟨#[]⟩] 30) = W := ⟨_, rfl⟩
  rw [hW0]
  have HB0 := Lib.hid (show Below w.heap.size w W0 by rw [← hW0]; exact ((Below.refl _ w).alloc (Nat.le_refl _) _).alloc (by rw [size_alloc]; omega) _)
  have HX0 := Lib.hid (show Box2 W0 w.heap.size (.slice none 0 0) (.slice none 0 0) by rw [← hW0]; exact (Box2.new _ _ _).alloc _)
  have HT0 := Lib.hid (show BoxT W0 (w.heap.size + 1) 0 ⟨#[]⟩ (.slice none 0 0) ⟨#[]⟩ by
    rw [← hW0]
    have h := BoxT.new (w.alloc (.cells #[.slice none 0 0, .slice none 0 0] 27)) 0 ⟨#[]⟩ (.slice none 0 0) ⟨#[]⟩
    rw [size_alloc] at h; exact h)
  clear hW0
  refine (new_any sv len _ (codeOk_later HCO.out HB0.out)).mono ?_
  rintro e w1 ⟨rfl, hc1, hb1⟩
  have HLB := Lib.hid (show w.heap.size + 1 < W0.heap.size from HT0.out.lt)
  obtain ⟨b, hb⟩ : ∃ b, W0.heap.size = b := ⟨_, rfl⟩
  have HX1 := Lib.hid (HX0.out.later hb1); have HT1 := Lib.hid (HT0.out.later hb1)
  have HB1 := Lib.hid (HB0.out.trans (hb1.mono HB0.out.size))
  rw [hb] at HLB hc1 ⊢
  have HC1 := Lib.hid hc1
  clear hc1 hb1 hb HX0 HT0 HB0
  go_wp2_with fail
  refine (HAN.out _ sv len _ HC1.out).mono ?_
  rintro e w2 ⟨na, nn, nc, oa, on, oc, ns, zs, rfl, hfit, hm, hc2, hk2⟩
  have HD0 := Lib.hid (show DrwAt b sv len w (w2.alloc (.cells #[.slice na nn nc, .slice oa on oc] 27)) w2.heap.size (.slice none 0 0) (.slice none 0 0) (.slice na nn nc) (.slice oa on oc) (.slice na nn nc) (.slice oa on oc) ns zs from
    ⟨by have := HLB.out; omega, Nat.lt_of_lt_of_le HC1.out.lt hk2.size, hc2.alloc _, (HB1.out.trans ((hk2.below (Nat.le_of_lt HC1.out.lt)).mono (by have := HLB.out; omega))).alloc (Nat.le_trans HB1.out.size hk2.size) _, (hm.later ((Below.refl _ _).alloc (Nat.le_refl _) _)).down (Below.refl _ _) HC1.out.lt, (box_kept HX1.out hk2 (by have := HLB.out; omega)).alloc _, Box2.new _ _ _⟩)
  have HT2 := Lib.hid ((boxT_kept HT1.out hk2 (by have := HLB.out; omega)).alloc (.cells #[.slice na nn nc, .slice oa on oc] 27))
  have HFIT := Lib.hid hfit
  clear hfit hm hc2 hk2 HX1 HT1 HB1 HC1
  obtain ⟨c, hc⟩ : ∃ c, w2.heap.size = c := ⟨_, rfl⟩
  go_wp2_with fail
  obtain ⟨W3, hW3⟩ : ∃ W, w2.alloc (.cells #[.slice na nn nc, .slice oa on oc] 27) = W := ⟨_, rfl⟩
  try simp only [hc]
  rw [hW3, hc] at HD0
  rw [hW3] at HT2
  rw [hW3]
  clear hc hW3
  refine (page3_any b sv len _ HD0.out.cur).mono ?_
  rintro e w4 ⟨s, rfl, hs, hc4, hk4⟩
  have HS := Lib.hid (show s.size ≤ 6000 from hs)
  have HD4 := Lib.hid (HD0.out.draw hc4 hk4)
  have HT4 := Lib.hid (boxT_kept HT2.out hk4 (by have := HLB.out; omega))
  clear hs hc4 hk4 HD0 HT2
  go_wp2_with fail
  refine (HTK.out s (by have := HS.out; omega) _).mono ?_
  rintro e w5 ⟨lv, tvs, rfl, hts, hT⟩
  obtain ⟨la, lc, rfl⟩ := hT.row.own.slice
  have HTS := Lib.hid hts; have HMT := Lib.hid hT
  have HD5 := Lib.hid (HD4.out.on hT.row.below); have HT5 := Lib.hid (HT4.out.later hT.row.below)
  have HL4 := Lib.hid (show b < w4.heap.size from HD4.out.cur.lt)
  have HS5 := Lib.hid hT.row.size
  clear hts hT HD4 HT4
  obtain ⟨⟨c0, c1⟩, f0, f1⟩ := HD5.out.bc.cells
  obtain ⟨⟨p0, p1⟩, p2, p3⟩ := HD5.out.bx.cells
  obtain ⟨⟨t0, t1, t2, t3⟩, s0, s1, s2, s3⟩ := cells_four HT5.out
  have v1 := HD5.out.bc.lt
  have v2 := HD5.out.bx.lt
  have v3 := HD5.out.cur.lt
  have v4 := HT5.out.lt
  cases tvs with
  | nil =>
    go_wp2_with fail
    go_region_law (go_simp; go_at_call 25; refine (below_any _ sv len _ _ (HD5.out.on (by repeat' (first | (with_reducible exact Below.refl _ _) | (with_reducible refine bl_dr ?_) | (with_reducible refine bl_al ?_ _)))).cur).mono ?_; rintro e w6 ⟨y, rfl, hy0, hy1, hy2, hBc, hBo⟩; have hB := DrwAt.draw (HD5.out.on (by repeat' (first | (with_reducible exact Below.refl _ _) | (with_reducible refine bl_dr ?_) | (with_reducible refine bl_al ?_ _)))) hBc hBo.kept; have hBT := boxT_kept (HT5.out.later (by repeat' (first | (with_reducible exact Below.refl _ _) | (with_reducible refine bl_dr ?_) | (with_reducible refine bl_al ?_ _)))) hBo.kept (by have := HLB.out; omega); obtain ⟨⟨x0, x1⟩, x2, x3⟩ := hB.bc.cells; obtain ⟨⟨z0, z1⟩, z2, z3⟩ := hB.bx.cells; obtain ⟨⟨g0, g1, g2, g3⟩, h0, h1, h2, h3⟩ := cells_four hBT; have v6 := hBT.lt; have v7 := hB.bc.lt; have v8 := hB.bx.lt; have v9 := hB.cur.lt)
    all_goals (
      have HB6 := Lib.hid hB
      have HT6 := Lib.hid hBT
      clear hB x0 x1 x2 x3 z0 z1 z2 z3 g0 g1 g2 g3 h0 h1 h2 h3 v6 v7 v8 v9 c0 c1 f0 f1 p0 p1 p2 p3 t0 t1 t2 t3 s0 s1 s2 s3 hBc hBo hBT
      have HFIN := Lib.hid (HB6.out.fin2 HLB.out HT6.out (.slice na nn nc) (.slice oa on oc) y ⟨#[112]⟩ (.slice none 0 0) ⟨#[]⟩ (ownK_nil encA 2 104 0 _ _) (Or.inl rfl))
      obtain ⟨W6, hW6⟩ : ∃ W, outW w6 w.heap.size (.slice na nn nc) (.slice oa on oc) y ⟨#[112]⟩ (.slice none 0 0) ⟨#[]⟩ = W := ⟨_, rfl⟩
      rw [hW6] at HFIN
      unfold outW at hW6
      rw [hW6]
      clear hW6
      (go_wp2_with fail)
      obtain ⟨⟨r0, r1⟩, -⟩ := HFIN.out.2.2.1.cells
      obtain ⟨q0, q1, q2, q3⟩ := HFIN.out.2.2.2.1.cells
      refine bodyPost_ret (v := .tuple #[.agg #[.slice na nn nc, .slice oa on oc], .agg #[.int .i64 y, .string ⟨#[112]⟩, .slice none 0 0, .string ⟨#[]⟩]]) (by simp [results, Try.results6, go_sem, r0, r1, q0, q1, q2, q3]) rfl ?_
      exact ⟨na, nn, nc, oa, on, oc, ns, zs, y, ⟨#[112]⟩, [], ⟨#[]⟩, none, 0, 0, rfl, HFIT.out, HFIN.out.1, HFIN.out.2.2.2.2, Nat.zero_le _, by show (1 : Nat) ≤ 6000; omega, HFIN.out.2.1⟩)
  | cons p tl =>
    have HRT := Lib.hid (HMT.out.reads (Nat.le_refl _))
    obtain ⟨g, off, rfl, hg, e0, e1, e2, e3⟩ := HRT.out.at (k := 0) (p := p) rfl
    obtain ⟨⟨kd, nm, ats, tx⟩, sl⟩ := p
    replace e0 : _ = some (Value.int .i64 kd) := e0
    replace e1 : _ = some (Value.string nm) := e1
    replace e2 : _ = some (Go.Proofs.Ytiginllbfjekeaa.sv sl) := e2
    replace e3 : _ = some (Value.string tx) := e3
    simp only [Nat.zero_mul, Nat.add_zero] at e0 e1 e2 e3
    have HOW := Lib.hid (show OwnK encA 2 104 w4.heap.size w5.heap.size w5 (Go.Proofs.Ytiginllbfjekeaa.sv sl) ats from HMT.out.inn _ List.mem_cons_self)
    have HAT := Lib.hid (show ats.length ≤ 4 from tokens_attrs s.data.toList _ (by rw [← HTS.out]; exact List.mem_cons_self))
    have HNM := Lib.hid (show nm.size ≤ 6000 from tokens_name_le s.data.toList _ (by rw [← HTS.out]; exact List.mem_cons_self))
    obtain ⟨sa, sn, sc⟩ := sl
    replace e2 : _ = some (Value.slice sa sn sc) := e2
    have HGB := Lib.hid (show w4.heap.size ≤ g from (HMT.out.row.row.lt g rfl).1)
    have hgb := HGB.out
    have hl4 := HL4.out
    have hlb := HLB.out
    go_wp2_with fail
    go_region_law (fail)
    all_goals (
      have HFIN := Lib.hid (HD5.out.fin2 HLB.out HT5.out (.slice na nn nc) (.slice oa on oc) kd nm (.slice sa sn sc) tx HOW.out (Or.inr HL4.out))
      clear c0 c1 f0 f1 p0 p1 p2 p3 t0 t1 t2 t3 s0 s1 s2 s3 e0 e1 e2 e3 v1 v2 v3 v4
      obtain ⟨W6, hW6⟩ : ∃ W, outW w5 w.heap.size (.slice na nn nc) (.slice oa on oc) kd nm (.slice sa sn sc) tx = W := ⟨_, rfl⟩
      rw [hW6] at HFIN
      unfold outW at hW6
      rw [hW6]
      clear hW6
      (go_wp2_with fail)
      obtain ⟨⟨r0, r1⟩, -⟩ := HFIN.out.2.2.1.cells
      obtain ⟨q0, q1, q2, q3⟩ := HFIN.out.2.2.2.1.cells
      refine bodyPost_ret (v := .tuple #[.agg #[.slice na nn nc, .slice oa on oc], .agg #[.int .i64 kd, .string nm, .slice sa sn sc, .string tx]]) (by simp [results, Try.results6, go_sem, r0, r1, q0, q1, q2, q3]) rfl ?_
      exact ⟨na, nn, nc, oa, on, oc, ns, zs, kd, nm, ats, tx, sa, sn, sc, rfl, HFIT.out, HFIN.out.1.drew.down (Below.refl _ _) (Nat.le_refl _), HFIN.out.2.2.2.2.below (Below.refl _ _).drew (Nat.le_refl _), HAT.out, HNM.out, HFIN.out.2.1.drew⟩)

/- DrawJ -/
open Go.ChangeShapes Go.WideShapes Go.ChangeAt Go.RowKit

theorem mineT_own2 {B : Nat} {w0 w : World} {v : Value} {ts : List Tv} (h : MineT B w0 w v ts) {r : Nat} (hr : r < B) (u u' : Value) : ReadT ((w.setCell ⟨r, 0, none⟩ u).setCell ⟨r, 1, none⟩ u').heap.size ((w.setCell ⟨r, 0, none⟩ u).setCell ⟨r, 1, none⟩ u') v ts := by
  have hs : ((w.setCell ⟨r, 0, none⟩ u).setCell ⟨r, 1, none⟩ u').heap.size = w.heap.size := by simp only [size_setC]
  rw [hs]
  exact ⟨(ownK_kept (ownK_kept h.row.own (kept_own _ _ _ _) hr) (kept_own _ _ _ _) hr).reads encT_len, fun p hp => (ownK_kept (ownK_kept (h.inn p hp) (kept_own _ _ _ _) hr) (kept_own _ _ _ _) hr).reads encA_len⟩

set_option maxRecDepth 100000 in
set_option maxHeartbeats 8000000 in
theorem drawAdds_any (HA : AnyS) (HT : ToksS) (sv : Value) (len : Nat) (w : World) (hc : CodeOk w.heap.size w sv len) :
    Calls Try.prog 13 #[sv] w (DrawnBTs w) := by
  have HCO := Lib.hid hc; have HAN := Lib.hid HA; have HTK := Lib.hid HT; clear hc HA HT
  go_enter Try.func13, Try.ntmps13
  go_wp2_with fail
  refine (new_any sv len _ (codeOk_later HCO.out ((Below.refl _ w).alloc (Nat.le_refl _) _))).mono ?_
  rintro e w1 ⟨rfl, hc1, hb1⟩
  simp only [size_alloc] at hc1 hb1 ⊢
  have HC1 := Lib.hid hc1
  have HX1 := Lib.hid (below_heap hb1 (Nat.lt_succ_self _) (Box2.new w (.slice none 0 0) (.slice none 0 0)))
  have HB1 := Lib.hid (((Below.refl _ w).alloc (Nat.le_refl _) (.cells #[.slice none 0 0, .slice none 0 0] 27)).trans (hb1.mono (Nat.le_succ _)))
  clear hc1 hb1
  go_wp2_with fail
  refine (HAN.out _ sv len _ HC1.out).mono ?_
  rintro e w2 ⟨na, nn, nc, oa, on, oc, ns, zs, rfl, hfit, hm, hc2, hk2⟩
  have HD0 := Lib.hid (show DrwAt (w.heap.size + 1) sv len w (w2.alloc (.cells #[.slice na nn nc, .slice oa on oc] 27)) w2.heap.size (.slice none 0 0) (.slice none 0 0) (.slice na nn nc) (.slice oa on oc) (.slice na nn nc) (.slice oa on oc) ns zs from
    ⟨Nat.lt_succ_self _, Nat.lt_of_lt_of_le HC1.out.lt hk2.size, hc2.alloc _, (HB1.out.trans ((hk2.below (Nat.le_of_lt HC1.out.lt)).mono (Nat.le_succ _))).alloc (Nat.le_trans HB1.out.size hk2.size) _, (hm.later ((Below.refl _ _).alloc (Nat.le_refl _) _)).down (Below.refl _ _) HC1.out.lt, (box_kept HX1.out hk2 (Nat.ne_of_lt (Nat.lt_succ_self _))).alloc _, Box2.new _ _ _⟩)
  have HFIT := Lib.hid hfit
  clear hfit hm hc2 hk2
  obtain ⟨c, hc⟩ : ∃ c, w2.heap.size = c := ⟨_, rfl⟩
  go_wp2_with fail
  obtain ⟨W3, hW3⟩ : ∃ W, w2.alloc (.cells #[.slice na nn nc, .slice oa on oc] 27) = W := ⟨_, rfl⟩
  try simp only [hc]
  rw [hW3, hc] at HD0
  rw [hW3]
  have HD := HD0
  obtain ⟨⟨c0, c1⟩, f0, f1⟩ := HD.out.bc.cells
  obtain ⟨⟨p0, p1⟩, p2, p3⟩ := HD.out.bx.cells
  have v1 := HD.out.bc.lt
  have v2 := HD.out.bx.lt
  have v3 := HD.out.cur.lt
  clear HD0 hc hW3
  go_region_law (first
    | (go_simp; go_at_call 24; refine (page6_any _ sv len _ (HD.out.on (by repeat' (first | (with_reducible exact Below.refl _ _) | (with_reducible refine bl_dr ?_) | (with_reducible refine bl_al ?_ _)))).cur).mono ?_; rintro e w4 ⟨s, rfl, hs, hBc, hBk⟩; have hB := DrwAt.draw (HD.out.on (by repeat' (first | (with_reducible exact Below.refl _ _) | (with_reducible refine bl_dr ?_) | (with_reducible refine bl_al ?_ _)))) hBc hBk; obtain ⟨⟨x0, x1⟩, x2, x3⟩ := hB.bc.cells; obtain ⟨⟨z0, z1⟩, z2, z3⟩ := hB.bx.cells; have u1 := hB.bc.lt; have u2 := hB.bx.lt; have u3 := hB.cur.lt)
    | (go_simp; go_at_call 23; refine (HTK.out s (by have hs' : s.size ≤ 6000 := hs; omega) _).mono ?_; rintro e w5 ⟨lv, tvs, rfl, hts, hT⟩; have hC := (hB.on (by repeat' (first | (with_reducible exact Below.refl _ _) | (with_reducible refine bl_dr ?_) | (with_reducible refine bl_al ?_ _)))).on hT.row.below; have hTT := hT.row.size; obtain ⟨⟨y0, y1⟩, y2, y3⟩ := hC.bc.cells; obtain ⟨⟨k0, k1⟩, k2, k3⟩ := hC.bx.cells; have u4 := hC.bc.lt; have u5 := hC.bx.lt; have u6 := hC.cur.lt))
  all_goals
    have HC5 := Lib.hid hC; have HMT := Lib.hid hT; have HTS := Lib.hid hts
    have HSZ := Lib.hid (show s.size ≤ 6000 from hs)
    have HRT := Lib.hid (mineT_own2 hT (r := w.heap.size) (by first | (simp only [size_dr]; omega) | omega) (.slice na nn nc) (.slice oa on oc))
    clear hC hT hts hB hs hTT x0 x1 x2 x3 z0 z1 z2 z3 y0 y1 y2 y3 k0 k1 k2 k3 u1 u2 u3 u4 u5 u6 c0 c1 f0 f1 p0 p1 p2 p3 hBc hBk
    have HFIN := Lib.hid (HC5.out.fin (.slice na nn nc) (.slice oa on oc))
    obtain ⟨⟨r0, r1⟩, -⟩ := HFIN.out.2.2.cells
    (try go_wp2_with fail)
    obtain ⟨la, lc, rfl⟩ := HMT.out.row.own.slice
    refine bodyPost_ret (v := .tuple #[.agg #[.slice na nn nc, .slice oa on oc], .slice la tvs.length lc]) (by simp [results, Try.results13, go_sem, r0, r1]) rfl ?_
    have h1 := tkW_four _ (tokens_attrs s.data.toList)
    have h2 := tokens_size s.data.toList
    rw [size_list] at h2
    have h3 := HSZ.out
    have h4 : tvs.length = (tokensB s.data.toList).length := by rw [← HTS.out, List.length_map]
    exact ⟨na, nn, nc, oa, on, oc, ns, zs, la, _, lc, tvs, rfl, HFIT.out, HFIN.out.1, HRT.out, by rw [HTS.out]; omega, rfl, by omega, HFIN.out.2.1⟩

/- IsBa -/
theorem nmOk_add {b : Bd} {t : Tok} (h : ∀ x ∈ b.nodes, x.name.size ≤ 6000) (ht : t.name.size ≤ 6000) : ∀ x ∈ (addTok b t).1.nodes, x.name.size ≤ 6000 := by
  have key : ∀ x : Nd, x.name.size ≤ 6000 → ∀ y ∈ b.nodes ++ [x], y.name.size ≤ 6000 := fun x hx y hy => by
    rcases List.mem_append.1 hy with h1 | h1
    · exact h y h1
    · rw [List.mem_singleton] at h1; subst h1; exact hx
  unfold addTok openB textB closeB
  split
  · split
    · exact h
    · split
      · exact h
      · exact key _ ht
  · split
    · exact h
    · split
      · split
        · exact h
        · exact key _ (Nat.zero_le _)
      · exact h

/- Eqn -/
open Go.ChangeShapes Go.WideShapes Go.ChangeAt Go.RowKit

theorem eq_pre {xs ys : List Int} (hl : xs.length = ys.length) (h : ∀ j, j < xs.length → xs.getD j 0 = ys.getD j 0) : xs = ys := by
  apply List.ext_getElem?
  intro j
  by_cases hj : j < xs.length
  · rw [getD_at hj, getD_at (by omega), h j hj]
  · rw [List.getElem?_eq_none (by omega), List.getElem?_eq_none (by omega)]
def Pre (xs ys : List Int) (k : Nat) : Prop := ∀ j, j < k → xs.getD j 0 = ys.getD j 0
theorem Pre.step {xs ys : List Int} {k : Nat} (h : Pre xs ys k) (e : xs.getD k 0 = ys.getD k 0) : Pre xs ys (k + 1) := by
  intro j hj
  by_cases hjk : j = k
  · subst hjk; exact e
  · exact h j (by omega)
/-- The first k elements are equal. -/
def PreL {α : Type} (xs ys : List α) (k : Nat) : Prop := ∀ j, j < k → xs[j]? = ys[j]?
theorem PreL.zero {α : Type} (xs ys : List α) : PreL xs ys 0 := fun _ h => absurd h (Nat.not_lt_zero _)
theorem PreL.step {α : Type} {xs ys : List α} {k : Nat} (h : PreL xs ys k) (e : xs[k]? = ys[k]?) : PreL xs ys (k + 1) := by
  intro j hj
  by_cases hjk : j = k
  · subst hjk; exact e
  · exact h j (by omega)
theorem PreL.full {α : Type} {xs ys : List α} {k : Nat} (h : PreL xs ys k) (hx : xs.length = k) (hy : ys.length = k) : xs = ys := by
  apply List.ext_getElem?
  intro j
  by_cases hj : j < k
  · exact h j hj
  · rw [List.getElem?_eq_none (by omega), List.getElem?_eq_none (by omega)]
theorem ret_d {p : Prop} [Decidable p] {b : Bool} (h : b = decide p) : Ending.returned (.bool b) = .returned (.bool (decide p)) := by rw [h]

set_option maxHeartbeats 1000000 in
theorem slicesEqI (v u : Value) (hi hi' : Nat) (xs ys : List Int) (w : World) (hv : Reads .i64 hi w v xs) (hu : Reads .i64 hi' w u ys) (hh : hi ≤ w.heap.size) (hh' : hi' ≤ w.heap.size) :
    Calls Try.prog 57 #[v, u] w fun e w' => e = .returned (.bool (decide (xs = ys))) ∧ Grw w w' := by
  obtain ⟨a, cap, rfl, hc1, hc2, _, hcells⟩ := hv
  obtain ⟨a', cap', rfl, hc1', hc2', _, hcells'⟩ := hu
  have HC := Lib.hid hcells; have HC' := Lib.hid hcells'; clear hcells hcells'
  by_cases hn : xs.length = ys.length
  · obtain ⟨n, hxn⟩ : ∃ n, xs.length = n := ⟨_, rfl⟩
    have hyn : ys.length = n := by omega
    rw [hxn] at hc1 HC ⊢
    rw [hyn] at hc1' HC' ⊢
    have HXN := Lib.hid hxn; have HYN := Lib.hid hyn; clear hxn hyn hn
    go_enter Try.func57, Try.ntmps57
    go_wp2
    go_loopw [13] (fun i wr => ∃ (k : Nat), k ≤ n ∧ i = .int .i64 k ∧ Pre xs ys k ∧ Grw w wr)
      (fun i _ => n - (intOf i).toNat)
    case atStart => exact ⟨0, Nat.zero_le _, rfl, fun _ h => absurd h (Nat.not_lt_zero _), Grw.refl _⟩
    case round =>
      obtain ⟨k, hk, rfl, hp, hs⟩ := hrel
      have HS := Lib.hid hs; have HP := Lib.hid hp
      clear hs hp
      by_cases hlt : (k : Int) < (n : Int)
      · rcases HC.out with h0 | ⟨g, off, rfl, hg, hcells⟩
        · omega
        · rcases HC'.out with h0 | ⟨g', off', rfl, hg', hcells'⟩
          · omega
          · have c1 : wr.cell? ⟨g, off + k, none⟩ = some (.int .i64 (xs.getD k 0)) := by rw [HS.out.below.cell (show g < _ by omega)]; exact hcells k (by omega)
            have c2 : wr.cell? ⟨g', off' + k, none⟩ = some (.int .i64 (ys.getD k 0)) := by rw [HS.out.below.cell (show g' < _ by omega)]; exact hcells' k (by omega)
            obtain ⟨x, hx⟩ : ∃ z, xs.getD k 0 = z := ⟨_, rfl⟩
            obtain ⟨y, hy⟩ : ∃ z, ys.getD k 0 = z := ⟨_, rfl⟩
            rw [hx] at c1; rw [hy] at c2
            have HX := Lib.hid hx; have HY := Lib.hid hy
            clear hcells hcells' hx hy
            by_cases hxy : x = y
            · subst hxy
              go_wp2
              go_quiet (fail)
              go_wp2
              go_roundw
              case rel => exact ⟨k + 1, by omega, by go_num, HP.out.step (by rw [HX.out, HY.out]), HS.out.drewN _⟩
              case measure => simp [intOf]; omega
            · go_wp2
              go_quiet (fail)
              go_wp2
              go_ret
              refine ⟨?_, HS.out.drewN _⟩
              have hne : xs ≠ ys := fun e => hxy (by rw [← HX.out, ← HY.out, e])
              exact congrArg (fun b => Ending.returned (.bool b)) (decide_eq_false hne).symm
      · have hkn : k = n := by omega
        subst hkn
        go_wp2
        go_ret
        refine ⟨?_, HS.out⟩
        have he : xs = ys := eq_pre (by rw [HXN.out, HYN.out]) (by rw [HXN.out]; exact HP.out)
        exact congrArg (fun b => Ending.returned (.bool b)) (decide_eq_true he).symm
  · have hne : xs ≠ ys := fun e => hn (by rw [e])
    have hni : (xs.length : Int) ≠ (ys.length : Int) := by omega
    have HNE := Lib.hid hne; clear hne hn
    go_enter Try.func57, Try.ntmps57
    go_wp2
    go_ret
    exact ⟨congrArg (fun b => Ending.returned (.bool b)) (decide_eq_false HNE.out).symm, Grw.refl _⟩

theorem eqI_impl (v u : Value) (hi hi' : Nat) (xs ys : List Int) (w : World) (hv : Reads .i64 hi w v xs) (hu : Reads .i64 hi' w u ys) (hh : hi ≤ w.heap.size) (hh' : hi' ≤ w.heap.size) :
    Calls Try.prog 33 #[v, u] w fun e w' => e = .returned (.bool (decide (xs = ys))) ∧ Grw w w' := by
  go_enter Try.func33, Try.ntmps33
  go_wp2_with fail
  refine (slicesEqI v u hi hi' xs ys _ hv hu hh hh').mono ?_
  rintro e w1 ⟨rfl, hs⟩
  have HS := Lib.hid hs; clear hs
  go_wp2
  go_ret
  exact ⟨rfl, HS.out⟩

set_option maxHeartbeats 2000000 in
theorem slicesEqA (v u : Value) (hi hi' : Nat) (xs ys : List At) (w : World) (hv : ReadsK encA 2 hi w v xs) (hu : ReadsK encA 2 hi' w u ys) (hh : hi ≤ w.heap.size) (hh' : hi' ≤ w.heap.size) :
    Calls Try.prog 58 #[v, u] w fun e w' => e = .returned (.bool (decide (xs = ys))) ∧ Grw w w' := by
  obtain ⟨a, cap, rfl, hc1, hc2, _, hcells⟩ := hv
  obtain ⟨a', cap', rfl, hc1', hc2', _, hcells'⟩ := hu
  have HC := Lib.hid hcells; have HC' := Lib.hid hcells'; clear hcells hcells'
  by_cases hn : xs.length = ys.length
  · obtain ⟨n, hxn⟩ : ∃ n, xs.length = n := ⟨_, rfl⟩
    have hyn : ys.length = n := by omega
    rw [hxn] at hc1 HC ⊢
    rw [hyn] at hc1' HC' ⊢
    have HXN := Lib.hid hxn; have HYN := Lib.hid hyn; clear hxn hyn hn
    go_enter Try.func58, Try.ntmps58
    go_wp2
    go_loopw [13] (fun i wr => ∃ (k : Nat), k ≤ n ∧ i = .int .i64 k ∧ PreL xs ys k ∧ Grw w wr)
      (fun i _ => n - (intOf i).toNat)
    case atStart => exact ⟨0, Nat.zero_le _, rfl, PreL.zero _ _, Grw.refl _⟩
    case round =>
      obtain ⟨k, hk, rfl, hp, hs⟩ := hrel
      have HS := Lib.hid hs; have HP := Lib.hid hp
      clear hs hp
      by_cases hlt : (k : Int) < (n : Int)
      · rcases HC.out with h0 | ⟨g, off, rfl, hg, hcells⟩
        · omega
        · rcases HC'.out with h0 | ⟨g', off', rfl, hg', hcells'⟩
          · omega
          · obtain ⟨x, y, hx⟩ := at_at (xs := xs) (j := k) (by have := HXN.out; omega)
            obtain ⟨x', y', hx'⟩ := at_at (xs := ys) (j := k) (by have := HYN.out; omega)
            have c1 : wr.cell? ⟨g, off + k * 2, none⟩ = some (.string x) := by rw [HS.out.below.cell (show g < _ by omega)]; exact hcells k _ hx 0 (by omega)
            have c2 : wr.cell? ⟨g, off + k * 2 + 1, none⟩ = some (.string y) := by rw [HS.out.below.cell (show g < _ by omega)]; exact hcells k _ hx 1 (by omega)
            have c3 : wr.cell? ⟨g', off' + k * 2, none⟩ = some (.string x') := by rw [HS.out.below.cell (show g' < _ by omega)]; exact hcells' k _ hx' 0 (by omega)
            have c4 : wr.cell? ⟨g', off' + k * 2 + 1, none⟩ = some (.string y') := by rw [HS.out.below.cell (show g' < _ by omega)]; exact hcells' k _ hx' 1 (by omega)
            have HX := Lib.hid hx; have HX' := Lib.hid hx'
            clear hcells hcells' hx hx'
            by_cases e1 : x = x'
            · have e3 : (x.toList == x'.toList) = true := beqL_yes e1
              by_cases e2 : y = y'
              · have e4 : (y.toList == y'.toList) = true := beqL_yes e2
                have HQ := Lib.hid (HP.out.step (by rw [HX.out, HX'.out, e1, e2]))
                clear e1 e2
                go_wp2
                go_quiet (fail)
                go_wp2
                go_roundw
                case rel => exact ⟨k + 1, by omega, by go_num, HQ.out, HS.out.drewN _⟩
                case measure => simp [intOf]; omega
              · have e4 : (y.toList == y'.toList) = false := beqL_no e2
                have HNE := Lib.hid (show xs ≠ ys from fun e => e2 (by have h := HX.out; rw [e, HX'.out] at h; exact (Prod.mk.inj (Option.some.inj h)).2.symm))
                clear e1 e2
                go_wp2
                go_quiet (fail)
                go_wp2
                go_ret
                exact ⟨ret_d (decide_eq_false HNE.out).symm, HS.out.drewN _⟩
            · have e3 : (x.toList == x'.toList) = false := beqL_no e1
              have HNE := Lib.hid (show xs ≠ ys from fun e => e1 (by have h := HX.out; rw [e, HX'.out] at h; exact (Prod.mk.inj (Option.some.inj h)).1.symm))
              clear e1
              go_wp2
              go_quiet (fail)
              go_wp2
              go_ret
              exact ⟨ret_d (decide_eq_false HNE.out).symm, HS.out.drewN _⟩
      · have hkn : k = n := by omega
        subst hkn
        have HE := Lib.hid (HP.out.full HXN.out HYN.out)
        go_wp2
        go_ret
        exact ⟨ret_d (decide_eq_true HE.out).symm, HS.out⟩
  · have HNE := Lib.hid (show xs ≠ ys from fun e => hn (by rw [e]))
    have hni : (xs.length : Int) ≠ (ys.length : Int) := by omega
    clear hn
    go_enter Try.func58, Try.ntmps58
    go_wp2
    go_ret
    exact ⟨ret_d (decide_eq_false HNE.out).symm, Grw.refl _⟩

theorem nd_ne {x y : Nd} (h : x.name ≠ y.name ∨ x.text ≠ y.text ∨ x.parent ≠ y.parent ∨ x.attrs ≠ y.attrs) : x ≠ y := by
  rintro rfl
  rcases h with h | h | h | h <;> exact h rfl
theorem nd_eq {x y : Nd} (h1 : x.name = y.name) (h2 : x.text = y.text) (h3 : x.parent = y.parent) : decide (x = y) = decide (x.attrs = y.attrs) := by
  cases x; cases y
  simp only at h1 h2 h3
  subst h1; subst h2; subst h3
  exact decide_eq_decide.2 ⟨fun h => congrArg Nd.attrs h, fun h => by cases h; rfl⟩
set_option maxRecDepth 100000 in
set_option maxHeartbeats 4000000 in
theorem eqN_impl (g o g' o' : Nat) (p q : Nv) (w : World) (hg : g < w.heap.size) (hg' : g' < w.heap.size)
    (c0 : w.cell? ⟨g, o, none⟩ = some (.string p.1.name)) (c1 : w.cell? ⟨g, o + 1, none⟩ = some (.string p.1.text)) (c2 : w.cell? ⟨g, o + 2, none⟩ = some (.int .i64 p.1.parent)) (c3 : w.cell? ⟨g, o + 3, none⟩ = some (sv p.2))
    (d0 : w.cell? ⟨g', o', none⟩ = some (.string q.1.name)) (d1 : w.cell? ⟨g', o' + 1, none⟩ = some (.string q.1.text)) (d2 : w.cell? ⟨g', o' + 2, none⟩ = some (.int .i64 q.1.parent)) (d3 : w.cell? ⟨g', o' + 3, none⟩ = some (sv q.2))
    (hp : ReadsK encA 2 w.heap.size w (sv p.2) p.1.attrs) (hq : ReadsK encA 2 w.heap.size w (sv q.2) q.1.attrs) :
    Calls Try.prog 34 #[.pointer (some ⟨g, o, none⟩), .pointer (some ⟨g', o', none⟩)] w fun e w' => e = .returned (.bool (decide (p.1 = q.1))) ∧ Grw w w' := by
  have mixed : Try.prog.follows .mixedOrders = true := by kernel_rfl
  obtain ⟨⟨nm, tx, pa, ats⟩, ⟨sa, sn, sc⟩⟩ := p
  obtain ⟨⟨nm', tx', pa', ats'⟩, ⟨sa', sn', sc'⟩⟩ := q
  replace c3 : w.cell? ⟨g, o + 3, none⟩ = some (.slice sa sn sc) := c3
  replace d3 : w.cell? ⟨g', o' + 3, none⟩ = some (.slice sa' sn' sc') := d3
  have C0 := cell_grown hg c0; have C1 := cell_grown hg c1; have C2 := cell_grown hg c2; have C3 := cell_grown hg c3
  have D0 := cell_grown hg' d0; have D1 := cell_grown hg' d1; have D2 := cell_grown hg' d2; have D3 := cell_grown hg' d3
  have HE := Lib.hid (fun (n : Nat) (os : Array Obj) => slicesEqA (sv (sa, sn, sc)) (sv (sa', sn', sc')) _ _ ats ats' (Sort.grow (w.drewN n) os) (readsK_grown hp (Nat.le_refl _) n os) (readsK_grown hq (Nat.le_refl _) n os) (size_grown (Nat.le_refl _) n os) (size_grown (Nat.le_refl _) n os))
  clear c0 c1 c2 c3 d0 d1 d2 d3 hp hq
  by_cases h1 : nm = nm'
  · have e1 : (nm.toList == nm'.toList) = true := beqL_yes h1
    by_cases h2 : tx = tx'
    · have e2 : (tx.toList == tx'.toList) = true := beqL_yes h2
      by_cases h3 : pa = pa'
      · have e3 : (pa == pa') = true := beq_iff_eq.2 h3
        have HR := Lib.hid (nd_eq (x := ⟨nm, tx, pa, ats⟩) (y := ⟨nm', tx', pa', ats'⟩) h1 h2 h3)
        obtain ⟨r, hr⟩ : ∃ r, decide (ats = ats') = r := ⟨_, rfl⟩
        rw [hr] at HE
        have HRR := Lib.hid hr
        clear h1 h2 h3 hr
        go_enter Try.func34, Try.ntmps34
        go_wp2_with fail
        refine wp_region_quiet_grown mixed (by kernel_rfl) ?_
        repeat (go_big_quiet_step (first | (go_at_call 58; refine Calls.grown_of (HE.out _ _))))
        refine wpQuiet_nil ?_; intro _ hw'; obtain ⟨⟨nq, osq⟩, hw''⟩ := hw'; subst hw''
        go_wp2_with fail
        go_ret
        exact ⟨by rw [HR.out]; show _ = Ending.returned (.bool (decide (ats = ats'))); rw [HRR.out]; rfl, ⟨nq, osq, rfl⟩⟩
      · have e3 : (pa == pa') = false := beq_eq_false_iff_ne.2 h3
        have HN := Lib.hid (nd_ne (x := ⟨nm, tx, pa, ats⟩) (y := ⟨nm', tx', pa', ats'⟩) (Or.inr (Or.inr (Or.inl h3))))
        clear h1 h2 h3 HE
        go_enter Try.func34, Try.ntmps34
        go_wp2_with fail
        refine wp_region_quiet_grown mixed (by kernel_rfl) ?_
        repeat (go_big_quiet_step (fail))
        refine wpQuiet_nil ?_; intro _ hw'; obtain ⟨⟨nq, osq⟩, hw''⟩ := hw'; subst hw''
        go_wp2_with fail
        go_ret
        exact ⟨ret_d (decide_eq_false HN.out).symm, ⟨nq, osq, rfl⟩⟩
    · have e2 : (tx.toList == tx'.toList) = false := beqL_no h2
      have HN := Lib.hid (nd_ne (x := ⟨nm, tx, pa, ats⟩) (y := ⟨nm', tx', pa', ats'⟩) (Or.inr (Or.inl h2)))
      clear h1 h2 HE
      go_enter Try.func34, Try.ntmps34
      go_wp2_with fail
      refine wp_region_quiet_grown mixed (by kernel_rfl) ?_
      repeat (go_big_quiet_step (fail))
      refine wpQuiet_nil ?_; intro _ hw'; obtain ⟨⟨nq, osq⟩, hw''⟩ := hw'; subst hw''
      go_wp2_with fail
      go_ret
      exact ⟨ret_d (decide_eq_false HN.out).symm, ⟨nq, osq, rfl⟩⟩
  · have e1 : (nm.toList == nm'.toList) = false := beqL_no h1
    have HN := Lib.hid (nd_ne (x := ⟨nm, tx, pa, ats⟩) (y := ⟨nm', tx', pa', ats'⟩) (Or.inl h1))
    clear h1 HE
    go_enter Try.func34, Try.ntmps34
    go_wp2_with fail
    refine wp_region_quiet_grown mixed (by kernel_rfl) ?_
    repeat (go_big_quiet_step (fail))
    refine wpQuiet_nil ?_; intro _ hw'; obtain ⟨⟨nq, osq⟩, hw''⟩ := hw'; subst hw''
    go_wp2_with fail
    go_ret
    exact ⟨ret_d (decide_eq_false HN.out).symm, ⟨nq, osq, rfl⟩⟩

/- EqB -/
open Go.ChangeShapes Go.WideShapes Go.ChangeAt Go.RowKit

theorem bd_neq {a b : Bd} (h : a.nodes ≠ b.nodes ∨ a.opn ≠ b.opn) : a ≠ b := by
  rintro rfl
  rcases h with h | h <;> exact h rfl
theorem bd_eq {a b : Bd} (h1 : a.nodes = b.nodes) (h2 : a.opn = b.opn) : a = b := by
  cases a; cases b; simp only at h1 h2; subst h1; subst h2; rfl
/-- Nodes in memory, whole. -/
theorem ReadN.node {hi n cap k : Nat} {w : World} {a : Option Addr} {ns : List Nv} {p : Nv} (h : ReadN hi w (.slice a n cap) ns) (hk : ns[k]? = some p) : ReadsK encA 2 hi w (sv p.2) p.1.attrs := h.2 p (List.mem_of_getElem? hk)

/- EqC -/
open Go.ChangeShapes Go.WideShapes Go.ChangeAt Go.RowKit

set_option maxRecDepth 100000 in
set_option maxHeartbeats 4000000 in
theorem eqB_impl (nv ov nv' ov' : Value) (a b : Bd) (w : World) (ha : BdIn w.heap.size w nv ov a) (hb : BdIn w.heap.size w nv' ov' b) :
    Calls Try.prog 9 #[.agg #[nv, ov], .agg #[nv', ov']] w fun e w' => e = .returned (.bool (decide (a = b))) ∧ Grw w w' := by
  obtain ⟨ns, hns, hrn, hro⟩ := ha
  obtain ⟨ns', hns', hrn', hro'⟩ := hb
  obtain ⟨na, nc, rfl, hc1, hc2⟩ := hrn.form
  obtain ⟨oa, oc, rfl, _⟩ := reads_form hro
  obtain ⟨na', nc', rfl, hd1, hd2⟩ := hrn'.form
  obtain ⟨oa', oc', rfl, _⟩ := reads_form hro'
  obtain ⟨n, hn⟩ : ∃ n, ns.length = n := ⟨_, rfl⟩
  obtain ⟨n', hn'⟩ : ∃ n, ns'.length = n := ⟨_, rfl⟩
  obtain ⟨on, hon⟩ : ∃ n, a.opn.length = n := ⟨_, rfl⟩
  obtain ⟨on', hon'⟩ : ∃ n, b.opn.length = n := ⟨_, rfl⟩
  rw [hn] at hrn hc1 ⊢; rw [hn'] at hrn' hd1 ⊢; rw [hon] at hro ⊢; rw [hon'] at hro' ⊢
  have hnl : a.nodes.length = n := by rw [← hns, List.length_map, hn]
  have hnl' : b.nodes.length = n' := by rw [← hns', List.length_map, hn']
  obtain ⟨W0, hW0⟩ : ∃ W, (w.alloc (.cells #[.slice na n nc, .slice oa on oc] 27)).alloc (.cells #[.slice na' n' nc', .slice oa' on' oc'] 27) = W := ⟨_, rfl⟩
  have hg0 : Grw w W0 := by rw [← hW0]; exact ((Grw.refl w).alloc _).alloc _
  have q1 : Box2 W0 w.heap.size (.slice na n nc) (.slice oa on oc) := by rw [← hW0]; exact (Box2.new _ _ _).alloc _
  have q2 : Box2 W0 (w.heap.size + 1) (.slice na' n' nc') (.slice oa' on' oc') := by rw [← hW0, ← size_alloc w]; exact Box2.new _ _ _
  obtain ⟨⟨a0, a1⟩, _⟩ := q1.cells
  obtain ⟨⟨b0, b1⟩, _⟩ := q2.cells
  have HEI := Lib.hid (eqI_impl _ _ _ _ a.opn b.opn W0 (hro.below hg0.below (Nat.le_refl _)) (hro'.below hg0.below (Nat.le_refl _)) hg0.below.size hg0.below.size)
  have HG := Lib.hid hg0; have HW0 := Lib.hid hW0; have Q1 := Lib.hid q1; have Q2 := Lib.hid q2
  have HRN := Lib.hid hrn; have HRN' := Lib.hid hrn'; have HNS := Lib.hid hns; have HNS' := Lib.hid hns'; have HNL := Lib.hid hnl; have HNL' := Lib.hid hnl'; have HN := Lib.hid hn; have HN' := Lib.hid hn'
  clear hrn hrn' hro hro' hns hns' hnl hnl' hn hn' hW0 hg0 q1 q2 hon hon'
  by_cases h1 : n = n'
  · subst h1
    have hnn : ((n : Int) != (n : Int)) = false := by rw [bne, beq_self_eq_true]; rfl
    by_cases h2 : a.opn = b.opn
    · have hd : decide (a.opn = b.opn) = true := decide_eq_true h2
      have H2 := Lib.hid h2
      rw [hd] at HEI
      clear h2 hd
      go_enter Try.func9, Try.ntmps9
      go_upto_region 1 with (fail)
      rw [HW0.out]
      go_wp2_with (go_at_call 33; refine HEI.out.mono ?_; rintro e w1 ⟨rfl, hg1⟩; have a0' := (Q1.out.later hg1.below).cells.1.1)
      have HG1 := Lib.hid hg1; clear hg1
      go_loopw [24] (fun i wr => ∃ (k : Nat), k ≤ n ∧ i = .int .i64 k ∧ PreL a.nodes b.nodes k ∧ Grw W0 wr)
        (fun i _ => n - (intOf i).toNat)
      case atStart => exact ⟨0, Nat.zero_le _, rfl, PreL.zero _ _, HG1.out⟩
      case round =>
        obtain ⟨k, hk, rfl, hpre, hs⟩ := hrel
        have q1 := Q1.out.later hs.below
        have q2 := Q2.out.later hs.below
        obtain ⟨⟨a0, a1⟩, _⟩ := q1.cells
        obtain ⟨⟨b0, b1⟩, _⟩ := q2.cells
        have bq1 := q1.lt; have bq2 := q2.lt
        have hgk := HG.out.trans hs
        have HS := Lib.hid hgk; have HP := Lib.hid hpre; have HS0 := Lib.hid hs
        clear hs hpre q1 q2 hgk
        by_cases hlt : (k : Int) < (n : Int)
        · obtain ⟨p, hp⟩ := nd_at (ns := ns) (k := k) (by rw [HN.out]; omega)
          obtain ⟨q, hq⟩ := nd_at (ns := ns') (k := k) (by rw [HN'.out]; omega)
          have hr := HRN.out.below HS.out.below (Nat.le_refl _)
          have hr' := HRN'.out.below HS.out.below (Nat.le_refl _)
          obtain ⟨g, off, rfl, hg, c0, c1, c2, c3⟩ := hr.at hp
          obtain ⟨g', off', rfl, hg', d0, d1, d2, d3⟩ := hr'.at hq
          have hsz := HS.out.below.size
          have hpa := (hr.node hp).mono hsz
          have hqa := (hr'.node hq).mono hsz
          have hpn := map_fst_at HNS.out hp
          have hqn := map_fst_at HNS'.out hq
          have HNA := Lib.hid (nodeAt_in w.heap.size g off n nc k wr a0 (by omega) (by omega))
          have HNB := Lib.hid (nodeAt_in (w.heap.size + 1) g' off' n nc' k wr b0 (by omega) (by omega))
          have HSM := Lib.hid (eqN_impl g (off + k * 4) g' (off' + k * 4) p q wr (by omega) (by omega) c0 c1 c2 c3 d0 d1 d2 d3 hpa hqa)
          obtain ⟨r, hrr⟩ : ∃ r, decide (p.1 = q.1) = r := ⟨_, rfl⟩
          rw [hrr] at HSM
          have HPN := Lib.hid hpn; have HQN := Lib.hid hqn; have HRR := Lib.hid hrr
          clear hp hq hr hr' c0 c1 c2 c3 d0 d1 d2 d3 hpa hqa hpn hqn hrr
          cases r with
          | true =>
            have HQ := Lib.hid (HP.out.step (by rw [HPN.out, HQN.out]; exact congrArg some (of_decide_eq_true HRR.out)))
            go_wp2_with (first | (go_at_call 35; with_reducible refine HNA.out.mono ?_; rintro e w' ⟨rfl, rfl⟩) | (go_at_call 35; with_reducible refine HNB.out.mono ?_; rintro e w' ⟨rfl, rfl⟩) | (go_at_call 34; refine HSM.out.mono ?_; rintro e w5 ⟨rfl, hg5⟩))
            have HG5 := Lib.hid hg5; clear hg5
            go_roundw
            case rel => exact ⟨k + 1, by omega, by go_num, HQ.out, HS0.out.trans HG5.out⟩
            case measure => simp [intOf]; omega
          | false =>
            have HNE := Lib.hid (bd_neq (a := a) (b := b) (Or.inl fun e => of_decide_eq_false HRR.out (by have h := HPN.out; rw [e, HQN.out] at h; exact (Option.some.inj h).symm)))
            go_wp2_with (first | (go_at_call 35; with_reducible refine HNA.out.mono ?_; rintro e w' ⟨rfl, rfl⟩) | (go_at_call 35; with_reducible refine HNB.out.mono ?_; rintro e w' ⟨rfl, rfl⟩) | (go_at_call 34; refine HSM.out.mono ?_; rintro e w5 ⟨rfl, hg5⟩))
            have HG5 := Lib.hid hg5; clear hg5
            go_ret
            exact ⟨ret_d (decide_eq_false HNE.out).symm, HS.out.trans HG5.out⟩
        · have hkn : k = n := by omega
          subst hkn
          have HE := Lib.hid (bd_eq (a := a) (b := b) (HP.out.full HNL.out HNL'.out) H2.out)
          go_wp2_with fail
          go_ret
          exact ⟨ret_d (decide_eq_true HE.out).symm, HS.out⟩
    · have hd : decide (a.opn = b.opn) = false := decide_eq_false h2
      rw [hd] at HEI
      have HNE := Lib.hid (bd_neq (a := a) (b := b) (Or.inr h2))
      clear h2 hd
      go_enter Try.func9, Try.ntmps9
      go_upto_region 1 with (fail)
      rw [HW0.out]
      go_wp2_with (go_at_call 33; refine HEI.out.mono ?_; rintro e w1 ⟨rfl, hg1⟩)
      have HG1 := Lib.hid (HG.out.trans hg1); clear hg1
      go_ret
      exact ⟨ret_d (decide_eq_false HNE.out).symm, HG1.out⟩
  · have hnn : ((n : Int) != (n' : Int)) = true := by rw [bne, beq_eq_false_iff_ne.2 (show (n : Int) ≠ (n' : Int) by omega)]; rfl
    have HNE := Lib.hid (bd_neq (a := a) (b := b) (Or.inl fun e => h1 (by rw [← HNL.out, ← HNL'.out, e])))
    clear h1
    go_enter Try.func9, Try.ntmps9
    go_upto_region 1 with (fail)
    rw [HW0.out]
    go_wp2_with fail
    go_ret
    exact ⟨ret_d (decide_eq_false HNE.out).symm, HG.out⟩
end Go.Proofs.Ytiginllbfjekeaa

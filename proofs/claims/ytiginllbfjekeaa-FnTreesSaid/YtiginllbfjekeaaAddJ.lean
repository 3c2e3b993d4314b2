/- Helper contracts: appendNode, appendText, openElement, closeElement, addMarkup of the program: what they do to a builder of the call's own in a box. -/
import Derived.Test.YtiginllbfjekeaaAddT
import Derived.Deep.RegionHeld3
import Derived.Deep.RegionWith
import Derived.Deep.RegionLaw
import Derived.Deep.CutRange
namespace Go.Proofs.Ytiginllbfjekeaa
open Go.ChangeShapes Go.WideShapes Go.ChangeAt Go.RowKit

/-- Boxes of builders other than this one are as they were. -/
def Upd (c : Nat) (w w' : World) : Prop := ∀ d x y, d ≠ c → Box2 w d x y → Box2 w' d x y
theorem Upd.refl (c : Nat) (w : World) : Upd c w w := fun _ _ _ _ h => h
theorem Upd.trans {c : Nat} {w w1 w2 : World} (h : Upd c w w1) (k : Upd c w1 w2) : Upd c w w2 := fun d x y hd hb => k d x y hd (h d x y hd hb)
theorem Upd.below {c : Nat} {w w' : World} (h : Below w.heap.size w w') : Upd c w w' := fun _ _ _ _ hb => hb.later h
theorem Upd.keep {c : Nat} {w w' : World} {e : TypeId} (h : KeepT e w w') (hne : 27 ≠ e) : Upd c w w' := fun _ _ _ _ hb => hb.keep h hne
theorem Upd.set {c o : Nat} {w : World} {u : Value} : Upd c w (w.setCell ⟨c, o, none⟩ u) := fun _ _ _ hd hb => hb.far hd u
theorem Upd.alloc {c : Nat} {w w' : World} (h : Upd c w w') (o : Obj) : Upd c w (w'.alloc o) := h.trans (Upd.below ((Below.refl _ _).alloc (Nat.le_refl _) o))

theorem bl_st {B c o : Nat} {w w' : World} (h : Below B w w') (hb : B ≤ c) (u : Value) : Below B w (w'.setCell ⟨c, o, none⟩ u) := h.setCell hb u
theorem bl_dr {B : Nat} {w w' : World} (h : Below B w w') : Below B w w'.drew := h.drew
theorem bl_al {w w' : World} (h : Below w.heap.size w w') (o : Obj) : Below w.heap.size w (w'.alloc o) := h.alloc h.size o
theorem hp_dr {w : World} {g : Nat} {o : Obj} (h : w.heap[g]? = some o) : w.drew.heap[g]? = some o := h
theorem hp_nw {w : World} {g : Nat} {o : Obj} (h : w.heap.size = g) : (w.alloc o).heap[g]? = some o := by subst h; exact heap_alloc_new w o
theorem readsN_blk {w : World} {g : Nat} (p : Nv) {k : Int} {nm tx : ByteArray} {u : Value} (hg : w.heap[g]? = some (.cells #[.string nm, .string tx, .int .i64 k, u] 64 (0, 0))) (h1 : p.1.name = nm) (h2 : p.1.text = tx) (h3 : p.1.parent = k) (h4 : sv p.2 = u) :
    ReadsK encN 4 (g + 1) w (.slice (some ⟨g, 0, none⟩) 1 1) [p] := by
  subst h1; subst h2; subst h3; subst h4
  refine ⟨_, 1, rfl, by simp, by omega, (fun h => by cases h), Or.inr ⟨_, 0, rfl, by omega, fun j y hy i hi' => ?_⟩⟩
  have hj : j = 0 := by have := (List.getElem?_eq_some_iff.1 hy).1; simp at this; omega
  subst hj
  simp only [List.getElem?_cons_zero, Option.some.injEq] at hy
  subst hy
  rcases (show i = 0 ∨ i = 1 ∨ i = 2 ∨ i = 3 by omega) with rfl | rfl | rfl | rfl <;> exact box_cell hg rfl
theorem own_up {B : Nat} {w w' : World} {v : Value} {xs : List At} (h : OwnK encA 2 104 B w.heap.size w v xs) (hb : Below w.heap.size w w') : OwnK encA 2 104 B w'.heap.size w' v xs := (h.later hb).mono (Nat.le_refl _) hb.size
theorem BdM.drew {B : Nat} {w0 w : World} {nv ov : Value} {ns : List Nv} {zs : List Int} (h : BdM B w0 w nv ov ns zs) : BdM B w0 w.drew nv ov ns zs := h.later (Below.refl _ _).drew
/-- append of one node to nodes of the call's own, at a step of a drawn region. -/
theorem step_appNG {w : World} {ops : Array Oper} {o : Oper} {a : Act} {K : Act → World → Prop} {Q : Exit → Act → World → Prop} {E : Prop} (hgd : o.guard = none) (s x : Operand)
    (ho : o.op = .call { callee := .builtin .append, args := #[s, x], argTypes := #[24, 24] })
    (B : Nat) (w0 : World) (v : Value) (ts : List Nv) (hs : a.eval s = v) (hM : MineN B w0 w v ts) (ad : Addr) (top : Nat) (p : Nv) (hx : a.eval x = .slice (some ad) 1 1) (hr : ReadsK encN 4 top w (.slice (some ad) 1 1) [p])
    (hin : OwnK encA 2 104 B w.heap.size w (sv p.2) p.1.attrs) (hnd : (insN ts ++ insN [p]).Nodup)
    (n : Nat) (hn : ts.length = n) (hlen : n ≤ 68719476736)
    (h : ∀ ad' cap' w', MineN B w0 w' (.slice ad' (n + 1) cap') (ts ++ [p]) → w.grownBy w' v.ownBlock → K (a.put o.dst (.slice ad' (n + 1) cap')) w') :
    if Region.wanted o (yielded ops a.tmps) = true then Oper.wp Try.prog o a w K Q else E := by
  subst hn
  have hw : Region.wanted o (yielded ops a.tmps) = true := by simp [Region.wanted, hgd]
  rw [if_pos hw]
  obtain ⟨i, hi, hz, hsize, hby⟩ := info_parts infoNd
  refine wp_append_own _ s x _ ho B _ i _ 4 64 Try.underlying24 hi hz hsize hby (by rfl) (by decide) v ts.length _ hs hM.row.row ad 1 1 ([p].flatMap encN) hx (flat_len encN_len [p]) (hr.news encN_len) ?_ ?_ ?_ hM.row.size ?_
  · intro u hu
    obtain ⟨y, _, hy⟩ := List.mem_flatMap.1 hu
    exact encN_one y u hy
  · unfold maxLen; omega
  · have : (ts.length + 1) * 64 ≤ (ts.length + 1) * 1024 := Nat.mul_le_mul_left _ (by omega)
    omega
  · intro v' w' hown hgr hn
    have hM' : MineN B w0 w' v' (ts ++ [p]) := ⟨hM.row.grow (ys := [p]) hown hgr, fun q hq => by
      have hall : OwnK encA 2 104 B w.heap.size w (sv q.2) q.1.attrs := by
        rcases List.mem_append.1 hq with h | h
        · exact hM.inn q h
        · rw [List.mem_singleton] at h; subst h; exact hin
      exact ⟨hall.1.kept hgr (kept_ne hM.row.row hall.1 nd_ne_at), fun g hg => Nat.lt_of_lt_of_le (hall.2 g hg) hgr.size⟩, by rw [insN_append]; exact hnd⟩
    obtain ⟨a', c', e⟩ := mineN_form hM'
    rw [List.length_append] at e
    subst e
    exact h _ _ w' hM' hgr

/-- What appendNode does. -/
def PushOut (B : Nat) (w0 : World) (c : Nat) (ns : List Nv) (zs : List Int) (p : Nv) (w : World) (e : Ending) (w' : World) : Prop :=
  ∃ nv ov, Box2 w' c nv ov ∧ Upd c w w' ∧ (if 40 ≤ ns.length ∨ zs.length = 0 then e = .returned (.int .i64 (-1)) ∧ BdM B w0 w' nv ov ns zs
    else e = .returned (.int .i64 (ns.length : Int)) ∧ BdM B w0 w' nv ov (ns ++ [(⟨p.1.name, p.1.text, zs.getD (zs.length - 1) 0, p.1.attrs⟩, p.2)]) zs)

set_option maxRecDepth 100000 in
set_option maxHeartbeats 8000000 in
theorem push_any {B : Nat} {w0 w : World} {c : Nat} {nv ov : Value} {ns : List Nv} {zs : List Int} (p : Nv) (hq : Box2 w c nv ov) (hB : B ≤ c) (h : BdM B w0 w nv ov ns zs) (hat : OwnK encA 2 104 B w.heap.size w (sv p.2) p.1.attrs)
    (hfr : ∀ g, (sv p.2).ownBlock = some g → g ∉ insN ns) (hln : ns.length ≤ 68719476736) (hlz : zs.length ≤ 68719476736) :
    Calls Try.prog 66 #[.pointer (some ⟨c, 0, none⟩), .agg #[.string p.1.name, .string p.1.text, .int .i64 p.1.parent, sv p.2]] w (PushOut B w0 c ns zs p w) := by
  obtain ⟨⟨nm, tx, pa, ats⟩, ⟨xa, xn, xc⟩⟩ := p
  dsimp only at hat hfr ⊢
  rw [show sv (xa, xn, xc) = Value.slice xa xn xc from rfl] at hat hfr ⊢
  obtain ⟨na, nc, rfl⟩ := mineN_form h.n
  obtain ⟨oa, oc, rfl⟩ := mine_form h.o
  obtain ⟨n, hn⟩ : ∃ n, ns.length = n := ⟨_, rfl⟩
  obtain ⟨on, hon⟩ : ∃ n, zs.length = n := ⟨_, rfl⟩
  rw [hn] at h hln hq; rw [hon] at h hlz hq
  obtain ⟨W0, hW0⟩ : ∃ W, w.alloc (.cells #[.string nm, .string tx, .int .i64 pa, .slice xa xn xc] 64) = W := ⟨_, rfl⟩
  have hb0 : Below w.heap.size w W0 := by rw [← hW0]; exact (Below.refl _ _).alloc (Nat.le_refl _) _
  have q4 : Box4 W0 w.heap.size nm tx pa (.slice xa xn xc) := by rw [← hW0]; exact Box4.new _ _ _ _ _
  have hbd := h.later hb0
  have hqq := hq.later hb0
  have hat0 : OwnK encA 2 104 B W0.heap.size W0 (.slice xa xn xc) ats := (hat.later hb0).mono (Nat.le_refl _) hb0.size
  have bw : w.heap.size < W0.heap.size := q4.lt
  have bc : c < w.heap.size := hq.lt
  obtain ⟨⟨d0, d1⟩, fd0, fd1⟩ := hqq.cells
  obtain ⟨⟨e0, e1, e2, e3⟩, g0, g1, g2, g3⟩ := q4.cells
  have hrowlt : ∀ g, (Value.slice na n nc).ownBlock = some g → g < w.heap.size := fun g hg => (h.n.row.row.lt g hg).2
  have HU0 := Lib.hid (show Upd c w W0 from Upd.below hb0)
  have HN := Lib.hid hn; have HON := Lib.hid hon; have HB := Lib.hid hbd; have HQ := Lib.hid hqq; have Q4 := Lib.hid q4; have HAT := Lib.hid hat0; have HFR := Lib.hid hfr; have HW0 := Lib.hid hW0; have HRL := Lib.hid hrowlt; have HBc := Lib.hid hB
  have HMT := Lib.hid h.n.row.size; have HBW := Lib.hid h; have HQW := Lib.hid hq; have HATW := Lib.hid hat; have HB0W := Lib.hid hb0; have HOL := Lib.hid (show ∀ g, (Value.slice oa on oc).ownBlock = some g → g < w.heap.size from fun g hg => (h.o.row.lt g hg).2)
  clear hn hon hq h hat hfr hW0 hb0 q4 hbd hqq hat0 hrowlt
  by_cases h40 : (40 : Int) ≤ (n : Int)
  · go_enter Try.func66, Try.ntmps66
    go_upto_region 1 with (fail)
    rw [HW0.out]
    go_wp2_with fail
    go_ret
    exact ⟨_, _, HQ.out, HU0.out, by rw [if_pos (Or.inl (by rw [HN.out]; omega))]; exact ⟨rfl, HB.out⟩⟩
  have hd40 : decide ((40 : Int) ≤ (n : Int)) = false := decide_eq_false h40
  by_cases h0 : on = 0
  · subst h0
    go_enter Try.func66, Try.ntmps66
    go_upto_region 1 with (fail)
    rw [HW0.out]
    go_wp2_with fail
    go_ret
    exact ⟨_, _, HQ.out, HU0.out, by rw [if_pos (Or.inr HON.out)]; exact ⟨rfl, HB.out⟩⟩
  obtain ⟨m, rfl⟩ : ∃ m, on = m + 1 := ⟨on - 1, by omega⟩
  have h0j : ((m : Int) + 1 == 0) = false := beq_eq_false_iff_ne.2 (by omega)
  obtain ⟨go, rfl, bgo, ck, hc1, hc2⟩ := mine_at HB.out.o (k := m) (by rw [HON.out]; omega)
  obtain ⟨par, hpar⟩ : ∃ x, zs.getD m 0 = x := ⟨_, rfl⟩
  rw [hpar] at ck
  have HPAR := Lib.hid hpar
  clear hpar h0
  have hm0 : (0 : Int) ≤ (m : Int) := by omega
  have hm1 : (m : Int) < (m : Int) + 1 := by omega
  have hwm : IntKind.i64.wrap (m : Int) = (m : Int) := by rw [IntKind.wrap_i64]; omega
  have hwm2 : IntKind.i64.wrap ((m : Int) + 1 - 1) = (m : Int) := by rw [IntKind.wrap_i64]; omega
  have KEEP := Lib.hid (fun (w' : World) (h : Below w.heap.size W0 w') => show w'.cell? ⟨c, 0, none⟩ = some (.slice na n nc) ∧ w'.cell? ⟨c, 1, none⟩ = some (.slice (some ⟨go, 0, none⟩) (m + 1) oc) ∧ w'.cell? ⟨go, m, none⟩ = some (.int .i64 par) from ⟨(h.cell bc).trans d0, (h.cell bc).trans d1, (h.cell (HOL.out go rfl)).trans ck⟩)
  go_enter Try.func66, Try.ntmps66
  go_upto_region 1 with (fail)
  rw [HW0.out]
  go_upto_region 3 with (fail)
  go_region_held3 (fun w' => w'.cell? ⟨c, 0, none⟩ = some (.slice na n nc) ∧ w'.cell? ⟨c, 1, none⟩ = some (.slice (some ⟨go, 0, none⟩) (m + 1) oc) ∧ w'.cell? ⟨go, m, none⟩ = some (.int .i64 par)) (first | exact KEEP.out _ (Below.refl _ _) | exact KEEP.out _ (Below.refl _ _).drew | exact KEEP.out _ (bl_st (Below.refl _ _).drew (Nat.le_refl _) _) | exact KEEP.out _ (bl_st (Below.refl _ _) (Nat.le_refl _) _) | exact KEEP.out _ (bl_st (Below.refl _ _) (Nat.le_refl _) _).drew) (fail)
  all_goals
    obtain ⟨W1, hW1⟩ : ∃ W, (W0.setCell ⟨w.heap.size, 2, none⟩ (.int .i64 par)).drew = W := ⟨_, rfl⟩
    rw [hW1]
    have hbw : Below w.heap.size w W1 := by rw [← hW1]; exact (bl_st HB0W.out (Nat.le_refl _) _).drew
    have HB1 := Lib.hid (HBW.out.later hbw)
    have hq1 := HQW.out.later hbw
    have hq4 : Box4 W1 w.heap.size nm tx par (.slice xa xn xc) := by rw [← hW1]; exact Q4.out.set2
    have HAT1 := Lib.hid ((HATW.out.later hbw).mono (Nat.le_refl _) hbw.size)
    have HND := Lib.hid (show (insN ns ++ insN [((⟨nm, tx, par, ats⟩, (xa, xn, xc)) : Nv)]).Nodup from List.nodup_append.2 ⟨HB1.out.n.nod, by
      unfold insN; cases hv : (sv (xa, xn, xc)).ownBlock <;> simp [hv], fun a ha c' hc e => by
      obtain ⟨p, hp, hpb⟩ := insN_mem.1 hc
      rw [List.mem_singleton] at hp; subst hp; subst e
      exact HFR.out a hpb ha⟩)
    have HU1 := Lib.hid (show Upd c w W1 from Upd.below hbw)
    have HQ1 := Lib.hid hq1
    obtain ⟨⟨x0, x1⟩, y0, y1⟩ := hq1.cells
    obtain ⟨⟨z0, z1, z2, z3⟩, _, _, _, _⟩ := hq4.cells
    have bc1 : c < W1.heap.size := hq1.lt
    have bw1 : w.heap.size < W1.heap.size := hq4.lt
    clear hW1 hbw hq1 hq4 d0 d1 fd0 fd1 e0 e1 e2 e3 g0 g1 g2 g3 KEEP ck
    go_wp2_with fail
    go_region_law ((refine step_appNG (by rfl) _ _ (by rfl) B w0 _ ns (by rfl) (HB1.out.later (by repeat' (first | (with_reducible exact Below.refl _ _) | (with_reducible refine bl_dr ?_) | (with_reducible refine bl_al ?_ _)))).n _ _ ((⟨nm, tx, par, ats⟩, (xa, xn, xc)) : Nv) (by rfl) (readsN_blk (nm := nm) (tx := tx) (k := par) (u := .slice xa xn xc) _ (by repeat' (first | (with_reducible refine hp_dr ?_) | ((with_reducible refine hp_nw ?_); (first | (with_reducible rfl) | (simp only [size_alloc]; done))))) rfl rfl rfl rfl) (own_up HAT1.out (by repeat' (first | (with_reducible exact Below.refl _ _) | (with_reducible refine bl_dr ?_) | (with_reducible refine bl_al ?_ _)))) HND.out n HN.out (by omega) ?_; intro aA cA wA hmA hgA; have hXA := BdM.node (HB1.out.later (by repeat' (first | (with_reducible exact Below.refl _ _) | (with_reducible refine bl_dr ?_) | (with_reducible refine bl_al ?_ _)))) hmA hgA; have hkA := keep_of (HB1.out.later (by repeat' (first | (with_reducible exact Below.refl _ _) | (with_reducible refine bl_dr ?_) | (with_reducible refine bl_al ?_ _)))).n.row.row hgA; have hbA := (HQ1.out.later (by repeat' (first | (with_reducible exact Below.refl _ _) | (with_reducible refine bl_dr ?_) | (with_reducible refine bl_al ?_ _)))).keep hkA bd_ne.1; have hUA := (HU1.out.trans (Upd.below (by repeat' (first | (with_reducible exact Below.refl _ _) | (with_reducible refine bl_dr ?_) | (with_reducible refine bl_al ?_ _))))).trans (Upd.keep (c := c) hkA bd_ne.1); obtain ⟨⟨p0, p1⟩, r0, r1⟩ := hbA.cells))
    all_goals
      have HXA := Lib.hid hXA; have HBA := Lib.hid hbA; have HUA := Lib.hid hUA
      clear hmA hgA hXA hkA hbA hUA
      go_wp2_with fail
      go_ret
      refine ⟨.slice aA (n + 1) cA, .slice (some ⟨go, 0, none⟩) (m + 1) oc, HBA.out.set0 _, HUA.out.trans Upd.set, ?_⟩
      rw [if_neg (by rw [HN.out, HON.out]; omega)]
      refine ⟨by rw [HN.out]; rfl, ?_⟩
      show BdM B w0 _ _ _ (ns ++ [((⟨nm, tx, zs.getD (zs.length - 1) 0, ats⟩, (xa, xn, xc)) : Nv)]) zs
      rw [HON.out, Nat.add_sub_cancel, HPAR.out]
      exact HXA.out.setT HBA.out HBc.out

theorem push_text {B : Nat} {w0 w : World} {c : Nat} {nv ov : Value} {ns : List Nv} {zs : List Int} (tx : ByteArray) (hq : Box2 w c nv ov) (hB : B ≤ c) (h : BdM B w0 w nv ov ns zs) (hln : ns.length ≤ 68719476736) (hlz : zs.length ≤ 68719476736) :
    Calls Try.prog 56 #[.pointer (some ⟨c, 0, none⟩), .string tx] w fun e w' => if tx.size = 0 then e = .returned (.int .i64 (-1)) ∧ w' = w else PushOut B w0 c ns zs (⟨⟨#[]⟩, tx, 0, []⟩, svNil) w e w' := by
  have HP := Lib.hid (push_any (⟨⟨#[]⟩, tx, 0, []⟩, svNil) hq hB h (ownK_nil _ _ _ _ _ _) (fun g hg => by cases hg) hln hlz)
  clear hq h
  by_cases h0 : tx.size = 0
  · have hxe : (tx.toList == []) = true := by rw [emp_size, decide_eq_true h0]
    simp only [if_pos h0]
    clear h0
    go_enter Try.func56, Try.ntmps56
    go_wp2_with fail
    go_ret
    exact ⟨rfl, rfl⟩
  · have hxe : (tx.toList == []) = false := by rw [emp_size, decide_eq_false h0]
    simp only [if_neg h0]
    clear h0
    go_enter Try.func56, Try.ntmps56
    go_wp2_with fail
    refine HP.out.mono ?_
    rintro e w' ⟨nv', ov', hq', hu', hr⟩
    by_cases hc : 40 ≤ ns.length ∨ zs.length = 0
    · rw [if_pos hc] at hr
      obtain ⟨rfl, hbd⟩ := hr
      have HQ := Lib.hid hq'; have HU := Lib.hid hu'; have HBD := Lib.hid hbd; have HC := Lib.hid hc
      clear hq' hu' hbd hc
      go_wp2_with fail
      go_ret
      exact ⟨nv', ov', HQ.out, HU.out, by rw [if_pos HC.out]; exact ⟨rfl, HBD.out⟩⟩
    · rw [if_neg hc] at hr
      obtain ⟨rfl, hbd⟩ := hr
      have HQ := Lib.hid hq'; have HU := Lib.hid hu'; have HBD := Lib.hid hbd; have HC := Lib.hid hc
      clear hq' hu' hbd hc
      go_wp2_with fail
      go_ret
      exact ⟨nv', ov', HQ.out, HU.out, by rw [if_neg HC.out]; exact ⟨rfl, HBD.out⟩⟩
end Go.Proofs.Ytiginllbfjekeaa

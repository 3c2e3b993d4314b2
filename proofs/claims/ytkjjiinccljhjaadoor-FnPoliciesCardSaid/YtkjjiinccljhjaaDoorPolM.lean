/- Helper contracts: NarrowPolicy at any policies. Asked: the policies' slices read as named, they are not too long. -/
import Derived.Test.YtkjjiinccljhjaaDoorPolD
namespace Go.Proofs.YtkjjiinccljhjaaDoor
open Go.ChangeShapes Go.WideShapes Go.ChangeAt Go.RowKit

/-- append(new empty slice, strings..): what comes of it. -/
structure AppS (g : Nat) (us : List ByteArray) (w w' : World) (v : Value) : Prop where
  own : OwnK encS 1 9 0 w'.heap.size w' v us
  bel : Below w.heap.size w w'
  blk : ∀ b, v.ownBlock = some b → b = g ∨ w.heap.size ≤ b
theorem empty_rowS {w : World} {e : TypeId} {k g B : Nat} (h : w.heap[g]? = some (.cells #[] e (0, 0))) (hB : B ≤ g) : w.ownsRow B e k (.slice (some ⟨g, 0, none⟩) 0 0) 0 [] :=
  ⟨by simp, Or.inr ⟨g, 0, #[], rfl, hB, h, Nat.le_refl _, by decide, by simp, by simp⟩⟩
theorem step_appS0 {w : World} {ops : Array Oper} {o : Oper} {a : Act} {K : Act → World → Prop} {Q : Exit → Act → World → Prop} {E : Prop} (hgd : o.guard = none) (s x : Operand)
    (ho : o.op = .call { callee := .builtin .append, args := #[s, x], argTypes := #[24, 24] })
    (g : Nat) (hs : a.eval s = .slice (some ⟨g, 0, none⟩) 0 0) (hg : w.heap[g]? = some (.cells #[] 9 (0, 0)))
    (vx : Value) (us : List ByteArray) (hx : a.eval x = vx) (top : Nat) (hr : ReadsK encS 1 top w vx us) (hlen : us.length ≤ 137438953472)
    (h : ∀ ad n cap w', AppS g us w w' (.slice ad n cap) → K (a.put o.dst (.slice ad n cap)) w') :
    if Region.wanted o (yielded ops a.tmps) = true then Oper.wp Tryd.prog o a w K Q else E := by
  have hw : Region.wanted o (yielded ops a.tmps) = true := by simp [Region.wanted, hgd]
  rw [if_pos hw]
  have hrow := empty_rowS (k := 1) hg (Nat.zero_le g)
  obtain ⟨i, hi, hz, hsize, hby⟩ := info_parts infoStr
  obtain ⟨ad, cap, rfl, h1, h2, h3, h4⟩ := id hr
  have key : ∃ ad' n' cap' w', (Builtin.append_ #[24, 24] o.type #[.slice (some ⟨g, 0, none⟩) 0 0, .slice ad us.length cap]).run Tryd.prog w = .ok (.slice ad' n' cap') w' ∧ AppS g us w w' (.slice ad' n' cap') := by
    cases ad with
    | none =>
      obtain ⟨rfl, _, rfl⟩ := hr.nil
      have hrun := run_append_owned_none (P := Tryd.prog) (w := w) 0 24 o.type 9 i 1 Tryd.underlying24 hi _ 0 _ hrow
      exact ⟨_, _, _, w, hrun, ⟨hrow, fun b hb => (hrow.lt b hb).2⟩, Below.refl _ _, fun b hb => Or.inl (Option.some.inj hb).symm⟩
    | some ad =>
      have hl : (us.flatMap encS).length = us.length * 1 := flat_len encS_len us
      have hnews := hr.news encS_len
      have h1c : ∀ u ∈ us.flatMap encS, u.oneCell' = true := fun u hu => by
        obtain ⟨y, _, hy⟩ := List.mem_flatMap.1 hu
        exact encS_one y u hy
      obtain ⟨v', w', hr1, h2', h3', _⟩ := run_append_own (P := Tryd.prog) w 0 24 o.type 9 i _ 1 16 Tryd.underlying24 hi hz hsize hby (by rfl) (by decide) _ 0 _ hrow ad us.length cap (us.flatMap encS) hl hnews h1c (by unfold maxLen; omega) (by omega) (Nat.zero_le _)
      by_cases h0 : us.length = 0
      · have hr2 := run_append_room (P := Tryd.prog) w 24 o.type 9 i Tryd.underlying24 hi g 0 0 #[] hg ad us.length cap (us.flatMap encS) (by rw [hsize]; exact hl) hnews h1c (by omega) (by rw [hl, h0]; simp)
        have he := hr1.symm.trans hr2
        injection he with e1 e2
        have hu : us = [] := List.eq_nil_of_length_eq_zero h0
        subst hu
        subst e1
        have hrow2 : w'.heap[g]? = some (.cells #[] 9 (0, 0)) := by rw [e2, setRow_heap w g _ _ _ _ hg]; simp
        refine ⟨_, _, _, w', hr1, ⟨by simpa using h2', fun b hb => (h2'.lt b hb).2⟩, ⟨h3'.os, h3'.tape, h3'.output, h3'.size, fun k hk => ?_⟩, fun b hb => Or.inl (Option.some.inj hb).symm⟩
        by_cases hkg : k = g
        · subst hkg; rw [hrow2, hg]
        · exact h3'.block k hk fun e => hkg (Option.some.inj e)
      · have hr2 := run_append_grow (P := Tryd.prog) w 24 o.type 9 i _ Tryd.underlying24 hi hz ⟨g, 0, none⟩ 0 0 [] (by simp) (by simp) ad us.length cap (us.flatMap encS) (by rw [hsize]; exact hl) hnews (by omega) (by omega) (by rw [hby]; exact growslice_fits (by omega) (by omega))
        have he := hr1.symm.trans hr2
        injection he with e1 e2
        subst e1
        refine ⟨_, _, _, w', hr1, ⟨by simpa using h2', fun b hb => (h2'.lt b hb).2⟩, by rw [e2]; exact (Below.refl _ _).drew.alloc (Nat.le_refl _) _, fun b hb => Or.inr ?_⟩
        have : w.heap.size = b := Option.some.inj hb
        omega
  obtain ⟨ad', n', cap', w', hr1, hA⟩ := key
  unfold Oper.wp execOp
  simp only [ho, resolve, invoke, builtin, Sem.run_bind, Sem.run_pure, Result.andThen_ok, List.map_toArray, List.map_cons, List.map_nil, hs, hx, hr1]
  exact h _ _ _ w' hA
theorem fin8 {w Wc W1 W2 W3 : World} {p B h1 h2 h3 : Nat} {T : TypeId} {z0 z1 z2 z3 z4 u0 u4 v1 v2 v3 : Value} {xs ys zs : List ByteArray} (hp : Wc.heap[p]? = some (.cells #[z0, z1, z2, z3, z4] T (0, 0))) (hpB : B ≤ p) (hb : Below B w Wc) (hB : B ≤ w.heap.size)
    (o1 : OwnK encS 1 9 0 h1 W1 v1 xs) (k1 : Below W1.heap.size W1 Wc) (o2 : OwnK encS 1 9 0 h2 W2 v2 ys) (k2 : Below W2.heap.size W2 Wc) (o3 : OwnK encS 1 9 0 h3 W3 v3 zs) (k3 : Below W3.heap.size W3 Wc)
    (p1 : ∀ b, v1.ownBlock = some b → p + 1 ≤ b) (p2 : ∀ b, v2.ownBlock = some b → p + 1 ≤ b) (p3 : ∀ b, v3.ownBlock = some b → p + 1 ≤ b) (d12 : ∀ a b, v1.ownBlock = some a → v2.ownBlock = some b → a ≠ b) (d13 : ∀ a b, v1.ownBlock = some a → v3.ownBlock = some b → a ≠ b) (d23 : ∀ a b, v2.ownBlock = some a → v3.ownBlock = some b → a ≠ b) :
    (set5 Wc p u0 v1 v2 v3 u4).heap[p]? = some (.cells #[u0, v1, v2, v3, u4] T (0, 0)) ∧ Own3 (p + 1) (set5 Wc p u0 v1 v2 v3 u4) v1 v2 v3 xs ys zs ∧ Below B w (set5 Wc p u0 v1 v2 v3 u4) := by
  have ho := set5_only Wc p u0 v1 v2 v3 u4
  have f : ∀ {hi : Nat} {W : World} {v : Value} {us : List ByteArray}, OwnK encS 1 9 0 hi W v us → Below W.heap.size W Wc → (∀ b, v.ownBlock = some b → p + 1 ≤ b) → OwnK encS 1 9 (p + 1) (set5 Wc p u0 v1 v2 v3 u4).heap.size (set5 Wc p u0 v1 v2 v3 u4) v us := fun o k hlt => by
    have h1 := ownK_only (o.later k) ho fun b hv hm => by
      rw [List.mem_singleton] at hm
      have := hlt b hv; omega
    refine ⟨⟨h1.1.1, ?_⟩, fun g hg => (h1.1.lt g hg).2⟩
    rcases h1.1.2 with h2 | ⟨g, cap, cur, h2, h3, h4⟩
    · exact Or.inl h2
    · exact Or.inr ⟨g, cap, cur, h2, hlt g (by rw [h2]; rfl), h4⟩
  refine ⟨set5_box hp _ _ _ _ _, ⟨ownL_three.2 ⟨rwSs_own (f o1 k1 p1), rwSs_own (f o2 k2 p2), rwSs_own (f o3 k3 p3)⟩, ?_⟩, hb.trans (ho.below (fun i hi => by rw [List.mem_singleton] at hi; omega) (Nat.le_trans hB hb.size))⟩
  simp only [blocksL, List.append_nil, rwSs_blocks]
  have n : ∀ o : Option Nat, o.toList.Nodup := fun o => by cases o <;> simp
  refine List.nodup_append.2 ⟨n _, List.nodup_append.2 ⟨n _, n _, fun a ha b hb e => d23 a b (by simpa using ha) (by simpa using hb) e⟩, fun a ha b hb e => ?_⟩
  rcases List.mem_append.1 hb with hb | hb
  · exact d12 a b (by simpa using ha) (by simpa using hb) e
  · exact d13 a b (by simpa using ha) (by simpa using hb) e
theorem size_dr9 (w : World) : w.drew.heap.size = w.heap.size := rfl

theorem heap_al9 {w : World} {g : Nat} {o : Obj} (h : w.heap[g]? = some o) (o' : Obj) : (w.alloc o').heap[g]? = some o := below_heap ((Below.refl _ w).alloc (Nat.le_refl _) o') (heap_lt h) h
theorem bl_a9 {B : Nat} {w w' : World} (h : Below B w w') (hB : B ≤ w.heap.size) (o : Obj) : Below B w (w'.alloc o) := h.alloc (Nat.le_trans hB h.size) o
set_option maxRecDepth 100000 in
set_option maxHeartbeats 8000000 in
theorem narrow_impl_a (scr sty img : List ByteArray) (non : ByteArray) (a1 : Option Addr) (n1 c1 : Nat) (a2 : Option Addr) (n2 c2 : Nat) (a3 : Option Addr) (n3 c3 : Nat) (set' : Bool) (scr' sty' img' : List ByteArray) (non' : ByteArray) (a1' : Option Addr) (n1' c1' : Nat) (a2' : Option Addr) (n2' c2' : Nat) (a3' : Option Addr) (n3' c3' : Nat) (w : World) (hz : PolSm ⟨false, scr, sty, img, non⟩) (hz' : PolSm ⟨set', scr', sty', img', non'⟩) (hr : ReadP w.heap.size w (.slice a1 n1 c1) (.slice a2 n2 c2) (.slice a3 n3 c3) ⟨false, scr, sty, img, non⟩) (hr' : ReadP w.heap.size w (.slice a1' n1' c1') (.slice a2' n2' c2') (.slice a3' n3' c3') ⟨set', scr', sty', img', non'⟩) :
    Calls Tryd.prog 14 #[.agg #[.bool false, .slice a1 n1 c1, .slice a2 n2 c2, .slice a3 n3 c3, .string non], .agg #[.bool set', .slice a1' n1' c1', .slice a2' n2' c2', .slice a3' n3' c3', .string non']] w (PoNew (nrP ⟨false, scr, sty, img, non⟩ ⟨set', scr', sty', img', non'⟩) w) := by
  have u1 := hz; have u2 := hz'; have u3 := hr; have u4 := hr'; clear u1 u2 u3 u4
  obtain ⟨W, hW⟩ : ∃ W, ((w.alloc (.cells #[.bool false, .slice a1 n1 c1, .slice a2 n2 c2, .slice a3 n3 c3, .string non] 26)).alloc (.cells #[.bool set', .slice a1' n1' c1', .slice a2' n2' c2', .slice a3' n3' c3', .string non'] 26)).alloc (.cells #[.bool false, .slice none 0 0, .slice none 0 0, .slice none 0 0, .string ⟨#[]⟩] 26) = W := ⟨_, rfl⟩
  have HBW := Lib.hid (show Below w.heap.size w W by rw [← hW]; exact bl_aw (bl_aw (bl_aw (Below.refl _ _) _) _) _)
  have HX0 := Lib.hid (show W.heap[w.heap.size + 2]? = some (.cells #[.bool false, .slice none 0 0, .slice none 0 0, .slice none 0 0, .string ⟨#[]⟩] 26 (0, 0)) by rw [← hW]; exact three_new2 w _ _ _)
  have HPB := Lib.hid (show W.heap[w.heap.size + 1]? = some (.cells #[.bool set', .slice a1' n1' c1', .slice a2' n2' c2', .slice a3' n3' c3', .string non'] 26 (0, 0)) by rw [← hW]; exact three_new1 w _ _ _)
  have HPA := Lib.hid (show W.heap[w.heap.size]? = some (.cells #[.bool false, .slice a1 n1 c1, .slice a2 n2 c2, .slice a3 n3 c3, .string non] 26 (0, 0)) by rw [← hW]; exact three_new0 w _ _ _)
  have HSW := Lib.hid (show W.heap.size = w.heap.size + 3 by rw [← hW, size_alloc, size_alloc, size_alloc])
  have q0 := box_cell HPA.out (j := 0) rfl
  have q1 := box_cell HPA.out (j := 1) rfl
  have q2 := box_cell HPA.out (j := 2) rfl
  have q3 := box_cell HPA.out (j := 3) rfl
  have q4 := box_cell HPA.out (j := 4) rfl
  have p0 := box_cell HPB.out (j := 0) rfl
  have p1 := box_cell HPB.out (j := 1) rfl
  have p2 := box_cell HPB.out (j := 2) rfl
  have p3 := box_cell HPB.out (j := 3) rfl
  have p4 := box_cell HPB.out (j := 4) rfl
  have HRD := Lib.hid ((hr'.below HBW.out (Nat.le_refl _)).mono HBW.out.size)
  have HCP := Lib.hid (copyPolicy_impl set' scr' sty' img' non' a1' n1' c1' a2' n2' c2' a3' n3' c3' hz' W HRD.out)
  have HNR := Lib.hid (show nrP ⟨false, scr, sty, img, non⟩ ⟨set', scr', sty', img', non'⟩ = ⟨set', scr', sty', img', non'⟩ from rfl)
  rw [HNR.out]; clear HNR
  have HW := Lib.hid hW; clear hr hr' hW hz hz'
  go_enter Tryd.func14, Tryd.ntmps14
  go_upto_region 2 with (fail)
  try rw [HW.out]
  go_wp2_with fail
  refine HCP.out.mono ?_
  rintro e wx ⟨b1, m1, k1, b2, m2, k2, b3, m3, k3, rfl, how, hbf⟩
  have H2O := Lib.hid how; have HB2 := Lib.hid hbf; clear how
  have hx2 := below_heap hbf (heap_lt HX0.out) HX0.out
  have fx0 := box_cell hx2 (j := 0) rfl; have zx0 := box_frz hx2 0
  have fx1 := box_cell hx2 (j := 1) rfl; have zx1 := box_frz hx2 1
  have fx2 := box_cell hx2 (j := 2) rfl; have zx2 := box_frz hx2 2
  have fx3 := box_cell hx2 (j := 3) rfl; have zx3 := box_frz hx2 3
  have fx4 := box_cell hx2 (j := 4) rfl; have zx4 := box_frz hx2 4
  have H2X := Lib.hid hx2; clear hx2 hbf q0 q1 q2 q3 q4 p0 p1 p2 p3 p4
  have HPB3 := Lib.hid (show Below w.heap.size w wx from HBW.out.trans (HB2.out.mono HBW.out.size))
  go_wp2_with fail
  obtain ⟨w3, hw3⟩ : ∃ x, ((((wx.setCell ⟨w.heap.size + 2, 0, none⟩ (.bool set')).setCell ⟨w.heap.size + 2, 1, none⟩ (.slice b1 m1 k1)).setCell ⟨w.heap.size + 2, 2, none⟩ (.slice b2 m2 k2)).setCell ⟨w.heap.size + 2, 3, none⟩ (.slice b3 m3 k3)).setCell ⟨w.heap.size + 2, 4, none⟩ (.string non') = x := ⟨_, rfl⟩
  rw [hw3]
  have hon : OnlyB [w.heap.size + 2] wx w3 := by rw [← hw3]; exact set5_only wx (w.heap.size + 2) _ _ _ _ _
  have hb3 := set5_box H2X.out (.bool set') (.slice b1 m1 k1) (.slice b2 m2 k2) (.slice b3 m3 k3) (.string non')
  rw [show set5 wx (w.heap.size + 2) (.bool set') (.slice b1 m1 k1) (.slice b2 m2 k2) (.slice b3 m3 k3) (.string non') = w3 from hw3] at hb3
  have r0 := box_cell hb3 (j := 0) rfl
  have r1 := box_cell hb3 (j := 1) rfl
  have r2 := box_cell hb3 (j := 2) rfl
  have r3 := box_cell hb3 (j := 3) rfl
  have r4 := box_cell hb3 (j := 4) rfl
  refine bodyPost_ret (v := .agg #[.bool set', .slice b1 m1 k1, .slice b2 m2 k2, .slice b3 m3 k3, .string non']) (by simp [results, Tryd.results14, go_sem, r0, r1, r2, r3, r4]) rfl ?_
  refine ⟨b1, m1, k1, b2, m2, k2, b3, m3, k3, rfl, ?_, HPB3.out.trans (hon.below (fun i hi => by rw [List.mem_singleton] at hi; omega) HPB3.out.size)⟩
  exact ⟨ownL_mono (ownL_only H2O.out.1 hon (fun b hb hm => by rw [List.mem_singleton] at hm; have := (ownL_lt H2O.out.1 b hb).1; have := HSW.out; omega)) (by have := HSW.out; omega) hon.size, H2O.out.2⟩


set_option maxRecDepth 100000 in
set_option maxHeartbeats 8000000 in
theorem narrow_impl_b (scr sty img : List ByteArray) (non : ByteArray) (a1 : Option Addr) (n1 c1 : Nat) (a2 : Option Addr) (n2 c2 : Nat) (a3 : Option Addr) (n3 c3 : Nat) (scr' sty' img' : List ByteArray) (non' : ByteArray) (a1' : Option Addr) (n1' c1' : Nat) (a2' : Option Addr) (n2' c2' : Nat) (a3' : Option Addr) (n3' c3' : Nat) (w : World) (hz : PolSm ⟨true, scr, sty, img, non⟩) (hz' : PolSm ⟨false, scr', sty', img', non'⟩) (hr : ReadP w.heap.size w (.slice a1 n1 c1) (.slice a2 n2 c2) (.slice a3 n3 c3) ⟨true, scr, sty, img, non⟩) (hr' : ReadP w.heap.size w (.slice a1' n1' c1') (.slice a2' n2' c2') (.slice a3' n3' c3') ⟨false, scr', sty', img', non'⟩) :
    Calls Tryd.prog 14 #[.agg #[.bool true, .slice a1 n1 c1, .slice a2 n2 c2, .slice a3 n3 c3, .string non], .agg #[.bool false, .slice a1' n1' c1', .slice a2' n2' c2', .slice a3' n3' c3', .string non']] w (PoNew (nrP ⟨true, scr, sty, img, non⟩ ⟨false, scr', sty', img', non'⟩) w) := by
  have u1 := hz; have u2 := hz'; have u3 := hr; have u4 := hr'; clear u1 u2 u3 u4
  obtain ⟨W, hW⟩ : ∃ W, ((w.alloc (.cells #[.bool true, .slice a1 n1 c1, .slice a2 n2 c2, .slice a3 n3 c3, .string non] 26)).alloc (.cells #[.bool false, .slice a1' n1' c1', .slice a2' n2' c2', .slice a3' n3' c3', .string non'] 26)).alloc (.cells #[.bool false, .slice none 0 0, .slice none 0 0, .slice none 0 0, .string ⟨#[]⟩] 26) = W := ⟨_, rfl⟩
  have HBW := Lib.hid (show Below w.heap.size w W by rw [← hW]; exact bl_aw (bl_aw (bl_aw (Below.refl _ _) _) _) _)
  have HX0 := Lib.hid (show W.heap[w.heap.size + 2]? = some (.cells #[.bool false, .slice none 0 0, .slice none 0 0, .slice none 0 0, .string ⟨#[]⟩] 26 (0, 0)) by rw [← hW]; exact three_new2 w _ _ _)
  have HPB := Lib.hid (show W.heap[w.heap.size + 1]? = some (.cells #[.bool false, .slice a1' n1' c1', .slice a2' n2' c2', .slice a3' n3' c3', .string non'] 26 (0, 0)) by rw [← hW]; exact three_new1 w _ _ _)
  have HPA := Lib.hid (show W.heap[w.heap.size]? = some (.cells #[.bool true, .slice a1 n1 c1, .slice a2 n2 c2, .slice a3 n3 c3, .string non] 26 (0, 0)) by rw [← hW]; exact three_new0 w _ _ _)
  have HSW := Lib.hid (show W.heap.size = w.heap.size + 3 by rw [← hW, size_alloc, size_alloc, size_alloc])
  have q0 := box_cell HPA.out (j := 0) rfl
  have q1 := box_cell HPA.out (j := 1) rfl
  have q2 := box_cell HPA.out (j := 2) rfl
  have q3 := box_cell HPA.out (j := 3) rfl
  have q4 := box_cell HPA.out (j := 4) rfl
  have p0 := box_cell HPB.out (j := 0) rfl
  have p1 := box_cell HPB.out (j := 1) rfl
  have p2 := box_cell HPB.out (j := 2) rfl
  have p3 := box_cell HPB.out (j := 3) rfl
  have p4 := box_cell HPB.out (j := 4) rfl
  have HRD := Lib.hid ((hr.below HBW.out (Nat.le_refl _)).mono HBW.out.size)
  have HCP := Lib.hid (copyPolicy_impl true scr sty img non a1 n1 c1 a2 n2 c2 a3 n3 c3 hz W HRD.out)
  have HNR := Lib.hid (show nrP ⟨true, scr, sty, img, non⟩ ⟨false, scr', sty', img', non'⟩ = ⟨true, scr, sty, img, non⟩ from rfl)
  rw [HNR.out]; clear HNR
  have HW := Lib.hid hW; clear hr hr' hW hz hz'
  go_enter Tryd.func14, Tryd.ntmps14
  go_upto_region 4 with (fail)
  try rw [HW.out]
  go_wp2_with fail
  refine HCP.out.mono ?_
  rintro e wx ⟨b1, m1, k1, b2, m2, k2, b3, m3, k3, rfl, how, hbf⟩
  have H2O := Lib.hid how; have HB2 := Lib.hid hbf; clear how
  have hx2 := below_heap hbf (heap_lt HX0.out) HX0.out
  have fx0 := box_cell hx2 (j := 0) rfl; have zx0 := box_frz hx2 0
  have fx1 := box_cell hx2 (j := 1) rfl; have zx1 := box_frz hx2 1
  have fx2 := box_cell hx2 (j := 2) rfl; have zx2 := box_frz hx2 2
  have fx3 := box_cell hx2 (j := 3) rfl; have zx3 := box_frz hx2 3
  have fx4 := box_cell hx2 (j := 4) rfl; have zx4 := box_frz hx2 4
  have H2X := Lib.hid hx2; clear hx2 hbf q0 q1 q2 q3 q4 p0 p1 p2 p3 p4
  have HPB3 := Lib.hid (show Below w.heap.size w wx from HBW.out.trans (HB2.out.mono HBW.out.size))
  go_wp2_with fail
  obtain ⟨w3, hw3⟩ : ∃ x, ((((wx.setCell ⟨w.heap.size + 2, 0, none⟩ (.bool true)).setCell ⟨w.heap.size + 2, 1, none⟩ (.slice b1 m1 k1)).setCell ⟨w.heap.size + 2, 2, none⟩ (.slice b2 m2 k2)).setCell ⟨w.heap.size + 2, 3, none⟩ (.slice b3 m3 k3)).setCell ⟨w.heap.size + 2, 4, none⟩ (.string non) = x := ⟨_, rfl⟩
  rw [hw3]
  have hon : OnlyB [w.heap.size + 2] wx w3 := by rw [← hw3]; exact set5_only wx (w.heap.size + 2) _ _ _ _ _
  have hb3 := set5_box H2X.out (.bool true) (.slice b1 m1 k1) (.slice b2 m2 k2) (.slice b3 m3 k3) (.string non)
  rw [show set5 wx (w.heap.size + 2) (.bool true) (.slice b1 m1 k1) (.slice b2 m2 k2) (.slice b3 m3 k3) (.string non) = w3 from hw3] at hb3
  have r0 := box_cell hb3 (j := 0) rfl
  have r1 := box_cell hb3 (j := 1) rfl
  have r2 := box_cell hb3 (j := 2) rfl
  have r3 := box_cell hb3 (j := 3) rfl
  have r4 := box_cell hb3 (j := 4) rfl
  refine bodyPost_ret (v := .agg #[.bool true, .slice b1 m1 k1, .slice b2 m2 k2, .slice b3 m3 k3, .string non]) (by simp [results, Tryd.results14, go_sem, r0, r1, r2, r3, r4]) rfl ?_
  refine ⟨b1, m1, k1, b2, m2, k2, b3, m3, k3, rfl, ?_, HPB3.out.trans (hon.below (fun i hi => by rw [List.mem_singleton] at hi; omega) HPB3.out.size)⟩
  exact ⟨ownL_mono (ownL_only H2O.out.1 hon (fun b hb hm => by rw [List.mem_singleton] at hm; have := (ownL_lt H2O.out.1 b hb).1; have := HSW.out; omega)) (by have := HSW.out; omega) hon.size, H2O.out.2⟩


theorem narrow_impl (set : Bool) (scr sty img : List ByteArray) (non : ByteArray) (a1 : Option Addr) (n1 c1 : Nat) (a2 : Option Addr) (n2 c2 : Nat) (a3 : Option Addr) (n3 c3 : Nat) (set' : Bool) (scr' sty' img' : List ByteArray) (non' : ByteArray) (a1' : Option Addr) (n1' c1' : Nat) (a2' : Option Addr) (n2' c2' : Nat) (a3' : Option Addr) (n3' c3' : Nat) (w : World) (hz : PolSm ⟨set, scr, sty, img, non⟩) (hz' : PolSm ⟨set', scr', sty', img', non'⟩) (hr : ReadP w.heap.size w (.slice a1 n1 c1) (.slice a2 n2 c2) (.slice a3 n3 c3) ⟨set, scr, sty, img, non⟩) (hr' : ReadP w.heap.size w (.slice a1' n1' c1') (.slice a2' n2' c2') (.slice a3' n3' c3') ⟨set', scr', sty', img', non'⟩) :
    Calls Tryd.prog 14 #[.agg #[.bool set, .slice a1 n1 c1, .slice a2 n2 c2, .slice a3 n3 c3, .string non], .agg #[.bool set', .slice a1' n1' c1', .slice a2' n2' c2', .slice a3' n3' c3', .string non']] w (PoNew (nrP ⟨set, scr, sty, img, non⟩ ⟨set', scr', sty', img', non'⟩) w) := by
  cases set with
  | false => exact narrow_impl_a scr sty img non a1 n1 c1 a2 n2 c2 a3 n3 c3 set' scr' sty' img' non' a1' n1' c1' a2' n2' c2' a3' n3' c3' w hz hz' hr hr'
  | true =>
    cases set' with
    | false => exact narrow_impl_b scr sty img non a1 n1 c1 a2 n2 c2 a3 n3 c3 scr' sty' img' non' a1' n1' c1' a2' n2' c2' a3' n3' c3' w hz hz' hr hr'
    | true => exact narrow_impl_set scr sty img non a1 n1 c1 a2 n2 c2 a3 n3 c3 scr' sty' img' non' a1' n1' c1' a2' n2' c2' a3' n3' c3' w hz hr hr'


end Go.Proofs.YtkjjiinccljhjaaDoor

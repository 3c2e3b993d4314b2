/- Helper contracts: NarrowPolicy at any policies. Asked: the policies' slices read as named, they are not too long. -/
import Derived.Test.YtgcdfkpidcdicaaPolD
namespace Go.Proofs.Ytgcdfkpidcdicaa
open Go.ChangeShapes Go.WideShapes Go.ChangeAt Go.RowKit

/-- append(new empty slice, strings..): what comes of it. -/
structure AppS (g : Nat) (us : List ByteArray) (w w' : World) (v : Value) : Prop where
  own : OwnK encS 1 9 0 w'.heap.size w' v us
  bel : Below w.heap.size w w'
  blk : ∀ b, v.ownBlock = some b → b = g ∨ w.heap.size ≤ b
theorem empty_rowS {w : World} {e : TypeId} {k g B : Nat} (h : w.heap[g]? = some (.cells #[] e (0, 0))) (hB : B ≤ g) : w.ownsRow B e k (.slice (some ⟨g, 0, none⟩) 0 0) 0 [] :=
  ⟨by simp, Or.inr ⟨g, 0, #[], rfl, hB, h, Nat.le_refl _, by decide, by simp, by simp⟩⟩
theorem step_appS0 {w : World} {ops : Array Oper} {o : Oper} {a : Act} {K : Act → World → Prop} {Q : Exit → Act → World → Prop} {E : Prop} (hgd : o.guard = none) (s x : Operand)
    (ho : o.op = .call { callee := .builtin .append, args := #[s, x], argTypes := #[22, 22] })
    (g : Nat) (hs : a.eval s = .slice (some ⟨g, 0, none⟩) 0 0) (hg : w.heap[g]? = some (.cells #[] 9 (0, 0)))
    (vx : Value) (us : List ByteArray) (hx : a.eval x = vx) (top : Nat) (hr : ReadsK encS 1 top w vx us) (hlen : us.length ≤ 137438953472)
    (h : ∀ ad n cap w', AppS g us w w' (.slice ad n cap) → K (a.put o.dst (.slice ad n cap)) w') :
    if Region.wanted o (yielded ops a.tmps) = true then Oper.wp Try.prog o a w K Q else E := by
  have hw : Region.wanted o (yielded ops a.tmps) = true := by simp [Region.wanted, hgd]
  rw [if_pos hw]
  have hrow := empty_rowS (k := 1) hg (Nat.zero_le g)
  obtain ⟨i, hi, hz, hsize, hby⟩ := info_parts infoStr
  obtain ⟨ad, cap, rfl, h1, h2, h3, h4⟩ := id hr
  have key : ∃ ad' n' cap' w', (Builtin.append_ #[22, 22] o.type #[.slice (some ⟨g, 0, none⟩) 0 0, .slice ad us.length cap]).run Try.prog w = .ok (.slice ad' n' cap') w' ∧ AppS g us w w' (.slice ad' n' cap') := by
    cases ad with
    | none =>
      obtain ⟨rfl, _, rfl⟩ := hr.nil
      have hrun := run_append_owned_none (P := Try.prog) (w := w) 0 22 o.type 9 i 1 Try.underlying22 hi _ 0 _ hrow
      exact ⟨_, _, _, w, hrun, ⟨hrow, fun b hb => (hrow.lt b hb).2⟩, Below.refl _ _, fun b hb => Or.inl (Option.some.inj hb).symm⟩
    | some ad =>
      have hl : (us.flatMap encS).length = us.length * 1 := flat_len encS_len us
      have hnews := hr.news encS_len
      have h1c : ∀ u ∈ us.flatMap encS, u.oneCell' = true := fun u hu => by
        obtain ⟨y, _, hy⟩ := List.mem_flatMap.1 hu
        exact encS_one y u hy
      obtain ⟨v', w', hr1, h2', h3', _⟩ := run_append_own (P := Try.prog) w 0 22 o.type 9 i _ 1 16 Try.underlying22 hi hz hsize hby (by rfl) (by decide) _ 0 _ hrow ad us.length cap (us.flatMap encS) hl hnews h1c (by unfold maxLen; omega) (by omega) (Nat.zero_le _)
      by_cases h0 : us.length = 0
      · have hr2 := run_append_room (P := Try.prog) w 22 o.type 9 i Try.underlying22 hi g 0 0 #[] hg ad us.length cap (us.flatMap encS) (by rw [hsize]; exact hl) hnews h1c (by omega) (by rw [hl, h0]; simp)
        have he := hr1.symm.trans hr2
        injection he with e1 e2
        have hu : us = [] := List.eq_nil_of_length_eq_zero h0
        subst hu
        subst e1
        have hrow2 : w'.heap[g]? = some (.cells #[] 9 (0, 0)) := by rw [e2, setRow_heap w g _ _ _ _ hg]; simp
        refine ⟨_, _, _, w', hr1, ⟨by simpa using h2', fun b hb => (h2'.lt b hb).2⟩, ⟨h3'.os, h3'.tape, h3'.output, h3'.size, fun k hk => ?_⟩, fun b hb => Or.inl (Option.some.inj hb).symm⟩
        by_cases hkg : k = g
        · subst hkg; rw [hrow2, hg]
        · exact h3'.block k hk fun e => hkg (Option.some.inj e)
      · have hr2 := run_append_grow (P := Try.prog) w 22 o.type 9 i _ Try.underlying22 hi hz ⟨g, 0, none⟩ 0 0 [] (by simp) (by simp) ad us.length cap (us.flatMap encS) (by rw [hsize]; exact hl) hnews (by omega) (by omega) (by rw [hby]; exact growslice_fits (by omega) (by omega))
        have he := hr1.symm.trans hr2
        injection he with e1 e2
        subst e1
        refine ⟨_, _, _, w', hr1, ⟨by simpa using h2', fun b hb => (h2'.lt b hb).2⟩, by rw [e2]; exact (Below.refl _ _).drew.alloc (Nat.le_refl _) _, fun b hb => Or.inr ?_⟩
        have : w.heap.size = b := Option.some.inj hb
        omega
  obtain ⟨ad', n', cap', w', hr1, hA⟩ := key
  unfold Oper.wp execOp
  simp only [ho, resolve, invoke, builtin, Sem.run_bind, Sem.run_pure, Result.andThen_ok, List.map_toArray, List.map_cons, List.map_nil, hs, hx, hr1]
  exact h _ _ _ w' hA
theorem fin8 {w Wc W1 W2 W3 : World} {p B h1 h2 h3 : Nat} {T : TypeId} {z0 z1 z2 z3 z4 u0 u4 v1 v2 v3 : Value} {xs ys zs : List ByteArray} (hp : Wc.heap[p]? = some (.cells #[z0, z1, z2, z3, z4] T (0, 0))) (hpB : B ≤ p) (hb : Below B w Wc) (hB : B ≤ w.heap.size)
    (o1 : OwnK encS 1 9 0 h1 W1 v1 xs) (k1 : Below W1.heap.size W1 Wc) (o2 : OwnK encS 1 9 0 h2 W2 v2 ys) (k2 : Below W2.heap.size W2 Wc) (o3 : OwnK encS 1 9 0 h3 W3 v3 zs) (k3 : Below W3.heap.size W3 Wc)
    (p1 : ∀ b, v1.ownBlock = some b → p + 1 ≤ b) (p2 : ∀ b, v2.ownBlock = some b → p + 1 ≤ b) (p3 : ∀ b, v3.ownBlock = some b → p + 1 ≤ b) (d12 : ∀ a b, v1.ownBlock = some a → v2.ownBlock = some b → a ≠ b) (d13 : ∀ a b, v1.ownBlock = some a → v3.ownBlock = some b → a ≠ b) (d23 : ∀ a b, v2.ownBlock = some a → v3.ownBlock = some b → a ≠ b) :
    (set5 Wc p u0 v1 v2 v3 u4).heap[p]? = some (.cells #[u0, v1, v2, v3, u4] T (0, 0)) ∧ Own3 (p + 1) (set5 Wc p u0 v1 v2 v3 u4) v1 v2 v3 xs ys zs ∧ Below B w (set5 Wc p u0 v1 v2 v3 u4) := by
  have ho := set5_only Wc p u0 v1 v2 v3 u4
  have f : ∀ {hi : Nat} {W : World} {v : Value} {us : List ByteArray}, OwnK encS 1 9 0 hi W v us → Below W.heap.size W Wc → (∀ b, v.ownBlock = some b → p + 1 ≤ b) → OwnK encS 1 9 (p + 1) (set5 Wc p u0 v1 v2 v3 u4).heap.size (set5 Wc p u0 v1 v2 v3 u4) v us := fun o k hlt => by
    have h1 := ownK_only (o.later k) ho fun b hv hm => by
      rw [List.mem_singleton] at hm
      have := hlt b hv; omega
    refine ⟨⟨h1.1.1, ?_⟩, fun g hg => (h1.1.lt g hg).2⟩
    rcases h1.1.2 with h2 | ⟨g, cap, cur, h2, h3, h4⟩
    · exact Or.inl h2
    · exact Or.inr ⟨g, cap, cur, h2, hlt g (by rw [h2]; rfl), h4⟩
  refine ⟨set5_box hp _ _ _ _ _, ⟨ownL_three.2 ⟨rwSs_own (f o1 k1 p1), rwSs_own (f o2 k2 p2), rwSs_own (f o3 k3 p3)⟩, ?_⟩, hb.trans (ho.below (fun i hi => by rw [List.mem_singleton] at hi; omega) (Nat.le_trans hB hb.size))⟩
  simp only [blocksL, List.append_nil, rwSs_blocks]
  have n : ∀ o : Option Nat, o.toList.Nodup := fun o => by cases o <;> simp
  refine List.nodup_append.2 ⟨n _, List.nodup_append.2 ⟨n _, n _, fun a ha b hb e => d23 a b (by simpa using ha) (by simpa using hb) e⟩, fun a ha b hb e => ?_⟩
  rcases List.mem_append.1 hb with hb | hb
  · exact d12 a b (by simpa using ha) (by simpa using hb) e
  · exact d13 a b (by simpa using ha) (by simpa using hb) e
theorem size_dr9 (w : World) : w.drew.heap.size = w.heap.size := rfl

theorem heap_al9 {w : World} {g : Nat} {o : Obj} (h : w.heap[g]? = some o) (o' : Obj) : (w.alloc o').heap[g]? = some o := below_heap ((Below.refl _ w).alloc (Nat.le_refl _) o') (heap_lt h) h
theorem bl_a9 {B : Nat} {w w' : World} (h : Below B w w') (hB : B ≤ w.heap.size) (o : Obj) : Below B w (w'.alloc o) := h.alloc (Nat.le_trans hB h.size) o
set_option maxRecDepth 100000 in
set_option maxHeartbeats 16000000 in
theorem copy9_spec (set : Bool) (scr sty img : List ByteArray) (non : ByteArray) (a1 : Option Addr) (n1 c1 : Nat) (a2 : Option Addr) (n2 c2 : Nat) (a3 : Option Addr) (n3 c3 : Nat) (hz : PolSm ⟨set, scr, sty, img, non⟩) (w : World) (hr : ReadP w.heap.size w (.slice a1 n1 c1) (.slice a2 n2 c2) (.slice a3 n3 c3) ⟨set, scr, sty, img, non⟩) :
    Calls Try.prog 30 #[.agg #[.bool set, .slice a1 n1 c1, .slice a2 n2 c2, .slice a3 n3 c3, .string non]] w (PoNew ⟨set, scr, sty, img, non⟩ w) := by
  obtain ⟨z1, z2, z3, z4⟩ := hz
  obtain ⟨W, hW⟩ : ∃ W, (w.alloc (.cells #[.bool set, .slice a1 n1 c1, .slice a2 n2 c2, .slice a3 n3 c3, .string non] 26)).alloc (.cells #[.bool false, .slice none 0 0, .slice none 0 0, .slice none 0 0, .string ⟨#[]⟩] 26) = W := ⟨_, rfl⟩
  have HBW := Lib.hid (show Below w.heap.size w W by rw [← hW]; exact bl_aw (bl_aw (Below.refl _ _) _) _)
  have H0 := Lib.hid (show W.heap[w.heap.size + 1]? = some (.cells #[.bool false, .slice none 0 0, .slice none 0 0, .slice none 0 0, .string ⟨#[]⟩] 26 (0, 0)) by rw [← hW]; have h := heap_alloc_new (w.alloc (.cells #[.bool set, .slice a1 n1 c1, .slice a2 n2 c2, .slice a3 n3 c3, .string non] 26)) (.cells #[.bool false, .slice none 0 0, .slice none 0 0, .slice none 0 0, .string ⟨#[]⟩] 26); rw [size_alloc] at h; exact h)
  have q0 : W.cell? ⟨w.heap.size, 0, none⟩ = some (.bool set) := by rw [← hW]; simp
  have q1 : W.cell? ⟨w.heap.size, 1, none⟩ = some (.slice a1 n1 c1) := by rw [← hW]; simp
  have q2 : W.cell? ⟨w.heap.size, 2, none⟩ = some (.slice a2 n2 c2) := by rw [← hW]; simp
  have q3 : W.cell? ⟨w.heap.size, 3, none⟩ = some (.slice a3 n3 c3) := by rw [← hW]; simp
  have q4 : W.cell? ⟨w.heap.size, 4, none⟩ = some (.string non) := by rw [← hW]; simp
  obtain ⟨hr1, hr2, hr3⟩ := (hr.below HBW.out (Nat.le_refl _)).mono HBW.out.size
  have HR1 := Lib.hid (fun (X : World) (hb : Below W.heap.size W X) => hr1.below hb (Nat.le_refl _))
  have HZ1 := Lib.hid (show scr.length ≤ 137438953472 by have := z1; simp only at this; omega)
  have HR2 := Lib.hid (fun (X : World) (hb : Below W.heap.size W X) => hr2.below hb (Nat.le_refl _))
  have HZ2 := Lib.hid (show sty.length ≤ 137438953472 by have := z2; simp only at this; omega)
  have HR3 := Lib.hid (fun (X : World) (hb : Below W.heap.size W X) => hr3.below hb (Nat.le_refl _))
  have HZ3 := Lib.hid (show img.length ≤ 137438953472 by have := z3; simp only at this; omega)
  have HPW := Lib.hid (show w.heap.size + 1 ≤ W.heap.size from Nat.le_of_lt (heap_lt H0.out))
  have HSW := Lib.hid (show W.heap.size = w.heap.size + 2 by rw [← hW, size_alloc, size_alloc])
  have HQ := Lib.hid (fun j (u : Value) (h : W.cell? ⟨w.heap.size, j, none⟩ = some u) (w' : World) (hb : Below (w.heap.size + 1) W w') => show w'.cell? ⟨w.heap.size, j, none⟩ = some u from (hb.cell (Nat.lt_succ_self _)).trans h)
  have KEEP := Lib.hid (fun (w' : World) (h : Below (w.heap.size + 1) W w') => show Below (w.heap.size + 1) W w' ∧ w'.cell? ⟨w.heap.size, 0, none⟩ = some (.bool set) ∧ w'.cell? ⟨w.heap.size, 1, none⟩ = some (.slice a1 n1 c1) ∧ w'.cell? ⟨w.heap.size, 2, none⟩ = some (.slice a2 n2 c2) ∧ w'.cell? ⟨w.heap.size, 3, none⟩ = some (.slice a3 n3 c3) ∧ w'.cell? ⟨w.heap.size, 4, none⟩ = some (.string non) from ⟨h, HQ.out 0 _ q0 w' h, HQ.out 1 _ q1 w' h, HQ.out 2 _ q2 w' h, HQ.out 3 _ q3 w' h, HQ.out 4 _ q4 w' h⟩)
  have HW := Lib.hid hW; clear hr hr1 hr2 hr3 hW z1 z2 z3 z4 q0 q1 q2 q3 q4
  go_enter Try.func30, Try.ntmps30
  go_upto_region 1 with (fail)
  rw [HW.out]
  go_cut [19] from 3 to 19 (fun _ wx => ∃ (b1 : Option Addr) (m1 k1 : Nat) (b2 : Option Addr) (m2 k2 : Nat) (b3 : Option Addr) (m3 k3 : Nat), wx.heap[w.heap.size + 1]? = some (.cells #[.bool set, .slice b1 m1 k1, .slice b2 m2 k2, .slice b3 m3 k3, .string non] 26 (0, 0)) ∧ Own3 (w.heap.size + 1 + 1) wx (.slice b1 m1 k1) (.slice b2 m2 k2) (.slice b3 m3 k3) scr sty img ∧ Below w.heap.size w wx)
  case first =>
    go_region_held3 (fun w' => Below (w.heap.size + 1) W w' ∧ w'.cell? ⟨w.heap.size, 0, none⟩ = some (.bool set) ∧ w'.cell? ⟨w.heap.size, 1, none⟩ = some (.slice a1 n1 c1) ∧ w'.cell? ⟨w.heap.size, 2, none⟩ = some (.slice a2 n2 c2) ∧ w'.cell? ⟨w.heap.size, 3, none⟩ = some (.slice a3 n3 c3) ∧ w'.cell? ⟨w.heap.size, 4, none⟩ = some (.string non)) (exact KEEP.out _ (by repeat' (first | (with_reducible exact Below.refl _ _) | (with_reducible exact hQC) | (with_reducible exact hQB) | (with_reducible exact hQA) | (with_reducible refine bl_dw ?_) | (with_reducible refine bl_a9 ?_ HPW.out _) | (with_reducible refine bl_s9 ?_ (Nat.le_refl _) _)))) (first | (refine step_appS0 (by rfl) _ _ (by rfl) _ (by rfl) ?_ (.slice a1 n1 c1) scr (by rfl) W.heap.size ?_ HZ1.out ?_; (focus (repeat' (first | (with_reducible refine hq_dr ?_) | ((with_reducible refine hq_nw ?_); (first | (with_reducible rfl) | (simp only [size_alloc]; done))) | (with_reducible refine heap_al9 ?_ _) | (with_reducible refine heap_bl9 hbC ?_) | (with_reducible refine heap_bl9 hbB ?_) | (with_reducible refine heap_bl9 hbA ?_)))); (focus (exact HR1.out _ (by repeat' (first | (with_reducible exact Below.refl _ _) | (with_reducible exact hPC) | (with_reducible exact hPB) | (with_reducible exact hPA) | (with_reducible refine bl_dw ?_) | (with_reducible refine bl_aw ?_ _))))); intro aA nA cA wA hA; have hoA := hA.own; have hbA := hA.bel; have hgA := hA.blk; have hSA := bl_sz (show Below W.heap.size W _ from (by repeat' (first | (with_reducible exact Below.refl _ _) | (with_reducible exact hPC) | (with_reducible exact hPB) | (with_reducible exact hPA) | (with_reducible refine bl_dw ?_) | (with_reducible refine bl_aw ?_ _)))) hbA; have hPA := bl_tr (show Below W.heap.size W _ from (by repeat' (first | (with_reducible exact Below.refl _ _) | (with_reducible exact hPC) | (with_reducible exact hPB) | (with_reducible exact hPA) | (with_reducible refine bl_dw ?_) | (with_reducible refine bl_aw ?_ _)))) hbA; have hQA := hPA.mono HPW.out; have zA0 := box_cell (below_heap hPA (heap_lt H0.out) H0.out) (j := 0) rfl; have fA0 := box_frz (below_heap hPA (heap_lt H0.out) H0.out) 0; have zA1 := box_cell (below_heap hPA (heap_lt H0.out) H0.out) (j := 1) rfl; have fA1 := box_frz (below_heap hPA (heap_lt H0.out) H0.out) 1; have zA2 := box_cell (below_heap hPA (heap_lt H0.out) H0.out) (j := 2) rfl; have fA2 := box_frz (below_heap hPA (heap_lt H0.out) H0.out) 2; have zA3 := box_cell (below_heap hPA (heap_lt H0.out) H0.out) (j := 3) rfl; have fA3 := box_frz (below_heap hPA (heap_lt H0.out) H0.out) 3; have zA4 := box_cell (below_heap hPA (heap_lt H0.out) H0.out) (j := 4) rfl; have fA4 := box_frz (below_heap hPA (heap_lt H0.out) H0.out) 4; (first | (have dBA := bl_sz (show Below wB.heap.size wB _ from (by repeat' (first | (with_reducible exact Below.refl _ _) | (with_reducible exact kBA) | (with_reducible exact kBC) | (with_reducible refine bl_dw ?_) | (with_reducible refine bl_aw ?_ _)))) hbA; have kBA := bl_tr (show Below wB.heap.size wB _ from (by repeat' (first | (with_reducible exact Below.refl _ _) | (with_reducible exact kBA) | (with_reducible exact kBC) | (with_reducible refine bl_dw ?_) | (with_reducible refine bl_aw ?_ _)))) hbA) | skip); (first | (have dCA := bl_sz (show Below wC.heap.size wC _ from (by repeat' (first | (with_reducible exact Below.refl _ _) | (with_reducible exact kCA) | (with_reducible exact kCB) | (with_reducible refine bl_dw ?_) | (with_reducible refine bl_aw ?_ _)))) hbA; have kCA := bl_tr (show Below wC.heap.size wC _ from (by repeat' (first | (with_reducible exact Below.refl _ _) | (with_reducible exact kCA) | (with_reducible exact kCB) | (with_reducible refine bl_dw ?_) | (with_reducible refine bl_aw ?_ _)))) hbA) | skip)) | (refine step_appS0 (by rfl) _ _ (by rfl) _ (by rfl) ?_ (.slice a2 n2 c2) sty (by rfl) W.heap.size ?_ HZ2.out ?_; (focus (repeat' (first | (with_reducible refine hq_dr ?_) | ((with_reducible refine hq_nw ?_); (first | (with_reducible rfl) | (simp only [size_alloc]; done))) | (with_reducible refine heap_al9 ?_ _) | (with_reducible refine heap_bl9 hbC ?_) | (with_reducible refine heap_bl9 hbB ?_) | (with_reducible refine heap_bl9 hbA ?_)))); (focus (exact HR2.out _ (by repeat' (first | (with_reducible exact Below.refl _ _) | (with_reducible exact hPC) | (with_reducible exact hPB) | (with_reducible exact hPA) | (with_reducible refine bl_dw ?_) | (with_reducible refine bl_aw ?_ _))))); intro aB nB cB wB hB; have hoB := hB.own; have hbB := hB.bel; have hgB := hB.blk; have hSB := bl_sz (show Below W.heap.size W _ from (by repeat' (first | (with_reducible exact Below.refl _ _) | (with_reducible exact hPC) | (with_reducible exact hPB) | (with_reducible exact hPA) | (with_reducible refine bl_dw ?_) | (with_reducible refine bl_aw ?_ _)))) hbB; have hPB := bl_tr (show Below W.heap.size W _ from (by repeat' (first | (with_reducible exact Below.refl _ _) | (with_reducible exact hPC) | (with_reducible exact hPB) | (with_reducible exact hPA) | (with_reducible refine bl_dw ?_) | (with_reducible refine bl_aw ?_ _)))) hbB; have hQB := hPB.mono HPW.out; have zB0 := box_cell (below_heap hPB (heap_lt H0.out) H0.out) (j := 0) rfl; have fB0 := box_frz (below_heap hPB (heap_lt H0.out) H0.out) 0; have zB1 := box_cell (below_heap hPB (heap_lt H0.out) H0.out) (j := 1) rfl; have fB1 := box_frz (below_heap hPB (heap_lt H0.out) H0.out) 1; have zB2 := box_cell (below_heap hPB (heap_lt H0.out) H0.out) (j := 2) rfl; have fB2 := box_frz (below_heap hPB (heap_lt H0.out) H0.out) 2; have zB3 := box_cell (below_heap hPB (heap_lt H0.out) H0.out) (j := 3) rfl; have fB3 := box_frz (below_heap hPB (heap_lt H0.out) H0.out) 3; have zB4 := box_cell (below_heap hPB (heap_lt H0.out) H0.out) (j := 4) rfl; have fB4 := box_frz (below_heap hPB (heap_lt H0.out) H0.out) 4; (first | (have dAB := bl_sz (show Below wA.heap.size wA _ from (by repeat' (first | (with_reducible exact Below.refl _ _) | (with_reducible exact kAB) | (with_reducible exact kAC) | (with_reducible refine bl_dw ?_) | (with_reducible refine bl_aw ?_ _)))) hbB; have kAB := bl_tr (show Below wA.heap.size wA _ from (by repeat' (first | (with_reducible exact Below.refl _ _) | (with_reducible exact kAB) | (with_reducible exact kAC) | (with_reducible refine bl_dw ?_) | (with_reducible refine bl_aw ?_ _)))) hbB) | skip); (first | (have dCB := bl_sz (show Below wC.heap.size wC _ from (by repeat' (first | (with_reducible exact Below.refl _ _) | (with_reducible exact kCA) | (with_reducible exact kCB) | (with_reducible refine bl_dw ?_) | (with_reducible refine bl_aw ?_ _)))) hbB; have kCB := bl_tr (show Below wC.heap.size wC _ from (by repeat' (first | (with_reducible exact Below.refl _ _) | (with_reducible exact kCA) | (with_reducible exact kCB) | (with_reducible refine bl_dw ?_) | (with_reducible refine bl_aw ?_ _)))) hbB) | skip)) | (refine step_appS0 (by rfl) _ _ (by rfl) _ (by rfl) ?_ (.slice a3 n3 c3) img (by rfl) W.heap.size ?_ HZ3.out ?_; (focus (repeat' (first | (with_reducible refine hq_dr ?_) | ((with_reducible refine hq_nw ?_); (first | (with_reducible rfl) | (simp only [size_alloc]; done))) | (with_reducible refine heap_al9 ?_ _) | (with_reducible refine heap_bl9 hbC ?_) | (with_reducible refine heap_bl9 hbB ?_) | (with_reducible refine heap_bl9 hbA ?_)))); (focus (exact HR3.out _ (by repeat' (first | (with_reducible exact Below.refl _ _) | (with_reducible exact hPC) | (with_reducible exact hPB) | (with_reducible exact hPA) | (with_reducible refine bl_dw ?_) | (with_reducible refine bl_aw ?_ _))))); intro aC nC cC wC hC; have hoC := hC.own; have hbC := hC.bel; have hgC := hC.blk; have hSC := bl_sz (show Below W.heap.size W _ from (by repeat' (first | (with_reducible exact Below.refl _ _) | (with_reducible exact hPC) | (with_reducible exact hPB) | (with_reducible exact hPA) | (with_reducible refine bl_dw ?_) | (with_reducible refine bl_aw ?_ _)))) hbC; have hPC := bl_tr (show Below W.heap.size W _ from (by repeat' (first | (with_reducible exact Below.refl _ _) | (with_reducible exact hPC) | (with_reducible exact hPB) | (with_reducible exact hPA) | (with_reducible refine bl_dw ?_) | (with_reducible refine bl_aw ?_ _)))) hbC; have hQC := hPC.mono HPW.out; have zC0 := box_cell (below_heap hPC (heap_lt H0.out) H0.out) (j := 0) rfl; have fC0 := box_frz (below_heap hPC (heap_lt H0.out) H0.out) 0; have zC1 := box_cell (below_heap hPC (heap_lt H0.out) H0.out) (j := 1) rfl; have fC1 := box_frz (below_heap hPC (heap_lt H0.out) H0.out) 1; have zC2 := box_cell (below_heap hPC (heap_lt H0.out) H0.out) (j := 2) rfl; have fC2 := box_frz (below_heap hPC (heap_lt H0.out) H0.out) 2; have zC3 := box_cell (below_heap hPC (heap_lt H0.out) H0.out) (j := 3) rfl; have fC3 := box_frz (below_heap hPC (heap_lt H0.out) H0.out) 3; have zC4 := box_cell (below_heap hPC (heap_lt H0.out) H0.out) (j := 4) rfl; have fC4 := box_frz (below_heap hPC (heap_lt H0.out) H0.out) 4; (first | (have dAC := bl_sz (show Below wA.heap.size wA _ from (by repeat' (first | (with_reducible exact Below.refl _ _) | (with_reducible exact kAB) | (with_reducible exact kAC) | (with_reducible refine bl_dw ?_) | (with_reducible refine bl_aw ?_ _)))) hbC; have kAC := bl_tr (show Below wA.heap.size wA _ from (by repeat' (first | (with_reducible exact Below.refl _ _) | (with_reducible exact kAB) | (with_reducible exact kAC) | (with_reducible refine bl_dw ?_) | (with_reducible refine bl_aw ?_ _)))) hbC) | skip); (first | (have dBC := bl_sz (show Below wB.heap.size wB _ from (by repeat' (first | (with_reducible exact Below.refl _ _) | (with_reducible exact kBA) | (with_reducible exact kBC) | (with_reducible refine bl_dw ?_) | (with_reducible refine bl_aw ?_ _)))) hbC; have kBC := bl_tr (show Below wB.heap.size wB _ from (by repeat' (first | (with_reducible exact Below.refl _ _) | (with_reducible exact kBA) | (with_reducible exact kBC) | (with_reducible refine bl_dw ?_) | (with_reducible refine bl_aw ?_ _)))) hbC) | skip)))
    all_goals
      go_wp2_with fail
      go_meet
    all_goals
      have sA := hbA.size; have sB := hbB.size; have sC := hbC.size; have sW := HSW.out
      exact ⟨aA, nA, cA, aB, nB, cB, aC, nC, cC, fin8 (below_heap hPC (heap_lt H0.out) H0.out) (Nat.le_succ _) (HBW.out.trans (hPC.mono HBW.out.size)) (Nat.le_refl _) hoA kAC hoB kBC hoC (Below.refl _ _) (fun b hb => by have h1 := hgA b hb; try simp only [size_alloc, size_dr9] at h1 sA sB sC dAB dAC dBC; omega) (fun b hb => by have h1 := hgB b hb; try simp only [size_alloc, size_dr9] at h1 sA sB sC dAB dAC dBC; omega) (fun b hb => by have h1 := hgC b hb; try simp only [size_alloc, size_dr9] at h1 sA sB sC dAB dAC dBC; omega) (fun a b ha hb e => by have h1 := hgA a ha; have h2 := hgB b hb; have h3 := (hoA.lt a ha).2; try simp only [size_alloc, size_dr9] at h1 h2 h3 sA sB sC dAB dAC dBC; omega) (fun a b ha hb e => by have h1 := hgA a ha; have h2 := hgC b hb; have h3 := (hoA.lt a ha).2; try simp only [size_alloc, size_dr9] at h1 h2 h3 sA sB sC dAB dAC dBC; omega) (fun a b ha hb e => by have h1 := hgB a ha; have h2 := hgC b hb; have h3 := (hoB.lt a ha).2; try simp only [size_alloc, size_dr9] at h1 h2 h3 sA sB sC dAB dAC dBC; omega)⟩
  obtain ⟨b1, m1, k1, b2, m2, k2, b3, m3, k3, hbox, how, hbf⟩ := hcut
  have HOW := Lib.hid how; have HBF := Lib.hid hbf; clear how hbf
  have fq0 := box_cell hbox (j := 0) rfl
  have fq1 := box_cell hbox (j := 1) rfl
  have fq2 := box_cell hbox (j := 2) rfl
  have fq3 := box_cell hbox (j := 3) rfl
  have fq4 := box_cell hbox (j := 4) rfl
  clear hbox
  go_wp2_with fail
  refine bodyPost_ret (v := .agg #[.bool set, .slice b1 m1 k1, .slice b2 m2 k2, .slice b3 m3 k3, .string non]) (by simp [results, Try.results30, go_sem, fq0, fq1, fq2, fq3, fq4]) rfl ?_
  exact ⟨b1, m1, k1, b2, m2, k2, b3, m3, k3, rfl, ⟨ownL_mono HOW.out.1 (by omega) (Nat.le_refl _), HOW.out.2⟩, HBF.out⟩


set_option maxRecDepth 100000 in
set_option maxHeartbeats 8000000 in
theorem narrow_impl_a (scr sty img : List ByteArray) (non : ByteArray) (a1 : Option Addr) (n1 c1 : Nat) (a2 : Option Addr) (n2 c2 : Nat) (a3 : Option Addr) (n3 c3 : Nat) (set' : Bool) (scr' sty' img' : List ByteArray) (non' : ByteArray) (a1' : Option Addr) (n1' c1' : Nat) (a2' : Option Addr) (n2' c2' : Nat) (a3' : Option Addr) (n3' c3' : Nat) (w : World) (hz : PolSm ⟨false, scr, sty, img, non⟩) (hz' : PolSm ⟨set', scr', sty', img', non'⟩) (hr : ReadP w.heap.size w (.slice a1 n1 c1) (.slice a2 n2 c2) (.slice a3 n3 c3) ⟨false, scr, sty, img, non⟩) (hr' : ReadP w.heap.size w (.slice a1' n1' c1') (.slice a2' n2' c2') (.slice a3' n3' c3') ⟨set', scr', sty', img', non'⟩) :
    Calls Try.prog 12 #[.agg #[.bool false, .slice a1 n1 c1, .slice a2 n2 c2, .slice a3 n3 c3, .string non], .agg #[.bool set', .slice a1' n1' c1', .slice a2' n2' c2', .slice a3' n3' c3', .string non']] w (PoNew (nrP ⟨false, scr, sty, img, non⟩ ⟨set', scr', sty', img', non'⟩) w) := by
  have u1 := hz; have u2 := hz'; have u3 := hr; have u4 := hr'; clear u1 u2 u3 u4
  obtain ⟨W, hW⟩ : ∃ W, ((w.alloc (.cells #[.bool false, .slice a1 n1 c1, .slice a2 n2 c2, .slice a3 n3 c3, .string non] 26)).alloc (.cells #[.bool set', .slice a1' n1' c1', .slice a2' n2' c2', .slice a3' n3' c3', .string non'] 26)).alloc (.cells #[.bool false, .slice none 0 0, .slice none 0 0, .slice none 0 0, .string ⟨#[]⟩] 26) = W := ⟨_, rfl⟩
  have HBW := Lib.hid (show Below w.heap.size w W by rw [← hW]; exact bl_aw (bl_aw (bl_aw (Below.refl _ _) _) _) _)
  have HX0 := Lib.hid (show W.heap[w.heap.size + 2]? = some (.cells #[.bool false, .slice none 0 0, .slice none 0 0, .slice none 0 0, .string ⟨#[]⟩] 26 (0, 0)) by rw [← hW]; exact three_new2 w _ _ _)
  have HPB := Lib.hid (show W.heap[w.heap.size + 1]? = some (.cells #[.bool set', .slice a1' n1' c1', .slice a2' n2' c2', .slice a3' n3' c3', .string non'] 26 (0, 0)) by rw [← hW]; exact three_new1 w _ _ _)
  have HPA := Lib.hid (show W.heap[w.heap.size]? = some (.cells #[.bool false, .slice a1 n1 c1, .slice a2 n2 c2, .slice a3 n3 c3, .string non] 26 (0, 0)) by rw [← hW]; exact three_new0 w _ _ _)
  have HSW := Lib.hid (show W.heap.size = w.heap.size + 3 by rw [← hW, size_alloc, size_alloc, size_alloc])
  have q0 := box_cell HPA.out (j := 0) rfl
  have q1 := box_cell HPA.out (j := 1) rfl
  have q2 := box_cell HPA.out (j := 2) rfl
  have q3 := box_cell HPA.out (j := 3) rfl
  have q4 := box_cell HPA.out (j := 4) rfl
  have p0 := box_cell HPB.out (j := 0) rfl
  have p1 := box_cell HPB.out (j := 1) rfl
  have p2 := box_cell HPB.out (j := 2) rfl
  have p3 := box_cell HPB.out (j := 3) rfl
  have p4 := box_cell HPB.out (j := 4) rfl
  have HRD := Lib.hid ((hr'.below HBW.out (Nat.le_refl _)).mono HBW.out.size)
  have HCP := Lib.hid (copyPolicy_impl set' scr' sty' img' non' a1' n1' c1' a2' n2' c2' a3' n3' c3' hz' W HRD.out)
  have HNR := Lib.hid (show nrP ⟨false, scr, sty, img, non⟩ ⟨set', scr', sty', img', non'⟩ = ⟨set', scr', sty', img', non'⟩ from rfl)
  rw [HNR.out]; clear HNR
  have HW := Lib.hid hW; clear hr hr' hW hz hz'
  go_enter Try.func12, Try.ntmps12
  go_upto_region 2 with (fail)
  try rw [HW.out]
  go_wp2_with fail
  refine HCP.out.mono ?_
  rintro e wx ⟨b1, m1, k1, b2, m2, k2, b3, m3, k3, rfl, how, hbf⟩
  have H2O := Lib.hid how; have HB2 := Lib.hid hbf; clear how
  have hx2 := below_heap hbf (heap_lt HX0.out) HX0.out
  have fx0 := box_cell hx2 (j := 0) rfl; have zx0 := box_frz hx2 0
  have fx1 := box_cell hx2 (j := 1) rfl; have zx1 := box_frz hx2 1
  have fx2 := box_cell hx2 (j := 2) rfl; have zx2 := box_frz hx2 2
  have fx3 := box_cell hx2 (j := 3) rfl; have zx3 := box_frz hx2 3
  have fx4 := box_cell hx2 (j := 4) rfl; have zx4 := box_frz hx2 4
  have H2X := Lib.hid hx2; clear hx2 hbf q0 q1 q2 q3 q4 p0 p1 p2 p3 p4
  have HPB3 := Lib.hid (show Below w.heap.size w wx from HBW.out.trans (HB2.out.mono HBW.out.size))
  go_wp2_with fail
  obtain ⟨w3, hw3⟩ : ∃ x, ((((wx.setCell ⟨w.heap.size + 2, 0, none⟩ (.bool set')).setCell ⟨w.heap.size + 2, 1, none⟩ (.slice b1 m1 k1)).setCell ⟨w.heap.size + 2, 2, none⟩ (.slice b2 m2 k2)).setCell ⟨w.heap.size + 2, 3, none⟩ (.slice b3 m3 k3)).setCell ⟨w.heap.size + 2, 4, none⟩ (.string non') = x := ⟨_, rfl⟩
  rw [hw3]
  have hon : OnlyB [w.heap.size + 2] wx w3 := by rw [← hw3]; exact set5_only wx (w.heap.size + 2) _ _ _ _ _
  have hb3 := set5_box H2X.out (.bool set') (.slice b1 m1 k1) (.slice b2 m2 k2) (.slice b3 m3 k3) (.string non')
  rw [show set5 wx (w.heap.size + 2) (.bool set') (.slice b1 m1 k1) (.slice b2 m2 k2) (.slice b3 m3 k3) (.string non') = w3 from hw3] at hb3
  have r0 := box_cell hb3 (j := 0) rfl
  have r1 := box_cell hb3 (j := 1) rfl
  have r2 := box_cell hb3 (j := 2) rfl
  have r3 := box_cell hb3 (j := 3) rfl
  have r4 := box_cell hb3 (j := 4) rfl
  refine bodyPost_ret (v := .agg #[.bool set', .slice b1 m1 k1, .slice b2 m2 k2, .slice b3 m3 k3, .string non']) (by simp [results, Try.results12, go_sem, r0, r1, r2, r3, r4]) rfl ?_
  refine ⟨b1, m1, k1, b2, m2, k2, b3, m3, k3, rfl, ?_, HPB3.out.trans (hon.below (fun i hi => by rw [List.mem_singleton] at hi; omega) HPB3.out.size)⟩
  exact ⟨ownL_mono (ownL_only H2O.out.1 hon (fun b hb hm => by rw [List.mem_singleton] at hm; have := (ownL_lt H2O.out.1 b hb).1; have := HSW.out; omega)) (by have := HSW.out; omega) hon.size, H2O.out.2⟩


set_option maxRecDepth 100000 in
set_option maxHeartbeats 8000000 in
theorem narrow_impl_b (scr sty img : List ByteArray) (non : ByteArray) (a1 : Option Addr) (n1 c1 : Nat) (a2 : Option Addr) (n2 c2 : Nat) (a3 : Option Addr) (n3 c3 : Nat) (scr' sty' img' : List ByteArray) (non' : ByteArray) (a1' : Option Addr) (n1' c1' : Nat) (a2' : Option Addr) (n2' c2' : Nat) (a3' : Option Addr) (n3' c3' : Nat) (w : World) (hz : PolSm ⟨true, scr, sty, img, non⟩) (hz' : PolSm ⟨false, scr', sty', img', non'⟩) (hr : ReadP w.heap.size w (.slice a1 n1 c1) (.slice a2 n2 c2) (.slice a3 n3 c3) ⟨true, scr, sty, img, non⟩) (hr' : ReadP w.heap.size w (.slice a1' n1' c1') (.slice a2' n2' c2') (.slice a3' n3' c3') ⟨false, scr', sty', img', non'⟩) :
    Calls Try.prog 12 #[.agg #[.bool true, .slice a1 n1 c1, .slice a2 n2 c2, .slice a3 n3 c3, .string non], .agg #[.bool false, .slice a1' n1' c1', .slice a2' n2' c2', .slice a3' n3' c3', .string non']] w (PoNew (nrP ⟨true, scr, sty, img, non⟩ ⟨false, scr', sty', img', non'⟩) w) := by
  have u1 := hz; have u2 := hz'; have u3 := hr; have u4 := hr'; clear u1 u2 u3 u4
  obtain ⟨W, hW⟩ : ∃ W, ((w.alloc (.cells #[.bool true, .slice a1 n1 c1, .slice a2 n2 c2, .slice a3 n3 c3, .string non] 26)).alloc (.cells #[.bool false, .slice a1' n1' c1', .slice a2' n2' c2', .slice a3' n3' c3', .string non'] 26)).alloc (.cells #[.bool false, .slice none 0 0, .slice none 0 0, .slice none 0 0, .string ⟨#[]⟩] 26) = W := ⟨_, rfl⟩
  have HBW := Lib.hid (show Below w.heap.size w W by rw [← hW]; exact bl_aw (bl_aw (bl_aw (Below.refl _ _) _) _) _)
  have HX0 := Lib.hid (show W.heap[w.heap.size + 2]? = some (.cells #[.bool false, .slice none 0 0, .slice none 0 0, .slice none 0 0, .string ⟨#[]⟩] 26 (0, 0)) by rw [← hW]; exact three_new2 w _ _ _)
  have HPB := Lib.hid (show W.heap[w.heap.size + 1]? = some (.cells #[.bool false, .slice a1' n1' c1', .slice a2' n2' c2', .slice a3' n3' c3', .string non'] 26 (0, 0)) by rw [← hW]; exact three_new1 w _ _ _)
  have HPA := Lib.hid (show W.heap[w.heap.size]? = some (.cells #[.bool true, .slice a1 n1 c1, .slice a2 n2 c2, .slice a3 n3 c3, .string non] 26 (0, 0)) by rw [← hW]; exact three_new0 w _ _ _)
  have HSW := Lib.hid (show W.heap.size = w.heap.size + 3 by rw [← hW, size_alloc, size_alloc, size_alloc])
  have q0 := box_cell HPA.out (j := 0) rfl
  have q1 := box_cell HPA.out (j := 1) rfl
  have q2 := box_cell HPA.out (j := 2) rfl
  have q3 := box_cell HPA.out (j := 3) rfl
  have q4 := box_cell HPA.out (j := 4) rfl
  have p0 := box_cell HPB.out (j := 0) rfl
  have p1 := box_cell HPB.out (j := 1) rfl
  have p2 := box_cell HPB.out (j := 2) rfl
  have p3 := box_cell HPB.out (j := 3) rfl
  have p4 := box_cell HPB.out (j := 4) rfl
  have HRD := Lib.hid ((hr.below HBW.out (Nat.le_refl _)).mono HBW.out.size)
  have HCP := Lib.hid (copyPolicy_impl true scr sty img non a1 n1 c1 a2 n2 c2 a3 n3 c3 hz W HRD.out)
  have HNR := Lib.hid (show nrP ⟨true, scr, sty, img, non⟩ ⟨false, scr', sty', img', non'⟩ = ⟨true, scr, sty, img, non⟩ from rfl)
  rw [HNR.out]; clear HNR
  have HW := Lib.hid hW; clear hr hr' hW hz hz'
  go_enter Try.func12, Try.ntmps12
  go_upto_region 4 with (fail)
  try rw [HW.out]
  go_wp2_with fail
  refine HCP.out.mono ?_
  rintro e wx ⟨b1, m1, k1, b2, m2, k2, b3, m3, k3, rfl, how, hbf⟩
  have H2O := Lib.hid how; have HB2 := Lib.hid hbf; clear how
  have hx2 := below_heap hbf (heap_lt HX0.out) HX0.out
  have fx0 := box_cell hx2 (j := 0) rfl; have zx0 := box_frz hx2 0
  have fx1 := box_cell hx2 (j := 1) rfl; have zx1 := box_frz hx2 1
  have fx2 := box_cell hx2 (j := 2) rfl; have zx2 := box_frz hx2 2
  have fx3 := box_cell hx2 (j := 3) rfl; have zx3 := box_frz hx2 3
  have fx4 := box_cell hx2 (j := 4) rfl; have zx4 := box_frz hx2 4
  have H2X := Lib.hid hx2; clear hx2 hbf q0 q1 q2 q3 q4 p0 p1 p2 p3 p4
  have HPB3 := Lib.hid (show Below w.heap.size w wx from HBW.out.trans (HB2.out.mono HBW.out.size))
  go_wp2_with fail
  obtain ⟨w3, hw3⟩ : ∃ x, ((((wx.setCell ⟨w.heap.size + 2, 0, none⟩ (.bool true)).setCell ⟨w.heap.size + 2, 1, none⟩ (.slice b1 m1 k1)).setCell ⟨w.heap.size + 2, 2, none⟩ (.slice b2 m2 k2)).setCell ⟨w.heap.size + 2, 3, none⟩ (.slice b3 m3 k3)).setCell ⟨w.heap.size + 2, 4, none⟩ (.string non) = x := ⟨_, rfl⟩
  rw [hw3]
  have hon : OnlyB [w.heap.size + 2] wx w3 := by rw [← hw3]; exact set5_only wx (w.heap.size + 2) _ _ _ _ _
  have hb3 := set5_box H2X.out (.bool true) (.slice b1 m1 k1) (.slice b2 m2 k2) (.slice b3 m3 k3) (.string non)
  rw [show set5 wx (w.heap.size + 2) (.bool true) (.slice b1 m1 k1) (.slice b2 m2 k2) (.slice b3 m3 k3) (.string non) = w3 from hw3] at hb3
  have r0 := box_cell hb3 (j := 0) rfl
  have r1 := box_cell hb3 (j := 1) rfl
  have r2 := box_cell hb3 (j := 2) rfl
  have r3 := box_cell hb3 (j := 3) rfl
  have r4 := box_cell hb3 (j := 4) rfl
  refine bodyPost_ret (v := .agg #[.bool true, .slice b1 m1 k1, .slice b2 m2 k2, .slice b3 m3 k3, .string non]) (by simp [results, Try.results12, go_sem, r0, r1, r2, r3, r4]) rfl ?_
  refine ⟨b1, m1, k1, b2, m2, k2, b3, m3, k3, rfl, ?_, HPB3.out.trans (hon.below (fun i hi => by rw [List.mem_singleton] at hi; omega) HPB3.out.size)⟩
  exact ⟨ownL_mono (ownL_only H2O.out.1 hon (fun b hb hm => by rw [List.mem_singleton] at hm; have := (ownL_lt H2O.out.1 b hb).1; have := HSW.out; omega)) (by have := HSW.out; omega) hon.size, H2O.out.2⟩


set_option maxRecDepth 100000 in
set_option maxHeartbeats 8000000 in
theorem narrow_spec_a (scr sty img : List ByteArray) (non : ByteArray) (a1 : Option Addr) (n1 c1 : Nat) (a2 : Option Addr) (n2 c2 : Nat) (a3 : Option Addr) (n3 c3 : Nat) (set' : Bool) (scr' sty' img' : List ByteArray) (non' : ByteArray) (a1' : Option Addr) (n1' c1' : Nat) (a2' : Option Addr) (n2' c2' : Nat) (a3' : Option Addr) (n3' c3' : Nat) (w : World) (hz : PolSm ⟨false, scr, sty, img, non⟩) (hz' : PolSm ⟨set', scr', sty', img', non'⟩) (hr : ReadP w.heap.size w (.slice a1 n1 c1) (.slice a2 n2 c2) (.slice a3 n3 c3) ⟨false, scr, sty, img, non⟩) (hr' : ReadP w.heap.size w (.slice a1' n1' c1') (.slice a2' n2' c2') (.slice a3' n3' c3') ⟨set', scr', sty', img', non'⟩) :
    Calls Try.prog 10 #[.agg #[.bool false, .slice a1 n1 c1, .slice a2 n2 c2, .slice a3 n3 c3, .string non], .agg #[.bool set', .slice a1' n1' c1', .slice a2' n2' c2', .slice a3' n3' c3', .string non']] w (PoNew (nrP ⟨false, scr, sty, img, non⟩ ⟨set', scr', sty', img', non'⟩) w) := by
  have u1 := hz; have u2 := hz'; have u3 := hr; have u4 := hr'; clear u1 u2 u3 u4
  obtain ⟨W, hW⟩ : ∃ W, ((w.alloc (.cells #[.bool false, .slice a1 n1 c1, .slice a2 n2 c2, .slice a3 n3 c3, .string non] 26)).alloc (.cells #[.bool set', .slice a1' n1' c1', .slice a2' n2' c2', .slice a3' n3' c3', .string non'] 26)).alloc (.cells #[.bool false, .slice none 0 0, .slice none 0 0, .slice none 0 0, .string ⟨#[]⟩] 26) = W := ⟨_, rfl⟩
  have HBW := Lib.hid (show Below w.heap.size w W by rw [← hW]; exact bl_aw (bl_aw (bl_aw (Below.refl _ _) _) _) _)
  have HX0 := Lib.hid (show W.heap[w.heap.size + 2]? = some (.cells #[.bool false, .slice none 0 0, .slice none 0 0, .slice none 0 0, .string ⟨#[]⟩] 26 (0, 0)) by rw [← hW]; exact three_new2 w _ _ _)
  have HPB := Lib.hid (show W.heap[w.heap.size + 1]? = some (.cells #[.bool set', .slice a1' n1' c1', .slice a2' n2' c2', .slice a3' n3' c3', .string non'] 26 (0, 0)) by rw [← hW]; exact three_new1 w _ _ _)
  have HPA := Lib.hid (show W.heap[w.heap.size]? = some (.cells #[.bool false, .slice a1 n1 c1, .slice a2 n2 c2, .slice a3 n3 c3, .string non] 26 (0, 0)) by rw [← hW]; exact three_new0 w _ _ _)
  have HSW := Lib.hid (show W.heap.size = w.heap.size + 3 by rw [← hW, size_alloc, size_alloc, size_alloc])
  have q0 := box_cell HPA.out (j := 0) rfl
  have q1 := box_cell HPA.out (j := 1) rfl
  have q2 := box_cell HPA.out (j := 2) rfl
  have q3 := box_cell HPA.out (j := 3) rfl
  have q4 := box_cell HPA.out (j := 4) rfl
  have p0 := box_cell HPB.out (j := 0) rfl
  have p1 := box_cell HPB.out (j := 1) rfl
  have p2 := box_cell HPB.out (j := 2) rfl
  have p3 := box_cell HPB.out (j := 3) rfl
  have p4 := box_cell HPB.out (j := 4) rfl
  have HRD := Lib.hid ((hr'.below HBW.out (Nat.le_refl _)).mono HBW.out.size)
  have HCP := Lib.hid (copy9_spec set' scr' sty' img' non' a1' n1' c1' a2' n2' c2' a3' n3' c3' hz' W HRD.out)
  have HNR := Lib.hid (show nrP ⟨false, scr, sty, img, non⟩ ⟨set', scr', sty', img', non'⟩ = ⟨set', scr', sty', img', non'⟩ from rfl)
  rw [HNR.out]; clear HNR
  have HW := Lib.hid hW; clear hr hr' hW hz hz'
  go_enter Try.func10, Try.ntmps10
  go_upto_region 2 with (fail)
  try rw [HW.out]
  go_wp2_with fail
  refine HCP.out.mono ?_
  rintro e wx ⟨b1, m1, k1, b2, m2, k2, b3, m3, k3, rfl, how, hbf⟩
  have H2O := Lib.hid how; have HB2 := Lib.hid hbf; clear how
  have hx2 := below_heap hbf (heap_lt HX0.out) HX0.out
  have fx0 := box_cell hx2 (j := 0) rfl; have zx0 := box_frz hx2 0
  have fx1 := box_cell hx2 (j := 1) rfl; have zx1 := box_frz hx2 1
  have fx2 := box_cell hx2 (j := 2) rfl; have zx2 := box_frz hx2 2
  have fx3 := box_cell hx2 (j := 3) rfl; have zx3 := box_frz hx2 3
  have fx4 := box_cell hx2 (j := 4) rfl; have zx4 := box_frz hx2 4
  have H2X := Lib.hid hx2; clear hx2 hbf q0 q1 q2 q3 q4 p0 p1 p2 p3 p4
  have HPB3 := Lib.hid (show Below w.heap.size w wx from HBW.out.trans (HB2.out.mono HBW.out.size))
  go_wp2_with fail
  obtain ⟨w3, hw3⟩ : ∃ x, ((((wx.setCell ⟨w.heap.size + 2, 0, none⟩ (.bool set')).setCell ⟨w.heap.size + 2, 1, none⟩ (.slice b1 m1 k1)).setCell ⟨w.heap.size + 2, 2, none⟩ (.slice b2 m2 k2)).setCell ⟨w.heap.size + 2, 3, none⟩ (.slice b3 m3 k3)).setCell ⟨w.heap.size + 2, 4, none⟩ (.string non') = x := ⟨_, rfl⟩
  rw [hw3]
  have hon : OnlyB [w.heap.size + 2] wx w3 := by rw [← hw3]; exact set5_only wx (w.heap.size + 2) _ _ _ _ _
  have hb3 := set5_box H2X.out (.bool set') (.slice b1 m1 k1) (.slice b2 m2 k2) (.slice b3 m3 k3) (.string non')
  rw [show set5 wx (w.heap.size + 2) (.bool set') (.slice b1 m1 k1) (.slice b2 m2 k2) (.slice b3 m3 k3) (.string non') = w3 from hw3] at hb3
  have r0 := box_cell hb3 (j := 0) rfl
  have r1 := box_cell hb3 (j := 1) rfl
  have r2 := box_cell hb3 (j := 2) rfl
  have r3 := box_cell hb3 (j := 3) rfl
  have r4 := box_cell hb3 (j := 4) rfl
  refine bodyPost_ret (v := .agg #[.bool set', .slice b1 m1 k1, .slice b2 m2 k2, .slice b3 m3 k3, .string non']) (by simp [results, Try.results10, go_sem, r0, r1, r2, r3, r4]) rfl ?_
  refine ⟨b1, m1, k1, b2, m2, k2, b3, m3, k3, rfl, ?_, HPB3.out.trans (hon.below (fun i hi => by rw [List.mem_singleton] at hi; omega) HPB3.out.size)⟩
  exact ⟨ownL_mono (ownL_only H2O.out.1 hon (fun b hb hm => by rw [List.mem_singleton] at hm; have := (ownL_lt H2O.out.1 b hb).1; have := HSW.out; omega)) (by have := HSW.out; omega) hon.size, H2O.out.2⟩


set_option maxRecDepth 100000 in
set_option maxHeartbeats 8000000 in
theorem narrow_spec_b (scr sty img : List ByteArray) (non : ByteArray) (a1 : Option Addr) (n1 c1 : Nat) (a2 : Option Addr) (n2 c2 : Nat) (a3 : Option Addr) (n3 c3 : Nat) (scr' sty' img' : List ByteArray) (non' : ByteArray) (a1' : Option Addr) (n1' c1' : Nat) (a2' : Option Addr) (n2' c2' : Nat) (a3' : Option Addr) (n3' c3' : Nat) (w : World) (hz : PolSm ⟨true, scr, sty, img, non⟩) (hz' : PolSm ⟨false, scr', sty', img', non'⟩) (hr : ReadP w.heap.size w (.slice a1 n1 c1) (.slice a2 n2 c2) (.slice a3 n3 c3) ⟨true, scr, sty, img, non⟩) (hr' : ReadP w.heap.size w (.slice a1' n1' c1') (.slice a2' n2' c2') (.slice a3' n3' c3') ⟨false, scr', sty', img', non'⟩) :
    Calls Try.prog 10 #[.agg #[.bool true, .slice a1 n1 c1, .slice a2 n2 c2, .slice a3 n3 c3, .string non], .agg #[.bool false, .slice a1' n1' c1', .slice a2' n2' c2', .slice a3' n3' c3', .string non']] w (PoNew (nrP ⟨true, scr, sty, img, non⟩ ⟨false, scr', sty', img', non'⟩) w) := by
  have u1 := hz; have u2 := hz'; have u3 := hr; have u4 := hr'; clear u1 u2 u3 u4
  obtain ⟨W, hW⟩ : ∃ W, ((w.alloc (.cells #[.bool true, .slice a1 n1 c1, .slice a2 n2 c2, .slice a3 n3 c3, .string non] 26)).alloc (.cells #[.bool false, .slice a1' n1' c1', .slice a2' n2' c2', .slice a3' n3' c3', .string non'] 26)).alloc (.cells #[.bool false, .slice none 0 0, .slice none 0 0, .slice none 0 0, .string ⟨#[]⟩] 26) = W := ⟨_, rfl⟩
  have HBW := Lib.hid (show Below w.heap.size w W by rw [← hW]; exact bl_aw (bl_aw (bl_aw (Below.refl _ _) _) _) _)
  have HX0 := Lib.hid (show W.heap[w.heap.size + 2]? = some (.cells #[.bool false, .slice none 0 0, .slice none 0 0, .slice none 0 0, .string ⟨#[]⟩] 26 (0, 0)) by rw [← hW]; exact three_new2 w _ _ _)
  have HPB := Lib.hid (show W.heap[w.heap.size + 1]? = some (.cells #[.bool false, .slice a1' n1' c1', .slice a2' n2' c2', .slice a3' n3' c3', .string non'] 26 (0, 0)) by rw [← hW]; exact three_new1 w _ _ _)
  have HPA := Lib.hid (show W.heap[w.heap.size]? = some (.cells #[.bool true, .slice a1 n1 c1, .slice a2 n2 c2, .slice a3 n3 c3, .string non] 26 (0, 0)) by rw [← hW]; exact three_new0 w _ _ _)
  have HSW := Lib.hid (show W.heap.size = w.heap.size + 3 by rw [← hW, size_alloc, size_alloc, size_alloc])
  have q0 := box_cell HPA.out (j := 0) rfl
  have q1 := box_cell HPA.out (j := 1) rfl
  have q2 := box_cell HPA.out (j := 2) rfl
  have q3 := box_cell HPA.out (j := 3) rfl
  have q4 := box_cell HPA.out (j := 4) rfl
  have p0 := box_cell HPB.out (j := 0) rfl
  have p1 := box_cell HPB.out (j := 1) rfl
  have p2 := box_cell HPB.out (j := 2) rfl
  have p3 := box_cell HPB.out (j := 3) rfl
  have p4 := box_cell HPB.out (j := 4) rfl
  have HRD := Lib.hid ((hr.below HBW.out (Nat.le_refl _)).mono HBW.out.size)
  have HCP := Lib.hid (copy9_spec true scr sty img non a1 n1 c1 a2 n2 c2 a3 n3 c3 hz W HRD.out)
  have HNR := Lib.hid (show nrP ⟨true, scr, sty, img, non⟩ ⟨false, scr', sty', img', non'⟩ = ⟨true, scr, sty, img, non⟩ from rfl)
  rw [HNR.out]; clear HNR
  have HW := Lib.hid hW; clear hr hr' hW hz hz'
  go_enter Try.func10, Try.ntmps10
  go_upto_region 4 with (fail)
  try rw [HW.out]
  go_wp2_with fail
  refine HCP.out.mono ?_
  rintro e wx ⟨b1, m1, k1, b2, m2, k2, b3, m3, k3, rfl, how, hbf⟩
  have H2O := Lib.hid how; have HB2 := Lib.hid hbf; clear how
  have hx2 := below_heap hbf (heap_lt HX0.out) HX0.out
  have fx0 := box_cell hx2 (j := 0) rfl; have zx0 := box_frz hx2 0
  have fx1 := box_cell hx2 (j := 1) rfl; have zx1 := box_frz hx2 1
  have fx2 := box_cell hx2 (j := 2) rfl; have zx2 := box_frz hx2 2
  have fx3 := box_cell hx2 (j := 3) rfl; have zx3 := box_frz hx2 3
  have fx4 := box_cell hx2 (j := 4) rfl; have zx4 := box_frz hx2 4
  have H2X := Lib.hid hx2; clear hx2 hbf q0 q1 q2 q3 q4 p0 p1 p2 p3 p4
  have HPB3 := Lib.hid (show Below w.heap.size w wx from HBW.out.trans (HB2.out.mono HBW.out.size))
  go_wp2_with fail
  obtain ⟨w3, hw3⟩ : ∃ x, ((((wx.setCell ⟨w.heap.size + 2, 0, none⟩ (.bool true)).setCell ⟨w.heap.size + 2, 1, none⟩ (.slice b1 m1 k1)).setCell ⟨w.heap.size + 2, 2, none⟩ (.slice b2 m2 k2)).setCell ⟨w.heap.size + 2, 3, none⟩ (.slice b3 m3 k3)).setCell ⟨w.heap.size + 2, 4, none⟩ (.string non) = x := ⟨_, rfl⟩
  rw [hw3]
  have hon : OnlyB [w.heap.size + 2] wx w3 := by rw [← hw3]; exact set5_only wx (w.heap.size + 2) _ _ _ _ _
  have hb3 := set5_box H2X.out (.bool true) (.slice b1 m1 k1) (.slice b2 m2 k2) (.slice b3 m3 k3) (.string non)
  rw [show set5 wx (w.heap.size + 2) (.bool true) (.slice b1 m1 k1) (.slice b2 m2 k2) (.slice b3 m3 k3) (.string non) = w3 from hw3] at hb3
  have r0 := box_cell hb3 (j := 0) rfl
  have r1 := box_cell hb3 (j := 1) rfl
  have r2 := box_cell hb3 (j := 2) rfl
  have r3 := box_cell hb3 (j := 3) rfl
  have r4 := box_cell hb3 (j := 4) rfl
  refine bodyPost_ret (v := .agg #[.bool true, .slice b1 m1 k1, .slice b2 m2 k2, .slice b3 m3 k3, .string non]) (by simp [results, Try.results10, go_sem, r0, r1, r2, r3, r4]) rfl ?_
  refine ⟨b1, m1, k1, b2, m2, k2, b3, m3, k3, rfl, ?_, HPB3.out.trans (hon.below (fun i hi => by rw [List.mem_singleton] at hi; omega) HPB3.out.size)⟩
  exact ⟨ownL_mono (ownL_only H2O.out.1 hon (fun b hb hm => by rw [List.mem_singleton] at hm; have := (ownL_lt H2O.out.1 b hb).1; have := HSW.out; omega)) (by have := HSW.out; omega) hon.size, H2O.out.2⟩


theorem narrow_impl (set : Bool) (scr sty img : List ByteArray) (non : ByteArray) (a1 : Option Addr) (n1 c1 : Nat) (a2 : Option Addr) (n2 c2 : Nat) (a3 : Option Addr) (n3 c3 : Nat) (set' : Bool) (scr' sty' img' : List ByteArray) (non' : ByteArray) (a1' : Option Addr) (n1' c1' : Nat) (a2' : Option Addr) (n2' c2' : Nat) (a3' : Option Addr) (n3' c3' : Nat) (w : World) (hz : PolSm ⟨set, scr, sty, img, non⟩) (hz' : PolSm ⟨set', scr', sty', img', non'⟩) (hr : ReadP w.heap.size w (.slice a1 n1 c1) (.slice a2 n2 c2) (.slice a3 n3 c3) ⟨set, scr, sty, img, non⟩) (hr' : ReadP w.heap.size w (.slice a1' n1' c1') (.slice a2' n2' c2') (.slice a3' n3' c3') ⟨set', scr', sty', img', non'⟩) :
    Calls Try.prog 12 #[.agg #[.bool set, .slice a1 n1 c1, .slice a2 n2 c2, .slice a3 n3 c3, .string non], .agg #[.bool set', .slice a1' n1' c1', .slice a2' n2' c2', .slice a3' n3' c3', .string non']] w (PoNew (nrP ⟨set, scr, sty, img, non⟩ ⟨set', scr', sty', img', non'⟩) w) := by
  cases set with
  | false => exact narrow_impl_a scr sty img non a1 n1 c1 a2 n2 c2 a3 n3 c3 set' scr' sty' img' non' a1' n1' c1' a2' n2' c2' a3' n3' c3' w hz hz' hr hr'
  | true =>
    cases set' with
    | false => exact narrow_impl_b scr sty img non a1 n1 c1 a2 n2 c2 a3 n3 c3 scr' sty' img' non' a1' n1' c1' a2' n2' c2' a3' n3' c3' w hz hz' hr hr'
    | true => exact narrow_impl_set scr sty img non a1 n1 c1 a2 n2 c2 a3 n3 c3 scr' sty' img' non' a1' n1' c1' a2' n2' c2' a3' n3' c3' w hz hr hr'


theorem narrow_spec (set : Bool) (scr sty img : List ByteArray) (non : ByteArray) (a1 : Option Addr) (n1 c1 : Nat) (a2 : Option Addr) (n2 c2 : Nat) (a3 : Option Addr) (n3 c3 : Nat) (set' : Bool) (scr' sty' img' : List ByteArray) (non' : ByteArray) (a1' : Option Addr) (n1' c1' : Nat) (a2' : Option Addr) (n2' c2' : Nat) (a3' : Option Addr) (n3' c3' : Nat) (w : World) (hz : PolSm ⟨set, scr, sty, img, non⟩) (hz' : PolSm ⟨set', scr', sty', img', non'⟩) (hr : ReadP w.heap.size w (.slice a1 n1 c1) (.slice a2 n2 c2) (.slice a3 n3 c3) ⟨set, scr, sty, img, non⟩) (hr' : ReadP w.heap.size w (.slice a1' n1' c1') (.slice a2' n2' c2') (.slice a3' n3' c3') ⟨set', scr', sty', img', non'⟩) :
    Calls Try.prog 10 #[.agg #[.bool set, .slice a1 n1 c1, .slice a2 n2 c2, .slice a3 n3 c3, .string non], .agg #[.bool set', .slice a1' n1' c1', .slice a2' n2' c2', .slice a3' n3' c3', .string non']] w (PoNew (nrP ⟨set, scr, sty, img, non⟩ ⟨set', scr', sty', img', non'⟩) w) := by
  cases set with
  | false => exact narrow_spec_a scr sty img non a1 n1 c1 a2 n2 c2 a3 n3 c3 set' scr' sty' img' non' a1' n1' c1' a2' n2' c2' a3' n3' c3' w hz hz' hr hr'
  | true =>
    cases set' with
    | false => exact narrow_spec_b scr sty img non a1 n1 c1 a2 n2 c2 a3 n3 c3 scr' sty' img' non' a1' n1' c1' a2' n2' c2' a3' n3' c3' w hz hz' hr hr'
    | true => exact narrow_spec_set scr sty img non a1 n1 c1 a2 n2 c2 a3 n3 c3 scr' sty' img' non' a1' n1' c1' a2' n2' c2' a3' n3' c3' w hz hr hr'

end Go.Proofs.Ytgcdfkpidcdicaa

/- Helper contracts: ParsePolicy of the model. Asked: the text is no longer than 2^20 bytes. -/
import Derived.Test.YtkjjiinccljhjaaGreatDoorMe15
import Derived.Test.YtkjjiinccljhjaaGreatDoorMe9
namespace Go.Proofs.YtkjjiinccljhjaaGreatDoor

open Go.ChangeShapes Go.WideShapes Go.ChangeAt Go.RowKit

theorem Own3O.only2 {lo : Nat} {w w' : World} {bs : List Nat} {v1 v2 v3 : Value} {xs ys zs : List ByteArray} (h : Own3O lo w v1 v2 v3 xs ys zs) (hb : OnlyB bs w w') (hn : ∀ b ∈ blkO v1 xs ++ (blkO v2 ys ++ blkO v3 zs), b ∉ bs) : Own3O lo w' v1 v2 v3 xs ys zs := by
  refine ⟨(h.1.only hb fun b hv => hn b ?_).top, (h.2.1.only hb fun b hv => hn b ?_).top, (h.2.2.1.only hb fun b hv => hn b ?_).top, h.2.2.2⟩
  · exact List.mem_append.2 (Or.inl hv)
  · exact List.mem_append.2 (Or.inr (List.mem_append.2 (Or.inl hv)))
  · exact List.mem_append.2 (Or.inr (List.mem_append.2 (Or.inr hv)))
theorem finP6 {W Wc W1 W2 W3 : World} {p l1 h1 l2 h2 l3 h3 : Nat} {T : TypeId} {z0 z1 z2 z3 z4 u0 u4 v1 v2 v3 : Value} {xs ys zs : List ByteArray} (hp : Wc.heap[p]? = some (.cells #[z0, z1, z2, z3, z4] T (0, 0))) (hpW : W.heap.size ≤ p) (hb : Below W.heap.size W Wc)
    (o1 : OwnO l1 h1 W1 v1 xs) (k1 : Below W1.heap.size W1 Wc) (o2 : OwnO l2 h2 W2 v2 ys) (k2 : Below W2.heap.size W2 Wc) (o3 : OwnO l3 h3 W3 v3 zs) (k3 : Below W3.heap.size W3 Wc)
    (p1 : W.heap.size ≤ l1) (p2 : W.heap.size ≤ l2) (p3 : W.heap.size ≤ l3) (e1 : p < l1 ∨ h1 ≤ p) (e2 : p < l2 ∨ h2 ≤ p) (e3 : p < l3 ∨ h3 ≤ p) (d12 : h1 ≤ l2) (d13 : h1 ≤ l3) (d23 : h2 ≤ l3) :
    W.heap.size ≤ p ∧ (set5 Wc p u0 v1 v2 v3 u4).heap[p]? = some (.cells #[u0, v1, v2, v3, u4] T (0, 0)) ∧ (∀ b ∈ blkO v1 xs ++ (blkO v2 ys ++ blkO v3 zs), b ≠ p) ∧ Own3O W.heap.size (set5 Wc p u0 v1 v2 v3 u4) v1 v2 v3 xs ys zs ∧ Below W.heap.size W (set5 Wc p u0 v1 v2 v3 u4) := by
  have ho := set5_only Wc p u0 v1 v2 v3 u4
  have n : ∀ {lo hi : Nat} {V : World} {v : Value} {us : List ByteArray}, OwnO lo hi V v us → p < lo ∨ hi ≤ p → ∀ b ∈ blkO v us, b ≠ p := fun o he b hb e => by
    have h1 := o.blk b hb; omega
  have f : ∀ {lo hi : Nat} {V : World} {v : Value} {us : List ByteArray}, OwnO lo hi V v us → Below V.heap.size V Wc → p < lo ∨ hi ≤ p → OwnO lo hi (set5 Wc p u0 v1 v2 v3 u4) v us := fun o k he => (o.later k).only ho fun b hv hm => by
    rw [List.mem_singleton] at hm
    exact n o he b hv hm
  refine ⟨hpW, set5_box hp _ _ _ _ _, fun b hb => ?_, own3O_of (f o1 k1 e1) (f o2 k2 e2) (f o3 k3 e3) p1 p2 p3 d12 d13 d23, hb.trans (ho.below (fun i hi => by rw [List.mem_singleton] at hi; omega) hb.size)⟩
  rcases List.mem_append.1 hb with h | h
  · exact n o1 e1 b h
  · rcases List.mem_append.1 h with h | h
    · exact n o2 e2 b h
    · exact n o3 e3 b h
theorem finP7 {W Wc W1 W2 W3 : World} {l1 h1 l2 h2 l3 h3 : Nat} {T : TypeId} {u0 u4 v1 v2 v3 : Value} {xs ys zs : List ByteArray} (hb : Below W.heap.size W Wc)
    (o1 : OwnO l1 h1 W1 v1 xs) (k1 : Below W1.heap.size W1 Wc) (o2 : OwnO l2 h2 W2 v2 ys) (k2 : Below W2.heap.size W2 Wc) (o3 : OwnO l3 h3 W3 v3 zs) (k3 : Below W3.heap.size W3 Wc)
    (p1 : W.heap.size ≤ l1) (p2 : W.heap.size ≤ l2) (p3 : W.heap.size ≤ l3) (d12 : h1 ≤ l2) (d13 : h1 ≤ l3) (d23 : h2 ≤ l3) :
    W.heap.size ≤ Wc.heap.size ∧ (Wc.alloc (.cells #[u0, v1, v2, v3, u4] T (0, 0))).heap[Wc.heap.size]? = some (.cells #[u0, v1, v2, v3, u4] T (0, 0)) ∧ (∀ b ∈ blkO v1 xs ++ (blkO v2 ys ++ blkO v3 zs), b ≠ Wc.heap.size) ∧ Own3O W.heap.size (Wc.alloc (.cells #[u0, v1, v2, v3, u4] T (0, 0))) v1 v2 v3 xs ys zs ∧ Below W.heap.size W (Wc.alloc (.cells #[u0, v1, v2, v3, u4] T (0, 0))) := by
  have hbl := (Below.refl Wc.heap.size Wc).alloc (Nat.le_refl _) (.cells #[u0, v1, v2, v3, u4] T (0, 0))
  have n : ∀ {lo hi : Nat} {V : World} {v : Value} {us : List ByteArray}, OwnO lo hi V v us → Below V.heap.size V Wc → ∀ b ∈ blkO v us, b ≠ Wc.heap.size := fun o k b hb e => by
    have h1 := (o.blk b hb).2.2; have h2 := k.size; omega
  refine ⟨hb.size, hq_nw rfl, fun b hb => ?_, own3O_of (o1.later (bl_tr k1 hbl)) (o2.later (bl_tr k2 hbl)) (o3.later (bl_tr k3 hbl)) p1 p2 p3 d12 d13 d23, bl_tr hb hbl⟩
  rcases List.mem_append.1 hb with h | h
  · exact n o1 k1 b h
  · rcases List.mem_append.1 h with h | h
    · exact n o2 k2 b h
    · exact n o3 k3 b h
theorem rdM_none {s : ByteArray} (h : (splS 59 s.data.toList).length < 3) : rdM s = none := by
  unfold rdM
  split
  · rename_i a b c ds he
    rw [he] at h; simp at h; omega
  · rfl
theorem rdM_0 {s a b c : ByteArray} (h : splS 59 s.data.toList = [a, b, c]) : rdM s = some ⟨true, (splS 32 a.data.toList).tail, (splS 32 b.data.toList).tail, (splS 32 c.data.toList).tail, ⟨#[]⟩⟩ := by unfold rdM; rw [h]
theorem rdM_1 {s a b c d : ByteArray} {ds : List ByteArray} (h : splS 59 s.data.toList = a :: b :: c :: d :: ds) (hd : ¬ 6 < d.size) : rdM s = some ⟨true, (splS 32 a.data.toList).tail, (splS 32 b.data.toList).tail, (splS 32 c.data.toList).tail, ⟨#[]⟩⟩ := by
  unfold rdM; rw [h]
  dsimp only
  rw [if_neg hd]
theorem rdM_2 {s a b c d : ByteArray} {ds : List ByteArray} (h : splS 59 s.data.toList = a :: b :: c :: d :: ds) (hd : 6 < d.size) : rdM s = some ⟨true, (splS 32 a.data.toList).tail, (splS 32 b.data.toList).tail, (splS 32 c.data.toList).tail, d.extract 6 d.size⟩ := by
  unfold rdM; rw [h]
  dsimp only
  rw [if_pos hd]
theorem prsP_some {s : ByteArray} {q : Pol} (hs : s.size ≠ 0) (h : rdM s = some q) : prsP s = if fmtP q = s then (q, true) else (polZ, false) := by
  have := prsP_model hs; rw [h] at this; exact this.symm
theorem prsP_none {s : ByteArray} (hs : s.size ≠ 0) (h : rdM s = none) : prsP s = (polZ, false) := by
  have := prsP_model hs; rw [h] at this; exact this.symm
/-- A division of which the first piece is left out. -/
def NewT (xs : List ByteArray) (X : World) (e : Ending) (w' : World) : Prop := ∃ (g n c : Nat) (a : Option Addr) (m k : Nat), e = .returned (.slice (some ⟨g, 0, none⟩) n c) ∧ (∀ W, (Instr.sliceAt 24 (.slice (some ⟨g, 0, none⟩) n c) (some (.int .i64 1)) none none).run Tryz.prog W = .ok (.slice a m k) W) ∧ (∀ W, (Instr.slice 24 (.slice (some ⟨g, 0, none⟩) n c) (some (.int .i64 1)) none none).run Tryz.prog W = .ok (.slice a m k) W) ∧ OwnO X.heap.size w'.heap.size w' (.slice a m k) xs ∧ Below X.heap.size X w'
theorem elemS : Tryz.prog.elem 24 = 9 := by kernel_rfl
theorem tail_run (g n c : Nat) (h1 : 1 ≤ n) (W : World) : (Instr.slice 24 (.slice (some ⟨g, 0, none⟩) n c) (some (.int .i64 1)) none none).run Tryz.prog W = .ok (if c = 1 then .slice (some ⟨g, 0, none⟩) (n - 1) (c - 1) else .slice (some ⟨g, 1, none⟩) (n - 1) (c - 1)) W := by
  obtain ⟨i, hi, hz, hsize, hby⟩ := info_parts infoStr
  rw [run_slice_l W 24 _ n c (by rw [elemS]; exact Tryz.underlying24) .i64 1 (by omega) (by omega)]
  have hs : (sizeOf (Tryz.prog.elem 24)).run Tryz.prog W = .ok 1 W := by rw [elemS]; simp [sizeOf, typeInfo, hi, hsize]
  rw [hs]
  show Result.ok (sliced _ _ _ _ _) W = _
  unfold sliced
  by_cases hc : c = 1
  · rw [if_pos hc, if_pos (by omega)]; rfl
  · rw [if_neg hc, if_neg (by omega)]
    show Result.ok (Value.slice (some (Addr.add ⟨g, 0, none⟩ (1 * 1))) _ _) W = _
    rw [add_off]; rfl
theorem splT_any (p : ByteArray) (hz : p.size ≤ 1048576) (X : World) :
    Calls Tryz.prog 153 #[.string p, .int .u8 32] X (NewT ((splS 32 p.data.toList).tail) X) := by
  obtain ⟨x, xs, hx⟩ := splS_cons 32 p.data.toList
  rw [hx, List.tail_cons]
  refine (spl_spec p 32 (by omega) X).mono ?_
  rintro e w1 ⟨v, rfl, ho, hb⟩
  rw [hx] at ho
  obtain ⟨g, n, c, rfl, hn, hc, hcm⟩ := own_first ho
  have ht := OwnO.tail ho
  have hr := tail_run g n c hn
  have hr2 : ∀ W, (Instr.sliceAt 24 (.slice (some ⟨g, 0, none⟩) n c) (some (.int .i64 1)) none none).run Tryz.prog W = .ok (if c = 1 then .slice (some ⟨g, 0, none⟩) (n - 1) (c - 1) else .slice (some ⟨g, 1, none⟩) (n - 1) (c - 1)) W := fun W => by
    rw [run_sliceAt_slice W 24 _ _ _ _ (by rw [elemS]; exact Tryz.underlying24)]; exact hr W
  by_cases h1 : c = 1
  · rw [if_pos h1] at ht hr2
    have hr3 := hr; simp only [if_pos h1] at hr3
    exact ⟨g, n, c, _, _, _, rfl, fun W => by have := hr2 W; simpa only [if_pos h1] using this, hr3, ht, hb⟩
  · rw [if_neg h1] at ht
    have hr3 := hr; simp only [if_neg h1] at hr3
    exact ⟨g, n, c, _, _, _, rfl, fun W => by have := hr2 W; simpa only [if_neg h1] using this, hr3, ht, hb⟩

set_option maxRecDepth 100000 in
set_option maxHeartbeats 16000000 in
theorem prs_spec (s : ByteArray) (hz : s.size ≤ 1048576) (w : World) :
    Calls Tryz.prog 99 #[.string s] w (PrsNew (prsP s) w) := by
  obtain ⟨W0, hW0⟩ : ∃ x, w.alloc (.cells #[.bool false, .slice none 0 0, .slice none 0 0, .slice none 0 0, .string ⟨#[]⟩] 26) = x := ⟨_, rfl⟩
  have HB0 := Lib.hid (show Below w.heap.size w W0 by rw [← hW0]; exact bl_aw (Below.refl _ _) _)
  have H0 := Lib.hid (show W0.heap[w.heap.size]? = some (.cells #[.bool false, .slice none 0 0, .slice none 0 0, .slice none 0 0, .string ⟨#[]⟩] 26 (0, 0)) by rw [← hW0]; exact heap_alloc_new w _)
  have HW0 := Lib.hid hW0; clear hW0
  by_cases h0 : s.size = 0
  · have e1 : (s.toList == []) = true := by rw [empP_size, decide_eq_true h0]
    have HRR := Lib.hid (show prsP s = (polZ, true) by unfold prsP; rw [if_pos h0]); clear h0 hz
    go_enter Tryz.func99, Tryz.ntmps99
    go_upto_region 2 with (fail)
    rw [HW0.out]
    have y0 := box_cell H0.out (j := 0) rfl; have x0 := box_frz H0.out 0
    have y1 := box_cell H0.out (j := 1) rfl; have x1 := box_frz H0.out 1
    have y2 := box_cell H0.out (j := 2) rfl; have x2 := box_frz H0.out 2
    have y3 := box_cell H0.out (j := 3) rfl; have x3 := box_frz H0.out 3
    have y4 := box_cell H0.out (j := 4) rfl; have x4 := box_frz H0.out 4
    go_wp2_with fail
    obtain ⟨w9, hw9⟩ : ∃ x, (((((W0.setCell ⟨w.heap.size, 0, none⟩ (.bool false)).setCell ⟨w.heap.size, 1, none⟩ (.slice none 0 0)).setCell ⟨w.heap.size, 2, none⟩ (.slice none 0 0)).setCell ⟨w.heap.size, 3, none⟩ (.slice none 0 0)).setCell ⟨w.heap.size, 4, none⟩ (.string ⟨#[]⟩)) = x := ⟨_, rfl⟩
    rw [hw9]
    have hon : OnlyB [w.heap.size] W0 w9 := by rw [← hw9]; exact set5_only W0 (w.heap.size) _ _ _ _ _
    have hb9 := set5_box H0.out (.bool false) (.slice none 0 0) (.slice none 0 0) (.slice none 0 0) (.string ⟨#[]⟩)
    rw [show set5 W0 (w.heap.size) (.bool false) (.slice none 0 0) (.slice none 0 0) (.slice none 0 0) (.string ⟨#[]⟩) = w9 from hw9] at hb9
    have r0 := box_cell hb9 (j := 0) rfl
    have r1 := box_cell hb9 (j := 1) rfl
    have r2 := box_cell hb9 (j := 2) rfl
    have r3 := box_cell hb9 (j := 3) rfl
    have r4 := box_cell hb9 (j := 4) rfl
    refine bodyPost_ret (v := .tuple #[.agg #[.bool false, .slice none 0 0, .slice none 0 0, .slice none 0 0, .string ⟨#[]⟩], .bool true]) (by simp [results, Tryz.results99, go_sem, r0, r1, r2, r3, r4]) rfl ?_
    have hbl := HB0.out
    try unfold PrsNew
    try rw [HRR.out]
    refine ⟨none, 0, 0, none, 0, 0, none, 0, 0, rfl, own3O_zero _ _, ?_⟩
    exact hbl.trans (hon.below (fun i hi => by rw [List.mem_singleton] at hi; omega) hbl.size)
  have e1 : (s.toList == []) = false := by rw [empP_size, decide_eq_false h0]
  have HS0 := Lib.hid h0; clear h0
  have HSP := Lib.hid (spl_spec s 59 (by omega) W0)
  obtain ⟨L, hL⟩ : ∃ L, splS 59 s.data.toList = L := ⟨_, rfl⟩
  rw [hL] at HSP; have HL := Lib.hid hL; clear hL
  go_enter Tryz.func99, Tryz.ntmps99
  go_upto_region 3 with (fail)
  rw [HW0.out]
  go_wp2_with fail
  refine HSP.out.mono ?_
  rintro e w2 ⟨v, rfl, ho, hb⟩
  have HB2 := Lib.hid hb; clear hb
  have HBX := Lib.hid (below_heap HB2.out (heap_lt H0.out) H0.out)
  by_cases h3 : L.length < 3
  · have HRR := Lib.hid (prsP_none HS0.out (rdM_none (by rw [HL.out]; exact h3)))
    obtain ⟨va, vc, rfl, _⟩ := ho.reads encS_len
    obtain ⟨m, hm⟩ : ∃ m, L.length = m := ⟨_, rfl⟩
    rw [hm] at h3 ⊢; clear hm ho
    have e3 : decide ((m : Int) < 3) = true := decide_eq_true (by omega)
    have y0 := box_cell HBX.out (j := 0) rfl; have x0 := box_frz HBX.out 0
    have y1 := box_cell HBX.out (j := 1) rfl; have x1 := box_frz HBX.out 1
    have y2 := box_cell HBX.out (j := 2) rfl; have x2 := box_frz HBX.out 2
    have y3 := box_cell HBX.out (j := 3) rfl; have x3 := box_frz HBX.out 3
    have y4 := box_cell HBX.out (j := 4) rfl; have x4 := box_frz HBX.out 4
    go_wp2_with fail
    obtain ⟨w9, hw9⟩ : ∃ x, (((((w2.setCell ⟨w.heap.size, 0, none⟩ (.bool false)).setCell ⟨w.heap.size, 1, none⟩ (.slice none 0 0)).setCell ⟨w.heap.size, 2, none⟩ (.slice none 0 0)).setCell ⟨w.heap.size, 3, none⟩ (.slice none 0 0)).setCell ⟨w.heap.size, 4, none⟩ (.string ⟨#[]⟩)) = x := ⟨_, rfl⟩
    rw [hw9]
    have hon : OnlyB [w.heap.size] w2 w9 := by rw [← hw9]; exact set5_only w2 (w.heap.size) _ _ _ _ _
    have hb9 := set5_box HBX.out (.bool false) (.slice none 0 0) (.slice none 0 0) (.slice none 0 0) (.string ⟨#[]⟩)
    rw [show set5 w2 (w.heap.size) (.bool false) (.slice none 0 0) (.slice none 0 0) (.slice none 0 0) (.string ⟨#[]⟩) = w9 from hw9] at hb9
    have r0 := box_cell hb9 (j := 0) rfl
    have r1 := box_cell hb9 (j := 1) rfl
    have r2 := box_cell hb9 (j := 2) rfl
    have r3 := box_cell hb9 (j := 3) rfl
    have r4 := box_cell hb9 (j := 4) rfl
    refine bodyPost_ret (v := .tuple #[.agg #[.bool false, .slice none 0 0, .slice none 0 0, .slice none 0 0, .string ⟨#[]⟩], .bool false]) (by simp [results, Tryz.results99, go_sem, r0, r1, r2, r3, r4]) rfl ?_
    have hbl := HB0.out.trans (HB2.out.mono HB0.out.size)
    try unfold PrsNew
    try rw [HRR.out]
    refine ⟨none, 0, 0, none, 0, 0, none, 0, 0, rfl, own3O_zero _ _, ?_⟩
    exact hbl.trans (hon.below (fun i hi => by rw [List.mem_singleton] at hi; omega) hbl.size)
  obtain ⟨a, b, c, ds, rfl⟩ : ∃ a b c ds, L = a :: b :: c :: ds := by match L, h3 with | a :: b :: c :: ds, _ => exact ⟨a, b, c, ds, rfl⟩ | [], h => exact absurd (show ([] : List ByteArray).length < 3 by decide) h | [_], h => exact absurd (show 1 < 3 by decide) h | [_, _], h => exact absurd (show 2 < 3 by decide) h
  have hza : a.size ≤ 1048576 := by have h := sp_piece (p := a) (c := 59) (l := s.data.toList) (by rw [HL.out]; simp); rw [size_list] at h; omega
  have hzb : b.size ≤ 1048576 := by have h := sp_piece (p := b) (c := 59) (l := s.data.toList) (by rw [HL.out]; simp); rw [size_list] at h; omega
  have hzc : c.size ≤ 1048576 := by have h := sp_piece (p := c) (c := 59) (l := s.data.toList) (by rw [HL.out]; simp); rw [size_list] at h; omega
  have HX1 := Lib.hid (fun X => splT_any a hza X)
  have HX2 := Lib.hid (fun X => splT_any b hzb X)
  have HX3 := Lib.hid (fun X => splT_any c hzc X)
  have hrd := ho.reads encS_len
  obtain ⟨g, n', cc, rfl, hn1, hcc, hcm⟩ := own_first ho
  have hn3 : n' = ds.length + 3 := by obtain ⟨_, _, e, _⟩ := hrd; injection e with _ e _
  have hnw := hrd.news encS_len
  have c0 : w2.cell? ⟨g, 0, none⟩ = some (.string a) := by have h := hnw 0 (.string a) rfl; rw [add_off, Nat.zero_add] at h; exact h
  have c1 : w2.cell? ⟨g, 1, none⟩ = some (.string b) := by have h := hnw 1 (.string b) rfl; rw [add_off, Nat.zero_add] at h; exact h
  have c2 : w2.cell? ⟨g, 2, none⟩ = some (.string c) := by have h := hnw 2 (.string c) rfl; rw [add_off, Nat.zero_add] at h; exact h
  have HC3 := Lib.hid (fun (d : ByteArray) (ds' : List ByteArray) (h : ds = d :: ds') => show w2.cell? ⟨g, 3, none⟩ = some (.string d) by subst h; have h := hnw 3 (.string d) rfl; rw [add_off, Nat.zero_add] at h; exact h)
  have hgs := (ho.lt g rfl).2
  clear ho hrd hnw h3 hn1
  have hn0 : ¬ (n' : Int) < 3 := by omega
  have hn0d : decide ((n' : Int) < 3) = false := decide_eq_false hn0
  have j0 : (0 : Int) < (n' : Int) := by omega
  have j1 : (1 : Int) < (n' : Int) := by omega
  have j2 : (2 : Int) < (n' : Int) := by omega
  have j1n : 1 < n' := by omega
  have j2n : 2 < n' := by omega
  have j0n : 0 < n' := by omega
  have KEEP := Lib.hid (fun (w' : World) (h : Below w2.heap.size w2 w') => show Below w2.heap.size w2 w' ∧ w'.cell? ⟨g, 0, none⟩ = some (.string a) ∧ w'.cell? ⟨g, 1, none⟩ = some (.string b) ∧ w'.cell? ⟨g, 2, none⟩ = some (.string c) from ⟨h, (h.cell hgs).trans c0, (h.cell hgs).trans c1, (h.cell hgs).trans c2⟩)
  obtain ⟨X1, hX1⟩ : ∃ x, (splS 32 a.data.toList).tail = x := ⟨_, rfl⟩
  obtain ⟨X2, hX2⟩ : ∃ x, (splS 32 b.data.toList).tail = x := ⟨_, rfl⟩
  obtain ⟨X3, hX3⟩ : ∃ x, (splS 32 c.data.toList).tail = x := ⟨_, rfl⟩
  rw [hX1] at HX1; rw [hX2] at HX2; rw [hX3] at HX3; have HE1 := Lib.hid hX1; have HE2 := Lib.hid hX2; have HE3 := Lib.hid hX3; have HN3 := Lib.hid hn3; clear hX1 hX2 hX3 c0 c1 c2 hza hzb hzc hn3
  go_upto_region 6 with (fail)
  go_cut [5] from 15 to 30 (fun c wx => ∃ (p : Nat) (b1 : Option Addr) (m1 k1 : Nat) (b2 : Option Addr) (m2 k2 : Nat) (b3 : Option Addr) (m3 k3 : Nat), c = .pointer (some ⟨p, 0, none⟩) ∧ w2.heap.size ≤ p ∧ wx.heap[p]? = some (.cells #[.bool true, .slice b1 m1 k1, .slice b2 m2 k2, .slice b3 m3 k3, .string ⟨#[]⟩] 26 (0, 0)) ∧ (∀ q ∈ blkO (.slice b1 m1 k1) X1 ++ (blkO (.slice b2 m2 k2) X2 ++ blkO (.slice b3 m3 k3) X3), q ≠ p) ∧ Own3O w2.heap.size wx (.slice b1 m1 k1) (.slice b2 m2 k2) (.slice b3 m3 k3) X1 X2 X3 ∧ Below w2.heap.size w2 wx)
  case first =>
    go_region_held3 (fun w' => Below w2.heap.size w2 w' ∧ w'.cell? ⟨g, 0, none⟩ = some (.string a) ∧ w'.cell? ⟨g, 1, none⟩ = some (.string b) ∧ w'.cell? ⟨g, 2, none⟩ = some (.string c)) (exact KEEP.out _ (by repeat' (first | (with_reducible exact Below.refl _ _) | (with_reducible exact hPC) | (with_reducible exact hPB) | (with_reducible exact hPA) | (with_reducible refine bl_dw ?_) | (with_reducible refine bl_aw ?_ _) | (with_reducible refine bl_s9 ?_ (by first | exact Nat.le_refl _ | exact hPA.size | exact hPB.size | exact hPC.size) _)))) (first | (go_at_call 153; (with_reducible refine (HX1.out _).mono ?_); rintro e wA ⟨gA, nA, cA, aA, mA, kA, rfl, sA, tA, hoA, hbA⟩; have hSA := bl_sz (show Below w2.heap.size w2 _ from (by repeat' (first | (with_reducible exact Below.refl _ _) | (with_reducible exact hPC) | (with_reducible exact hPB) | (with_reducible exact hPA) | (with_reducible refine bl_dw ?_) | (with_reducible refine bl_aw ?_ _)))) hbA; have hPA := bl_tr (show Below w2.heap.size w2 _ from (by repeat' (first | (with_reducible exact Below.refl _ _) | (with_reducible exact hPC) | (with_reducible exact hPB) | (with_reducible exact hPA) | (with_reducible refine bl_dw ?_) | (with_reducible refine bl_aw ?_ _)))) hbA; (first | (refine lay9 (w := wA) (c := w2.heap.size) ?_ ?_; (focus (refine heap_bl9 hbA ?_; (repeat' (first | (with_reducible refine hq_dr ?_) | ((with_reducible refine hq_nw ?_); (first | (with_reducible rfl) | (simp only [size_alloc]; done))) | (with_reducible refine heap_bl9 hbC ?_) | (with_reducible refine heap_bl9 hbB ?_) | (with_reducible refine heap_bl9 hbA ?_))))); intro zA0 fA0 zA1 fA1 zA2 fA2 zA3 fA3 zA4 fA4) | (refine lay9 (w := wA) (c := wB.heap.size) ?_ ?_; (focus (refine heap_bl9 hbA ?_; (repeat' (first | (with_reducible refine hq_dr ?_) | ((with_reducible refine hq_nw ?_); (first | (with_reducible rfl) | (simp only [size_alloc]; done))) | (with_reducible refine heap_bl9 hbC ?_) | (with_reducible refine heap_bl9 hbB ?_) | (with_reducible refine heap_bl9 hbA ?_))))); intro zA0 fA0 zA1 fA1 zA2 fA2 zA3 fA3 zA4 fA4) | (refine lay9 (w := wA) (c := wC.heap.size) ?_ ?_; (focus (refine heap_bl9 hbA ?_; (repeat' (first | (with_reducible refine hq_dr ?_) | ((with_reducible refine hq_nw ?_); (first | (with_reducible rfl) | (simp only [size_alloc]; done))) | (with_reducible refine heap_bl9 hbC ?_) | (with_reducible refine heap_bl9 hbB ?_) | (with_reducible refine heap_bl9 hbA ?_))))); intro zA0 fA0 zA1 fA1 zA2 fA2 zA3 fA3 zA4 fA4) | skip); (first | (have dBA := bl_sz (show Below wB.heap.size wB _ from (by repeat' (first | (with_reducible exact Below.refl _ _) | (with_reducible exact kBA) | (with_reducible exact kBC) | (with_reducible refine bl_dw ?_) | (with_reducible refine bl_aw ?_ _)))) hbA; have kBA := bl_tr (show Below wB.heap.size wB _ from (by repeat' (first | (with_reducible exact Below.refl _ _) | (with_reducible exact kBA) | (with_reducible exact kBC) | (with_reducible refine bl_dw ?_) | (with_reducible refine bl_aw ?_ _)))) hbA) | skip); (first | (have dCA := bl_sz (show Below wC.heap.size wC _ from (by repeat' (first | (with_reducible exact Below.refl _ _) | (with_reducible exact kCA) | (with_reducible exact kCB) | (with_reducible refine bl_dw ?_) | (with_reducible refine bl_aw ?_ _)))) hbA; have kCA := bl_tr (show Below wC.heap.size wC _ from (by repeat' (first | (with_reducible exact Below.refl _ _) | (with_reducible exact kCA) | (with_reducible exact kCB) | (with_reducible refine bl_dw ?_) | (with_reducible refine bl_aw ?_ _)))) hbA) | skip)) | (go_at_call 153; (with_reducible refine (HX2.out _).mono ?_); rintro e wB ⟨gB, nB, cB, aB, mB, kB, rfl, sB, tB, hoB, hbB⟩; have hSB := bl_sz (show Below w2.heap.size w2 _ from (by repeat' (first | (with_reducible exact Below.refl _ _) | (with_reducible exact hPC) | (with_reducible exact hPB) | (with_reducible exact hPA) | (with_reducible refine bl_dw ?_) | (with_reducible refine bl_aw ?_ _)))) hbB; have hPB := bl_tr (show Below w2.heap.size w2 _ from (by repeat' (first | (with_reducible exact Below.refl _ _) | (with_reducible exact hPC) | (with_reducible exact hPB) | (with_reducible exact hPA) | (with_reducible refine bl_dw ?_) | (with_reducible refine bl_aw ?_ _)))) hbB; (first | (refine lay9 (w := wB) (c := w2.heap.size) ?_ ?_; (focus (refine heap_bl9 hbB ?_; (repeat' (first | (with_reducible refine hq_dr ?_) | ((with_reducible refine hq_nw ?_); (first | (with_reducible rfl) | (simp only [size_alloc]; done))) | (with_reducible refine heap_bl9 hbC ?_) | (with_reducible refine heap_bl9 hbB ?_) | (with_reducible refine heap_bl9 hbA ?_))))); intro zB0 fB0 zB1 fB1 zB2 fB2 zB3 fB3 zB4 fB4) | (refine lay9 (w := wB) (c := wA.heap.size) ?_ ?_; (focus (refine heap_bl9 hbB ?_; (repeat' (first | (with_reducible refine hq_dr ?_) | ((with_reducible refine hq_nw ?_); (first | (with_reducible rfl) | (simp only [size_alloc]; done))) | (with_reducible refine heap_bl9 hbC ?_) | (with_reducible refine heap_bl9 hbB ?_) | (with_reducible refine heap_bl9 hbA ?_))))); intro zB0 fB0 zB1 fB1 zB2 fB2 zB3 fB3 zB4 fB4) | (refine lay9 (w := wB) (c := wC.heap.size) ?_ ?_; (focus (refine heap_bl9 hbB ?_; (repeat' (first | (with_reducible refine hq_dr ?_) | ((with_reducible refine hq_nw ?_); (first | (with_reducible rfl) | (simp only [size_alloc]; done))) | (with_reducible refine heap_bl9 hbC ?_) | (with_reducible refine heap_bl9 hbB ?_) | (with_reducible refine heap_bl9 hbA ?_))))); intro zB0 fB0 zB1 fB1 zB2 fB2 zB3 fB3 zB4 fB4) | skip); (first | (have dAB := bl_sz (show Below wA.heap.size wA _ from (by repeat' (first | (with_reducible exact Below.refl _ _) | (with_reducible exact kAB) | (with_reducible exact kAC) | (with_reducible refine bl_dw ?_) | (with_reducible refine bl_aw ?_ _)))) hbB; have kAB := bl_tr (show Below wA.heap.size wA _ from (by repeat' (first | (with_reducible exact Below.refl _ _) | (with_reducible exact kAB) | (with_reducible exact kAC) | (with_reducible refine bl_dw ?_) | (with_reducible refine bl_aw ?_ _)))) hbB) | skip); (first | (have dCB := bl_sz (show Below wC.heap.size wC _ from (by repeat' (first | (with_reducible exact Below.refl _ _) | (with_reducible exact kCA) | (with_reducible exact kCB) | (with_reducible refine bl_dw ?_) | (with_reducible refine bl_aw ?_ _)))) hbB; have kCB := bl_tr (show Below wC.heap.size wC _ from (by repeat' (first | (with_reducible exact Below.refl _ _) | (with_reducible exact kCA) | (with_reducible exact kCB) | (with_reducible refine bl_dw ?_) | (with_reducible refine bl_aw ?_ _)))) hbB) | skip)) | (go_at_call 153; (with_reducible refine (HX3.out _).mono ?_); rintro e wC ⟨gC, nC, cC, aC, mC, kC, rfl, sC, tC, hoC, hbC⟩; have hSC := bl_sz (show Below w2.heap.size w2 _ from (by repeat' (first | (with_reducible exact Below.refl _ _) | (with_reducible exact hPC) | (with_reducible exact hPB) | (with_reducible exact hPA) | (with_reducible refine bl_dw ?_) | (with_reducible refine bl_aw ?_ _)))) hbC; have hPC := bl_tr (show Below w2.heap.size w2 _ from (by repeat' (first | (with_reducible exact Below.refl _ _) | (with_reducible exact hPC) | (with_reducible exact hPB) | (with_reducible exact hPA) | (with_reducible refine bl_dw ?_) | (with_reducible refine bl_aw ?_ _)))) hbC; (first | (refine lay9 (w := wC) (c := w2.heap.size) ?_ ?_; (focus (refine heap_bl9 hbC ?_; (repeat' (first | (with_reducible refine hq_dr ?_) | ((with_reducible refine hq_nw ?_); (first | (with_reducible rfl) | (simp only [size_alloc]; done))) | (with_reducible refine heap_bl9 hbC ?_) | (with_reducible refine heap_bl9 hbB ?_) | (with_reducible refine heap_bl9 hbA ?_))))); intro zC0 fC0 zC1 fC1 zC2 fC2 zC3 fC3 zC4 fC4) | (refine lay9 (w := wC) (c := wA.heap.size) ?_ ?_; (focus (refine heap_bl9 hbC ?_; (repeat' (first | (with_reducible refine hq_dr ?_) | ((with_reducible refine hq_nw ?_); (first | (with_reducible rfl) | (simp only [size_alloc]; done))) | (with_reducible refine heap_bl9 hbC ?_) | (with_reducible refine heap_bl9 hbB ?_) | (with_reducible refine heap_bl9 hbA ?_))))); intro zC0 fC0 zC1 fC1 zC2 fC2 zC3 fC3 zC4 fC4) | (refine lay9 (w := wC) (c := wB.heap.size) ?_ ?_; (focus (refine heap_bl9 hbC ?_; (repeat' (first | (with_reducible refine hq_dr ?_) | ((with_reducible refine hq_nw ?_); (first | (with_reducible rfl) | (simp only [size_alloc]; done))) | (with_reducible refine heap_bl9 hbC ?_) | (with_reducible refine heap_bl9 hbB ?_) | (with_reducible refine heap_bl9 hbA ?_))))); intro zC0 fC0 zC1 fC1 zC2 fC2 zC3 fC3 zC4 fC4) | skip); (first | (have dAC := bl_sz (show Below wA.heap.size wA _ from (by repeat' (first | (with_reducible exact Below.refl _ _) | (with_reducible exact kAB) | (with_reducible exact kAC) | (with_reducible refine bl_dw ?_) | (with_reducible refine bl_aw ?_ _)))) hbC; have kAC := bl_tr (show Below wA.heap.size wA _ from (by repeat' (first | (with_reducible exact Below.refl _ _) | (with_reducible exact kAB) | (with_reducible exact kAC) | (with_reducible refine bl_dw ?_) | (with_reducible refine bl_aw ?_ _)))) hbC) | skip); (first | (have dBC := bl_sz (show Below wB.heap.size wB _ from (by repeat' (first | (with_reducible exact Below.refl _ _) | (with_reducible exact kBA) | (with_reducible exact kBC) | (with_reducible refine bl_dw ?_) | (with_reducible refine bl_aw ?_ _)))) hbC; have kBC := bl_tr (show Below wB.heap.size wB _ from (by repeat' (first | (with_reducible exact Below.refl _ _) | (with_reducible exact kBA) | (with_reducible exact kBC) | (with_reducible refine bl_dw ?_) | (with_reducible refine bl_aw ?_ _)))) hbC) | skip)))
    all_goals
      go_wp2_with fail
      go_meet
    all_goals (refine ⟨_, aA, mA, kA, aB, mB, kB, aC, mC, kC, rfl, ?_⟩)
    · exact finP7 hPC hoA kAC hoB kBC hoC (Below.refl _ _) hSA hSB hSC dAB dAC dBC
    · exact finP6 (heap_bl9 hbC (hq_nw rfl)) hPB.size hPC hoA kAC hoB kBC hoC (Below.refl _ _) hSA hSB hSC (Or.inr kAB.size) (Or.inr (Nat.le_refl _)) (Or.inl (by show _ < (World.alloc _ _).heap.size; rw [size_alloc]; exact Nat.lt_succ_self _)) dAB dAC dBC
    · exact finP6 (heap_bl9 kBC (heap_bl9 hbB (hq_nw rfl))) hPA.size hPC hoA kAC hoB kBC hoC (Below.refl _ _) hSA hSB hSC (Or.inr (Nat.le_refl _)) (Or.inl (by show _ < (World.alloc _ _).heap.size; rw [size_alloc]; exact Nat.lt_succ_self _)) (Or.inl (Nat.lt_of_lt_of_le (by show _ < (World.alloc _ _).heap.size; rw [size_alloc]; exact Nat.lt_succ_self _) hbB.size)) dAB dAC dBC
    · exact finP6 (heap_bl9 kAC (heap_bl9 hbA (hq_dr (hq_nw rfl)))) (Nat.le_refl _) hPC hoA kAC hoB kBC hoC (Below.refl _ _) hSA hSB hSC (Or.inl (by show _ < (World.alloc _ _).heap.size; rw [size_alloc]; exact Nat.lt_succ_self _)) (Or.inl (Nat.lt_of_lt_of_le (by show _ < (World.alloc _ _).heap.size; rw [size_alloc]; exact Nat.lt_succ_self _) hbA.size)) (Or.inl (Nat.lt_of_lt_of_le (by show _ < (World.alloc _ _).heap.size; rw [size_alloc]; exact Nat.lt_succ_self _) (Nat.le_trans hbA.size dAC))) dAB dAC dBC
  obtain ⟨p, b1, m1, k1, b2, m2, k2, b3, m3, k3, rfl, hpW, hbox, hne, how, hbf⟩ := hcut
  rename World => wx
  have HNE := Lib.hid hne; have HPW := Lib.hid hpW; clear hne hpW KEEP
  have hpp : w.heap.size < p := by have h1 := HPW.out; have h2 := HB2.out.size; have h3 := heap_lt H0.out; omega
  cases ds with
  | nil =>
    obtain rfl : n' = 3 := HN3.out
    have HRM := Lib.hid (show rdM s = some ⟨true, X1, X2, X3, ⟨#[]⟩⟩ by rw [rdM_0 HL.out, HE1.out, HE2.out, HE3.out])
    have HBOX := Lib.hid hbox; have HOX := Lib.hid how; have HBF := Lib.hid hbf; clear hbox how hbf
    clear j0 j1 j2 j0n j1n j2n hn0 hn0d
    go_upto_region 9 with (fail)
    have HPP := Lib.hid (prsP_some HS0.out HRM.out)
    have HSM := Lib.hid (rdM_sm hz HRM.out)
    have q0 := box_cell HBOX.out (j := 0) rfl
    have q1 := box_cell HBOX.out (j := 1) rfl
    have q2 := box_cell HBOX.out (j := 2) rfl
    have q3 := box_cell HBOX.out (j := 3) rfl
    have q4 := box_cell HBOX.out (j := 4) rfl
    have HFM := Lib.hid (fmtPol_spec true X1 X2 X3 (⟨#[]⟩) b1 m1 k1 b2 m2 k2 b3 m3 k3 HSM.out wx (HOX.out.reads (p := ⟨true, X1, X2, X3, ⟨#[]⟩⟩)))
    obtain ⟨T, hT⟩ : ∃ x, fmtP ⟨true, X1, X2, X3, ⟨#[]⟩⟩ = x := ⟨_, rfl⟩
    rw [hT] at HPP HFM; clear hT
    go_wp2_with fail
    refine HFM.out.mono ?_
    rintro e w3 ⟨rfl, hb3⟩
    have HO3 := Lib.hid (HOX.out.later hb3); have HB3 := Lib.hid (show Below W0.heap.size W0 w3 from bl_tr (bl_tr HB2.out HBF.out) hb3); have HBX3 := Lib.hid (below_heap hb3 (heap_lt HBOX.out) HBOX.out); clear hb3
    have HRX := Lib.hid (below_heap HB3.out (heap_lt H0.out) H0.out)
    have hw2 : w.heap.size < w2.heap.size := heap_lt HBX.out
    clear q0 q1 q2 q3 q4
    have q0 := box_cell HBX3.out (j := 0) rfl
    have q1 := box_cell HBX3.out (j := 1) rfl
    have q2 := box_cell HBX3.out (j := 2) rfl
    have q3 := box_cell HBX3.out (j := 3) rfl
    have q4 := box_cell HBX3.out (j := 4) rfl
    by_cases hts : T = s
    · have e2 : (T.toList == s.toList) = true := beqL_yes hts; have e3 : (T.toList != s.toList) = false := by rw [bne, e2]; rfl
      have HRR := Lib.hid (show prsP s = (⟨true, X1, X2, X3, ⟨#[]⟩⟩, true) by rw [HPP.out, if_pos hts]); clear hts HPP
      have y0 := box_cell HRX.out (j := 0) rfl; have x0 := box_frz HRX.out 0
      have y1 := box_cell HRX.out (j := 1) rfl; have x1 := box_frz HRX.out 1
      have y2 := box_cell HRX.out (j := 2) rfl; have x2 := box_frz HRX.out 2
      have y3 := box_cell HRX.out (j := 3) rfl; have x3 := box_frz HRX.out 3
      have y4 := box_cell HRX.out (j := 4) rfl; have x4 := box_frz HRX.out 4
      go_wp2_with fail
      obtain ⟨w9, hw9⟩ : ∃ x, (((((w3.setCell ⟨w.heap.size, 0, none⟩ (.bool true)).setCell ⟨w.heap.size, 1, none⟩ (.slice b1 m1 k1)).setCell ⟨w.heap.size, 2, none⟩ (.slice b2 m2 k2)).setCell ⟨w.heap.size, 3, none⟩ (.slice b3 m3 k3)).setCell ⟨w.heap.size, 4, none⟩ (.string (⟨#[]⟩))) = x := ⟨_, rfl⟩
      rw [hw9]
      have hon : OnlyB [w.heap.size] w3 w9 := by rw [← hw9]; exact set5_only w3 (w.heap.size) _ _ _ _ _
      have hb9 := set5_box HRX.out (.bool true) (.slice b1 m1 k1) (.slice b2 m2 k2) (.slice b3 m3 k3) (.string (⟨#[]⟩))
      rw [show set5 w3 (w.heap.size) (.bool true) (.slice b1 m1 k1) (.slice b2 m2 k2) (.slice b3 m3 k3) (.string (⟨#[]⟩)) = w9 from hw9] at hb9
      have r0 := box_cell hb9 (j := 0) rfl
      have r1 := box_cell hb9 (j := 1) rfl
      have r2 := box_cell hb9 (j := 2) rfl
      have r3 := box_cell hb9 (j := 3) rfl
      have r4 := box_cell hb9 (j := 4) rfl
      refine bodyPost_ret (v := .tuple #[.agg #[.bool true, .slice b1 m1 k1, .slice b2 m2 k2, .slice b3 m3 k3, .string (⟨#[]⟩)], .bool true]) (by simp [results, Tryz.results99, go_sem, r0, r1, r2, r3, r4]) rfl ?_
      have hbl := (HB0.out.trans (HB3.out.mono HB0.out.size))
      try unfold PrsNew
      try rw [HRR.out]
      refine ⟨b1, m1, k1, b2, m2, k2, b3, m3, k3, rfl, (HO3.out.only hon (fun b hb => by rw [List.mem_singleton] at hb; omega)).low (Nat.le_of_lt hw2), ?_⟩
      exact hbl.trans (hon.below (fun i hi => by rw [List.mem_singleton] at hi; omega) hbl.size)
    · have e2 : (T.toList == s.toList) = false := beqL_no hts; have e3 : (T.toList != s.toList) = true := by rw [bne, e2]; rfl
      have HRR := Lib.hid (show prsP s = (polZ, false) by rw [HPP.out, if_neg hts]); clear hts HPP
      have y0 := box_cell HRX.out (j := 0) rfl; have x0 := box_frz HRX.out 0
      have y1 := box_cell HRX.out (j := 1) rfl; have x1 := box_frz HRX.out 1
      have y2 := box_cell HRX.out (j := 2) rfl; have x2 := box_frz HRX.out 2
      have y3 := box_cell HRX.out (j := 3) rfl; have x3 := box_frz HRX.out 3
      have y4 := box_cell HRX.out (j := 4) rfl; have x4 := box_frz HRX.out 4
      go_wp2_with fail
      obtain ⟨w9, hw9⟩ : ∃ x, (((((w3.setCell ⟨w.heap.size, 0, none⟩ (.bool false)).setCell ⟨w.heap.size, 1, none⟩ (.slice none 0 0)).setCell ⟨w.heap.size, 2, none⟩ (.slice none 0 0)).setCell ⟨w.heap.size, 3, none⟩ (.slice none 0 0)).setCell ⟨w.heap.size, 4, none⟩ (.string ⟨#[]⟩)) = x := ⟨_, rfl⟩
      rw [hw9]
      have hon : OnlyB [w.heap.size] w3 w9 := by rw [← hw9]; exact set5_only w3 (w.heap.size) _ _ _ _ _
      have hb9 := set5_box HRX.out (.bool false) (.slice none 0 0) (.slice none 0 0) (.slice none 0 0) (.string ⟨#[]⟩)
      rw [show set5 w3 (w.heap.size) (.bool false) (.slice none 0 0) (.slice none 0 0) (.slice none 0 0) (.string ⟨#[]⟩) = w9 from hw9] at hb9
      have r0 := box_cell hb9 (j := 0) rfl
      have r1 := box_cell hb9 (j := 1) rfl
      have r2 := box_cell hb9 (j := 2) rfl
      have r3 := box_cell hb9 (j := 3) rfl
      have r4 := box_cell hb9 (j := 4) rfl
      refine bodyPost_ret (v := .tuple #[.agg #[.bool false, .slice none 0 0, .slice none 0 0, .slice none 0 0, .string ⟨#[]⟩], .bool false]) (by simp [results, Tryz.results99, go_sem, r0, r1, r2, r3, r4]) rfl ?_
      have hbl := (HB0.out.trans (HB3.out.mono HB0.out.size))
      try unfold PrsNew
      try rw [HRR.out]
      refine ⟨none, 0, 0, none, 0, 0, none, 0, 0, rfl, own3O_zero _ _, ?_⟩
      exact hbl.trans (hon.below (fun i hi => by rw [List.mem_singleton] at hi; omega) hbl.size)
  | cons d ds =>
    have c3 : wx.cell? ⟨g, 3, none⟩ = some (.string d) := (hbf.cell hgs).trans (HC3.out d ds rfl)
    have j3 : (3 : Int) < (n' : Int) := by have := HN3.out; rw [List.length_cons] at this; omega
    have j3d : decide ((3 : Int) < (n' : Int)) = true := decide_eq_true j3
    have j3n : 3 < n' := by omega
    have hzd : d.size ≤ 1048576 := by have h := sp_piece (p := d) (c := 59) (l := s.data.toList) (by rw [HL.out]; simp); rw [size_list] at h; omega
    by_cases h6 : 6 < d.size
    · have d6 : decide ((6 : Int) < (d.size : Int)) = true := decide_eq_true (by omega)
      have d6i : (6 : Int) < (d.size : Int) := by omega
      have d6l : (6 : Int) ≤ (d.size : Int) := by omega
      have HRM := Lib.hid (show rdM s = some ⟨true, X1, X2, X3, d.extract 6 d.size⟩ by rw [rdM_2 HL.out h6, HE1.out, HE2.out, HE3.out])
      have fp0 := box_cell hbox (j := 0) rfl; have zp0 := box_frz hbox 0
      have fp1 := box_cell hbox (j := 1) rfl; have zp1 := box_frz hbox 1
      have fp2 := box_cell hbox (j := 2) rfl; have zp2 := box_frz hbox 2
      have fp3 := box_cell hbox (j := 3) rfl; have zp3 := box_frz hbox 3
      have fp4 := box_cell hbox (j := 4) rfl; have zp4 := box_frz hbox 4
      obtain ⟨N, hN⟩ : ∃ x, d.extract 6 d.size = x := ⟨_, rfl⟩
      rw [hN] at HRM
      go_upto_region 9 with (fail)
      try rw [hN]
      obtain ⟨w2b, hw2⟩ : ∃ x, wx.setCell ⟨p, 4, none⟩ (.string N) = x := ⟨_, rfl⟩
      rw [hw2]
      have hon2 : OnlyB [p] wx w2b := by rw [← hw2]; exact (OnlyB.refl [p] wx).set (by simp)
      have hbx2 := heap_one (o := 4) hbox (.string N); rw [hw2] at hbx2
      have HBOX := Lib.hid (show w2b.heap[p]? = some (.cells #[.bool true, .slice b1 m1 k1, .slice b2 m2 k2, .slice b3 m3 k3, .string N] 26 (0, 0)) from hbx2)
      have HOX := Lib.hid (how.only2 hon2 (fun b hb hm => by rw [List.mem_singleton] at hm; exact HNE.out b hb hm))
      have HBF := Lib.hid (show Below w2.heap.size w2 w2b from hbf.trans (hon2.below (fun i hi => by rw [List.mem_singleton] at hi; have := HPW.out; omega) hbf.size))
      clear hw2 hon2 hbx2 hbox how hbf hN c3 fp0 fp1 fp2 fp3 fp4 zp0 zp1 zp2 zp3 zp4 d6 d6i d6l
      have HPP := Lib.hid (prsP_some HS0.out HRM.out)
      have HSM := Lib.hid (rdM_sm hz HRM.out)
      have q0 := box_cell HBOX.out (j := 0) rfl
      have q1 := box_cell HBOX.out (j := 1) rfl
      have q2 := box_cell HBOX.out (j := 2) rfl
      have q3 := box_cell HBOX.out (j := 3) rfl
      have q4 := box_cell HBOX.out (j := 4) rfl
      have HFM := Lib.hid (fmtPol_spec true X1 X2 X3 (N) b1 m1 k1 b2 m2 k2 b3 m3 k3 HSM.out w2b (HOX.out.reads (p := ⟨true, X1, X2, X3, N⟩)))
      obtain ⟨T, hT⟩ : ∃ x, fmtP ⟨true, X1, X2, X3, N⟩ = x := ⟨_, rfl⟩
      rw [hT] at HPP HFM; clear hT
      go_wp2_with fail
      refine HFM.out.mono ?_
      rintro e w3 ⟨rfl, hb3⟩
      have HO3 := Lib.hid (HOX.out.later hb3); have HB3 := Lib.hid (show Below W0.heap.size W0 w3 from bl_tr (bl_tr HB2.out HBF.out) hb3); have HBX3 := Lib.hid (below_heap hb3 (heap_lt HBOX.out) HBOX.out); clear hb3
      have HRX := Lib.hid (below_heap HB3.out (heap_lt H0.out) H0.out)
      have hw2 : w.heap.size < w2.heap.size := heap_lt HBX.out
      clear q0 q1 q2 q3 q4
      have q0 := box_cell HBX3.out (j := 0) rfl
      have q1 := box_cell HBX3.out (j := 1) rfl
      have q2 := box_cell HBX3.out (j := 2) rfl
      have q3 := box_cell HBX3.out (j := 3) rfl
      have q4 := box_cell HBX3.out (j := 4) rfl
      by_cases hts : T = s
      · have e2 : (T.toList == s.toList) = true := beqL_yes hts; have e3 : (T.toList != s.toList) = false := by rw [bne, e2]; rfl
        have HRR := Lib.hid (show prsP s = (⟨true, X1, X2, X3, N⟩, true) by rw [HPP.out, if_pos hts]); clear hts HPP
        have y0 := box_cell HRX.out (j := 0) rfl; have x0 := box_frz HRX.out 0
        have y1 := box_cell HRX.out (j := 1) rfl; have x1 := box_frz HRX.out 1
        have y2 := box_cell HRX.out (j := 2) rfl; have x2 := box_frz HRX.out 2
        have y3 := box_cell HRX.out (j := 3) rfl; have x3 := box_frz HRX.out 3
        have y4 := box_cell HRX.out (j := 4) rfl; have x4 := box_frz HRX.out 4
        go_wp2_with fail
        obtain ⟨w9, hw9⟩ : ∃ x, (((((w3.setCell ⟨w.heap.size, 0, none⟩ (.bool true)).setCell ⟨w.heap.size, 1, none⟩ (.slice b1 m1 k1)).setCell ⟨w.heap.size, 2, none⟩ (.slice b2 m2 k2)).setCell ⟨w.heap.size, 3, none⟩ (.slice b3 m3 k3)).setCell ⟨w.heap.size, 4, none⟩ (.string (N))) = x := ⟨_, rfl⟩
        rw [hw9]
        have hon : OnlyB [w.heap.size] w3 w9 := by rw [← hw9]; exact set5_only w3 (w.heap.size) _ _ _ _ _
        have hb9 := set5_box HRX.out (.bool true) (.slice b1 m1 k1) (.slice b2 m2 k2) (.slice b3 m3 k3) (.string (N))
        rw [show set5 w3 (w.heap.size) (.bool true) (.slice b1 m1 k1) (.slice b2 m2 k2) (.slice b3 m3 k3) (.string (N)) = w9 from hw9] at hb9
        have r0 := box_cell hb9 (j := 0) rfl
        have r1 := box_cell hb9 (j := 1) rfl
        have r2 := box_cell hb9 (j := 2) rfl
        have r3 := box_cell hb9 (j := 3) rfl
        have r4 := box_cell hb9 (j := 4) rfl
        refine bodyPost_ret (v := .tuple #[.agg #[.bool true, .slice b1 m1 k1, .slice b2 m2 k2, .slice b3 m3 k3, .string (N)], .bool true]) (by simp [results, Tryz.results99, go_sem, r0, r1, r2, r3, r4]) rfl ?_
        have hbl := (HB0.out.trans (HB3.out.mono HB0.out.size))
        try unfold PrsNew
        try rw [HRR.out]
        refine ⟨b1, m1, k1, b2, m2, k2, b3, m3, k3, rfl, (HO3.out.only hon (fun b hb => by rw [List.mem_singleton] at hb; omega)).low (Nat.le_of_lt hw2), ?_⟩
        exact hbl.trans (hon.below (fun i hi => by rw [List.mem_singleton] at hi; omega) hbl.size)
      · have e2 : (T.toList == s.toList) = false := beqL_no hts; have e3 : (T.toList != s.toList) = true := by rw [bne, e2]; rfl
        have HRR := Lib.hid (show prsP s = (polZ, false) by rw [HPP.out, if_neg hts]); clear hts HPP
        have y0 := box_cell HRX.out (j := 0) rfl; have x0 := box_frz HRX.out 0
        have y1 := box_cell HRX.out (j := 1) rfl; have x1 := box_frz HRX.out 1
        have y2 := box_cell HRX.out (j := 2) rfl; have x2 := box_frz HRX.out 2
        have y3 := box_cell HRX.out (j := 3) rfl; have x3 := box_frz HRX.out 3
        have y4 := box_cell HRX.out (j := 4) rfl; have x4 := box_frz HRX.out 4
        go_wp2_with fail
        obtain ⟨w9, hw9⟩ : ∃ x, (((((w3.setCell ⟨w.heap.size, 0, none⟩ (.bool false)).setCell ⟨w.heap.size, 1, none⟩ (.slice none 0 0)).setCell ⟨w.heap.size, 2, none⟩ (.slice none 0 0)).setCell ⟨w.heap.size, 3, none⟩ (.slice none 0 0)).setCell ⟨w.heap.size, 4, none⟩ (.string ⟨#[]⟩)) = x := ⟨_, rfl⟩
        rw [hw9]
        have hon : OnlyB [w.heap.size] w3 w9 := by rw [← hw9]; exact set5_only w3 (w.heap.size) _ _ _ _ _
        have hb9 := set5_box HRX.out (.bool false) (.slice none 0 0) (.slice none 0 0) (.slice none 0 0) (.string ⟨#[]⟩)
        rw [show set5 w3 (w.heap.size) (.bool false) (.slice none 0 0) (.slice none 0 0) (.slice none 0 0) (.string ⟨#[]⟩) = w9 from hw9] at hb9
        have r0 := box_cell hb9 (j := 0) rfl
        have r1 := box_cell hb9 (j := 1) rfl
        have r2 := box_cell hb9 (j := 2) rfl
        have r3 := box_cell hb9 (j := 3) rfl
        have r4 := box_cell hb9 (j := 4) rfl
        refine bodyPost_ret (v := .tuple #[.agg #[.bool false, .slice none 0 0, .slice none 0 0, .slice none 0 0, .string ⟨#[]⟩], .bool false]) (by simp [results, Tryz.results99, go_sem, r0, r1, r2, r3, r4]) rfl ?_
        have hbl := (HB0.out.trans (HB3.out.mono HB0.out.size))
        try unfold PrsNew
        try rw [HRR.out]
        refine ⟨none, 0, 0, none, 0, 0, none, 0, 0, rfl, own3O_zero _ _, ?_⟩
        exact hbl.trans (hon.below (fun i hi => by rw [List.mem_singleton] at hi; omega) hbl.size)
    · have d6 : decide ((6 : Int) < (d.size : Int)) = false := decide_eq_false (by omega)
      have d6i : ¬ (6 : Int) < (d.size : Int) := by omega
      have HRM := Lib.hid (show rdM s = some ⟨true, X1, X2, X3, ⟨#[]⟩⟩ by rw [rdM_1 HL.out h6, HE1.out, HE2.out, HE3.out])
      have HBOX := Lib.hid hbox; have HOX := Lib.hid how; have HBF := Lib.hid hbf; clear hbox how hbf
      go_upto_region 9 with (fail)
      have HPP := Lib.hid (prsP_some HS0.out HRM.out)
      have HSM := Lib.hid (rdM_sm hz HRM.out)
      have q0 := box_cell HBOX.out (j := 0) rfl
      have q1 := box_cell HBOX.out (j := 1) rfl
      have q2 := box_cell HBOX.out (j := 2) rfl
      have q3 := box_cell HBOX.out (j := 3) rfl
      have q4 := box_cell HBOX.out (j := 4) rfl
      have HFM := Lib.hid (fmtPol_spec true X1 X2 X3 (⟨#[]⟩) b1 m1 k1 b2 m2 k2 b3 m3 k3 HSM.out wx (HOX.out.reads (p := ⟨true, X1, X2, X3, ⟨#[]⟩⟩)))
      obtain ⟨T, hT⟩ : ∃ x, fmtP ⟨true, X1, X2, X3, ⟨#[]⟩⟩ = x := ⟨_, rfl⟩
      rw [hT] at HPP HFM; clear hT
      go_wp2_with fail
      refine HFM.out.mono ?_
      rintro e w3 ⟨rfl, hb3⟩
      have HO3 := Lib.hid (HOX.out.later hb3); have HB3 := Lib.hid (show Below W0.heap.size W0 w3 from bl_tr (bl_tr HB2.out HBF.out) hb3); have HBX3 := Lib.hid (below_heap hb3 (heap_lt HBOX.out) HBOX.out); clear hb3
      have HRX := Lib.hid (below_heap HB3.out (heap_lt H0.out) H0.out)
      have hw2 : w.heap.size < w2.heap.size := heap_lt HBX.out
      clear q0 q1 q2 q3 q4
      have q0 := box_cell HBX3.out (j := 0) rfl
      have q1 := box_cell HBX3.out (j := 1) rfl
      have q2 := box_cell HBX3.out (j := 2) rfl
      have q3 := box_cell HBX3.out (j := 3) rfl
      have q4 := box_cell HBX3.out (j := 4) rfl
      by_cases hts : T = s
      · have e2 : (T.toList == s.toList) = true := beqL_yes hts; have e3 : (T.toList != s.toList) = false := by rw [bne, e2]; rfl
        have HRR := Lib.hid (show prsP s = (⟨true, X1, X2, X3, ⟨#[]⟩⟩, true) by rw [HPP.out, if_pos hts]); clear hts HPP
        have y0 := box_cell HRX.out (j := 0) rfl; have x0 := box_frz HRX.out 0
        have y1 := box_cell HRX.out (j := 1) rfl; have x1 := box_frz HRX.out 1
        have y2 := box_cell HRX.out (j := 2) rfl; have x2 := box_frz HRX.out 2
        have y3 := box_cell HRX.out (j := 3) rfl; have x3 := box_frz HRX.out 3
        have y4 := box_cell HRX.out (j := 4) rfl; have x4 := box_frz HRX.out 4
        go_wp2_with fail
        obtain ⟨w9, hw9⟩ : ∃ x, (((((w3.setCell ⟨w.heap.size, 0, none⟩ (.bool true)).setCell ⟨w.heap.size, 1, none⟩ (.slice b1 m1 k1)).setCell ⟨w.heap.size, 2, none⟩ (.slice b2 m2 k2)).setCell ⟨w.heap.size, 3, none⟩ (.slice b3 m3 k3)).setCell ⟨w.heap.size, 4, none⟩ (.string (⟨#[]⟩))) = x := ⟨_, rfl⟩
        rw [hw9]
        have hon : OnlyB [w.heap.size] w3 w9 := by rw [← hw9]; exact set5_only w3 (w.heap.size) _ _ _ _ _
        have hb9 := set5_box HRX.out (.bool true) (.slice b1 m1 k1) (.slice b2 m2 k2) (.slice b3 m3 k3) (.string (⟨#[]⟩))
        rw [show set5 w3 (w.heap.size) (.bool true) (.slice b1 m1 k1) (.slice b2 m2 k2) (.slice b3 m3 k3) (.string (⟨#[]⟩)) = w9 from hw9] at hb9
        have r0 := box_cell hb9 (j := 0) rfl
        have r1 := box_cell hb9 (j := 1) rfl
        have r2 := box_cell hb9 (j := 2) rfl
        have r3 := box_cell hb9 (j := 3) rfl
        have r4 := box_cell hb9 (j := 4) rfl
        refine bodyPost_ret (v := .tuple #[.agg #[.bool true, .slice b1 m1 k1, .slice b2 m2 k2, .slice b3 m3 k3, .string (⟨#[]⟩)], .bool true]) (by simp [results, Tryz.results99, go_sem, r0, r1, r2, r3, r4]) rfl ?_
        have hbl := (HB0.out.trans (HB3.out.mono HB0.out.size))
        try unfold PrsNew
        try rw [HRR.out]
        refine ⟨b1, m1, k1, b2, m2, k2, b3, m3, k3, rfl, (HO3.out.only hon (fun b hb => by rw [List.mem_singleton] at hb; omega)).low (Nat.le_of_lt hw2), ?_⟩
        exact hbl.trans (hon.below (fun i hi => by rw [List.mem_singleton] at hi; omega) hbl.size)
      · have e2 : (T.toList == s.toList) = false := beqL_no hts; have e3 : (T.toList != s.toList) = true := by rw [bne, e2]; rfl
        have HRR := Lib.hid (show prsP s = (polZ, false) by rw [HPP.out, if_neg hts]); clear hts HPP
        have y0 := box_cell HRX.out (j := 0) rfl; have x0 := box_frz HRX.out 0
        have y1 := box_cell HRX.out (j := 1) rfl; have x1 := box_frz HRX.out 1
        have y2 := box_cell HRX.out (j := 2) rfl; have x2 := box_frz HRX.out 2
        have y3 := box_cell HRX.out (j := 3) rfl; have x3 := box_frz HRX.out 3
        have y4 := box_cell HRX.out (j := 4) rfl; have x4 := box_frz HRX.out 4
        go_wp2_with fail
        obtain ⟨w9, hw9⟩ : ∃ x, (((((w3.setCell ⟨w.heap.size, 0, none⟩ (.bool false)).setCell ⟨w.heap.size, 1, none⟩ (.slice none 0 0)).setCell ⟨w.heap.size, 2, none⟩ (.slice none 0 0)).setCell ⟨w.heap.size, 3, none⟩ (.slice none 0 0)).setCell ⟨w.heap.size, 4, none⟩ (.string ⟨#[]⟩)) = x := ⟨_, rfl⟩
        rw [hw9]
        have hon : OnlyB [w.heap.size] w3 w9 := by rw [← hw9]; exact set5_only w3 (w.heap.size) _ _ _ _ _
        have hb9 := set5_box HRX.out (.bool false) (.slice none 0 0) (.slice none 0 0) (.slice none 0 0) (.string ⟨#[]⟩)
        rw [show set5 w3 (w.heap.size) (.bool false) (.slice none 0 0) (.slice none 0 0) (.slice none 0 0) (.string ⟨#[]⟩) = w9 from hw9] at hb9
        have r0 := box_cell hb9 (j := 0) rfl
        have r1 := box_cell hb9 (j := 1) rfl
        have r2 := box_cell hb9 (j := 2) rfl
        have r3 := box_cell hb9 (j := 3) rfl
        have r4 := box_cell hb9 (j := 4) rfl
        refine bodyPost_ret (v := .tuple #[.agg #[.bool false, .slice none 0 0, .slice none 0 0, .slice none 0 0, .string ⟨#[]⟩], .bool false]) (by simp [results, Tryz.results99, go_sem, r0, r1, r2, r3, r4]) rfl ?_
        have hbl := (HB0.out.trans (HB3.out.mono HB0.out.size))
        try unfold PrsNew
        try rw [HRR.out]
        refine ⟨none, 0, 0, none, 0, 0, none, 0, 0, rfl, own3O_zero _ _, ?_⟩
        exact hbl.trans (hon.below (fun i hi => by rw [List.mem_singleton] at hi; omega) hbl.size)

end Go.Proofs.YtkjjiinccljhjaaGreatDoor

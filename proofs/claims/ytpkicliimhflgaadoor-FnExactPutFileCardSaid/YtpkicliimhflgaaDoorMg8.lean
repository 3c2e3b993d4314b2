/- Helper contracts: ParsePolicy of the model. Asked: the text is no longer than 2^20 bytes. Helper contracts: IsResponse of the program and of the model answer alike. Asked: the policy's text is no longer than 2^20 bytes; for the program: the library's MaxLen holds a number. Chapter 12 as plain functions: which servers are valid, what putting a file makes of them. Helper facts, no claim of its own. Writes into servers of the call's own: a file stored in place, a file appended and its place stored. Helper facts, no claim of its own. -/
import Derived.Test.YtpkicliimhflgaaDoorMg7
import Derived.Test.YtpkicliimhflgaaDoorMg1
import Derived.Test.YtpkicliimhflgaaDoorMg4
import Derived.Test.YtpkicliimhflgaaDoorMg3
import Derived.Test.YtpkicliimhflgaaDoorMg5
namespace Go.Proofs.YtpkicliimhflgaaDoor

open Go.ChangeShapes Go.WideShapes Go.ChangeAt Go.RowKit

theorem Own3O.only2 {lo : Nat} {w w' : World} {bs : List Nat} {v1 v2 v3 : Value} {xs ys zs : List ByteArray} (h : Own3O lo w v1 v2 v3 xs ys zs) (hb : OnlyB bs w w') (hn : ∀ b ∈ blkO v1 xs ++ (blkO v2 ys ++ blkO v3 zs), b ∉ bs) : Own3O lo w' v1 v2 v3 xs ys zs := by
  refine ⟨(h.1.only hb fun b hv => hn b ?_).top, (h.2.1.only hb fun b hv => hn b ?_).top, (h.2.2.1.only hb fun b hv => hn b ?_).top, h.2.2.2⟩
  · exact List.mem_append.2 (Or.inl hv)
  · exact List.mem_append.2 (Or.inr (List.mem_append.2 (Or.inl hv)))
  · exact List.mem_append.2 (Or.inr (List.mem_append.2 (Or.inr hv)))
theorem finP6 {W Wc W1 W2 W3 : World} {p l1 h1 l2 h2 l3 h3 : Nat} {T : TypeId} {z0 z1 z2 z3 z4 u0 u4 v1 v2 v3 : Value} {xs ys zs : List ByteArray} (hp : Wc.heap[p]? = some (.cells #[z0, z1, z2, z3, z4] T (0, 0))) (hpW : W.heap.size ≤ p) (hb : Below W.heap.size W Wc)
    (o1 : OwnO l1 h1 W1 v1 xs) (k1 : Below W1.heap.size W1 Wc) (o2 : OwnO l2 h2 W2 v2 ys) (k2 : Below W2.heap.size W2 Wc) (o3 : OwnO l3 h3 W3 v3 zs) (k3 : Below W3.heap.size W3 Wc)
    (p1 : W.heap.size ≤ l1) (p2 : W.heap.size ≤ l2) (p3 : W.heap.size ≤ l3) (e1 : p < l1 ∨ h1 ≤ p) (e2 : p < l2 ∨ h2 ≤ p) (e3 : p < l3 ∨ h3 ≤ p) (d12 : h1 ≤ l2) (d13 : h1 ≤ l3) (d23 : h2 ≤ l3) :
    W.heap.size ≤ p ∧ (set5 Wc p u0 v1 v2 v3 u4).heap[p]? = some (.cells #[u0, v1, v2, v3, u4] T (0, 0)) ∧ (∀ b ∈ blkO v1 xs ++ (blkO v2 ys ++ blkO v3 zs), b ≠ p) ∧ Own3O W.heap.size (set5 Wc p u0 v1 v2 v3 u4) v1 v2 v3 xs ys zs ∧ Below W.heap.size W (set5 Wc p u0 v1 v2 v3 u4) := by
  have ho := set5_only Wc p u0 v1 v2 v3 u4
  have n : ∀ {lo hi : Nat} {V : World} {v : Value} {us : List ByteArray}, OwnO lo hi V v us → p < lo ∨ hi ≤ p → ∀ b ∈ blkO v us, b ≠ p := fun o he b hb e => by
    have h1 := o.blk b hb; omega
  have f : ∀ {lo hi : Nat} {V : World} {v : Value} {us : List ByteArray}, OwnO lo hi V v us → Below V.heap.size V Wc → p < lo ∨ hi ≤ p → OwnO lo hi (set5 Wc p u0 v1 v2 v3 u4) v us := fun o k he => (o.later k).only ho fun b hv hm => by
    rw [List.mem_singleton] at hm
    exact n o he b hv hm
  refine ⟨hpW, set5_box hp _ _ _ _ _, fun b hb => ?_, own3O_of (f o1 k1 e1) (f o2 k2 e2) (f o3 k3 e3) p1 p2 p3 d12 d13 d23, hb.trans (ho.below (fun i hi => by rw [List.mem_singleton] at hi; omega) hb.size)⟩
  rcases List.mem_append.1 hb with h | h
  · exact n o1 e1 b h
  · rcases List.mem_append.1 h with h | h
    · exact n o2 e2 b h
    · exact n o3 e3 b h
theorem finP7 {W Wc W1 W2 W3 : World} {l1 h1 l2 h2 l3 h3 : Nat} {T : TypeId} {u0 u4 v1 v2 v3 : Value} {xs ys zs : List ByteArray} (hb : Below W.heap.size W Wc)
    (o1 : OwnO l1 h1 W1 v1 xs) (k1 : Below W1.heap.size W1 Wc) (o2 : OwnO l2 h2 W2 v2 ys) (k2 : Below W2.heap.size W2 Wc) (o3 : OwnO l3 h3 W3 v3 zs) (k3 : Below W3.heap.size W3 Wc)
    (p1 : W.heap.size ≤ l1) (p2 : W.heap.size ≤ l2) (p3 : W.heap.size ≤ l3) (d12 : h1 ≤ l2) (d13 : h1 ≤ l3) (d23 : h2 ≤ l3) :
    W.heap.size ≤ Wc.heap.size ∧ (Wc.alloc (.cells #[u0, v1, v2, v3, u4] T (0, 0))).heap[Wc.heap.size]? = some (.cells #[u0, v1, v2, v3, u4] T (0, 0)) ∧ (∀ b ∈ blkO v1 xs ++ (blkO v2 ys ++ blkO v3 zs), b ≠ Wc.heap.size) ∧ Own3O W.heap.size (Wc.alloc (.cells #[u0, v1, v2, v3, u4] T (0, 0))) v1 v2 v3 xs ys zs ∧ Below W.heap.size W (Wc.alloc (.cells #[u0, v1, v2, v3, u4] T (0, 0))) := by
  have hbl := (Below.refl Wc.heap.size Wc).alloc (Nat.le_refl _) (.cells #[u0, v1, v2, v3, u4] T (0, 0))
  have n : ∀ {lo hi : Nat} {V : World} {v : Value} {us : List ByteArray}, OwnO lo hi V v us → Below V.heap.size V Wc → ∀ b ∈ blkO v us, b ≠ Wc.heap.size := fun o k b hb e => by
    have h1 := (o.blk b hb).2.2; have h2 := k.size; omega
  refine ⟨hb.size, hq_nw rfl, fun b hb => ?_, own3O_of (o1.later (bl_tr k1 hbl)) (o2.later (bl_tr k2 hbl)) (o3.later (bl_tr k3 hbl)) p1 p2 p3 d12 d13 d23, bl_tr hb hbl⟩
  rcases List.mem_append.1 hb with h | h
  · exact n o1 k1 b h
  · rcases List.mem_append.1 h with h | h
    · exact n o2 k2 b h
    · exact n o3 k3 b h
theorem rdM_none {s : ByteArray} (h : (splS 59 s.data.toList).length < 3) : rdM s = none := by
  unfold rdM
  split
  · rename_i a b c ds he
    rw [he] at h; simp at h; omega
  · rfl
theorem rdM_0 {s a b c : ByteArray} (h : splS 59 s.data.toList = [a, b, c]) : rdM s = some ⟨true, (splS 32 a.data.toList).tail, (splS 32 b.data.toList).tail, (splS 32 c.data.toList).tail, ⟨#[]⟩⟩ := by unfold rdM; rw [h]
theorem rdM_1 {s a b c d : ByteArray} {ds : List ByteArray} (h : splS 59 s.data.toList = a :: b :: c :: d :: ds) (hd : ¬ 6 < d.size) : rdM s = some ⟨true, (splS 32 a.data.toList).tail, (splS 32 b.data.toList).tail, (splS 32 c.data.toList).tail, ⟨#[]⟩⟩ := by
  unfold rdM; rw [h]
  dsimp only
  rw [if_neg hd]
theorem rdM_2 {s a b c d : ByteArray} {ds : List ByteArray} (h : splS 59 s.data.toList = a :: b :: c :: d :: ds) (hd : 6 < d.size) : rdM s = some ⟨true, (splS 32 a.data.toList).tail, (splS 32 b.data.toList).tail, (splS 32 c.data.toList).tail, d.extract 6 d.size⟩ := by
  unfold rdM; rw [h]
  dsimp only
  rw [if_pos hd]
theorem prsP_some {s : ByteArray} {q : Pol} (hs : s.size ≠ 0) (h : rdM s = some q) : prsP s = if fmtP q = s then (q, true) else (polZ, false) := by
  have := prsP_model hs; rw [h] at this; exact this.symm
theorem prsP_none {s : ByteArray} (hs : s.size ≠ 0) (h : rdM s = none) : prsP s = (polZ, false) := by
  have := prsP_model hs; rw [h] at this; exact this.symm
/-- A division of which the first piece is left out. -/
def NewT (xs : List ByteArray) (X : World) (e : Ending) (w' : World) : Prop := ∃ (g n c : Nat) (a : Option Addr) (m k : Nat), e = .returned (.slice (some ⟨g, 0, none⟩) n c) ∧ (∀ W, (Instr.sliceAt 73 (.slice (some ⟨g, 0, none⟩) n c) (some (.int .i64 1)) none none).run Tryd.prog W = .ok (.slice a m k) W) ∧ (∀ W, (Instr.slice 73 (.slice (some ⟨g, 0, none⟩) n c) (some (.int .i64 1)) none none).run Tryd.prog W = .ok (.slice a m k) W) ∧ OwnO X.heap.size w'.heap.size w' (.slice a m k) xs ∧ Below X.heap.size X w'
theorem elemS : Tryd.prog.elem 73 = 9 := by kernel_rfl
theorem tail_run (g n c : Nat) (h1 : 1 ≤ n) (W : World) : (Instr.slice 73 (.slice (some ⟨g, 0, none⟩) n c) (some (.int .i64 1)) none none).run Tryd.prog W = .ok (if c = 1 then .slice (some ⟨g, 0, none⟩) (n - 1) (c - 1) else .slice (some ⟨g, 1, none⟩) (n - 1) (c - 1)) W := by
  obtain ⟨i, hi, hz, hsize, hby⟩ := info_parts infoStr
  rw [run_slice_l W 73 _ n c (by rw [elemS]; exact Tryd.underlying73) .i64 1 (by omega) (by omega)]
  have hs : (sizeOf (Tryd.prog.elem 73)).run Tryd.prog W = .ok 1 W := by rw [elemS]; simp [sizeOf, typeInfo, hi, hsize]
  rw [hs]
  show Result.ok (sliced _ _ _ _ _) W = _
  unfold sliced
  by_cases hc : c = 1
  · rw [if_pos hc, if_pos (by omega)]; rfl
  · rw [if_neg hc, if_neg (by omega)]
    show Result.ok (Value.slice (some (Addr.add ⟨g, 0, none⟩ (1 * 1))) _ _) W = _
    rw [add_off]; rfl
theorem splT_any (p : ByteArray) (hz : p.size ≤ 1048576) (X : World) :
    Calls Tryd.prog 51 #[.string p, .int .u8 32] X (NewT ((splS 32 p.data.toList).tail) X) := by
  obtain ⟨x, xs, hx⟩ := splS_cons 32 p.data.toList
  rw [hx, List.tail_cons]
  refine (spl_spec p 32 (by omega) X).mono ?_
  rintro e w1 ⟨v, rfl, ho, hb⟩
  rw [hx] at ho
  obtain ⟨g, n, c, rfl, hn, hc, hcm⟩ := own_first ho
  have ht := OwnO.tail ho
  have hr := tail_run g n c hn
  have hr2 : ∀ W, (Instr.sliceAt 73 (.slice (some ⟨g, 0, none⟩) n c) (some (.int .i64 1)) none none).run Tryd.prog W = .ok (if c = 1 then .slice (some ⟨g, 0, none⟩) (n - 1) (c - 1) else .slice (some ⟨g, 1, none⟩) (n - 1) (c - 1)) W := fun W => by
    rw [run_sliceAt_slice W 73 _ _ _ _ (by rw [elemS]; exact Tryd.underlying73)]; exact hr W
  by_cases h1 : c = 1
  · rw [if_pos h1] at ht hr2
    have hr3 := hr; simp only [if_pos h1] at hr3
    exact ⟨g, n, c, _, _, _, rfl, fun W => by have := hr2 W; simpa only [if_pos h1] using this, hr3, ht, hb⟩
  · rw [if_neg h1] at ht
    have hr3 := hr; simp only [if_neg h1] at hr3
    exact ⟨g, n, c, _, _, _, rfl, fun W => by have := hr2 W; simpa only [if_neg h1] using this, hr3, ht, hb⟩

set_option maxRecDepth 100000 in
set_option maxHeartbeats 16000000 in
theorem prs_spec (s : ByteArray) (hz : s.size ≤ 1048576) (w : World) :
    Calls Tryd.prog 42 #[.string s] w (PrsNew (prsP s) w) := by
  obtain ⟨W0, hW0⟩ : ∃ x, w.alloc (.cells #[.bool false, .slice none 0 0, .slice none 0 0, .slice none 0 0, .string ⟨#[]⟩] 75) = x := ⟨_, rfl⟩
  have HB0 := Lib.hid (show Below w.heap.size w W0 by rw [← hW0]; exact bl_aw (Below.refl _ _) _)
  have H0 := Lib.hid (show W0.heap[w.heap.size]? = some (.cells #[.bool false, .slice none 0 0, .slice none 0 0, .slice none 0 0, .string ⟨#[]⟩] 75 (0, 0)) by rw [← hW0]; exact heap_alloc_new w _)
  have HW0 := Lib.hid hW0; clear hW0
  by_cases h0 : s.size = 0
  · have e1 : (s.toList == []) = true := by rw [empP_size, decide_eq_true h0]
    have HRR := Lib.hid (show prsP s = (polZ, true) by unfold prsP; rw [if_pos h0]); clear h0 hz
    go_enter Tryd.func42, Tryd.ntmps42
    go_upto_region 2 with (fail)
    rw [HW0.out]
    have y0 := box_cell H0.out (j := 0) rfl; have x0 := box_frz H0.out 0
    have y1 := box_cell H0.out (j := 1) rfl; have x1 := box_frz H0.out 1
    have y2 := box_cell H0.out (j := 2) rfl; have x2 := box_frz H0.out 2
    have y3 := box_cell H0.out (j := 3) rfl; have x3 := box_frz H0.out 3
    have y4 := box_cell H0.out (j := 4) rfl; have x4 := box_frz H0.out 4
    go_wp2_with fail
    obtain ⟨w9, hw9⟩ : ∃ x, (((((W0.setCell ⟨w.heap.size, 0, none⟩ (.bool false)).setCell ⟨w.heap.size, 1, none⟩ (.slice none 0 0)).setCell ⟨w.heap.size, 2, none⟩ (.slice none 0 0)).setCell ⟨w.heap.size, 3, none⟩ (.slice none 0 0)).setCell ⟨w.heap.size, 4, none⟩ (.string ⟨#[]⟩)) = x := ⟨_, rfl⟩
    rw [hw9]
    have hon : OnlyB [w.heap.size] W0 w9 := by rw [← hw9]; exact set5_only W0 (w.heap.size) _ _ _ _ _
    have hb9 := set5_box H0.out (.bool false) (.slice none 0 0) (.slice none 0 0) (.slice none 0 0) (.string ⟨#[]⟩)
    rw [show set5 W0 (w.heap.size) (.bool false) (.slice none 0 0) (.slice none 0 0) (.slice none 0 0) (.string ⟨#[]⟩) = w9 from hw9] at hb9
    have r0 := box_cell hb9 (j := 0) rfl
    have r1 := box_cell hb9 (j := 1) rfl
    have r2 := box_cell hb9 (j := 2) rfl
    have r3 := box_cell hb9 (j := 3) rfl
    have r4 := box_cell hb9 (j := 4) rfl
    refine bodyPost_ret (v := .tuple #[.agg #[.bool false, .slice none 0 0, .slice none 0 0, .slice none 0 0, .string ⟨#[]⟩], .bool true]) (by simp [results, Tryd.results42, go_sem, r0, r1, r2, r3, r4]) rfl ?_
    have hbl := HB0.out
    try unfold PrsNew
    try rw [HRR.out]
    refine ⟨none, 0, 0, none, 0, 0, none, 0, 0, rfl, own3O_zero _ _, ?_⟩
    exact hbl.trans (hon.below (fun i hi => by rw [List.mem_singleton] at hi; omega) hbl.size)
  have e1 : (s.toList == []) = false := by rw [empP_size, decide_eq_false h0]
  have HS0 := Lib.hid h0; clear h0
  have HSP := Lib.hid (spl_spec s 59 (by omega) W0)
  obtain ⟨L, hL⟩ : ∃ L, splS 59 s.data.toList = L := ⟨_, rfl⟩
  rw [hL] at HSP; have HL := Lib.hid hL; clear hL
  go_enter Tryd.func42, Tryd.ntmps42
  go_upto_region 3 with (fail)
  rw [HW0.out]
  go_wp2_with fail
  refine HSP.out.mono ?_
  rintro e w2 ⟨v, rfl, ho, hb⟩
  have HB2 := Lib.hid hb; clear hb
  have HBX := Lib.hid (below_heap HB2.out (heap_lt H0.out) H0.out)
  by_cases h3 : L.length < 3
  · have HRR := Lib.hid (prsP_none HS0.out (rdM_none (by rw [HL.out]; exact h3)))
    obtain ⟨va, vc, rfl, _⟩ := ho.reads encS_len
    obtain ⟨m, hm⟩ : ∃ m, L.length = m := ⟨_, rfl⟩
    rw [hm] at h3 ⊢; clear hm ho
    have e3 : decide ((m : Int) < 3) = true := decide_eq_true (by omega)
    have y0 := box_cell HBX.out (j := 0) rfl; have x0 := box_frz HBX.out 0
    have y1 := box_cell HBX.out (j := 1) rfl; have x1 := box_frz HBX.out 1
    have y2 := box_cell HBX.out (j := 2) rfl; have x2 := box_frz HBX.out 2
    have y3 := box_cell HBX.out (j := 3) rfl; have x3 := box_frz HBX.out 3
    have y4 := box_cell HBX.out (j := 4) rfl; have x4 := box_frz HBX.out 4
    go_wp2_with fail
    obtain ⟨w9, hw9⟩ : ∃ x, (((((w2.setCell ⟨w.heap.size, 0, none⟩ (.bool false)).setCell ⟨w.heap.size, 1, none⟩ (.slice none 0 0)).setCell ⟨w.heap.size, 2, none⟩ (.slice none 0 0)).setCell ⟨w.heap.size, 3, none⟩ (.slice none 0 0)).setCell ⟨w.heap.size, 4, none⟩ (.string ⟨#[]⟩)) = x := ⟨_, rfl⟩
    rw [hw9]
    have hon : OnlyB [w.heap.size] w2 w9 := by rw [← hw9]; exact set5_only w2 (w.heap.size) _ _ _ _ _
    have hb9 := set5_box HBX.out (.bool false) (.slice none 0 0) (.slice none 0 0) (.slice none 0 0) (.string ⟨#[]⟩)
    rw [show set5 w2 (w.heap.size) (.bool false) (.slice none 0 0) (.slice none 0 0) (.slice none 0 0) (.string ⟨#[]⟩) = w9 from hw9] at hb9
    have r0 := box_cell hb9 (j := 0) rfl
    have r1 := box_cell hb9 (j := 1) rfl
    have r2 := box_cell hb9 (j := 2) rfl
    have r3 := box_cell hb9 (j := 3) rfl
    have r4 := box_cell hb9 (j := 4) rfl
    refine bodyPost_ret (v := .tuple #[.agg #[.bool false, .slice none 0 0, .slice none 0 0, .slice none 0 0, .string ⟨#[]⟩], .bool false]) (by simp [results, Tryd.results42, go_sem, r0, r1, r2, r3, r4]) rfl ?_
    have hbl := HB0.out.trans (HB2.out.mono HB0.out.size)
    try unfold PrsNew
    try rw [HRR.out]
    refine ⟨none, 0, 0, none, 0, 0, none, 0, 0, rfl, own3O_zero _ _, ?_⟩
    exact hbl.trans (hon.below (fun i hi => by rw [List.mem_singleton] at hi; omega) hbl.size)
  obtain ⟨a, b, c, ds, rfl⟩ : ∃ a b c ds, L = a :: b :: c :: ds := by match L, h3 with | a :: b :: c :: ds, _ => exact ⟨a, b, c, ds, rfl⟩ | [], h => exact absurd (show ([] : List ByteArray).length < 3 by decide) h | [_], h => exact absurd (show 1 < 3 by decide) h | [_, _], h => exact absurd (show 2 < 3 by decide) h
  have hza : a.size ≤ 1048576 := by have h := sp_piece (p := a) (c := 59) (l := s.data.toList) (by rw [HL.out]; simp); rw [size_list] at h; omega
  have hzb : b.size ≤ 1048576 := by have h := sp_piece (p := b) (c := 59) (l := s.data.toList) (by rw [HL.out]; simp); rw [size_list] at h; omega
  have hzc : c.size ≤ 1048576 := by have h := sp_piece (p := c) (c := 59) (l := s.data.toList) (by rw [HL.out]; simp); rw [size_list] at h; omega
  have HX1 := Lib.hid (fun X => splT_any a hza X)
  have HX2 := Lib.hid (fun X => splT_any b hzb X)
  have HX3 := Lib.hid (fun X => splT_any c hzc X)
  have hrd := ho.reads encS_len
  obtain ⟨g, n', cc, rfl, hn1, hcc, hcm⟩ := own_first ho
  have hn3 : n' = ds.length + 3 := by obtain ⟨_, _, e, _⟩ := hrd; injection e with _ e _
  have hnw := hrd.news encS_len
  have c0 : w2.cell? ⟨g, 0, none⟩ = some (.string a) := by have h := hnw 0 (.string a) rfl; rw [add_off, Nat.zero_add] at h; exact h
  have c1 : w2.cell? ⟨g, 1, none⟩ = some (.string b) := by have h := hnw 1 (.string b) rfl; rw [add_off, Nat.zero_add] at h; exact h
  have c2 : w2.cell? ⟨g, 2, none⟩ = some (.string c) := by have h := hnw 2 (.string c) rfl; rw [add_off, Nat.zero_add] at h; exact h
  have HC3 := Lib.hid (fun (d : ByteArray) (ds' : List ByteArray) (h : ds = d :: ds') => show w2.cell? ⟨g, 3, none⟩ = some (.string d) by subst h; have h := hnw 3 (.string d) rfl; rw [add_off, Nat.zero_add] at h; exact h)
  have hgs := (ho.lt g rfl).2
  clear ho hrd hnw h3 hn1
  have hn0 : ¬ (n' : Int) < 3 := by omega
  have hn0d : decide ((n' : Int) < 3) = false := decide_eq_false hn0
  have j0 : (0 : Int) < (n' : Int) := by omega
  have j1 : (1 : Int) < (n' : Int) := by omega
  have j2 : (2 : Int) < (n' : Int) := by omega
  have j1n : 1 < n' := by omega
  have j2n : 2 < n' := by omega
  have j0n : 0 < n' := by omega
  have KEEP := Lib.hid (fun (w' : World) (h : Below w2.heap.size w2 w') => show Below w2.heap.size w2 w' ∧ w'.cell? ⟨g, 0, none⟩ = some (.string a) ∧ w'.cell? ⟨g, 1, none⟩ = some (.string b) ∧ w'.cell? ⟨g, 2, none⟩ = some (.string c) from ⟨h, (h.cell hgs).trans c0, (h.cell hgs).trans c1, (h.cell hgs).trans c2⟩)
  obtain ⟨X1, hX1⟩ : ∃ x, (splS 32 a.data.toList).tail = x := ⟨_, rfl⟩
  obtain ⟨X2, hX2⟩ : ∃ x, (splS 32 b.data.toList).tail = x := ⟨_, rfl⟩
  obtain ⟨X3, hX3⟩ : ∃ x, (splS 32 c.data.toList).tail = x := ⟨_, rfl⟩
  rw [hX1] at HX1; rw [hX2] at HX2; rw [hX3] at HX3; have HE1 := Lib.hid hX1; have HE2 := Lib.hid hX2; have HE3 := Lib.hid hX3; have HN3 := Lib.hid hn3; clear hX1 hX2 hX3 c0 c1 c2 hza hzb hzc hn3
  go_upto_region 6 with (fail)
  go_cut [5] from 15 to 30 (fun c wx => ∃ (p : Nat) (b1 : Option Addr) (m1 k1 : Nat) (b2 : Option Addr) (m2 k2 : Nat) (b3 : Option Addr) (m3 k3 : Nat), c = .pointer (some ⟨p, 0, none⟩) ∧ w2.heap.size ≤ p ∧ wx.heap[p]? = some (.cells #[.bool true, .slice b1 m1 k1, .slice b2 m2 k2, .slice b3 m3 k3, .string ⟨#[]⟩] 75 (0, 0)) ∧ (∀ q ∈ blkO (.slice b1 m1 k1) X1 ++ (blkO (.slice b2 m2 k2) X2 ++ blkO (.slice b3 m3 k3) X3), q ≠ p) ∧ Own3O w2.heap.size wx (.slice b1 m1 k1) (.slice b2 m2 k2) (.slice b3 m3 k3) X1 X2 X3 ∧ Below w2.heap.size w2 wx)
  case first =>
    go_region_held3 (fun w' => Below w2.heap.size w2 w' ∧ w'.cell? ⟨g, 0, none⟩ = some (.string a) ∧ w'.cell? ⟨g, 1, none⟩ = some (.string b) ∧ w'.cell? ⟨g, 2, none⟩ = some (.string c)) (exact KEEP.out _ (by repeat' (first | (with_reducible exact Below.refl _ _) | (with_reducible exact hPC) | (with_reducible exact hPB) | (with_reducible exact hPA) | (with_reducible refine bl_dw ?_) | (with_reducible refine bl_aw ?_ _) | (with_reducible refine bl_s9 ?_ (by first | exact Nat.le_refl _ | exact hPA.size | exact hPB.size | exact hPC.size) _)))) (first | (go_at_call 51; (with_reducible refine (HX1.out _).mono ?_); rintro e wA ⟨gA, nA, cA, aA, mA, kA, rfl, sA, tA, hoA, hbA⟩; have hSA := bl_sz (show Below w2.heap.size w2 _ from (by repeat' (first | (with_reducible exact Below.refl _ _) | (with_reducible exact hPC) | (with_reducible exact hPB) | (with_reducible exact hPA) | (with_reducible refine bl_dw ?_) | (with_reducible refine bl_aw ?_ _)))) hbA; have hPA := bl_tr (show Below w2.heap.size w2 _ from (by repeat' (first | (with_reducible exact Below.refl _ _) | (with_reducible exact hPC) | (with_reducible exact hPB) | (with_reducible exact hPA) | (with_reducible refine bl_dw ?_) | (with_reducible refine bl_aw ?_ _)))) hbA; (first | (refine lay9 (w := wA) (c := w2.heap.size) ?_ ?_; (focus (refine heap_bl9 hbA ?_; (repeat' (first | (with_reducible refine hq_dr ?_) | ((with_reducible refine hq_nw ?_); (first | (with_reducible rfl) | (simp only [size_alloc]; done))) | (with_reducible refine heap_bl9 hbC ?_) | (with_reducible refine heap_bl9 hbB ?_) | (with_reducible refine heap_bl9 hbA ?_))))); intro zA0 fA0 zA1 fA1 zA2 fA2 zA3 fA3 zA4 fA4) | (refine lay9 (w := wA) (c := wB.heap.size) ?_ ?_; (focus (refine heap_bl9 hbA ?_; (repeat' (first | (with_reducible refine hq_dr ?_) | ((with_reducible refine hq_nw ?_); (first | (with_reducible rfl) | (simp only [size_alloc]; done))) | (with_reducible refine heap_bl9 hbC ?_) | (with_reducible refine heap_bl9 hbB ?_) | (with_reducible refine heap_bl9 hbA ?_))))); intro zA0 fA0 zA1 fA1 zA2 fA2 zA3 fA3 zA4 fA4) | (refine lay9 (w := wA) (c := wC.heap.size) ?_ ?_; (focus (refine heap_bl9 hbA ?_; (repeat' (first | (with_reducible refine hq_dr ?_) | ((with_reducible refine hq_nw ?_); (first | (with_reducible rfl) | (simp only [size_alloc]; done))) | (with_reducible refine heap_bl9 hbC ?_) | (with_reducible refine heap_bl9 hbB ?_) | (with_reducible refine heap_bl9 hbA ?_))))); intro zA0 fA0 zA1 fA1 zA2 fA2 zA3 fA3 zA4 fA4) | skip); (first | (have dBA := bl_sz (show Below wB.heap.size wB _ from (by repeat' (first | (with_reducible exact Below.refl _ _) | (with_reducible exact kBA) | (with_reducible exact kBC) | (with_reducible refine bl_dw ?_) | (with_reducible refine bl_aw ?_ _)))) hbA; have kBA := bl_tr (show Below wB.heap.size wB _ from (by repeat' (first | (with_reducible exact Below.refl _ _) | (with_reducible exact kBA) | (with_reducible exact kBC) | (with_reducible refine bl_dw ?_) | (with_reducible refine bl_aw ?_ _)))) hbA) | skip); (first | (have dCA := bl_sz (show Below wC.heap.size wC _ from (by repeat' (first | (with_reducible exact Below.refl _ _) | (with_reducible exact kCA) | (with_reducible exact kCB) | (with_reducible refine bl_dw ?_) | (with_reducible refine bl_aw ?_ _)))) hbA; have kCA := bl_tr (show Below wC.heap.size wC _ from (by repeat' (first | (with_reducible exact Below.refl _ _) | (with_reducible exact kCA) | (with_reducible exact kCB) | (with_reducible refine bl_dw ?_) | (with_reducible refine bl_aw ?_ _)))) hbA) | skip)) | (go_at_call 51; (with_reducible refine (HX2.out _).mono ?_); rintro e wB ⟨gB, nB, cB, aB, mB, kB, rfl, sB, tB, hoB, hbB⟩; have hSB := bl_sz (show Below w2.heap.size w2 _ from (by repeat' (first | (with_reducible exact Below.refl _ _) | (with_reducible exact hPC) | (with_reducible exact hPB) | (with_reducible exact hPA) | (with_reducible refine bl_dw ?_) | (with_reducible refine bl_aw ?_ _)))) hbB; have hPB := bl_tr (show Below w2.heap.size w2 _ from (by repeat' (first | (with_reducible exact Below.refl _ _) | (with_reducible exact hPC) | (with_reducible exact hPB) | (with_reducible exact hPA) | (with_reducible refine bl_dw ?_) | (with_reducible refine bl_aw ?_ _)))) hbB; (first | (refine lay9 (w := wB) (c := w2.heap.size) ?_ ?_; (focus (refine heap_bl9 hbB ?_; (repeat' (first | (with_reducible refine hq_dr ?_) | ((with_reducible refine hq_nw ?_); (first | (with_reducible rfl) | (simp only [size_alloc]; done))) | (with_reducible refine heap_bl9 hbC ?_) | (with_reducible refine heap_bl9 hbB ?_) | (with_reducible refine heap_bl9 hbA ?_))))); intro zB0 fB0 zB1 fB1 zB2 fB2 zB3 fB3 zB4 fB4) | (refine lay9 (w := wB) (c := wA.heap.size) ?_ ?_; (focus (refine heap_bl9 hbB ?_; (repeat' (first | (with_reducible refine hq_dr ?_) | ((with_reducible refine hq_nw ?_); (first | (with_reducible rfl) | (simp only [size_alloc]; done))) | (with_reducible refine heap_bl9 hbC ?_) | (with_reducible refine heap_bl9 hbB ?_) | (with_reducible refine heap_bl9 hbA ?_))))); intro zB0 fB0 zB1 fB1 zB2 fB2 zB3 fB3 zB4 fB4) | (refine lay9 (w := wB) (c := wC.heap.size) ?_ ?_; (focus (refine heap_bl9 hbB ?_; (repeat' (first | (with_reducible refine hq_dr ?_) | ((with_reducible refine hq_nw ?_); (first | (with_reducible rfl) | (simp only [size_alloc]; done))) | (with_reducible refine heap_bl9 hbC ?_) | (with_reducible refine heap_bl9 hbB ?_) | (with_reducible refine heap_bl9 hbA ?_))))); intro zB0 fB0 zB1 fB1 zB2 fB2 zB3 fB3 zB4 fB4) | skip); (first | (have dAB := bl_sz (show Below wA.heap.size wA _ from (by repeat' (first | (with_reducible exact Below.refl _ _) | (with_reducible exact kAB) | (with_reducible exact kAC) | (with_reducible refine bl_dw ?_) | (with_reducible refine bl_aw ?_ _)))) hbB; have kAB := bl_tr (show Below wA.heap.size wA _ from (by repeat' (first | (with_reducible exact Below.refl _ _) | (with_reducible exact kAB) | (with_reducible exact kAC) | (with_reducible refine bl_dw ?_) | (with_reducible refine bl_aw ?_ _)))) hbB) | skip); (first | (have dCB := bl_sz (show Below wC.heap.size wC _ from (by repeat' (first | (with_reducible exact Below.refl _ _) | (with_reducible exact kCA) | (with_reducible exact kCB) | (with_reducible refine bl_dw ?_) | (with_reducible refine bl_aw ?_ _)))) hbB; have kCB := bl_tr (show Below wC.heap.size wC _ from (by repeat' (first | (with_reducible exact Below.refl _ _) | (with_reducible exact kCA) | (with_reducible exact kCB) | (with_reducible refine bl_dw ?_) | (with_reducible refine bl_aw ?_ _)))) hbB) | skip)) | (go_at_call 51; (with_reducible refine (HX3.out _).mono ?_); rintro e wC ⟨gC, nC, cC, aC, mC, kC, rfl, sC, tC, hoC, hbC⟩; have hSC := bl_sz (show Below w2.heap.size w2 _ from (by repeat' (first | (with_reducible exact Below.refl _ _) | (with_reducible exact hPC) | (with_reducible exact hPB) | (with_reducible exact hPA) | (with_reducible refine bl_dw ?_) | (with_reducible refine bl_aw ?_ _)))) hbC; have hPC := bl_tr (show Below w2.heap.size w2 _ from (by repeat' (first | (with_reducible exact Below.refl _ _) | (with_reducible exact hPC) | (with_reducible exact hPB) | (with_reducible exact hPA) | (with_reducible refine bl_dw ?_) | (with_reducible refine bl_aw ?_ _)))) hbC; (first | (refine lay9 (w := wC) (c := w2.heap.size) ?_ ?_; (focus (refine heap_bl9 hbC ?_; (repeat' (first | (with_reducible refine hq_dr ?_) | ((with_reducible refine hq_nw ?_); (first | (with_reducible rfl) | (simp only [size_alloc]; done))) | (with_reducible refine heap_bl9 hbC ?_) | (with_reducible refine heap_bl9 hbB ?_) | (with_reducible refine heap_bl9 hbA ?_))))); intro zC0 fC0 zC1 fC1 zC2 fC2 zC3 fC3 zC4 fC4) | (refine lay9 (w := wC) (c := wA.heap.size) ?_ ?_; (focus (refine heap_bl9 hbC ?_; (repeat' (first | (with_reducible refine hq_dr ?_) | ((with_reducible refine hq_nw ?_); (first | (with_reducible rfl) | (simp only [size_alloc]; done))) | (with_reducible refine heap_bl9 hbC ?_) | (with_reducible refine heap_bl9 hbB ?_) | (with_reducible refine heap_bl9 hbA ?_))))); intro zC0 fC0 zC1 fC1 zC2 fC2 zC3 fC3 zC4 fC4) | (refine lay9 (w := wC) (c := wB.heap.size) ?_ ?_; (focus (refine heap_bl9 hbC ?_; (repeat' (first | (with_reducible refine hq_dr ?_) | ((with_reducible refine hq_nw ?_); (first | (with_reducible rfl) | (simp only [size_alloc]; done))) | (with_reducible refine heap_bl9 hbC ?_) | (with_reducible refine heap_bl9 hbB ?_) | (with_reducible refine heap_bl9 hbA ?_))))); intro zC0 fC0 zC1 fC1 zC2 fC2 zC3 fC3 zC4 fC4) | skip); (first | (have dAC := bl_sz (show Below wA.heap.size wA _ from (by repeat' (first | (with_reducible exact Below.refl _ _) | (with_reducible exact kAB) | (with_reducible exact kAC) | (with_reducible refine bl_dw ?_) | (with_reducible refine bl_aw ?_ _)))) hbC; have kAC := bl_tr (show Below wA.heap.size wA _ from (by repeat' (first | (with_reducible exact Below.refl _ _) | (with_reducible exact kAB) | (with_reducible exact kAC) | (with_reducible refine bl_dw ?_) | (with_reducible refine bl_aw ?_ _)))) hbC) | skip); (first | (have dBC := bl_sz (show Below wB.heap.size wB _ from (by repeat' (first | (with_reducible exact Below.refl _ _) | (with_reducible exact kBA) | (with_reducible exact kBC) | (with_reducible refine bl_dw ?_) | (with_reducible refine bl_aw ?_ _)))) hbC; have kBC := bl_tr (show Below wB.heap.size wB _ from (by repeat' (first | (with_reducible exact Below.refl _ _) | (with_reducible exact kBA) | (with_reducible exact kBC) | (with_reducible refine bl_dw ?_) | (with_reducible refine bl_aw ?_ _)))) hbC) | skip)))
    all_goals
      go_wp2_with fail
      go_meet
    all_goals (refine ⟨_, aA, mA, kA, aB, mB, kB, aC, mC, kC, rfl, ?_⟩)
    · exact finP7 hPC hoA kAC hoB kBC hoC (Below.refl _ _) hSA hSB hSC dAB dAC dBC
    · exact finP6 (heap_bl9 hbC (hq_nw rfl)) hPB.size hPC hoA kAC hoB kBC hoC (Below.refl _ _) hSA hSB hSC (Or.inr kAB.size) (Or.inr (Nat.le_refl _)) (Or.inl (by show _ < (World.alloc _ _).heap.size; rw [size_alloc]; exact Nat.lt_succ_self _)) dAB dAC dBC
    · exact finP6 (heap_bl9 kBC (heap_bl9 hbB (hq_nw rfl))) hPA.size hPC hoA kAC hoB kBC hoC (Below.refl _ _) hSA hSB hSC (Or.inr (Nat.le_refl _)) (Or.inl (by show _ < (World.alloc _ _).heap.size; rw [size_alloc]; exact Nat.lt_succ_self _)) (Or.inl (Nat.lt_of_lt_of_le (by show _ < (World.alloc _ _).heap.size; rw [size_alloc]; exact Nat.lt_succ_self _) hbB.size)) dAB dAC dBC
    · exact finP6 (heap_bl9 kAC (heap_bl9 hbA (hq_dr (hq_nw rfl)))) (Nat.le_refl _) hPC hoA kAC hoB kBC hoC (Below.refl _ _) hSA hSB hSC (Or.inl (by show _ < (World.alloc _ _).heap.size; rw [size_alloc]; exact Nat.lt_succ_self _)) (Or.inl (Nat.lt_of_lt_of_le (by show _ < (World.alloc _ _).heap.size; rw [size_alloc]; exact Nat.lt_succ_self _) hbA.size)) (Or.inl (Nat.lt_of_lt_of_le (by show _ < (World.alloc _ _).heap.size; rw [size_alloc]; exact Nat.lt_succ_self _) (Nat.le_trans hbA.size dAC))) dAB dAC dBC
  obtain ⟨p, b1, m1, k1, b2, m2, k2, b3, m3, k3, rfl, hpW, hbox, hne, how, hbf⟩ := hcut
  rename World => wx
  have HNE := Lib.hid hne; have HPW := Lib.hid hpW; clear hne hpW KEEP
  have hpp : w.heap.size < p := by have h1 := HPW.out; have h2 := HB2.out.size; have h3 := heap_lt H0.out; omega
  cases ds with
  | nil =>
    obtain rfl : n' = 3 := HN3.out
    have HRM := Lib.hid (show rdM s = some ⟨true, X1, X2, X3, ⟨#[]⟩⟩ by rw [rdM_0 HL.out, HE1.out, HE2.out, HE3.out])
    have HBOX := Lib.hid hbox; have HOX := Lib.hid how; have HBF := Lib.hid hbf; clear hbox how hbf
    clear j0 j1 j2 j0n j1n j2n hn0 hn0d
    go_upto_region 9 with (fail)
    have HPP := Lib.hid (prsP_some HS0.out HRM.out)
    have HSM := Lib.hid (rdM_sm hz HRM.out)
    have q0 := box_cell HBOX.out (j := 0) rfl
    have q1 := box_cell HBOX.out (j := 1) rfl
    have q2 := box_cell HBOX.out (j := 2) rfl
    have q3 := box_cell HBOX.out (j := 3) rfl
    have q4 := box_cell HBOX.out (j := 4) rfl
    have HFM := Lib.hid (fmtPol_spec true X1 X2 X3 (⟨#[]⟩) b1 m1 k1 b2 m2 k2 b3 m3 k3 HSM.out wx (HOX.out.reads (p := ⟨true, X1, X2, X3, ⟨#[]⟩⟩)))
    obtain ⟨T, hT⟩ : ∃ x, fmtP ⟨true, X1, X2, X3, ⟨#[]⟩⟩ = x := ⟨_, rfl⟩
    rw [hT] at HPP HFM; clear hT
    go_wp2_with fail
    refine HFM.out.mono ?_
    rintro e w3 ⟨rfl, hb3⟩
    have HO3 := Lib.hid (HOX.out.later hb3); have HB3 := Lib.hid (show Below W0.heap.size W0 w3 from bl_tr (bl_tr HB2.out HBF.out) hb3); have HBX3 := Lib.hid (below_heap hb3 (heap_lt HBOX.out) HBOX.out); clear hb3
    have HRX := Lib.hid (below_heap HB3.out (heap_lt H0.out) H0.out)
    have hw2 : w.heap.size < w2.heap.size := heap_lt HBX.out
    clear q0 q1 q2 q3 q4
    have q0 := box_cell HBX3.out (j := 0) rfl
    have q1 := box_cell HBX3.out (j := 1) rfl
    have q2 := box_cell HBX3.out (j := 2) rfl
    have q3 := box_cell HBX3.out (j := 3) rfl
    have q4 := box_cell HBX3.out (j := 4) rfl
    by_cases hts : T = s
    · have e2 : (T.toList == s.toList) = true := beqL_yes hts; have e3 : (T.toList != s.toList) = false := by rw [bne, e2]; rfl
      have HRR := Lib.hid (show prsP s = (⟨true, X1, X2, X3, ⟨#[]⟩⟩, true) by rw [HPP.out, if_pos hts]); clear hts HPP
      have y0 := box_cell HRX.out (j := 0) rfl; have x0 := box_frz HRX.out 0
      have y1 := box_cell HRX.out (j := 1) rfl; have x1 := box_frz HRX.out 1
      have y2 := box_cell HRX.out (j := 2) rfl; have x2 := box_frz HRX.out 2
      have y3 := box_cell HRX.out (j := 3) rfl; have x3 := box_frz HRX.out 3
      have y4 := box_cell HRX.out (j := 4) rfl; have x4 := box_frz HRX.out 4
      go_wp2_with fail
      obtain ⟨w9, hw9⟩ : ∃ x, (((((w3.setCell ⟨w.heap.size, 0, none⟩ (.bool true)).setCell ⟨w.heap.size, 1, none⟩ (.slice b1 m1 k1)).setCell ⟨w.heap.size, 2, none⟩ (.slice b2 m2 k2)).setCell ⟨w.heap.size, 3, none⟩ (.slice b3 m3 k3)).setCell ⟨w.heap.size, 4, none⟩ (.string (⟨#[]⟩))) = x := ⟨_, rfl⟩
      rw [hw9]
      have hon : OnlyB [w.heap.size] w3 w9 := by rw [← hw9]; exact set5_only w3 (w.heap.size) _ _ _ _ _
      have hb9 := set5_box HRX.out (.bool true) (.slice b1 m1 k1) (.slice b2 m2 k2) (.slice b3 m3 k3) (.string (⟨#[]⟩))
      rw [show set5 w3 (w.heap.size) (.bool true) (.slice b1 m1 k1) (.slice b2 m2 k2) (.slice b3 m3 k3) (.string (⟨#[]⟩)) = w9 from hw9] at hb9
      have r0 := box_cell hb9 (j := 0) rfl
      have r1 := box_cell hb9 (j := 1) rfl
      have r2 := box_cell hb9 (j := 2) rfl
      have r3 := box_cell hb9 (j := 3) rfl
      have r4 := box_cell hb9 (j := 4) rfl
      refine bodyPost_ret (v := .tuple #[.agg #[.bool true, .slice b1 m1 k1, .slice b2 m2 k2, .slice b3 m3 k3, .string (⟨#[]⟩)], .bool true]) (by simp [results, Tryd.results42, go_sem, r0, r1, r2, r3, r4]) rfl ?_
      have hbl := (HB0.out.trans (HB3.out.mono HB0.out.size))
      try unfold PrsNew
      try rw [HRR.out]
      refine ⟨b1, m1, k1, b2, m2, k2, b3, m3, k3, rfl, (HO3.out.only hon (fun b hb => by rw [List.mem_singleton] at hb; omega)).low (Nat.le_of_lt hw2), ?_⟩
      exact hbl.trans (hon.below (fun i hi => by rw [List.mem_singleton] at hi; omega) hbl.size)
    · have e2 : (T.toList == s.toList) = false := beqL_no hts; have e3 : (T.toList != s.toList) = true := by rw [bne, e2]; rfl
      have HRR := Lib.hid (show prsP s = (polZ, false) by rw [HPP.out, if_neg hts]); clear hts HPP
      have y0 := box_cell HRX.out (j := 0) rfl; have x0 := box_frz HRX.out 0
      have y1 := box_cell HRX.out (j := 1) rfl; have x1 := box_frz HRX.out 1
      have y2 := box_cell HRX.out (j := 2) rfl; have x2 := box_frz HRX.out 2
      have y3 := box_cell HRX.out (j := 3) rfl; have x3 := box_frz HRX.out 3
      have y4 := box_cell HRX.out (j := 4) rfl; have x4 := box_frz HRX.out 4
      go_wp2_with fail
      obtain ⟨w9, hw9⟩ : ∃ x, (((((w3.setCell ⟨w.heap.size, 0, none⟩ (.bool false)).setCell ⟨w.heap.size, 1, none⟩ (.slice none 0 0)).setCell ⟨w.heap.size, 2, none⟩ (.slice none 0 0)).setCell ⟨w.heap.size, 3, none⟩ (.slice none 0 0)).setCell ⟨w.heap.size, 4, none⟩ (.string ⟨#[]⟩)) = x := ⟨_, rfl⟩
      rw [hw9]
      have hon : OnlyB [w.heap.size] w3 w9 := by rw [← hw9]; exact set5_only w3 (w.heap.size) _ _ _ _ _
      have hb9 := set5_box HRX.out (.bool false) (.slice none 0 0) (.slice none 0 0) (.slice none 0 0) (.string ⟨#[]⟩)
      rw [show set5 w3 (w.heap.size) (.bool false) (.slice none 0 0) (.slice none 0 0) (.slice none 0 0) (.string ⟨#[]⟩) = w9 from hw9] at hb9
      have r0 := box_cell hb9 (j := 0) rfl
      have r1 := box_cell hb9 (j := 1) rfl
      have r2 := box_cell hb9 (j := 2) rfl
      have r3 := box_cell hb9 (j := 3) rfl
      have r4 := box_cell hb9 (j := 4) rfl
      refine bodyPost_ret (v := .tuple #[.agg #[.bool false, .slice none 0 0, .slice none 0 0, .slice none 0 0, .string ⟨#[]⟩], .bool false]) (by simp [results, Tryd.results42, go_sem, r0, r1, r2, r3, r4]) rfl ?_
      have hbl := (HB0.out.trans (HB3.out.mono HB0.out.size))
      try unfold PrsNew
      try rw [HRR.out]
      refine ⟨none, 0, 0, none, 0, 0, none, 0, 0, rfl, own3O_zero _ _, ?_⟩
      exact hbl.trans (hon.below (fun i hi => by rw [List.mem_singleton] at hi; omega) hbl.size)
  | cons d ds =>
    have c3 : wx.cell? ⟨g, 3, none⟩ = some (.string d) := (hbf.cell hgs).trans (HC3.out d ds rfl)
    have j3 : (3 : Int) < (n' : Int) := by have := HN3.out; rw [List.length_cons] at this; omega
    have j3d : decide ((3 : Int) < (n' : Int)) = true := decide_eq_true j3
    have j3n : 3 < n' := by omega
    have hzd : d.size ≤ 1048576 := by have h := sp_piece (p := d) (c := 59) (l := s.data.toList) (by rw [HL.out]; simp); rw [size_list] at h; omega
    by_cases h6 : 6 < d.size
    · have d6 : decide ((6 : Int) < (d.size : Int)) = true := decide_eq_true (by omega)
      have d6i : (6 : Int) < (d.size : Int) := by omega
      have d6l : (6 : Int) ≤ (d.size : Int) := by omega
      have HRM := Lib.hid (show rdM s = some ⟨true, X1, X2, X3, d.extract 6 d.size⟩ by rw [rdM_2 HL.out h6, HE1.out, HE2.out, HE3.out])
      have fp0 := box_cell hbox (j := 0) rfl; have zp0 := box_frz hbox 0
      have fp1 := box_cell hbox (j := 1) rfl; have zp1 := box_frz hbox 1
      have fp2 := box_cell hbox (j := 2) rfl; have zp2 := box_frz hbox 2
      have fp3 := box_cell hbox (j := 3) rfl; have zp3 := box_frz hbox 3
      have fp4 := box_cell hbox (j := 4) rfl; have zp4 := box_frz hbox 4
      obtain ⟨N, hN⟩ : ∃ x, d.extract 6 d.size = x := ⟨_, rfl⟩
      rw [hN] at HRM
      go_upto_region 9 with (fail)
      try rw [hN]
      obtain ⟨w2b, hw2⟩ : ∃ x, wx.setCell ⟨p, 4, none⟩ (.string N) = x := ⟨_, rfl⟩
      rw [hw2]
      have hon2 : OnlyB [p] wx w2b := by rw [← hw2]; exact (OnlyB.refl [p] wx).set (by simp)
      have hbx2 := heap_one (o := 4) hbox (.string N); rw [hw2] at hbx2
      have HBOX := Lib.hid (show w2b.heap[p]? = some (.cells #[.bool true, .slice b1 m1 k1, .slice b2 m2 k2, .slice b3 m3 k3, .string N] 75 (0, 0)) from hbx2)
      have HOX := Lib.hid (how.only2 hon2 (fun b hb hm => by rw [List.mem_singleton] at hm; exact HNE.out b hb hm))
      have HBF := Lib.hid (show Below w2.heap.size w2 w2b from hbf.trans (hon2.below (fun i hi => by rw [List.mem_singleton] at hi; have := HPW.out; omega) hbf.size))
      clear hw2 hon2 hbx2 hbox how hbf hN c3 fp0 fp1 fp2 fp3 fp4 zp0 zp1 zp2 zp3 zp4 d6 d6i d6l
      have HPP := Lib.hid (prsP_some HS0.out HRM.out)
      have HSM := Lib.hid (rdM_sm hz HRM.out)
      have q0 := box_cell HBOX.out (j := 0) rfl
      have q1 := box_cell HBOX.out (j := 1) rfl
      have q2 := box_cell HBOX.out (j := 2) rfl
      have q3 := box_cell HBOX.out (j := 3) rfl
      have q4 := box_cell HBOX.out (j := 4) rfl
      have HFM := Lib.hid (fmtPol_spec true X1 X2 X3 (N) b1 m1 k1 b2 m2 k2 b3 m3 k3 HSM.out w2b (HOX.out.reads (p := ⟨true, X1, X2, X3, N⟩)))
      obtain ⟨T, hT⟩ : ∃ x, fmtP ⟨true, X1, X2, X3, N⟩ = x := ⟨_, rfl⟩
      rw [hT] at HPP HFM; clear hT
      go_wp2_with fail
      refine HFM.out.mono ?_
      rintro e w3 ⟨rfl, hb3⟩
      have HO3 := Lib.hid (HOX.out.later hb3); have HB3 := Lib.hid (show Below W0.heap.size W0 w3 from bl_tr (bl_tr HB2.out HBF.out) hb3); have HBX3 := Lib.hid (below_heap hb3 (heap_lt HBOX.out) HBOX.out); clear hb3
      have HRX := Lib.hid (below_heap HB3.out (heap_lt H0.out) H0.out)
      have hw2 : w.heap.size < w2.heap.size := heap_lt HBX.out
      clear q0 q1 q2 q3 q4
      have q0 := box_cell HBX3.out (j := 0) rfl
      have q1 := box_cell HBX3.out (j := 1) rfl
      have q2 := box_cell HBX3.out (j := 2) rfl
      have q3 := box_cell HBX3.out (j := 3) rfl
      have q4 := box_cell HBX3.out (j := 4) rfl
      by_cases hts : T = s
      · have e2 : (T.toList == s.toList) = true := beqL_yes hts; have e3 : (T.toList != s.toList) = false := by rw [bne, e2]; rfl
        have HRR := Lib.hid (show prsP s = (⟨true, X1, X2, X3, N⟩, true) by rw [HPP.out, if_pos hts]); clear hts HPP
        have y0 := box_cell HRX.out (j := 0) rfl; have x0 := box_frz HRX.out 0
        have y1 := box_cell HRX.out (j := 1) rfl; have x1 := box_frz HRX.out 1
        have y2 := box_cell HRX.out (j := 2) rfl; have x2 := box_frz HRX.out 2
        have y3 := box_cell HRX.out (j := 3) rfl; have x3 := box_frz HRX.out 3
        have y4 := box_cell HRX.out (j := 4) rfl; have x4 := box_frz HRX.out 4
        go_wp2_with fail
        obtain ⟨w9, hw9⟩ : ∃ x, (((((w3.setCell ⟨w.heap.size, 0, none⟩ (.bool true)).setCell ⟨w.heap.size, 1, none⟩ (.slice b1 m1 k1)).setCell ⟨w.heap.size, 2, none⟩ (.slice b2 m2 k2)).setCell ⟨w.heap.size, 3, none⟩ (.slice b3 m3 k3)).setCell ⟨w.heap.size, 4, none⟩ (.string (N))) = x := ⟨_, rfl⟩
        rw [hw9]
        have hon : OnlyB [w.heap.size] w3 w9 := by rw [← hw9]; exact set5_only w3 (w.heap.size) _ _ _ _ _
        have hb9 := set5_box HRX.out (.bool true) (.slice b1 m1 k1) (.slice b2 m2 k2) (.slice b3 m3 k3) (.string (N))
        rw [show set5 w3 (w.heap.size) (.bool true) (.slice b1 m1 k1) (.slice b2 m2 k2) (.slice b3 m3 k3) (.string (N)) = w9 from hw9] at hb9
        have r0 := box_cell hb9 (j := 0) rfl
        have r1 := box_cell hb9 (j := 1) rfl
        have r2 := box_cell hb9 (j := 2) rfl
        have r3 := box_cell hb9 (j := 3) rfl
        have r4 := box_cell hb9 (j := 4) rfl
        refine bodyPost_ret (v := .tuple #[.agg #[.bool true, .slice b1 m1 k1, .slice b2 m2 k2, .slice b3 m3 k3, .string (N)], .bool true]) (by simp [results, Tryd.results42, go_sem, r0, r1, r2, r3, r4]) rfl ?_
        have hbl := (HB0.out.trans (HB3.out.mono HB0.out.size))
        try unfold PrsNew
        try rw [HRR.out]
        refine ⟨b1, m1, k1, b2, m2, k2, b3, m3, k3, rfl, (HO3.out.only hon (fun b hb => by rw [List.mem_singleton] at hb; omega)).low (Nat.le_of_lt hw2), ?_⟩
        exact hbl.trans (hon.below (fun i hi => by rw [List.mem_singleton] at hi; omega) hbl.size)
      · have e2 : (T.toList == s.toList) = false := beqL_no hts; have e3 : (T.toList != s.toList) = true := by rw [bne, e2]; rfl
        have HRR := Lib.hid (show prsP s = (polZ, false) by rw [HPP.out, if_neg hts]); clear hts HPP
        have y0 := box_cell HRX.out (j := 0) rfl; have x0 := box_frz HRX.out 0
        have y1 := box_cell HRX.out (j := 1) rfl; have x1 := box_frz HRX.out 1
        have y2 := box_cell HRX.out (j := 2) rfl; have x2 := box_frz HRX.out 2
        have y3 := box_cell HRX.out (j := 3) rfl; have x3 := box_frz HRX.out 3
        have y4 := box_cell HRX.out (j := 4) rfl; have x4 := box_frz HRX.out 4
        go_wp2_with fail
        obtain ⟨w9, hw9⟩ : ∃ x, (((((w3.setCell ⟨w.heap.size, 0, none⟩ (.bool false)).setCell ⟨w.heap.size, 1, none⟩ (.slice none 0 0)).setCell ⟨w.heap.size, 2, none⟩ (.slice none 0 0)).setCell ⟨w.heap.size, 3, none⟩ (.slice none 0 0)).setCell ⟨w.heap.size, 4, none⟩ (.string ⟨#[]⟩)) = x := ⟨_, rfl⟩
        rw [hw9]
        have hon : OnlyB [w.heap.size] w3 w9 := by rw [← hw9]; exact set5_only w3 (w.heap.size) _ _ _ _ _
        have hb9 := set5_box HRX.out (.bool false) (.slice none 0 0) (.slice none 0 0) (.slice none 0 0) (.string ⟨#[]⟩)
        rw [show set5 w3 (w.heap.size) (.bool false) (.slice none 0 0) (.slice none 0 0) (.slice none 0 0) (.string ⟨#[]⟩) = w9 from hw9] at hb9
        have r0 := box_cell hb9 (j := 0) rfl
        have r1 := box_cell hb9 (j := 1) rfl
        have r2 := box_cell hb9 (j := 2) rfl
        have r3 := box_cell hb9 (j := 3) rfl
        have r4 := box_cell hb9 (j := 4) rfl
        refine bodyPost_ret (v := .tuple #[.agg #[.bool false, .slice none 0 0, .slice none 0 0, .slice none 0 0, .string ⟨#[]⟩], .bool false]) (by simp [results, Tryd.results42, go_sem, r0, r1, r2, r3, r4]) rfl ?_
        have hbl := (HB0.out.trans (HB3.out.mono HB0.out.size))
        try unfold PrsNew
        try rw [HRR.out]
        refine ⟨none, 0, 0, none, 0, 0, none, 0, 0, rfl, own3O_zero _ _, ?_⟩
        exact hbl.trans (hon.below (fun i hi => by rw [List.mem_singleton] at hi; omega) hbl.size)
    · have d6 : decide ((6 : Int) < (d.size : Int)) = false := decide_eq_false (by omega)
      have d6i : ¬ (6 : Int) < (d.size : Int) := by omega
      have HRM := Lib.hid (show rdM s = some ⟨true, X1, X2, X3, ⟨#[]⟩⟩ by rw [rdM_1 HL.out h6, HE1.out, HE2.out, HE3.out])
      have HBOX := Lib.hid hbox; have HOX := Lib.hid how; have HBF := Lib.hid hbf; clear hbox how hbf
      go_upto_region 9 with (fail)
      have HPP := Lib.hid (prsP_some HS0.out HRM.out)
      have HSM := Lib.hid (rdM_sm hz HRM.out)
      have q0 := box_cell HBOX.out (j := 0) rfl
      have q1 := box_cell HBOX.out (j := 1) rfl
      have q2 := box_cell HBOX.out (j := 2) rfl
      have q3 := box_cell HBOX.out (j := 3) rfl
      have q4 := box_cell HBOX.out (j := 4) rfl
      have HFM := Lib.hid (fmtPol_spec true X1 X2 X3 (⟨#[]⟩) b1 m1 k1 b2 m2 k2 b3 m3 k3 HSM.out wx (HOX.out.reads (p := ⟨true, X1, X2, X3, ⟨#[]⟩⟩)))
      obtain ⟨T, hT⟩ : ∃ x, fmtP ⟨true, X1, X2, X3, ⟨#[]⟩⟩ = x := ⟨_, rfl⟩
      rw [hT] at HPP HFM; clear hT
      go_wp2_with fail
      refine HFM.out.mono ?_
      rintro e w3 ⟨rfl, hb3⟩
      have HO3 := Lib.hid (HOX.out.later hb3); have HB3 := Lib.hid (show Below W0.heap.size W0 w3 from bl_tr (bl_tr HB2.out HBF.out) hb3); have HBX3 := Lib.hid (below_heap hb3 (heap_lt HBOX.out) HBOX.out); clear hb3
      have HRX := Lib.hid (below_heap HB3.out (heap_lt H0.out) H0.out)
      have hw2 : w.heap.size < w2.heap.size := heap_lt HBX.out
      clear q0 q1 q2 q3 q4
      have q0 := box_cell HBX3.out (j := 0) rfl
      have q1 := box_cell HBX3.out (j := 1) rfl
      have q2 := box_cell HBX3.out (j := 2) rfl
      have q3 := box_cell HBX3.out (j := 3) rfl
      have q4 := box_cell HBX3.out (j := 4) rfl
      by_cases hts : T = s
      · have e2 : (T.toList == s.toList) = true := beqL_yes hts; have e3 : (T.toList != s.toList) = false := by rw [bne, e2]; rfl
        have HRR := Lib.hid (show prsP s = (⟨true, X1, X2, X3, ⟨#[]⟩⟩, true) by rw [HPP.out, if_pos hts]); clear hts HPP
        have y0 := box_cell HRX.out (j := 0) rfl; have x0 := box_frz HRX.out 0
        have y1 := box_cell HRX.out (j := 1) rfl; have x1 := box_frz HRX.out 1
        have y2 := box_cell HRX.out (j := 2) rfl; have x2 := box_frz HRX.out 2
        have y3 := box_cell HRX.out (j := 3) rfl; have x3 := box_frz HRX.out 3
        have y4 := box_cell HRX.out (j := 4) rfl; have x4 := box_frz HRX.out 4
        go_wp2_with fail
        obtain ⟨w9, hw9⟩ : ∃ x, (((((w3.setCell ⟨w.heap.size, 0, none⟩ (.bool true)).setCell ⟨w.heap.size, 1, none⟩ (.slice b1 m1 k1)).setCell ⟨w.heap.size, 2, none⟩ (.slice b2 m2 k2)).setCell ⟨w.heap.size, 3, none⟩ (.slice b3 m3 k3)).setCell ⟨w.heap.size, 4, none⟩ (.string (⟨#[]⟩))) = x := ⟨_, rfl⟩
        rw [hw9]
        have hon : OnlyB [w.heap.size] w3 w9 := by rw [← hw9]; exact set5_only w3 (w.heap.size) _ _ _ _ _
        have hb9 := set5_box HRX.out (.bool true) (.slice b1 m1 k1) (.slice b2 m2 k2) (.slice b3 m3 k3) (.string (⟨#[]⟩))
        rw [show set5 w3 (w.heap.size) (.bool true) (.slice b1 m1 k1) (.slice b2 m2 k2) (.slice b3 m3 k3) (.string (⟨#[]⟩)) = w9 from hw9] at hb9
        have r0 := box_cell hb9 (j := 0) rfl
        have r1 := box_cell hb9 (j := 1) rfl
        have r2 := box_cell hb9 (j := 2) rfl
        have r3 := box_cell hb9 (j := 3) rfl
        have r4 := box_cell hb9 (j := 4) rfl
        refine bodyPost_ret (v := .tuple #[.agg #[.bool true, .slice b1 m1 k1, .slice b2 m2 k2, .slice b3 m3 k3, .string (⟨#[]⟩)], .bool true]) (by simp [results, Tryd.results42, go_sem, r0, r1, r2, r3, r4]) rfl ?_
        have hbl := (HB0.out.trans (HB3.out.mono HB0.out.size))
        try unfold PrsNew
        try rw [HRR.out]
        refine ⟨b1, m1, k1, b2, m2, k2, b3, m3, k3, rfl, (HO3.out.only hon (fun b hb => by rw [List.mem_singleton] at hb; omega)).low (Nat.le_of_lt hw2), ?_⟩
        exact hbl.trans (hon.below (fun i hi => by rw [List.mem_singleton] at hi; omega) hbl.size)
      · have e2 : (T.toList == s.toList) = false := beqL_no hts; have e3 : (T.toList != s.toList) = true := by rw [bne, e2]; rfl
        have HRR := Lib.hid (show prsP s = (polZ, false) by rw [HPP.out, if_neg hts]); clear hts HPP
        have y0 := box_cell HRX.out (j := 0) rfl; have x0 := box_frz HRX.out 0
        have y1 := box_cell HRX.out (j := 1) rfl; have x1 := box_frz HRX.out 1
        have y2 := box_cell HRX.out (j := 2) rfl; have x2 := box_frz HRX.out 2
        have y3 := box_cell HRX.out (j := 3) rfl; have x3 := box_frz HRX.out 3
        have y4 := box_cell HRX.out (j := 4) rfl; have x4 := box_frz HRX.out 4
        go_wp2_with fail
        obtain ⟨w9, hw9⟩ : ∃ x, (((((w3.setCell ⟨w.heap.size, 0, none⟩ (.bool false)).setCell ⟨w.heap.size, 1, none⟩ (.slice none 0 0)).setCell ⟨w.heap.size, 2, none⟩ (.slice none 0 0)).setCell ⟨w.heap.size, 3, none⟩ (.slice none 0 0)).setCell ⟨w.heap.size, 4, none⟩ (.string ⟨#[]⟩)) = x := ⟨_, rfl⟩
        rw [hw9]
        have hon : OnlyB [w.heap.size] w3 w9 := by rw [← hw9]; exact set5_only w3 (w.heap.size) _ _ _ _ _
        have hb9 := set5_box HRX.out (.bool false) (.slice none 0 0) (.slice none 0 0) (.slice none 0 0) (.string ⟨#[]⟩)
        rw [show set5 w3 (w.heap.size) (.bool false) (.slice none 0 0) (.slice none 0 0) (.slice none 0 0) (.string ⟨#[]⟩) = w9 from hw9] at hb9
        have r0 := box_cell hb9 (j := 0) rfl
        have r1 := box_cell hb9 (j := 1) rfl
        have r2 := box_cell hb9 (j := 2) rfl
        have r3 := box_cell hb9 (j := 3) rfl
        have r4 := box_cell hb9 (j := 4) rfl
        refine bodyPost_ret (v := .tuple #[.agg #[.bool false, .slice none 0 0, .slice none 0 0, .slice none 0 0, .string ⟨#[]⟩], .bool false]) (by simp [results, Tryd.results42, go_sem, r0, r1, r2, r3, r4]) rfl ?_
        have hbl := (HB0.out.trans (HB3.out.mono HB0.out.size))
        try unfold PrsNew
        try rw [HRR.out]
        refine ⟨none, 0, 0, none, 0, 0, none, 0, 0, rfl, own3O_zero _ _, ?_⟩
        exact hbl.trans (hon.below (fun i hi => by rw [List.mem_singleton] at hi; omega) hbl.size)

end Go.Proofs.YtpkicliimhflgaaDoor
namespace Go.Proofs.YtpkicliimhflgaaDoor
open Go.ChangeShapes Go.WideShapes Go.ChangeAt Go.RowKit

def isRs (st kd : Int) (bo : ByteArray) (ag : Int) (po : ByteArray) : Bool := inB st 100 599 && inB kd 1 5 && decide (bo.size ≤ 400) && inB ag 0 1000 && (prsP po).2

set_option maxRecDepth 100000 in
set_option maxHeartbeats 2000000 in
theorem isRs_spec (st kd : Int) (bo : ByteArray) (ag : Int) (sh : Bool) (po : ByteArray) (hz : po.size ≤ 1048576) (w : World) :
    Calls Tryd.prog 26 #[.agg #[.int .i64 st, .int .i64 kd, .string bo, .int .i64 ag, .bool sh, .string po]] w fun e w' => e = .returned (.bool (isRs st kd bo ag po)) ∧ Below w.heap.size w w' := by
  obtain ⟨W, hW⟩ : ∃ W, w.alloc (.cells #[.int .i64 st, .int .i64 kd, .string bo, .int .i64 ag, .bool sh, .string po] 47) = W := ⟨_, rfl⟩
  have HB := Lib.hid (show Below w.heap.size w W by rw [← hW]; exact bl_aw (Below.refl _ _) _)
  have q0 : W.cell? ⟨w.heap.size, 0, none⟩ = some (.int .i64 st) := by rw [← hW]; simp
  have q1 : W.cell? ⟨w.heap.size, 1, none⟩ = some (.int .i64 kd) := by rw [← hW]; simp
  have q2 : W.cell? ⟨w.heap.size, 2, none⟩ = some (.string bo) := by rw [← hW]; simp
  have q3 : W.cell? ⟨w.heap.size, 3, none⟩ = some (.int .i64 ag) := by rw [← hW]; simp
  have q4 : W.cell? ⟨w.heap.size, 4, none⟩ = some (.bool sh) := by rw [← hW]; simp
  have q5 : W.cell? ⟨w.heap.size, 5, none⟩ = some (.string po) := by rw [← hW]; simp
  have HW := Lib.hid hW; clear hW
  obtain ⟨⟨q, ok⟩, hq⟩ : ∃ r, prsP po = r := ⟨_, rfl⟩
  have HP := Lib.hid (hq ▸ prs_spec po hz W)
  have HV := Lib.hid (show isRs st kd bo ag po = (inB st 100 599 && inB kd 1 5 && decide (bo.size ≤ 400) && inB ag 0 1000 && ok) by unfold isRs; rw [hq])
  clear hq hz
  have HI1 := Lib.hid (fun X => lin_any st 100 599 X); have HI2 := Lib.hid (fun X => lin_any kd 1 5 X); have HI3 := Lib.hid (fun X => lin_any ag 0 1000 X)
  cases e1 : inB st 100 599 with
  | false =>
    rw [e1] at HI1 HV; clear e1
    go_enter Tryd.func26, Tryd.ntmps26
    go_wp2_with fail
    rw [HW.out]
    refine HP.out.mono ?_
    rintro e w1 ⟨a1, n1, c1, a2, n2, c2, a3, n3, c3, rfl, -, hb⟩
    replace q0 := (hb.cell (show (⟨w.heap.size, 0, none⟩ : Addr).block < _ from World.block_lt_of_cell? _ _ q0)).trans q0
    replace q1 := (hb.cell (show (⟨w.heap.size, 1, none⟩ : Addr).block < _ from World.block_lt_of_cell? _ _ q1)).trans q1
    replace q2 := (hb.cell (show (⟨w.heap.size, 2, none⟩ : Addr).block < _ from World.block_lt_of_cell? _ _ q2)).trans q2
    replace q3 := (hb.cell (show (⟨w.heap.size, 3, none⟩ : Addr).block < _ from World.block_lt_of_cell? _ _ q3)).trans q3
    replace q4 := (hb.cell (show (⟨w.heap.size, 4, none⟩ : Addr).block < _ from World.block_lt_of_cell? _ _ q4)).trans q4
    replace q5 := (hb.cell (show (⟨w.heap.size, 5, none⟩ : Addr).block < _ from World.block_lt_of_cell? _ _ q5)).trans q5
    replace HB := Lib.hid (HB.out.trans (hb.mono HB.out.size)); clear hb
    go_upto_region 2 with (fail)
    obtain ⟨w2, hw2⟩ : ∃ x, w1.alloc (.cells #[.bool q.set, .slice a1 n1 c1, .slice a2 n2 c2, .slice a3 n3 c3, .string q.non] 75) = x := ⟨_, rfl⟩
    rw [hw2]
    have hb2 : Below w1.heap.size w1 w2 := by rw [← hw2]; exact bl_aw (Below.refl _ _) _
    replace q0 := (hb2.cell (show (⟨w.heap.size, 0, none⟩ : Addr).block < _ from World.block_lt_of_cell? _ _ q0)).trans q0
    replace q1 := (hb2.cell (show (⟨w.heap.size, 1, none⟩ : Addr).block < _ from World.block_lt_of_cell? _ _ q1)).trans q1
    replace q2 := (hb2.cell (show (⟨w.heap.size, 2, none⟩ : Addr).block < _ from World.block_lt_of_cell? _ _ q2)).trans q2
    replace q3 := (hb2.cell (show (⟨w.heap.size, 3, none⟩ : Addr).block < _ from World.block_lt_of_cell? _ _ q3)).trans q3
    replace q4 := (hb2.cell (show (⟨w.heap.size, 4, none⟩ : Addr).block < _ from World.block_lt_of_cell? _ _ q4)).trans q4
    replace q5 := (hb2.cell (show (⟨w.heap.size, 5, none⟩ : Addr).block < _ from World.block_lt_of_cell? _ _ q5)).trans q5
    replace HB := Lib.hid (HB.out.trans (hb2.mono HB.out.size)); clear hb2 hw2
    go_wp2_with fail
    refine (HI1.out _).mono ?_
    rintro e wz ⟨rfl, rfl⟩
    go_wp2_with fail
    go_ret
    exact ⟨by rw [HV.out]; rfl, HB.out⟩
  | true =>
    rw [e1] at HI1 HV; clear e1
    cases e2 : inB kd 1 5 with
    | false =>
      rw [e2] at HI2 HV; clear e2
      go_enter Tryd.func26, Tryd.ntmps26
      go_wp2_with fail
      rw [HW.out]
      refine HP.out.mono ?_
      rintro e w1 ⟨a1, n1, c1, a2, n2, c2, a3, n3, c3, rfl, -, hb⟩
      replace q0 := (hb.cell (show (⟨w.heap.size, 0, none⟩ : Addr).block < _ from World.block_lt_of_cell? _ _ q0)).trans q0
      replace q1 := (hb.cell (show (⟨w.heap.size, 1, none⟩ : Addr).block < _ from World.block_lt_of_cell? _ _ q1)).trans q1
      replace q2 := (hb.cell (show (⟨w.heap.size, 2, none⟩ : Addr).block < _ from World.block_lt_of_cell? _ _ q2)).trans q2
      replace q3 := (hb.cell (show (⟨w.heap.size, 3, none⟩ : Addr).block < _ from World.block_lt_of_cell? _ _ q3)).trans q3
      replace q4 := (hb.cell (show (⟨w.heap.size, 4, none⟩ : Addr).block < _ from World.block_lt_of_cell? _ _ q4)).trans q4
      replace q5 := (hb.cell (show (⟨w.heap.size, 5, none⟩ : Addr).block < _ from World.block_lt_of_cell? _ _ q5)).trans q5
      replace HB := Lib.hid (HB.out.trans (hb.mono HB.out.size)); clear hb
      go_upto_region 2 with (fail)
      obtain ⟨w2, hw2⟩ : ∃ x, w1.alloc (.cells #[.bool q.set, .slice a1 n1 c1, .slice a2 n2 c2, .slice a3 n3 c3, .string q.non] 75) = x := ⟨_, rfl⟩
      rw [hw2]
      have hb2 : Below w1.heap.size w1 w2 := by rw [← hw2]; exact bl_aw (Below.refl _ _) _
      replace q0 := (hb2.cell (show (⟨w.heap.size, 0, none⟩ : Addr).block < _ from World.block_lt_of_cell? _ _ q0)).trans q0
      replace q1 := (hb2.cell (show (⟨w.heap.size, 1, none⟩ : Addr).block < _ from World.block_lt_of_cell? _ _ q1)).trans q1
      replace q2 := (hb2.cell (show (⟨w.heap.size, 2, none⟩ : Addr).block < _ from World.block_lt_of_cell? _ _ q2)).trans q2
      replace q3 := (hb2.cell (show (⟨w.heap.size, 3, none⟩ : Addr).block < _ from World.block_lt_of_cell? _ _ q3)).trans q3
      replace q4 := (hb2.cell (show (⟨w.heap.size, 4, none⟩ : Addr).block < _ from World.block_lt_of_cell? _ _ q4)).trans q4
      replace q5 := (hb2.cell (show (⟨w.heap.size, 5, none⟩ : Addr).block < _ from World.block_lt_of_cell? _ _ q5)).trans q5
      replace HB := Lib.hid (HB.out.trans (hb2.mono HB.out.size)); clear hb2 hw2
      go_wp2_with fail
      refine (HI1.out _).mono ?_
      rintro e wz ⟨rfl, rfl⟩
      go_wp2_with fail
      refine (HI2.out _).mono ?_
      rintro e wz ⟨rfl, rfl⟩
      go_wp2_with fail
      go_ret
      exact ⟨by rw [HV.out]; rfl, HB.out⟩
    | true =>
      rw [e2] at HI2 HV; clear e2
      by_cases h4 : bo.size ≤ 400
      · have d1 : decide ((400 : Int) < (bo.size : Int)) = false := decide_eq_false (by omega); have d2 : decide ((bo.size : Int) ≤ 400) = true := decide_eq_true (by omega); have d3 : ¬ (400 : Int) < (bo.size : Int) := (by omega); have d4 : (bo.size : Int) ≤ 400 := (by omega)
        rw [decide_eq_true h4] at HV; clear h4
        cases e3 : inB ag 0 1000 with
        | false =>
          rw [e3] at HI3 HV; clear e3
          go_enter Tryd.func26, Tryd.ntmps26
          go_wp2_with fail
          rw [HW.out]
          refine HP.out.mono ?_
          rintro e w1 ⟨a1, n1, c1, a2, n2, c2, a3, n3, c3, rfl, -, hb⟩
          replace q0 := (hb.cell (show (⟨w.heap.size, 0, none⟩ : Addr).block < _ from World.block_lt_of_cell? _ _ q0)).trans q0
          replace q1 := (hb.cell (show (⟨w.heap.size, 1, none⟩ : Addr).block < _ from World.block_lt_of_cell? _ _ q1)).trans q1
          replace q2 := (hb.cell (show (⟨w.heap.size, 2, none⟩ : Addr).block < _ from World.block_lt_of_cell? _ _ q2)).trans q2
          replace q3 := (hb.cell (show (⟨w.heap.size, 3, none⟩ : Addr).block < _ from World.block_lt_of_cell? _ _ q3)).trans q3
          replace q4 := (hb.cell (show (⟨w.heap.size, 4, none⟩ : Addr).block < _ from World.block_lt_of_cell? _ _ q4)).trans q4
          replace q5 := (hb.cell (show (⟨w.heap.size, 5, none⟩ : Addr).block < _ from World.block_lt_of_cell? _ _ q5)).trans q5
          replace HB := Lib.hid (HB.out.trans (hb.mono HB.out.size)); clear hb
          go_upto_region 2 with (fail)
          obtain ⟨w2, hw2⟩ : ∃ x, w1.alloc (.cells #[.bool q.set, .slice a1 n1 c1, .slice a2 n2 c2, .slice a3 n3 c3, .string q.non] 75) = x := ⟨_, rfl⟩
          rw [hw2]
          have hb2 : Below w1.heap.size w1 w2 := by rw [← hw2]; exact bl_aw (Below.refl _ _) _
          replace q0 := (hb2.cell (show (⟨w.heap.size, 0, none⟩ : Addr).block < _ from World.block_lt_of_cell? _ _ q0)).trans q0
          replace q1 := (hb2.cell (show (⟨w.heap.size, 1, none⟩ : Addr).block < _ from World.block_lt_of_cell? _ _ q1)).trans q1
          replace q2 := (hb2.cell (show (⟨w.heap.size, 2, none⟩ : Addr).block < _ from World.block_lt_of_cell? _ _ q2)).trans q2
          replace q3 := (hb2.cell (show (⟨w.heap.size, 3, none⟩ : Addr).block < _ from World.block_lt_of_cell? _ _ q3)).trans q3
          replace q4 := (hb2.cell (show (⟨w.heap.size, 4, none⟩ : Addr).block < _ from World.block_lt_of_cell? _ _ q4)).trans q4
          replace q5 := (hb2.cell (show (⟨w.heap.size, 5, none⟩ : Addr).block < _ from World.block_lt_of_cell? _ _ q5)).trans q5
          replace HB := Lib.hid (HB.out.trans (hb2.mono HB.out.size)); clear hb2 hw2
          go_wp2_with fail
          refine (HI1.out _).mono ?_
          rintro e wz ⟨rfl, rfl⟩
          go_wp2_with fail
          refine (HI2.out _).mono ?_
          rintro e wz ⟨rfl, rfl⟩
          go_wp2_with fail
          refine (HI3.out _).mono ?_
          rintro e wz ⟨rfl, rfl⟩
          go_wp2_with fail
          go_ret
          exact ⟨by rw [HV.out]; rfl, HB.out⟩
        | true =>
          rw [e3] at HI3 HV; clear e3
          go_enter Tryd.func26, Tryd.ntmps26
          go_wp2_with fail
          rw [HW.out]
          refine HP.out.mono ?_
          rintro e w1 ⟨a1, n1, c1, a2, n2, c2, a3, n3, c3, rfl, -, hb⟩
          replace q0 := (hb.cell (show (⟨w.heap.size, 0, none⟩ : Addr).block < _ from World.block_lt_of_cell? _ _ q0)).trans q0
          replace q1 := (hb.cell (show (⟨w.heap.size, 1, none⟩ : Addr).block < _ from World.block_lt_of_cell? _ _ q1)).trans q1
          replace q2 := (hb.cell (show (⟨w.heap.size, 2, none⟩ : Addr).block < _ from World.block_lt_of_cell? _ _ q2)).trans q2
          replace q3 := (hb.cell (show (⟨w.heap.size, 3, none⟩ : Addr).block < _ from World.block_lt_of_cell? _ _ q3)).trans q3
          replace q4 := (hb.cell (show (⟨w.heap.size, 4, none⟩ : Addr).block < _ from World.block_lt_of_cell? _ _ q4)).trans q4
          replace q5 := (hb.cell (show (⟨w.heap.size, 5, none⟩ : Addr).block < _ from World.block_lt_of_cell? _ _ q5)).trans q5
          replace HB := Lib.hid (HB.out.trans (hb.mono HB.out.size)); clear hb
          go_upto_region 2 with (fail)
          obtain ⟨w2, hw2⟩ : ∃ x, w1.alloc (.cells #[.bool q.set, .slice a1 n1 c1, .slice a2 n2 c2, .slice a3 n3 c3, .string q.non] 75) = x := ⟨_, rfl⟩
          rw [hw2]
          have hb2 : Below w1.heap.size w1 w2 := by rw [← hw2]; exact bl_aw (Below.refl _ _) _
          replace q0 := (hb2.cell (show (⟨w.heap.size, 0, none⟩ : Addr).block < _ from World.block_lt_of_cell? _ _ q0)).trans q0
          replace q1 := (hb2.cell (show (⟨w.heap.size, 1, none⟩ : Addr).block < _ from World.block_lt_of_cell? _ _ q1)).trans q1
          replace q2 := (hb2.cell (show (⟨w.heap.size, 2, none⟩ : Addr).block < _ from World.block_lt_of_cell? _ _ q2)).trans q2
          replace q3 := (hb2.cell (show (⟨w.heap.size, 3, none⟩ : Addr).block < _ from World.block_lt_of_cell? _ _ q3)).trans q3
          replace q4 := (hb2.cell (show (⟨w.heap.size, 4, none⟩ : Addr).block < _ from World.block_lt_of_cell? _ _ q4)).trans q4
          replace q5 := (hb2.cell (show (⟨w.heap.size, 5, none⟩ : Addr).block < _ from World.block_lt_of_cell? _ _ q5)).trans q5
          replace HB := Lib.hid (HB.out.trans (hb2.mono HB.out.size)); clear hb2 hw2
          go_wp2_with fail
          refine (HI1.out _).mono ?_
          rintro e wz ⟨rfl, rfl⟩
          go_wp2_with fail
          refine (HI2.out _).mono ?_
          rintro e wz ⟨rfl, rfl⟩
          go_wp2_with fail
          refine (HI3.out _).mono ?_
          rintro e wz ⟨rfl, rfl⟩
          go_wp2_with fail
          go_ret
          exact ⟨by rw [HV.out]; rfl, HB.out⟩
      · have d1 : decide ((400 : Int) < (bo.size : Int)) = true := decide_eq_true (by omega); have d2 : decide ((bo.size : Int) ≤ 400) = false := decide_eq_false (by omega); have d3 : (400 : Int) < (bo.size : Int) := (by omega); have d4 : ¬ (bo.size : Int) ≤ 400 := (by omega)
        rw [decide_eq_false h4] at HV; clear h4
        go_enter Tryd.func26, Tryd.ntmps26
        go_wp2_with fail
        rw [HW.out]
        refine HP.out.mono ?_
        rintro e w1 ⟨a1, n1, c1, a2, n2, c2, a3, n3, c3, rfl, -, hb⟩
        replace q0 := (hb.cell (show (⟨w.heap.size, 0, none⟩ : Addr).block < _ from World.block_lt_of_cell? _ _ q0)).trans q0
        replace q1 := (hb.cell (show (⟨w.heap.size, 1, none⟩ : Addr).block < _ from World.block_lt_of_cell? _ _ q1)).trans q1
        replace q2 := (hb.cell (show (⟨w.heap.size, 2, none⟩ : Addr).block < _ from World.block_lt_of_cell? _ _ q2)).trans q2
        replace q3 := (hb.cell (show (⟨w.heap.size, 3, none⟩ : Addr).block < _ from World.block_lt_of_cell? _ _ q3)).trans q3
        replace q4 := (hb.cell (show (⟨w.heap.size, 4, none⟩ : Addr).block < _ from World.block_lt_of_cell? _ _ q4)).trans q4
        replace q5 := (hb.cell (show (⟨w.heap.size, 5, none⟩ : Addr).block < _ from World.block_lt_of_cell? _ _ q5)).trans q5
        replace HB := Lib.hid (HB.out.trans (hb.mono HB.out.size)); clear hb
        go_upto_region 2 with (fail)
        obtain ⟨w2, hw2⟩ : ∃ x, w1.alloc (.cells #[.bool q.set, .slice a1 n1 c1, .slice a2 n2 c2, .slice a3 n3 c3, .string q.non] 75) = x := ⟨_, rfl⟩
        rw [hw2]
        have hb2 : Below w1.heap.size w1 w2 := by rw [← hw2]; exact bl_aw (Below.refl _ _) _
        replace q0 := (hb2.cell (show (⟨w.heap.size, 0, none⟩ : Addr).block < _ from World.block_lt_of_cell? _ _ q0)).trans q0
        replace q1 := (hb2.cell (show (⟨w.heap.size, 1, none⟩ : Addr).block < _ from World.block_lt_of_cell? _ _ q1)).trans q1
        replace q2 := (hb2.cell (show (⟨w.heap.size, 2, none⟩ : Addr).block < _ from World.block_lt_of_cell? _ _ q2)).trans q2
        replace q3 := (hb2.cell (show (⟨w.heap.size, 3, none⟩ : Addr).block < _ from World.block_lt_of_cell? _ _ q3)).trans q3
        replace q4 := (hb2.cell (show (⟨w.heap.size, 4, none⟩ : Addr).block < _ from World.block_lt_of_cell? _ _ q4)).trans q4
        replace q5 := (hb2.cell (show (⟨w.heap.size, 5, none⟩ : Addr).block < _ from World.block_lt_of_cell? _ _ q5)).trans q5
        replace HB := Lib.hid (HB.out.trans (hb2.mono HB.out.size)); clear hb2 hw2
        go_wp2_with fail
        refine (HI1.out _).mono ?_
        rintro e wz ⟨rfl, rfl⟩
        go_wp2_with fail
        refine (HI2.out _).mono ?_
        rintro e wz ⟨rfl, rfl⟩
        go_wp2_with fail
        go_ret
        exact ⟨by rw [HV.out]; rfl, HB.out⟩

set_option maxRecDepth 100000 in
set_option maxHeartbeats 2000000 in
theorem isRs_impl (st kd : Int) (bo : ByteArray) (ag : Int) (sh : Bool) (po : ByteArray) (hz : po.size ≤ 1048576) (w : World) (hm : Max0 w) :
    Calls Tryd.prog 45 #[.agg #[.int .i64 st, .int .i64 kd, .string bo, .int .i64 ag, .bool sh, .string po]] w fun e w' => e = .returned (.bool (isRs st kd bo ag po)) ∧ Below w.heap.size w w' := by
  obtain ⟨W, hW⟩ : ∃ W, w.alloc (.cells #[.int .i64 st, .int .i64 kd, .string bo, .int .i64 ag, .bool sh, .string po] 47) = W := ⟨_, rfl⟩
  have HB := Lib.hid (show Below w.heap.size w W by rw [← hW]; exact bl_aw (Below.refl _ _) _)
  have q0 : W.cell? ⟨w.heap.size, 0, none⟩ = some (.int .i64 st) := by rw [← hW]; simp
  have q1 : W.cell? ⟨w.heap.size, 1, none⟩ = some (.int .i64 kd) := by rw [← hW]; simp
  have q2 : W.cell? ⟨w.heap.size, 2, none⟩ = some (.string bo) := by rw [← hW]; simp
  have q3 : W.cell? ⟨w.heap.size, 3, none⟩ = some (.int .i64 ag) := by rw [← hW]; simp
  have q4 : W.cell? ⟨w.heap.size, 4, none⟩ = some (.bool sh) := by rw [← hW]; simp
  have q5 : W.cell? ⟨w.heap.size, 5, none⟩ = some (.string po) := by rw [← hW]; simp
  have HW := Lib.hid hW; clear hW
  obtain ⟨⟨q, ok⟩, hq⟩ : ∃ r, prsP po = r := ⟨_, rfl⟩
  have HP := Lib.hid (hq ▸ prs_impl po hz W (hm.on HB.out))
  have HV := Lib.hid (show isRs st kd bo ag po = (inB st 100 599 && inB kd 1 5 && decide (bo.size ≤ 400) && inB ag 0 1000 && ok) by unfold isRs; rw [hq])
  clear hq hz hm
  have HI1 := Lib.hid (fun X => rin_any st 100 599 X); have HI2 := Lib.hid (fun X => rin_any kd 1 5 X); have HI3 := Lib.hid (fun X => rin_any ag 0 1000 X)
  cases e1 : inB st 100 599 with
  | false =>
    rw [e1] at HI1 HV; clear e1
    go_enter Tryd.func45, Tryd.ntmps45
    go_wp2_with fail
    rw [HW.out]
    refine (HI1.out _).mono ?_
    rintro e wz ⟨rfl, rfl⟩
    go_wp2_with fail
    go_ret
    exact ⟨by rw [HV.out]; rfl, HB.out⟩
  | true =>
    rw [e1] at HI1 HV; clear e1
    cases e2 : inB kd 1 5 with
    | false =>
      rw [e2] at HI2 HV; clear e2
      go_enter Tryd.func45, Tryd.ntmps45
      go_wp2_with fail
      rw [HW.out]
      refine (HI1.out _).mono ?_
      rintro e wz ⟨rfl, rfl⟩
      go_wp2_with fail
      refine (HI2.out _).mono ?_
      rintro e wz ⟨rfl, rfl⟩
      go_wp2_with fail
      go_ret
      exact ⟨by rw [HV.out]; rfl, HB.out⟩
    | true =>
      rw [e2] at HI2 HV; clear e2
      by_cases h4 : bo.size ≤ 400
      · have d1 : decide ((400 : Int) < (bo.size : Int)) = false := decide_eq_false (by omega); have d2 : decide ((bo.size : Int) ≤ 400) = true := decide_eq_true (by omega); have d3 : ¬ (400 : Int) < (bo.size : Int) := (by omega); have d4 : (bo.size : Int) ≤ 400 := (by omega)
        rw [decide_eq_true h4] at HV; clear h4
        cases e3 : inB ag 0 1000 with
        | false =>
          rw [e3] at HI3 HV; clear e3
          go_enter Tryd.func45, Tryd.ntmps45
          go_wp2_with fail
          rw [HW.out]
          refine (HI1.out _).mono ?_
          rintro e wz ⟨rfl, rfl⟩
          go_wp2_with fail
          refine (HI2.out _).mono ?_
          rintro e wz ⟨rfl, rfl⟩
          go_wp2_with fail
          refine (HI3.out _).mono ?_
          rintro e wz ⟨rfl, rfl⟩
          go_wp2_with fail
          go_ret
          exact ⟨by rw [HV.out]; rfl, HB.out⟩
        | true =>
          rw [e3] at HI3 HV; clear e3
          go_enter Tryd.func45, Tryd.ntmps45
          go_wp2_with fail
          rw [HW.out]
          refine (HI1.out _).mono ?_
          rintro e wz ⟨rfl, rfl⟩
          go_wp2_with fail
          refine (HI2.out _).mono ?_
          rintro e wz ⟨rfl, rfl⟩
          go_wp2_with fail
          refine (HI3.out _).mono ?_
          rintro e wz ⟨rfl, rfl⟩
          go_wp2_with fail
          refine HP.out.mono ?_
          rintro e w1 ⟨a1, n1, c1, a2, n2, c2, a3, n3, c3, rfl, -, hb⟩
          replace HB := Lib.hid (HB.out.trans (hb.mono HB.out.size)); clear hb
          go_wp2_with fail
          go_ret
          exact ⟨by rw [HV.out]; rfl, HB.out.alloc HB.out.size _⟩
      · have d1 : decide ((400 : Int) < (bo.size : Int)) = true := decide_eq_true (by omega); have d2 : decide ((bo.size : Int) ≤ 400) = false := decide_eq_false (by omega); have d3 : (400 : Int) < (bo.size : Int) := (by omega); have d4 : ¬ (bo.size : Int) ≤ 400 := (by omega)
        rw [decide_eq_false h4] at HV; clear h4
        go_enter Tryd.func45, Tryd.ntmps45
        go_wp2_with fail
        rw [HW.out]
        refine (HI1.out _).mono ?_
        rintro e wz ⟨rfl, rfl⟩
        go_wp2_with fail
        refine (HI2.out _).mono ?_
        rintro e wz ⟨rfl, rfl⟩
        go_wp2_with fail
        go_ret
        exact ⟨by rw [HV.out]; rfl, HB.out⟩

end Go.Proofs.YtpkicliimhflgaaDoor
namespace Go.Proofs.YtpkicliimhflgaaDoor
open Go.ChangeShapes Go.WideShapes Go.ChangeAt Go.RowKit

def rsOk (r : Rv) : Bool := isRs r.st r.kd r.bo r.ag r.po
/-- A file at place i is valid: path, response, and no file of this path before it. -/
def flGood (fs : List Fl) (f : Fl) (i : Nat) : Bool := isNm f.pa && (rsOk f.rv && decide (i ≤ fdF fs f.pa))
def flsOk (fs : List Fl) : Bool := (List.range fs.length).all fun i => match fs[i]? with
  | some f => flGood fs f i
  | none => true
theorem flsOk_yes {fs : List Fl} (h : ∀ i f, i < fs.length → fs[i]? = some f → flGood fs f i = true) : flsOk fs = true := by
  unfold flsOk
  refine List.all_eq_true.2 fun i hi => ?_
  have hl := List.mem_range.1 hi
  obtain ⟨f, hf⟩ : ∃ f, fs[i]? = some f := ⟨_, List.getElem?_eq_getElem hl⟩
  rw [hf]; exact h i f hl hf
theorem flsOk_all {fs : List Fl} (h : flsOk fs = true) {i : Nat} {f : Fl} (hf : fs[i]? = some f) : flGood fs f i = true := by
  have h1 := List.all_eq_true.1 h i (List.mem_range.2 (List.getElem?_eq_some_iff.1 hf).1)
  rw [hf] at h1; exact h1
theorem flsOk_no {fs : List Fl} {i : Nat} {f : Fl} (hf : fs[i]? = some f) (h : flGood fs f i = false) : flsOk fs = false := by
  cases e : flsOk fs with
  | false => rfl
  | true => rw [flsOk_all e hf] at h; cases h
/-- IsServer. -/
def isSv (ho : ByteArray) (fs : List Fl) : Bool := isNm ho && (decide (fs.length ≤ 10) && flsOk fs)
/-- A server at place i of these is valid, and the first of its host. -/
def svGood (l : List Sp) (s : Sp) (i : Nat) : Bool := isSv s.1 s.2 && decide (i ≤ fdS l s.1)
def svsOk (l : List Sp) : Bool := (List.range l.length).all fun i => match l[i]? with
  | some s => svGood l s i
  | none => true
theorem svsOk_yes {l : List Sp} (h : ∀ i f, i < l.length → l[i]? = some f → svGood l f i = true) : svsOk l = true := by
  unfold svsOk
  refine List.all_eq_true.2 fun i hi => ?_
  have hl := List.mem_range.1 hi
  obtain ⟨f, hf⟩ : ∃ f, l[i]? = some f := ⟨_, List.getElem?_eq_getElem hl⟩
  rw [hf]; exact h i f hl hf
theorem svsOk_all {l : List Sp} (h : svsOk l = true) {i : Nat} {f : Sp} (hf : l[i]? = some f) : svGood l f i = true := by
  have h1 := List.all_eq_true.1 h i (List.mem_range.2 (List.getElem?_eq_some_iff.1 hf).1)
  rw [hf] at h1; exact h1
theorem svsOk_no {l : List Sp} {i : Nat} {f : Sp} (hf : l[i]? = some f) (h : svGood l f i = false) : svsOk l = false := by
  cases e : svsOk l with
  | false => rfl
  | true => rw [svsOk_all e hf] at h; cases h
/-- AreServers. -/
def arSv (l : List Sp) : Bool := decide (l.length ≤ 4) && svsOk l
/-- What putting a file makes of a server's files, of the servers. -/
def putF (fs : List Fl) (p : ByteArray) (r : Rv) : List Fl := if fdF fs p < fs.length then fs.set (fdF fs p) ⟨p, r⟩ else fs ++ [⟨p, r⟩]
def hostS (l : List Sp) (h : ByteArray) : List Sp := if fdS l h < l.length then l else l ++ [(h, [])]
def putS (l : List Sp) (h p : ByteArray) (r : Rv) : List Sp := match (hostS l h)[fdS l h]? with
  | some s => (hostS l h).set (fdS l h) (s.1, putF s.2 p r)
  | none => hostS l h
/-- Whether a file is put. -/
def putB (l : List Sp) (h p : ByteArray) (r : Rv) : Bool := decide ((putS l h p r).length ≤ 4) && (match (putS l h p r)[fdS l h]? with
  | some s => isSv s.1 s.2
  | none => false)
def putV (l : List Sp) (h p : ByteArray) (r : Rv) : List Sp := if putB l h p r = true then putS l h p r else l
theorem bl_dwN {B : Nat} {w w' : World} (h : Below B w w') (n : Nat) : Below B w (w'.drewN n) := h.trans ⟨rfl, rfl, rfl, Nat.le_refl _, fun _ _ => rfl⟩

end Go.Proofs.YtpkicliimhflgaaDoor
namespace Go.Proofs.YtpkicliimhflgaaDoor
open Go.ChangeShapes Go.WideShapes Go.ChangeAt Go.RowKit

theorem own_nilF (B : Nat) (w : World) : OwnK encF 7 57 B w.heap.size w (sv svNil) [] := ⟨World.ownsRow_nil _ _ _ _, fun g hg => by cases hg⟩
theorem insV_inj : ∀ {ts : List Se} {i j : Nat} {p q : Se} {b : Nat}, (insV ts).Nodup → ts[i]? = some p → ts[j]? = some q → (sv p.2).ownBlock = some b → (sv q.2).ownBlock = some b → i = j
  | [], i, _, p, _, _, _, hp, _, _, _ => by simp at hp
  | x :: ts, i, j, p, q, b, hn, hp, hq, hb, hc => by
    have e : insV (x :: ts) = (sv x.2).ownBlock.toList ++ insV ts := by unfold insV; rw [List.flatMap_cons]
    rw [e] at hn
    obtain ⟨n1, n2, n3⟩ := List.nodup_append.1 hn
    cases i with
    | zero =>
      have hx : x = p := by simpa using hp
      subst hx
      cases j with
      | zero => rfl
      | succ j => exact absurd rfl (n3 b (by rw [hb]; simp) b (insV_mem.2 ⟨q, List.mem_of_getElem? (by simpa using hq), hc⟩))
    | succ i =>
      cases j with
      | zero =>
        have hx : x = q := by simpa using hq
        subst hx
        exact absurd rfl (n3 b (by rw [hc]; simp) b (insV_mem.2 ⟨p, List.mem_of_getElem? (by simpa using hp), hb⟩))
      | succ j =>
        have h3 := insV_inj n2 (i := i) (j := j) (p := p) (q := q) (by simpa using hp) (by simpa using hq) hb hc
        omega
theorem insV_setN : ∀ {ts : List Se} {j : Nat} {q new : Se}, (insV ts).Nodup → ts[j]? = some q → (∀ b, (sv new.2).ownBlock = some b → (sv q.2).ownBlock = some b ∨ b ∉ insV ts) → (insV (ts.set j new)).Nodup
  | [], j, q, new, _, hq, _ => by simp at hq
  | x :: ts, j, q, new, hn, hq, hb => by
    have e : ∀ (y : Se) (l : List Se), insV (y :: l) = (sv y.2).ownBlock.toList ++ insV l := fun y l => by unfold insV; rw [List.flatMap_cons]
    rw [e] at hn
    obtain ⟨n1, n2, n3⟩ := List.nodup_append.1 hn
    cases j with
    | zero =>
      have hx : x = q := by simpa using hq
      subst hx
      rw [List.set_cons_zero, e]
      refine List.nodup_append.2 ⟨by cases (sv new.2).ownBlock <;> simp, n2, fun a ha b hc hab => ?_⟩
      subst hab
      have ha2 : (sv new.2).ownBlock = some a := by simpa using ha
      rcases hb a ha2 with h | h
      · exact n3 a (by rw [h]; simp) a hc rfl
      · exact h (by rw [e]; exact List.mem_append.2 (Or.inr hc))
    | succ j =>
      have hq2 : ts[j]? = some q := by simpa using hq
      rw [List.set_cons_succ, e]
      refine List.nodup_append.2 ⟨n1, insV_setN n2 hq2 (fun b h => (hb b h).imp id fun k hk => k (by rw [e]; exact List.mem_append.2 (Or.inr hk))), fun a ha b hc hab => ?_⟩
      subst hab
      rcases insV_set hc with h | h
      · exact n3 a ha a h rfl
      · rcases hb a h with k | k
        · exact n3 a ha a (insV_mem.2 ⟨q, List.mem_of_getElem? hq2, k⟩) rfl
        · exact k (by rw [e]; exact List.mem_append.2 (Or.inl ha))
/-- Another file list of the same owner's lies in another block. -/
theorem MineV.others {B j : Nat} {w0 w w' : World} {v : Value} {ts : List Se} {q : Se} (h : MineV B w0 w v ts) (hq : ts[j]? = some q) (hg : w.grownBy w' (sv q.2).ownBlock) {i : Nat} {p : Se} (hp : ts[i]? = some p) (hne : i ≠ j) : OwnK encF 7 57 B w'.heap.size w' (sv p.2) p.1.2 := by
  have ho := h.inn p (List.mem_of_getElem? hp)
  refine ⟨ho.1.kept hg ?_, fun g hgg => Nat.lt_of_lt_of_le (ho.2 g hgg) hg.size⟩
  cases hv : (sv p.2).ownBlock with
  | none => exact Or.inl rfl
  | some b => exact Or.inr fun e => hne (insV_inj h.nod hp hq hv e.symm)
theorem MineV.rowKept {B j : Nat} {w0 w w' : World} {v : Value} {ts : List Se} {q : Se} (h : MineV B w0 w v ts) (hq : ts[j]? = some q) (hg : w.grownBy w' (sv q.2).ownBlock) : MineK encG 2 29 B w0 w' v ts :=
  ⟨h.row.row.kept hg (kept_ne (h.inn q (List.mem_of_getElem? hq)).1 h.row.row sv_ne_fl.symm), h.row.below.grown hg h.row.size (fun g hgg => ((h.inn q (List.mem_of_getElem? hq)).1.lt g hgg).1), Nat.le_trans h.row.size hg.size⟩
theorem set_case {α : Type} {xs : List α} {j : Nat} {x p : α} (hp : p ∈ xs.set j x) : p = x ∨ ∃ i, i ≠ j ∧ xs[i]? = some p := by
  obtain ⟨i, hi⟩ := List.mem_iff_getElem?.1 hp
  by_cases e : i = j
  · subst e
    have hl : i < (xs.set i x).length := (List.getElem?_eq_some_iff.1 hi).1
    rw [List.length_set] at hl
    rw [List.getElem?_set_self hl] at hi
    exact Or.inl (Option.some.inj hi).symm
  · rw [List.getElem?_set_ne (Ne.symm e)] at hi
    exact Or.inr ⟨i, e, hi⟩
theorem flatG_same : ∀ {ts : List Se} {j : Nat} {q : Se} (fs : List Fl), ts[j]? = some q → (ts.set j ((q.1.1, fs), q.2)).flatMap encG = ts.flatMap encG
  | [], j, q, fs, h => by simp at h
  | x :: ts, 0, q, fs, h => by
    have : x = q := by simpa using h
    subst this; rfl
  | x :: ts, j + 1, q, fs, h => by
    rw [List.set_cons_succ, List.flatMap_cons, List.flatMap_cons, flatG_same fs (by simpa using h)]
/-- A server's files have changed in their place. -/
theorem MineV.innerSame {B j : Nat} {w0 w w' : World} {v : Value} {ts : List Se} {q : Se} (h : MineV B w0 w v ts) (hq : ts[j]? = some q) (hg : w.grownBy w' (sv q.2).ownBlock) (fs : List Fl) (hr : w'.ownsRow B 57 7 (sv q.2) fs.length (fs.flatMap encF)) : MineV B w0 w' v (ts.set j ((q.1.1, fs), q.2)) := by
  have hk := h.rowKept hq hg
  refine ⟨⟨by rw [List.length_set, flatG_same fs hq]; exact hk.row, hk.below, hk.size⟩, fun p hp => ?_, insV_setN h.nod hq fun b hb => Or.inl hb⟩
  rcases set_case hp with rfl | ⟨i, hne, hi⟩
  · exact ⟨hr, fun g hgg => (hr.lt g hgg).2⟩
  · exact h.others hq hg hi hne
/-- A server's files lie at a new place, and the place is stored. -/
theorem MineV.innerMoved {B j g n c : Nat} {w0 w w' : World} {ts : List Se} {q : Se} (h : MineV B w0 w (.slice (some ⟨g, 0, none⟩) n c) ts) (hn : ts.length = n) (hq : ts[j]? = some q) (hg : w.grownBy w' (sv q.2).ownBlock) (s : Sv) (fs : List Fl) (hr : w'.ownsRow B 57 7 (sv s) fs.length (fs.flatMap encF))
    (hfr : ∀ b, (sv s).ownBlock = some b → (sv q.2).ownBlock = some b ∨ b = w.heap.size) : MineV B w0 (w'.setCell ⟨g, j * 2 + 1, none⟩ (sv s)) (.slice (some ⟨g, 0, none⟩) n c) (ts.set j ((q.1.1, fs), s)) := by
  have hk := h.rowKept hq hg
  obtain ⟨cur, hcur⟩ : ∃ cur : Array Value, w'.heap[g]? = some (.cells cur 29 (0, 0)) := by
    rcases hk.row.2 with ⟨e, _⟩ | ⟨g', cap', cur, e, _, h3, _⟩
    · cases e
    · cases e; exact ⟨cur, h3⟩
  have hst := hk.row; rw [hn] at hst
  have hst := (hst.stored (j * 2 + 1) (sv s)).1
  rw [flat_setG s fs hq] at hst
  refine ⟨⟨by rw [List.length_set, hn]; exact hst, hk.below.setCell (hk.row.lt g rfl).1 _, by rw [size_setC]; exact hk.size⟩, fun p hp => ?_, insV_setN h.nod hq fun b hb => (hfr b hb).imp id fun e hm => by have := (h.lt b hm).2; omega⟩
  rcases set_case hp with rfl | ⟨i, hne, hi⟩
  · exact (ownK_setT ⟨hr, fun b hb => (hr.lt b hb).2⟩ hcur sv_ne_fl.symm).mono (Nat.le_refl _) (by rw [size_setC]; exact Nat.le_refl _)
  · exact (ownK_setT (h.others hq hg hi hne) hcur sv_ne_fl.symm).mono (Nat.le_refl _) (by rw [size_setC]; exact Nat.le_refl _)
/-- Six stores into a file's response. -/
theorem flat_set6 : ∀ {fs : List Fl} {k : Nat} {f : Fl} (r : Rv), fs[k]? = some f →
    ((((((fs.flatMap encF).set (k * 7 + 1) (.int .i64 r.st)).set (k * 7 + 2) (.int .i64 r.kd)).set (k * 7 + 3) (.string r.bo)).set (k * 7 + 4) (.int .i64 r.ag)).set (k * 7 + 5) (.bool r.sh)).set (k * 7 + 6) (.string r.po) = (fs.set k ⟨f.pa, r⟩).flatMap encF
  | [], k, f, r, h => by simp at h
  | x :: fs, 0, f, r, h => by
    have : x = f := by simpa using h
    subst this; rfl
  | x :: fs, k + 1, f, r, h => by
    have ih := flat_set6 (fs := fs) (k := k) r (by simpa using h)
    rw [List.set_cons_succ, List.flatMap_cons, List.flatMap_cons, ← ih]
    have e : ∀ (t : Nat) (l : List Value) (u : Value), (encF x ++ l).set ((k + 1) * 7 + t) u = encF x ++ l.set (k * 7 + t) u := fun t l u => by
      rw [List.set_append_right _ _ (by rw [encF_len]; omega), encF_len, show (k + 1) * 7 + t - 7 = k * 7 + t by omega]
    rw [e, e, e, e, e, e]
def set6F (w : World) (g k : Nat) (r : Rv) : World := (((((w.setCell ⟨g, k * 7 + 1, none⟩ (.int .i64 r.st)).setCell ⟨g, k * 7 + 2, none⟩ (.int .i64 r.kd)).setCell ⟨g, k * 7 + 3, none⟩ (.string r.bo)).setCell ⟨g, k * 7 + 4, none⟩ (.int .i64 r.ag)).setCell ⟨g, k * 7 + 5, none⟩ (.bool r.sh)).setCell ⟨g, k * 7 + 6, none⟩ (.string r.po)
theorem grown_tr {a b c : World} {row : Option Nat} (h : a.grownBy b row) (k : b.grownBy c row) : a.grownBy c row :=
  ⟨k.os.trans h.os, k.tape.trans h.tape, k.output.trans h.output, Nat.le_trans h.size k.size, fun g hg hne => (k.block g (Nat.lt_of_lt_of_le hg h.size) hne).trans (h.block g hg hne)⟩
theorem set6F_own {B g n c k : Nat} {w : World} {fs : List Fl} {f : Fl} (h : w.ownsRow B 57 7 (.slice (some ⟨g, 0, none⟩) n c) n (fs.flatMap encF)) (hf : fs[k]? = some f) (r : Rv) :
    (set6F w g k r).ownsRow B 57 7 (.slice (some ⟨g, 0, none⟩) n c) n ((fs.set k ⟨f.pa, r⟩).flatMap encF) ∧ w.grownBy (set6F w g k r) (some g) := by
  have h1 := h.stored (k * 7 + 1) (.int .i64 r.st)
  have h2 := h1.1.stored (k * 7 + 2) (.int .i64 r.kd)
  have h3 := h2.1.stored (k * 7 + 3) (.string r.bo)
  have h4 := h3.1.stored (k * 7 + 4) (.int .i64 r.ag)
  have h5 := h4.1.stored (k * 7 + 5) (.bool r.sh)
  have h6 := h5.1.stored (k * 7 + 6) (.string r.po)
  rw [flat_set6 r hf] at h6
  exact ⟨h6.1, grown_tr h1.2 (grown_tr h2.2 (grown_tr h3.2 (grown_tr h4.2 (grown_tr h5.2 h6.2))))⟩
theorem append_fresh {P : Program} (w : World) (base : Nat) (t ty e : TypeId) (i : TypeInfo) (z : Value) (size bytes : Nat) (ht : P.underlying t = some (.slice e)) (hi : P.info? e = some i) (hz : i.zero = some z)
    (hsize : i.size = size) (hby : i.bytes = bytes) (v : Value) (n : Nat) (xs : List Value) (hown : w.ownsRow base e size v n xs)
    (a : Addr) (m c : Nat) (hm : 0 < m) (news : List Value) (hl : news.length = m * size) (hnews : ∀ j u, news[j]? = some u → w.cell? (a.add j) = some u) (h1 : ∀ u ∈ news, u.oneCell' = true)
    (h63 : n + m ≤ 137438953472) (hbytes : (n + m) * bytes ≤ 140737488355328) {v' : Value} {w' : World} (hr : (Builtin.append_ #[t, t] ty #[v, .slice (some a) m c]).run P w = .ok v' w') :
    ∀ b, v'.ownBlock = some b → v.ownBlock = some b ∨ b = w.heap.size := by
  subst hsize; subst hby
  intro b hb
  rcases hown.2 with ⟨rfl, rfl⟩ | ⟨g, cap, cur, rfl, _, hg, hnc, hcm, hcs, _⟩
  · have h := run_append_nil (P := P) w t ty e i z ht hi hz a m c news hl hnews hm (by omega) (by have hb := hbytes; simp only [Nat.zero_add] at hb; omega)
    rw [h] at hr
    injection hr with e1 _
    subst e1
    exact Or.inr (Option.some.inj hb).symm
  · by_cases hroom : n + m ≤ cap
    · have hfit : n * i.size + news.length ≤ cur.size := by rw [hl, hcs, ← Nat.add_mul]; exact Nat.mul_le_mul_right _ hroom
      have h := run_append_room (P := P) w t ty e i ht hi g n cap cur hg a m c news hl hnews h1 hroom hfit
      rw [h] at hr
      injection hr with e1 _
      subst e1
      exact Or.inl hb
    · have holds : ∀ j u, xs[j]? = some u → w.cell? ((⟨g, 0, none⟩ : Addr).add j) = some u := hown.cells (g := g) rfl
      have h := run_append_grow (P := P) w t ty e i z ht hi hz ⟨g, 0, none⟩ n cap xs hown.1 holds a m c news hl hnews (by omega) (by omega) (growslice_fits (by omega) hbytes)
      rw [h] at hr
      injection hr with e1 _
      subst e1
      exact Or.inr (Option.some.inj hb).symm
/-- append(a server's files, one more) at a step of a drawn region. -/
theorem step_appF1 {w : World} {ops : Array Oper} {o : Oper} {a : Act} {K : Act → World → Prop} {Q : Exit → Act → World → Prop} {E : Prop} (hgd : o.guard = none) (s x : Operand)
    (ho : o.op = .call { callee := .builtin .append, args := #[s, x], argTypes := #[27, 27] })
    (B : Nat) (v : Value) (fs : List Fl) (hs : a.eval s = v) (hO : w.ownsRow B 57 7 v fs.length (fs.flatMap encF)) (hB : B ≤ w.heap.size) (q : Fl) (H : Nat) (hx : a.eval x = .slice (some ⟨H, 0, none⟩) 1 1) (hr : ReadsK encF 7 (H + 1) w (.slice (some ⟨H, 0, none⟩) 1 1) [q])
    (n : Nat) (hn : fs.length + 1 = n) (hlen : n ≤ 68719476736)
    (h : ∀ ad cap w', w'.ownsRow B 57 7 (.slice ad n cap) (fs ++ [q]).length ((fs ++ [q]).flatMap encF) → w.grownBy w' v.ownBlock → (∀ b, (Value.slice ad n cap).ownBlock = some b → v.ownBlock = some b ∨ b = w.heap.size) → K (a.put o.dst (.slice ad n cap)) w') :
    if Region.wanted o (yielded ops a.tmps) = true then Oper.wp Tryd.prog o a w K Q else E := by
  have hw : Region.wanted o (yielded ops a.tmps) = true := by simp [Region.wanted, hgd]
  rw [if_pos hw]
  obtain ⟨i, hi, hz, hsize, hby⟩ := info_parts infoFl
  have h1 : ∀ u ∈ [q].flatMap encF, u.oneCell' = true := fun u hu => by
    obtain ⟨y, _, hy⟩ := List.mem_flatMap.1 hu
    exact encF_one y u hy
  obtain ⟨v', w', hrun, hown, hgr, _⟩ := run_append_own (P := Tryd.prog) w B 27 o.type 57 i _ 7 80 Tryd.underlying27 hi hz hsize hby (by rfl) (by decide) v fs.length _ hO ⟨H, 0, none⟩ 1 1 ([q].flatMap encF) rfl (hr.news encF_len) h1 (by unfold maxLen; omega) (by omega) hB
  have hfr := append_fresh (P := Tryd.prog) w B 27 o.type 57 i _ 7 80 Tryd.underlying27 hi hz hsize hby v fs.length _ hO ⟨H, 0, none⟩ 1 1 (by decide) ([q].flatMap encF) rfl (hr.news encF_len) h1 (by omega) (by omega) hrun
  have hown2 : w'.ownsRow B 57 7 v' (fs ++ [q]).length ((fs ++ [q]).flatMap encF) := by rw [List.flatMap_append, List.length_append]; exact hown
  obtain ⟨ad, cap, rfl⟩ : ∃ ad cap, v' = .slice ad n cap := by
    rcases hown.2 with ⟨_, h0⟩ | ⟨g, cap, cur, e, _⟩
    · omega
    · exact ⟨_, cap, by rw [e, hn]⟩
  unfold Oper.wp execOp
  simp only [ho, resolve, invoke, builtin, Sem.run_bind, Sem.run_pure, Result.andThen_ok, List.map_toArray, List.map_cons, List.map_nil, hs, hx, hrun]
  exact h ad cap w' hown2 hgr hfr
theorem readsF_at {w : World} {H : Nat} {T : TypeId} (q : Fl) (h : w.heap[H]? = some (.cells #[.string q.pa, .int .i64 q.rv.st, .int .i64 q.rv.kd, .string q.rv.bo, .int .i64 q.rv.ag, .bool q.rv.sh, .string q.rv.po] T (0, 0))) : ReadsK encF 7 (H + 1) w (.slice (some ⟨H, 0, none⟩) 1 1) [q] := by
  refine ⟨_, 1, rfl, by simp, by omega, (fun h => by cases h), Or.inr ⟨_, 0, rfl, by omega, fun j y hy i hi' => ?_⟩⟩
  have hj : j = 0 := by have := (List.getElem?_eq_some_iff.1 hy).1; simp at this; omega
  subst hj
  simp only [List.getElem?_cons_zero, Option.some.injEq] at hy
  subst hy
  rcases (show i = 0 ∨ i = 1 ∨ i = 2 ∨ i = 3 ∨ i = 4 ∨ i = 5 ∨ i = 6 by omega) with rfl | rfl | rfl | rfl | rfl | rfl | rfl <;> exact box_cell h rfl

end Go.Proofs.YtpkicliimhflgaaDoor

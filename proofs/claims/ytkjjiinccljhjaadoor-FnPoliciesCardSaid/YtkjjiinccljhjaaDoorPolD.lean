/- Helper contracts: NarrowPolicy. Asked: the policies' slices read as named, they are not too long. -/
import Derived.Test.YtkjjiinccljhjaaDoorPolC
namespace Go.Proofs.YtkjjiinccljhjaaDoor
open Go.ChangeShapes Go.WideShapes Go.ChangeAt Go.RowKit

/-- The narrowed policy in its new box. -/
theorem fin6 {W Wc W1 W2 W3 : World} {p l1 h1 l2 h2 l3 h3 : Nat} {T : TypeId} {z0 z1 z2 z3 z4 u0 u4 v1 v2 v3 : Value} {xs ys zs : List ByteArray} (hp : Wc.heap[p]? = some (.cells #[z0, z1, z2, z3, z4] T (0, 0))) (hpW : W.heap.size ≤ p) (hb : Below W.heap.size W Wc)
    (o1 : OwnK encS 1 9 l1 h1 W1 v1 xs) (k1 : Below W1.heap.size W1 Wc) (o2 : OwnK encS 1 9 l2 h2 W2 v2 ys) (k2 : Below W2.heap.size W2 Wc) (o3 : OwnK encS 1 9 l3 h3 W3 v3 zs) (k3 : Below W3.heap.size W3 Wc)
    (p1 : W.heap.size ≤ l1) (p2 : W.heap.size ≤ l2) (p3 : W.heap.size ≤ l3) (e1 : p < l1 ∨ h1 ≤ p) (e2 : p < l2 ∨ h2 ≤ p) (e3 : p < l3 ∨ h3 ≤ p) (d12 : h1 ≤ l2 ∨ h2 ≤ l1) (d13 : h1 ≤ l3 ∨ h3 ≤ l1) (d23 : h2 ≤ l3 ∨ h3 ≤ l2) :
    W.heap.size ≤ p ∧ (set5 Wc p u0 v1 v2 v3 u4).heap[p]? = some (.cells #[u0, v1, v2, v3, u4] T (0, 0)) ∧ (∀ g, g ∈ blocksL [rwSs v1 xs, rwSs v2 ys, rwSs v3 zs] → g ≠ p) ∧ Own3 W.heap.size (set5 Wc p u0 v1 v2 v3 u4) v1 v2 v3 xs ys zs ∧ Below W.heap.size W (set5 Wc p u0 v1 v2 v3 u4) := by
  have ho := set5_only Wc p u0 v1 v2 v3 u4
  have n : ∀ {lo hi : Nat} {V : World} {v : Value} {us : List ByteArray}, OwnK encS 1 9 lo hi V v us → p < lo ∨ hi ≤ p → ∀ g, v.ownBlock = some g → g ≠ p := fun o he g hg e => by
    have h1 := (o.lt g hg).1; have h2 := o.2 g hg; omega
  have f : ∀ {lo hi : Nat} {V : World} {v : Value} {us : List ByteArray}, OwnK encS 1 9 lo hi V v us → Below V.heap.size V Wc → p < lo ∨ hi ≤ p → OwnK encS 1 9 lo hi (set5 Wc p u0 v1 v2 v3 u4) v us := fun o k he => ownK_only (o.later k) ho fun b hv hm => by
    rw [List.mem_singleton] at hm
    exact n o he b hv hm
  refine ⟨hpW, set5_box hp _ _ _ _ _, fun g hg => ?_, own3_of (f o1 k1 e1) (f o2 k2 e2) (f o3 k3 e3) p1 p2 p3 d12 d13 d23, hb.trans (ho.below (fun i hi => by rw [List.mem_singleton] at hi; omega) hb.size)⟩
  simp only [blocksL, List.append_nil, rwSs_blocks, List.mem_append] at hg
  rcases hg with hg | hg | hg
  · exact n o1 e1 g (by simpa using hg)
  · exact n o2 e2 g (by simpa using hg)
  · exact n o3 e3 g (by simpa using hg)
/-- The same where the box is laid last, with what it holds. -/
theorem fin7 {W Wc W1 W2 W3 : World} {l1 h1 l2 h2 l3 h3 : Nat} {T : TypeId} {u0 u4 v1 v2 v3 : Value} {xs ys zs : List ByteArray} (hb : Below W.heap.size W Wc)
    (o1 : OwnK encS 1 9 l1 h1 W1 v1 xs) (k1 : Below W1.heap.size W1 Wc) (o2 : OwnK encS 1 9 l2 h2 W2 v2 ys) (k2 : Below W2.heap.size W2 Wc) (o3 : OwnK encS 1 9 l3 h3 W3 v3 zs) (k3 : Below W3.heap.size W3 Wc)
    (p1 : W.heap.size ≤ l1) (p2 : W.heap.size ≤ l2) (p3 : W.heap.size ≤ l3) (d12 : h1 ≤ l2 ∨ h2 ≤ l1) (d13 : h1 ≤ l3 ∨ h3 ≤ l1) (d23 : h2 ≤ l3 ∨ h3 ≤ l2) :
    W.heap.size ≤ Wc.heap.size ∧ (Wc.alloc (.cells #[u0, v1, v2, v3, u4] T (0, 0))).heap[Wc.heap.size]? = some (.cells #[u0, v1, v2, v3, u4] T (0, 0)) ∧ (∀ g, g ∈ blocksL [rwSs v1 xs, rwSs v2 ys, rwSs v3 zs] → g ≠ Wc.heap.size) ∧ Own3 W.heap.size (Wc.alloc (.cells #[u0, v1, v2, v3, u4] T (0, 0))) v1 v2 v3 xs ys zs ∧ Below W.heap.size W (Wc.alloc (.cells #[u0, v1, v2, v3, u4] T (0, 0))) := by
  have hbl := (Below.refl Wc.heap.size Wc).alloc (Nat.le_refl _) (.cells #[u0, v1, v2, v3, u4] T (0, 0))
  have n : ∀ {lo hi : Nat} {V : World} {v : Value} {us : List ByteArray}, OwnK encS 1 9 lo hi V v us → Below V.heap.size V Wc → ∀ g, v.ownBlock = some g → g ≠ Wc.heap.size := fun o k g hg e => by
    have h1 := (o.lt g hg).2; have h2 := k.size; omega
  refine ⟨hb.size, hq_nw rfl, fun g hg => ?_, own3_of (o1.later (bl_tr k1 hbl)) (o2.later (bl_tr k2 hbl)) (o3.later (bl_tr k3 hbl)) p1 p2 p3 d12 d13 d23, bl_tr hb hbl⟩
  simp only [blocksL, List.append_nil, rwSs_blocks, List.mem_append] at hg
  rcases hg with hg | hg | hg
  · exact n o1 k1 g (by simpa using hg)
  · exact n o2 k2 g (by simpa using hg)
  · exact n o3 k3 g (by simpa using hg)
theorem lay9 {Q : Prop} {w : World} {c : Nat} (h : w.heap[c]? = some (.cells #[.bool false, .slice none 0 0, .slice none 0 0, .slice none 0 0, .string ⟨#[]⟩] 26 (0, 0)))
    (k : w.cell? ⟨c, 0, none⟩ = some (.bool false) → w.frozen? ⟨c, 0, none⟩ = false → w.cell? ⟨c, 1, none⟩ = some (.slice none 0 0) → w.frozen? ⟨c, 1, none⟩ = false → w.cell? ⟨c, 2, none⟩ = some (.slice none 0 0) → w.frozen? ⟨c, 2, none⟩ = false → w.cell? ⟨c, 3, none⟩ = some (.slice none 0 0) → w.frozen? ⟨c, 3, none⟩ = false → w.cell? ⟨c, 4, none⟩ = some (.string ⟨#[]⟩) → w.frozen? ⟨c, 4, none⟩ = false → Q) : Q :=
  k (box_cell h rfl) (box_frz h 0) (box_cell h rfl) (box_frz h 1) (box_cell h rfl) (box_frz h 2) (box_cell h rfl) (box_frz h 3) (box_cell h rfl) (box_frz h 4)

set_option maxRecDepth 100000 in
set_option maxHeartbeats 8000000 in
theorem narrow_impl_set (scr sty img : List ByteArray) (non : ByteArray) (a1 : Option Addr) (n1 c1 : Nat) (a2 : Option Addr) (n2 c2 : Nat) (a3 : Option Addr) (n3 c3 : Nat) (scr' sty' img' : List ByteArray) (non' : ByteArray) (a1' : Option Addr) (n1' c1' : Nat) (a2' : Option Addr) (n2' c2' : Nat) (a3' : Option Addr) (n3' c3' : Nat) (w : World) (hz : PolSm ⟨true, scr, sty, img, non⟩) (hr : ReadP w.heap.size w (.slice a1 n1 c1) (.slice a2 n2 c2) (.slice a3 n3 c3) ⟨true, scr, sty, img, non⟩) (hr' : ReadP w.heap.size w (.slice a1' n1' c1') (.slice a2' n2' c2') (.slice a3' n3' c3') ⟨true, scr', sty', img', non'⟩) :
    Calls Tryd.prog 14 #[.agg #[.bool true, .slice a1 n1 c1, .slice a2 n2 c2, .slice a3 n3 c3, .string non], .agg #[.bool true, .slice a1' n1' c1', .slice a2' n2' c2', .slice a3' n3' c3', .string non']] w (PoNew (nrP ⟨true, scr, sty, img, non⟩ ⟨true, scr', sty', img', non'⟩) w) := by
  have HNR := Lib.hid (show nrP ⟨true, scr, sty, img, non⟩ ⟨true, scr', sty', img', non'⟩ = ⟨true, bothS scr scr', bothS sty sty', bothS img img', if non = non' then non else ⟨#[]⟩⟩ by unfold nrP; simp)
  rw [HNR.out]; clear HNR
  obtain ⟨z1, z2, z3, z4⟩ := hz
  obtain ⟨W, hW⟩ : ∃ W, ((w.alloc (.cells #[.bool true, .slice a1 n1 c1, .slice a2 n2 c2, .slice a3 n3 c3, .string non] 26)).alloc (.cells #[.bool true, .slice a1' n1' c1', .slice a2' n2' c2', .slice a3' n3' c3', .string non'] 26)).alloc (.cells #[.bool false, .slice none 0 0, .slice none 0 0, .slice none 0 0, .string ⟨#[]⟩] 26) = W := ⟨_, rfl⟩
  have HBW := Lib.hid (show Below w.heap.size w W by rw [← hW]; exact bl_aw (bl_aw (bl_aw (Below.refl _ _) _) _) _)
  have HX0 := Lib.hid (show W.heap[w.heap.size + 2]? = some (.cells #[.bool false, .slice none 0 0, .slice none 0 0, .slice none 0 0, .string ⟨#[]⟩] 26 (0, 0)) by rw [← hW]; exact three_new2 w _ _ _)
  have HPB := Lib.hid (show W.heap[w.heap.size + 1]? = some (.cells #[.bool true, .slice a1' n1' c1', .slice a2' n2' c2', .slice a3' n3' c3', .string non'] 26 (0, 0)) by rw [← hW]; exact three_new1 w _ _ _)
  have HPA := Lib.hid (show W.heap[w.heap.size]? = some (.cells #[.bool true, .slice a1 n1 c1, .slice a2 n2 c2, .slice a3 n3 c3, .string non] 26 (0, 0)) by rw [← hW]; exact three_new0 w _ _ _)
  have HSW := Lib.hid (show W.heap.size = w.heap.size + 3 by rw [← hW, size_alloc, size_alloc, size_alloc])
  have q0 := box_cell HPA.out (j := 0) rfl
  have q1 := box_cell HPA.out (j := 1) rfl
  have q2 := box_cell HPA.out (j := 2) rfl
  have q3 := box_cell HPA.out (j := 3) rfl
  have q4 := box_cell HPA.out (j := 4) rfl
  have p0 := box_cell HPB.out (j := 0) rfl
  have p1 := box_cell HPB.out (j := 1) rfl
  have p2 := box_cell HPB.out (j := 2) rfl
  have p3 := box_cell HPB.out (j := 3) rfl
  have p4 := box_cell HPB.out (j := 4) rfl
  obtain ⟨hr1, hr2, hr3⟩ := (hr.below HBW.out (Nat.le_refl _)).mono HBW.out.size
  obtain ⟨hs1, hs2, hs3⟩ := (hr'.below HBW.out (Nat.le_refl _)).mono HBW.out.size
  have HX1 := Lib.hid (fun (X : World) (hb : Below W.heap.size W X) => (both9_impl _ _ scr scr' X ((hr1.below hb (Nat.le_refl _)).mono hb.size) ((hs1.below hb (Nat.le_refl _)).mono hb.size) (by have := z1; simp only at this; omega)).mono fun e w' h => newF_of h)
  have HX2 := Lib.hid (fun (X : World) (hb : Below W.heap.size W X) => (both9_impl _ _ sty sty' X ((hr2.below hb (Nat.le_refl _)).mono hb.size) ((hs2.below hb (Nat.le_refl _)).mono hb.size) (by have := z2; simp only at this; omega)).mono fun e w' h => newF_of h)
  have HX3 := Lib.hid (fun (X : World) (hb : Below W.heap.size W X) => (both9_impl _ _ img img' X ((hr3.below hb (Nat.le_refl _)).mono hb.size) ((hs3.below hb (Nat.le_refl _)).mono hb.size) (by have := z3; simp only at this; omega)).mono fun e w' h => newF_of h)
  have KEEP := Lib.hid (fun (w' : World) (h : Below W.heap.size W w') => show Below W.heap.size W w' ∧ w'.cell? ⟨w.heap.size, 1, none⟩ = some (.slice a1 n1 c1) ∧ w'.cell? ⟨w.heap.size + 1, 1, none⟩ = some (.slice a1' n1' c1') ∧ w'.cell? ⟨w.heap.size, 2, none⟩ = some (.slice a2 n2 c2) ∧ w'.cell? ⟨w.heap.size + 1, 2, none⟩ = some (.slice a2' n2' c2') ∧ w'.cell? ⟨w.heap.size, 3, none⟩ = some (.slice a3 n3 c3) ∧ w'.cell? ⟨w.heap.size + 1, 3, none⟩ = some (.slice a3' n3' c3') from ⟨h, (h.cell (show (⟨w.heap.size, 1, none⟩ : Addr).block < _ from World.block_lt_of_cell? _ _ q1)).trans q1, (h.cell (show (⟨w.heap.size + 1, 1, none⟩ : Addr).block < _ from World.block_lt_of_cell? _ _ p1)).trans p1, (h.cell (show (⟨w.heap.size, 2, none⟩ : Addr).block < _ from World.block_lt_of_cell? _ _ q2)).trans q2, (h.cell (show (⟨w.heap.size + 1, 2, none⟩ : Addr).block < _ from World.block_lt_of_cell? _ _ p2)).trans p2, (h.cell (show (⟨w.heap.size, 3, none⟩ : Addr).block < _ from World.block_lt_of_cell? _ _ q3)).trans q3, (h.cell (show (⟨w.heap.size + 1, 3, none⟩ : Addr).block < _ from World.block_lt_of_cell? _ _ p3)).trans p3⟩)
  have HW := Lib.hid hW; clear hr hr' hr1 hr2 hr3 hs1 hs2 hs3 hW z1 z2 z3 z4
  go_enter Tryd.func14, Tryd.ntmps14
  go_upto_region 5 with (fail)
  try rw [HW.out]
  go_cut [5] from 16 to 31 (fun c wx => ∃ (p : Nat) (b1 : Option Addr) (m1 k1 : Nat) (b2 : Option Addr) (m2 k2 : Nat) (b3 : Option Addr) (m3 k3 : Nat), c = .pointer (some ⟨p, 0, none⟩) ∧ W.heap.size ≤ p ∧ wx.heap[p]? = some (.cells #[.bool true, .slice b1 m1 k1, .slice b2 m2 k2, .slice b3 m3 k3, .string ⟨#[]⟩] 26 (0, 0)) ∧ (∀ g, g ∈ blocksL [rwSs (.slice b1 m1 k1) (bothS scr scr'), rwSs (.slice b2 m2 k2) (bothS sty sty'), rwSs (.slice b3 m3 k3) (bothS img img')] → g ≠ p) ∧ Own3 W.heap.size wx (.slice b1 m1 k1) (.slice b2 m2 k2) (.slice b3 m3 k3) (bothS scr scr') (bothS sty sty') (bothS img img') ∧ Below W.heap.size W wx)
  case first =>
    go_region_held3 (fun w' => Below W.heap.size W w' ∧ w'.cell? ⟨w.heap.size, 1, none⟩ = some (.slice a1 n1 c1) ∧ w'.cell? ⟨w.heap.size + 1, 1, none⟩ = some (.slice a1' n1' c1') ∧ w'.cell? ⟨w.heap.size, 2, none⟩ = some (.slice a2 n2 c2) ∧ w'.cell? ⟨w.heap.size + 1, 2, none⟩ = some (.slice a2' n2' c2') ∧ w'.cell? ⟨w.heap.size, 3, none⟩ = some (.slice a3 n3 c3) ∧ w'.cell? ⟨w.heap.size + 1, 3, none⟩ = some (.slice a3' n3' c3')) (exact KEEP.out _ (by repeat' (first | (with_reducible exact Below.refl _ _) | (with_reducible exact hPC) | (with_reducible exact hPB) | (with_reducible exact hPA) | (with_reducible refine bl_dw ?_) | (with_reducible refine bl_aw ?_ _) | (with_reducible refine bl_s9 ?_ (by first | exact Nat.le_refl _ | exact hPA.size | exact hPB.size | exact hPC.size) _)))) (first | (go_at_call 32; (with_reducible refine (HX1.out _ (by repeat' (first | (with_reducible exact Below.refl _ _) | (with_reducible exact hPC) | (with_reducible exact hPB) | (with_reducible exact hPA) | (with_reducible refine bl_dw ?_) | (with_reducible refine bl_aw ?_ _)))).mono ?_); rintro e wA ⟨aA, nA, cA, rfl, hoA, hbA⟩; have hSA := bl_sz (show Below W.heap.size W _ from (by repeat' (first | (with_reducible exact Below.refl _ _) | (with_reducible exact hPC) | (with_reducible exact hPB) | (with_reducible exact hPA) | (with_reducible refine bl_dw ?_) | (with_reducible refine bl_aw ?_ _)))) hbA; have hPA := bl_tr (show Below W.heap.size W _ from (by repeat' (first | (with_reducible exact Below.refl _ _) | (with_reducible exact hPC) | (with_reducible exact hPB) | (with_reducible exact hPA) | (with_reducible refine bl_dw ?_) | (with_reducible refine bl_aw ?_ _)))) hbA; (first | (refine lay9 (w := wA) (c := W.heap.size) ?_ ?_; (focus (refine heap_bl9 hbA ?_; (repeat' (first | (with_reducible refine hq_dr ?_) | ((with_reducible refine hq_nw ?_); (first | (with_reducible rfl) | (simp only [size_alloc]; done))) | (with_reducible refine heap_bl9 hbC ?_) | (with_reducible refine heap_bl9 hbB ?_) | (with_reducible refine heap_bl9 hbA ?_))))); intro zA0 fA0 zA1 fA1 zA2 fA2 zA3 fA3 zA4 fA4) | (refine lay9 (w := wA) (c := wB.heap.size) ?_ ?_; (focus (refine heap_bl9 hbA ?_; (repeat' (first | (with_reducible refine hq_dr ?_) | ((with_reducible refine hq_nw ?_); (first | (with_reducible rfl) | (simp only [size_alloc]; done))) | (with_reducible refine heap_bl9 hbC ?_) | (with_reducible refine heap_bl9 hbB ?_) | (with_reducible refine heap_bl9 hbA ?_))))); intro zA0 fA0 zA1 fA1 zA2 fA2 zA3 fA3 zA4 fA4) | (refine lay9 (w := wA) (c := wC.heap.size) ?_ ?_; (focus (refine heap_bl9 hbA ?_; (repeat' (first | (with_reducible refine hq_dr ?_) | ((with_reducible refine hq_nw ?_); (first | (with_reducible rfl) | (simp only [size_alloc]; done))) | (with_reducible refine heap_bl9 hbC ?_) | (with_reducible refine heap_bl9 hbB ?_) | (with_reducible refine heap_bl9 hbA ?_))))); intro zA0 fA0 zA1 fA1 zA2 fA2 zA3 fA3 zA4 fA4) | skip); (first | (have dBA := bl_sz (show Below wB.heap.size wB _ from (by repeat' (first | (with_reducible exact Below.refl _ _) | (with_reducible exact kBA) | (with_reducible exact kBC) | (with_reducible refine bl_dw ?_) | (with_reducible refine bl_aw ?_ _)))) hbA; have kBA := bl_tr (show Below wB.heap.size wB _ from (by repeat' (first | (with_reducible exact Below.refl _ _) | (with_reducible exact kBA) | (with_reducible exact kBC) | (with_reducible refine bl_dw ?_) | (with_reducible refine bl_aw ?_ _)))) hbA) | skip); (first | (have dCA := bl_sz (show Below wC.heap.size wC _ from (by repeat' (first | (with_reducible exact Below.refl _ _) | (with_reducible exact kCA) | (with_reducible exact kCB) | (with_reducible refine bl_dw ?_) | (with_reducible refine bl_aw ?_ _)))) hbA; have kCA := bl_tr (show Below wC.heap.size wC _ from (by repeat' (first | (with_reducible exact Below.refl _ _) | (with_reducible exact kCA) | (with_reducible exact kCB) | (with_reducible refine bl_dw ?_) | (with_reducible refine bl_aw ?_ _)))) hbA) | skip)) | (go_at_call 32; (with_reducible refine (HX2.out _ (by repeat' (first | (with_reducible exact Below.refl _ _) | (with_reducible exact hPC) | (with_reducible exact hPB) | (with_reducible exact hPA) | (with_reducible refine bl_dw ?_) | (with_reducible refine bl_aw ?_ _)))).mono ?_); rintro e wB ⟨aB, nB, cB, rfl, hoB, hbB⟩; have hSB := bl_sz (show Below W.heap.size W _ from (by repeat' (first | (with_reducible exact Below.refl _ _) | (with_reducible exact hPC) | (with_reducible exact hPB) | (with_reducible exact hPA) | (with_reducible refine bl_dw ?_) | (with_reducible refine bl_aw ?_ _)))) hbB; have hPB := bl_tr (show Below W.heap.size W _ from (by repeat' (first | (with_reducible exact Below.refl _ _) | (with_reducible exact hPC) | (with_reducible exact hPB) | (with_reducible exact hPA) | (with_reducible refine bl_dw ?_) | (with_reducible refine bl_aw ?_ _)))) hbB; (first | (refine lay9 (w := wB) (c := W.heap.size) ?_ ?_; (focus (refine heap_bl9 hbB ?_; (repeat' (first | (with_reducible refine hq_dr ?_) | ((with_reducible refine hq_nw ?_); (first | (with_reducible rfl) | (simp only [size_alloc]; done))) | (with_reducible refine heap_bl9 hbC ?_) | (with_reducible refine heap_bl9 hbB ?_) | (with_reducible refine heap_bl9 hbA ?_))))); intro zB0 fB0 zB1 fB1 zB2 fB2 zB3 fB3 zB4 fB4) | (refine lay9 (w := wB) (c := wA.heap.size) ?_ ?_; (focus (refine heap_bl9 hbB ?_; (repeat' (first | (with_reducible refine hq_dr ?_) | ((with_reducible refine hq_nw ?_); (first | (with_reducible rfl) | (simp only [size_alloc]; done))) | (with_reducible refine heap_bl9 hbC ?_) | (with_reducible refine heap_bl9 hbB ?_) | (with_reducible refine heap_bl9 hbA ?_))))); intro zB0 fB0 zB1 fB1 zB2 fB2 zB3 fB3 zB4 fB4) | (refine lay9 (w := wB) (c := wC.heap.size) ?_ ?_; (focus (refine heap_bl9 hbB ?_; (repeat' (first | (with_reducible refine hq_dr ?_) | ((with_reducible refine hq_nw ?_); (first | (with_reducible rfl) | (simp only [size_alloc]; done))) | (with_reducible refine heap_bl9 hbC ?_) | (with_reducible refine heap_bl9 hbB ?_) | (with_reducible refine heap_bl9 hbA ?_))))); intro zB0 fB0 zB1 fB1 zB2 fB2 zB3 fB3 zB4 fB4) | skip); (first | (have dAB := bl_sz (show Below wA.heap.size wA _ from (by repeat' (first | (with_reducible exact Below.refl _ _) | (with_reducible exact kAB) | (with_reducible exact kAC) | (with_reducible refine bl_dw ?_) | (with_reducible refine bl_aw ?_ _)))) hbB; have kAB := bl_tr (show Below wA.heap.size wA _ from (by repeat' (first | (with_reducible exact Below.refl _ _) | (with_reducible exact kAB) | (with_reducible exact kAC) | (with_reducible refine bl_dw ?_) | (with_reducible refine bl_aw ?_ _)))) hbB) | skip); (first | (have dCB := bl_sz (show Below wC.heap.size wC _ from (by repeat' (first | (with_reducible exact Below.refl _ _) | (with_reducible exact kCA) | (with_reducible exact kCB) | (with_reducible refine bl_dw ?_) | (with_reducible refine bl_aw ?_ _)))) hbB; have kCB := bl_tr (show Below wC.heap.size wC _ from (by repeat' (first | (with_reducible exact Below.refl _ _) | (with_reducible exact kCA) | (with_reducible exact kCB) | (with_reducible refine bl_dw ?_) | (with_reducible refine bl_aw ?_ _)))) hbB) | skip)) | (go_at_call 32; (with_reducible refine (HX3.out _ (by repeat' (first | (with_reducible exact Below.refl _ _) | (with_reducible exact hPC) | (with_reducible exact hPB) | (with_reducible exact hPA) | (with_reducible refine bl_dw ?_) | (with_reducible refine bl_aw ?_ _)))).mono ?_); rintro e wC ⟨aC, nC, cC, rfl, hoC, hbC⟩; have hSC := bl_sz (show Below W.heap.size W _ from (by repeat' (first | (with_reducible exact Below.refl _ _) | (with_reducible exact hPC) | (with_reducible exact hPB) | (with_reducible exact hPA) | (with_reducible refine bl_dw ?_) | (with_reducible refine bl_aw ?_ _)))) hbC; have hPC := bl_tr (show Below W.heap.size W _ from (by repeat' (first | (with_reducible exact Below.refl _ _) | (with_reducible exact hPC) | (with_reducible exact hPB) | (with_reducible exact hPA) | (with_reducible refine bl_dw ?_) | (with_reducible refine bl_aw ?_ _)))) hbC; (first | (refine lay9 (w := wC) (c := W.heap.size) ?_ ?_; (focus (refine heap_bl9 hbC ?_; (repeat' (first | (with_reducible refine hq_dr ?_) | ((with_reducible refine hq_nw ?_); (first | (with_reducible rfl) | (simp only [size_alloc]; done))) | (with_reducible refine heap_bl9 hbC ?_) | (with_reducible refine heap_bl9 hbB ?_) | (with_reducible refine heap_bl9 hbA ?_))))); intro zC0 fC0 zC1 fC1 zC2 fC2 zC3 fC3 zC4 fC4) | (refine lay9 (w := wC) (c := wA.heap.size) ?_ ?_; (focus (refine heap_bl9 hbC ?_; (repeat' (first | (with_reducible refine hq_dr ?_) | ((with_reducible refine hq_nw ?_); (first | (with_reducible rfl) | (simp only [size_alloc]; done))) | (with_reducible refine heap_bl9 hbC ?_) | (with_reducible refine heap_bl9 hbB ?_) | (with_reducible refine heap_bl9 hbA ?_))))); intro zC0 fC0 zC1 fC1 zC2 fC2 zC3 fC3 zC4 fC4) | (refine lay9 (w := wC) (c := wB.heap.size) ?_ ?_; (focus (refine heap_bl9 hbC ?_; (repeat' (first | (with_reducible refine hq_dr ?_) | ((with_reducible refine hq_nw ?_); (first | (with_reducible rfl) | (simp only [size_alloc]; done))) | (with_reducible refine heap_bl9 hbC ?_) | (with_reducible refine heap_bl9 hbB ?_) | (with_reducible refine heap_bl9 hbA ?_))))); intro zC0 fC0 zC1 fC1 zC2 fC2 zC3 fC3 zC4 fC4) | skip); (first | (have dAC := bl_sz (show Below wA.heap.size wA _ from (by repeat' (first | (with_reducible exact Below.refl _ _) | (with_reducible exact kAB) | (with_reducible exact kAC) | (with_reducible refine bl_dw ?_) | (with_reducible refine bl_aw ?_ _)))) hbC; have kAC := bl_tr (show Below wA.heap.size wA _ from (by repeat' (first | (with_reducible exact Below.refl _ _) | (with_reducible exact kAB) | (with_reducible exact kAC) | (with_reducible refine bl_dw ?_) | (with_reducible refine bl_aw ?_ _)))) hbC) | skip); (first | (have dBC := bl_sz (show Below wB.heap.size wB _ from (by repeat' (first | (with_reducible exact Below.refl _ _) | (with_reducible exact kBA) | (with_reducible exact kBC) | (with_reducible refine bl_dw ?_) | (with_reducible refine bl_aw ?_ _)))) hbC; have kBC := bl_tr (show Below wB.heap.size wB _ from (by repeat' (first | (with_reducible exact Below.refl _ _) | (with_reducible exact kBA) | (with_reducible exact kBC) | (with_reducible refine bl_dw ?_) | (with_reducible refine bl_aw ?_ _)))) hbC) | skip)))
    all_goals
      go_wp2_with fail
      go_meet
    all_goals (refine ⟨_, aA, nA, cA, aB, nB, cB, aC, nC, cC, rfl, ?_⟩)
    · exact fin7 hPC hoA kAC hoB kBC hoC (Below.refl _ _) hSA hSB hSC (Or.inl dAB) (Or.inl dAC) (Or.inl dBC)
    · exact fin6 (heap_bl9 hbC (hq_nw rfl)) hPB.size hPC hoA kAC hoB kBC hoC (Below.refl _ _) hSA hSB hSC (Or.inr kAB.size) (Or.inr (Nat.le_refl _)) (Or.inl (by rw [size_alloc]; exact Nat.lt_succ_self _)) (Or.inl dAB) (Or.inl dAC) (Or.inl dBC)
    · exact fin6 (heap_bl9 kBC (heap_bl9 hbB (hq_nw rfl))) hPA.size hPC hoA kAC hoB kBC hoC (Below.refl _ _) hSA hSB hSC (Or.inr (Nat.le_refl _)) (Or.inl (by rw [size_alloc]; exact Nat.lt_succ_self _)) (Or.inl (Nat.lt_of_lt_of_le (by rw [size_alloc]; exact Nat.lt_succ_self _) hbB.size)) (Or.inl dAB) (Or.inl dAC) (Or.inl dBC)
    · exact fin6 (heap_bl9 kAC (heap_bl9 hbA (hq_dr (hq_nw rfl)))) (Nat.le_refl _) hPC hoA kAC hoB kBC hoC (Below.refl _ _) hSA hSB hSC (Or.inl (by show _ < (W.alloc _).heap.size; rw [size_alloc]; exact Nat.lt_succ_self _)) (Or.inl (Nat.lt_of_lt_of_le (by show _ < (W.alloc _).heap.size; rw [size_alloc]; exact Nat.lt_succ_self _) hbA.size)) (Or.inl (Nat.lt_of_lt_of_le (by show _ < (W.alloc _).heap.size; rw [size_alloc]; exact Nat.lt_succ_self _) (Nat.le_trans hbA.size dAC))) (Or.inl dAB) (Or.inl dAC) (Or.inl dBC)
  obtain ⟨p, b1, m1, k1, b2, m2, k2, b3, m3, k3, rfl, hpW, hbox, hne, how, hbf⟩ := hcut
  rename World => wx
  have HOW := Lib.hid how; have HBF := Lib.hid hbf; have HNE := Lib.hid hne; have HPW := Lib.hid hpW; clear how hne hpW
  have hx2 := below_heap hbf (heap_lt HX0.out) HX0.out
  have fp0 := box_cell hbox (j := 0) rfl; have zp0 := box_frz hbox 0; have fx0 := box_cell hx2 (j := 0) rfl; have zx0 := box_frz hx2 0
  have fp1 := box_cell hbox (j := 1) rfl; have zp1 := box_frz hbox 1; have fx1 := box_cell hx2 (j := 1) rfl; have zx1 := box_frz hx2 1
  have fp2 := box_cell hbox (j := 2) rfl; have zp2 := box_frz hbox 2; have fx2 := box_cell hx2 (j := 2) rfl; have zx2 := box_frz hx2 2
  have fp3 := box_cell hbox (j := 3) rfl; have zp3 := box_frz hbox 3; have fx3 := box_cell hx2 (j := 3) rfl; have zx3 := box_frz hx2 3
  have fp4 := box_cell hbox (j := 4) rfl; have zp4 := box_frz hbox 4; have fx4 := box_cell hx2 (j := 4) rfl; have zx4 := box_frz hx2 4
  replace q4 := (hbf.cell (show (⟨w.heap.size, 4, none⟩ : Addr).block < _ from World.block_lt_of_cell? _ _ q4)).trans q4
  replace p4 := (hbf.cell (show (⟨w.heap.size + 1, 4, none⟩ : Addr).block < _ from World.block_lt_of_cell? _ _ p4)).trans p4
  clear q0 q1 q2 q3 p0 p1 p2 p3 hbf
  have hpn : w.heap.size + 2 < p := by have := HPW.out; have := HSW.out; omega
  have HBX := Lib.hid hbox; have HX2 := Lib.hid hx2; clear hbox hx2
  by_cases hn : non = non'
  · have e4 : (non.toList == non.toList) = true := beq_self_eq_true _
    subst hn
    have HN := Lib.hid (rfl : non = non)
    go_upto_region 8 with (fail)
    obtain ⟨w2, hw2⟩ : ∃ x, wx.setCell ⟨p, 4, none⟩ (.string non) = x := ⟨_, rfl⟩
    rw [hw2]
    have hon2 : OnlyB [p] wx w2 := by rw [← hw2]; exact (OnlyB.refl [p] wx).set (by simp)
    have hbx2 := heap_one (o := 4) HBX.out (.string non); rw [hw2] at hbx2
    have hxx2 : w2.heap[w.heap.size + 2]? = _ := (hon2.block _ (heap_lt HX2.out) (by rw [List.mem_singleton]; omega)).trans HX2.out
    clear fp0 fp1 fp2 fp3 fp4 zp0 zp1 zp2 zp3 zp4 fx0 fx1 fx2 fx3 fx4 zx0 zx1 zx2 zx3 zx4 q4 p4
    have fp0 := box_cell hbx2 (j := 0) rfl; have fx0 := box_cell hxx2 (j := 0) rfl; have zx0 := box_frz hxx2 0
    have fp1 := box_cell hbx2 (j := 1) rfl; have fx1 := box_cell hxx2 (j := 1) rfl; have zx1 := box_frz hxx2 1
    have fp2 := box_cell hbx2 (j := 2) rfl; have fx2 := box_cell hxx2 (j := 2) rfl; have zx2 := box_frz hxx2 2
    have fp3 := box_cell hbx2 (j := 3) rfl; have fx3 := box_cell hxx2 (j := 3) rfl; have zx3 := box_frz hxx2 3
    have fp4 := box_cell hbx2 (j := 4) rfl; have fx4 := box_cell hxx2 (j := 4) rfl; have zx4 := box_frz hxx2 4
    have H2X := Lib.hid hxx2
    have H2O := Lib.hid (show Own3 W.heap.size w2 (.slice b1 m1 k1) (.slice b2 m2 k2) (.slice b3 m3 k3) (bothS scr scr') (bothS sty sty') (bothS img img') from ⟨ownL_mono (ownL_only HOW.out.1 hon2 (fun b hb hm => by rw [List.mem_singleton] at hm; exact HNE.out b hb hm)) (Nat.le_refl _) hon2.size, HOW.out.2⟩)
    have HB2 := Lib.hid (show Below W.heap.size W w2 from HBF.out.trans (hon2.below (fun i hi => by rw [List.mem_singleton] at hi; have := HPW.out; omega) HBF.out.size))
    clear hw2 hon2 hbx2 hxx2
    have HPB3 := Lib.hid (show Below w.heap.size w w2 from HBW.out.trans (HB2.out.mono HBW.out.size))
    go_wp2_with fail
    obtain ⟨w3, hw3⟩ : ∃ x, ((((w2.setCell ⟨w.heap.size + 2, 0, none⟩ (.bool true)).setCell ⟨w.heap.size + 2, 1, none⟩ (.slice b1 m1 k1)).setCell ⟨w.heap.size + 2, 2, none⟩ (.slice b2 m2 k2)).setCell ⟨w.heap.size + 2, 3, none⟩ (.slice b3 m3 k3)).setCell ⟨w.heap.size + 2, 4, none⟩ (.string non) = x := ⟨_, rfl⟩
    rw [hw3]
    have hon : OnlyB [w.heap.size + 2] w2 w3 := by rw [← hw3]; exact set5_only w2 (w.heap.size + 2) _ _ _ _ _
    have hb3 := set5_box H2X.out (.bool true) (.slice b1 m1 k1) (.slice b2 m2 k2) (.slice b3 m3 k3) (.string non)
    rw [show set5 w2 (w.heap.size + 2) (.bool true) (.slice b1 m1 k1) (.slice b2 m2 k2) (.slice b3 m3 k3) (.string non) = w3 from hw3] at hb3
    have r0 := box_cell hb3 (j := 0) rfl
    have r1 := box_cell hb3 (j := 1) rfl
    have r2 := box_cell hb3 (j := 2) rfl
    have r3 := box_cell hb3 (j := 3) rfl
    have r4 := box_cell hb3 (j := 4) rfl
    refine bodyPost_ret (v := .agg #[.bool true, .slice b1 m1 k1, .slice b2 m2 k2, .slice b3 m3 k3, .string non]) (by simp [results, Tryd.results14, go_sem, r0, r1, r2, r3, r4]) rfl ?_
    refine ⟨b1, m1, k1, b2, m2, k2, b3, m3, k3, by first | rfl | rw [if_pos HN.out], ?_, HPB3.out.trans (hon.below (fun i hi => by first | rfl | rw [List.mem_singleton] at hi; omega) HPB3.out.size)⟩
    exact ⟨ownL_mono (ownL_only H2O.out.1 hon (fun b hb hm => by rw [List.mem_singleton] at hm; have := (ownL_lt H2O.out.1 b hb).1; have := HSW.out; omega)) (by have := HSW.out; omega) hon.size, H2O.out.2⟩
  · have e4 : (non.toList == non'.toList) = false := beqL_no hn
    have HN := Lib.hid hn; clear hn
    have H2X := HX2; have H2O := HOW; have HB2 := HBF
    obtain ⟨w2, hw2⟩ : ∃ x, wx = x := ⟨_, rfl⟩
    subst hw2
    have HPB3 := Lib.hid (show Below w.heap.size w wx from HBW.out.trans (HB2.out.mono HBW.out.size))
    go_wp2_with fail
    obtain ⟨w3, hw3⟩ : ∃ x, ((((wx.setCell ⟨w.heap.size + 2, 0, none⟩ (.bool true)).setCell ⟨w.heap.size + 2, 1, none⟩ (.slice b1 m1 k1)).setCell ⟨w.heap.size + 2, 2, none⟩ (.slice b2 m2 k2)).setCell ⟨w.heap.size + 2, 3, none⟩ (.slice b3 m3 k3)).setCell ⟨w.heap.size + 2, 4, none⟩ (.string ⟨#[]⟩) = x := ⟨_, rfl⟩
    rw [hw3]
    have hon : OnlyB [w.heap.size + 2] wx w3 := by rw [← hw3]; exact set5_only wx (w.heap.size + 2) _ _ _ _ _
    have hb3 := set5_box H2X.out (.bool true) (.slice b1 m1 k1) (.slice b2 m2 k2) (.slice b3 m3 k3) (.string ⟨#[]⟩)
    rw [show set5 wx (w.heap.size + 2) (.bool true) (.slice b1 m1 k1) (.slice b2 m2 k2) (.slice b3 m3 k3) (.string ⟨#[]⟩) = w3 from hw3] at hb3
    have r0 := box_cell hb3 (j := 0) rfl
    have r1 := box_cell hb3 (j := 1) rfl
    have r2 := box_cell hb3 (j := 2) rfl
    have r3 := box_cell hb3 (j := 3) rfl
    have r4 := box_cell hb3 (j := 4) rfl
    refine bodyPost_ret (v := .agg #[.bool true, .slice b1 m1 k1, .slice b2 m2 k2, .slice b3 m3 k3, .string ⟨#[]⟩]) (by simp [results, Tryd.results14, go_sem, r0, r1, r2, r3, r4]) rfl ?_
    refine ⟨b1, m1, k1, b2, m2, k2, b3, m3, k3, by first | rfl | rw [if_neg HN.out], ?_, HPB3.out.trans (hon.below (fun i hi => by first | rfl | rw [List.mem_singleton] at hi; omega) HPB3.out.size)⟩
    exact ⟨ownL_mono (ownL_only H2O.out.1 hon (fun b hb hm => by rw [List.mem_singleton] at hm; have := (ownL_lt H2O.out.1 b hb).1; have := HSW.out; omega)) (by have := HSW.out; omega) hon.size, H2O.out.2⟩


end Go.Proofs.YtkjjiinccljhjaaDoor

/- More on data with slices in slices: lists of them (a struct's slices), an own slice put into a cell, new slices of zero cells, boxes. No claim of its own. -/
import Derived.Test.YtpkicliimhflgaaRaw
import Derived.Test.YtpkicliimhflgaaHelpI
import Derived.Laws.MakeOwn
namespace Go.Proofs.Ytpkicliimhflgaa
open Go.ChangeShapes Go.WideShapes Go.ChangeAt Go.RowKit

theorem own_top {lo hi : Nat} {w : World} : ∀ (x : Rw), x.OwnR lo hi w → x.OwnR lo w.heap.size w := by
  refine Rw.ind (fun v h => ?_) (fun v n k e cs ih h => ?_)
  · rw [Rw.OwnR] at h ⊢; exact h
  · rw [Rw.OwnR] at h ⊢
    exact ⟨⟨h.1.1, fun g hg => (h.1.1.lt g hg).2⟩, ownRL_iff.2 fun c hc => ih c hc (ownRL_iff.1 h.2 c hc)⟩
theorem Rw.OwnR.top {lo hi : Nat} {w : World} {x : Rw} (h : x.OwnR lo hi w) : x.OwnR lo w.heap.size w := own_top x h
theorem sl_form {x : Rw} {hi : Nat} {w : World} (hx : ∃ v n k e cs, x = .sl v n k e cs) (h : x.ReadR hi w) : ∃ a n c, x.cell = .slice a n c := by
  obtain ⟨v, n, k, e, cs, rfl⟩ := hx
  rw [Rw.ReadR] at h
  obtain ⟨⟨a, cap, rfl, _⟩, _⟩ := h
  exact ⟨a, n, cap, rfl⟩
theorem is_sl_mark {x : Rw} (hx : ∃ v n k e cs, x = .sl v n k e cs) (q : Nat) : ∃ v n k e cs, x.mark q = .sl v n k e cs := by
  obtain ⟨v, n, k, e, cs, rfl⟩ := hx
  exact ⟨v, n, k, e, markL cs q, by rw [mark_cell_sl]⟩
theorem weightL_mem : ∀ {cs : List Rw} {c : Rw}, c ∈ cs → c.weight ≤ weightL cs
  | [], c, h => by cases h
  | d :: cs, c, h => by
    rw [weightL]
    rcases List.mem_cons.1 h with e | h2
    · rw [e]; omega
    · have := weightL_mem h2; omega
/-- A cell that holds a plain value takes an own slice (or another plain value). -/
theorem Rw.OwnR.put {lo hi g n k cap m : Nat} {e : TypeId} {w : World} {cs : List Rw} {u : Value} {y : Rw} (h : (Rw.sl (.slice (some ⟨g, 0, none⟩) n cap) n k e cs).OwnR lo hi w) (hn : g ∉ blocksL cs) (hm : cs[m]? = some (.leaf u)) (hy : y.OwnR lo hi w) (hg : g ∉ y.blocks) :
    (Rw.sl (.slice (some ⟨g, 0, none⟩) n cap) n k e (cs.set m y)).OwnR lo hi (w.setCell ⟨g, m, none⟩ y.cell) ∧ OnlyB [g] w (w.setCell ⟨g, m, none⟩ y.cell) ∧ (∀ b, b ∈ blocksL (cs.set m y) ↔ b ∈ y.blocks ∨ b ∈ blocksL cs) ∧
      ((blocksL cs).Nodup → y.blocks.Nodup → (∀ b ∈ y.blocks, b ∉ blocksL cs) → (blocksL (cs.set m y)).Nodup) := by
  have hml : m < cs.length := (List.getElem?_eq_some_iff.1 hm).1
  rw [Rw.OwnR] at h
  have hst := h.1.1.stored m y.cell
  have hon : OnlyB [g] w (w.setCell ⟨g, m, none⟩ y.cell) := OnlyB.of_grown hst.2
  have e1 : cs = cs.take m ++ .leaf u :: cs.drop (m + 1) := by
    conv => lhs; rw [← List.take_append_drop m cs, List.drop_eq_getElem_cons hml]
    rw [show cs[m] = .leaf u from Option.some.inj ((List.getElem?_eq_getElem hml).symm.trans hm)]
  have e2 : cs.set m y = cs.take m ++ y :: cs.drop (m + 1) := List.set_eq_take_append_cons_drop.trans (if_pos hml)
  have b1 : blocksL cs = blocksL (cs.take m) ++ blocksL (cs.drop (m + 1)) := by
    conv => lhs; rw [e1, blocksL_append, blocksL, Rw.blocks]
    rfl
  have b2 : blocksL (cs.set m y) = blocksL (cs.take m) ++ (y.blocks ++ blocksL (cs.drop (m + 1))) := by rw [e2, blocksL_append, blocksL]
  refine ⟨?_, hon, fun b => ?_, fun hd hyd hdis => ?_⟩
  · rw [Rw.OwnR]
    refine ⟨⟨by rw [List.map_set]; exact hst.1, h.1.2⟩, ownRL_iff.2 fun c hc => ?_⟩
    rcases List.mem_or_eq_of_mem_set hc with h1 | h1
    · refine Rw.OwnR.only hon c (ownRL_iff.1 h.2 c h1) fun b hb hbg => ?_
      rw [List.mem_singleton] at hbg
      subst hbg
      exact hn (blocksL_mem.2 ⟨c, h1, hb⟩)
    · rw [h1]
      refine Rw.OwnR.only hon y hy fun b hb hbg => ?_
      rw [List.mem_singleton] at hbg
      subst hbg
      exact hg hb
  · rw [b2, b1]; simp only [List.mem_append]; constructor
    · rintro (h | h | h)
      · exact Or.inr (Or.inl h)
      · exact Or.inl h
      · exact Or.inr (Or.inr h)
    · rintro (h | h | h)
      · exact Or.inr (Or.inl h)
      · exact Or.inl h
      · exact Or.inr (Or.inr h)
  · rw [b2]
    rw [b1] at hd hdis
    have hA := List.nodup_append.1 hd
    refine List.nodup_append.2 ⟨hA.1, List.nodup_append.2 ⟨hyd, hA.2.1, fun a ha b hb e => ?_⟩, fun a ha b hb e => ?_⟩
    · subst e; exact hdis a ha (List.mem_append.2 (Or.inr hb))
    · subst e
      rcases List.mem_append.1 hb with hb | hb
      · exact hdis a hb (List.mem_append.2 (Or.inl ha))
      · exact hA.2.2 a ha a hb rfl

theorem made_one {z : Array Value} (h : ∀ u ∈ z, u.oneCell' = true) (hz : 0 < z.size) (n : Nat) : ∀ u ∈ (madeCells z n).toList, u.oneCell' = true := by
  intro u hu
  unfold madeCells at hu
  simp only [Array.toList_map, List.mem_map] at hu
  obtain ⟨i, _, rfl⟩ := hu
  have hi : i % z.size < z.size := Nat.mod_lt _ hz
  rw [getElem!_pos z (i % z.size) hi]
  exact h _ (Array.getElem_mem hi)
theorem leaves_blocks (us : List Value) : blocksL (us.map Rw.leaf) = [] := blocksL_nil fun c hc => by
  obtain ⟨u, _, rfl⟩ := List.mem_map.1 hc
  rw [Rw.blocks]
theorem leaves_own {lo k n : Nat} {e : TypeId} {w : World} {v : Value} {us : List Value} (h : w.ownsRow lo e k v n us) (h1 : ∀ u ∈ us, u.oneCell' = true) : (Rw.sl v n k e (us.map Rw.leaf)).OwnR lo w.heap.size w := by
  rw [Rw.OwnR]
  refine ⟨⟨?_, fun g hg => (h.lt g hg).2⟩, ownRL_iff.2 fun c hc => ?_⟩
  · rw [List.map_map, show (Rw.cell ∘ Rw.leaf) = (id : Value → Value) from rfl, List.map_id]; exact h
  · obtain ⟨u, hu, rfl⟩ := List.mem_map.1 hc
    rw [Rw.OwnR]; exact h1 u hu
theorem dataL_ext {cs ds : List Rw} (hl : cs.length = ds.length) (h : ∀ (m : Nat) (c d : Rw), cs[m]? = some c → ds[m]? = some d → c.data = d.data) : dataL cs = dataL ds := by
  apply List.ext_getElem?
  intro m
  rw [dataL_at, dataL_at]
  by_cases hm : m < cs.length
  · rw [List.getElem?_eq_getElem hm, List.getElem?_eq_getElem (hl ▸ hm)]
    show some _ = some _
    rw [h m _ _ (List.getElem?_eq_getElem hm) (List.getElem?_eq_getElem (hl ▸ hm))]
  · rw [List.getElem?_eq_none (by omega), List.getElem?_eq_none (by omega)]

theorem ownL_only {lo hi : Nat} {w w' : World} {bs : List Nat} {L : List Rw} (h : OwnRL lo hi w L) (hb : OnlyB bs w w') (hd : ∀ b ∈ blocksL L, b ∉ bs) : OwnRL lo hi w' L :=
  ownRL_iff.2 fun c hc => Rw.OwnR.only hb c (ownRL_iff.1 h c hc) fun b hbc => hd b (blocksL_mem.2 ⟨c, hc, hbc⟩)
theorem ownL_later {lo hi : Nat} {w w' : World} {L : List Rw} (h : OwnRL lo hi w L) (hb : Below w.heap.size w w') : OwnRL lo hi w' L :=
  ownL_only h (OnlyB.of_below hb []) fun _ _ hm => by cases hm
theorem ownL_lt {lo hi : Nat} {w : World} {L : List Rw} (h : OwnRL lo hi w L) : ∀ b ∈ blocksL L, lo ≤ b ∧ b < hi ∧ b < w.heap.size := by
  intro b hb
  obtain ⟨c, hc, hbc⟩ := blocksL_mem.1 hb
  exact Rw.OwnR.lt c (ownRL_iff.1 h c hc) b hbc
theorem ownL_mono {lo hi lo' hi' : Nat} {w : World} {L : List Rw} (h : OwnRL lo hi w L) (hl : lo' ≤ lo) (hh : hi ≤ hi') : OwnRL lo' hi' w L :=
  ownRL_iff.2 fun c hc => Rw.OwnR.mono hl hh c (ownRL_iff.1 h c hc)
theorem ownL_reads {lo hi : Nat} {w : World} {L : List Rw} (h : OwnRL lo hi w L) : ReadRL hi w L := readRL_iff.2 fun c hc => Rw.OwnR.reads c (ownRL_iff.1 h c hc)
theorem ownL_read {lo hi hi' : Nat} {w : World} {L : List Rw} (h : OwnRL lo hi w L) (hh : hi ≤ hi') : ReadRL hi' w L := readRL_iff.2 fun c hc => Rw.ReadR.mono hh c (Rw.OwnR.reads c (ownRL_iff.1 h c hc))
theorem ownL_apart {lo hi lo' hi' : Nat} {w w' : World} {L M : List Rw} (h : OwnRL lo hi w L) (hy : OwnRL lo' hi' w M) (hh : hi ≤ lo' ∨ hi' ≤ lo) (ho : OnlyB (blocksL M) w w') : OwnRL lo hi w' L :=
  ownL_only h ho fun b hb hby => by
    have h1 := ownL_lt h b hb
    have h2 := ownL_lt hy b hby
    omega
theorem ownL_back {lo hi : Nat} {w0 w w' : World} {M : List Rw} (hb : Below lo w0 w) (hy : OwnRL lo hi w M) (hl : lo ≤ w.heap.size) (ho : OnlyB (blocksL M) w w') : Below lo w0 w' :=
  hb.trans (ho.below (fun b hbm => (ownL_lt hy b hbm).1) hl)
theorem own_mono_L {lo hi lo' : Nat} {w : World} {L : List Rw} (h : OwnRL lo hi w L) (hl : lo' ≤ lo) : OwnRL lo' w.heap.size w L :=
  ownRL_iff.2 fun c hc => Rw.OwnR.top (Rw.OwnR.mono hl (Nat.le_refl _) c (ownRL_iff.1 h c hc))
theorem own_mono {x : Rw} {lo hi lo' hi' : Nat} {w : World} (h : x.OwnR lo hi w) (hl : lo' ≤ lo) (hh : hi ≤ hi') : x.OwnR lo' hi' w := Rw.OwnR.mono hl hh x h
theorem nodup_in : ∀ {L : List Rw} {c : Rw}, (blocksL L).Nodup → c ∈ L → c.blocks.Nodup
  | [], c, _, h => by cases h
  | d :: L, c, hn, h => by
    rw [blocksL] at hn
    rcases List.mem_cons.1 h with e | h2
    · rw [e]; exact (List.nodup_append.1 hn).1
    · exact nodup_in (List.nodup_append.1 hn).2.1 h2
theorem nodup_apart : ∀ {L : List Rw} {a b : Rw} {i j : Nat}, (blocksL L).Nodup → L[i]? = some a → L[j]? = some b → i ≠ j → ∀ x ∈ a.blocks, x ∉ b.blocks
  | [], _, _, _, _, _, h, _, _ => by simp at h
  | c :: L, a, b, 0, 0, _, _, _, h => absurd rfl h
  | c :: L, a, b, 0, j + 1, hn, ha, hb, _ => fun x hx hy => by
    rw [blocksL] at hn
    have e : c = a := by simpa using ha
    subst e
    exact (List.nodup_append.1 hn).2.2 x hx x (blocksL_mem.2 ⟨b, List.mem_of_getElem? (by simpa using hb), hy⟩) rfl
  | c :: L, a, b, i + 1, 0, hn, ha, hb, _ => fun x hx hy => by
    rw [blocksL] at hn
    have e : c = b := by simpa using hb
    subst e
    exact (List.nodup_append.1 hn).2.2 x hy x (blocksL_mem.2 ⟨a, List.mem_of_getElem? (by simpa using ha), hx⟩) rfl
  | c :: L, a, b, i + 1, j + 1, hn, ha, hb, h => by
    rw [blocksL] at hn
    exact nodup_apart (List.nodup_append.1 hn).2.1 (by simpa using ha) (by simpa using hb) (fun e => h (by rw [e]))
theorem cell_only {bs : List Nat} {w w' : World} {a : Addr} (h : OnlyB bs w w') (hn : a.block ∉ bs) (hl : a.block < w.heap.size) : w'.cell? a = w.cell? a := World.cell?_of_block (h.block _ hl hn)
theorem ownL_top {lo hi : Nat} {w : World} {L : List Rw} (h : OwnRL lo hi w L) : OwnRL lo w.heap.size w L := ownRL_iff.2 fun c hc => Rw.OwnR.top (ownRL_iff.1 h c hc)
theorem ownL_one {lo hi : Nat} {w : World} {a : Rw} : OwnRL lo hi w [a] ↔ a.OwnR lo hi w := by rw [ownRL_iff]; simp
theorem ownL_two {lo hi : Nat} {w : World} {a b : Rw} : OwnRL lo hi w [a, b] ↔ a.OwnR lo hi w ∧ b.OwnR lo hi w := by rw [ownRL_iff]; simp
theorem rd_of {lo hi : Nat} {w : World} {x : Rw} (h : x.OwnR lo hi w) : x.ReadR w.heap.size w := Rw.OwnR.reads _ h.top
theorem rdL1 {lo hi : Nat} {w : World} {a b : Rw} (h : OwnRL lo hi w [a, b]) : a.ReadR w.heap.size w := rd_of (ownL_two.1 h).1
theorem rdL2 {lo hi : Nat} {w : World} {a b : Rw} (h : OwnRL lo hi w [a, b]) : b.ReadR w.heap.size w := rd_of (ownL_two.1 h).2

theorem OnlyB.set {bs : List Nat} {w w' : World} {b o : Nat} {u : Value} (h : OnlyB bs w w') (hb : b ∈ bs) : OnlyB bs w (w'.setCell ⟨b, o, none⟩ u) :=
  ⟨h.os, h.tape, h.output, Nat.le_trans h.size (by simp [World.setCell]), fun i hi hn => by
    rw [Below.heap_setCell _ _ _ _ (show i ≠ b from fun e => hn (e ▸ hb))]; exact h.block i hi hn⟩
theorem size_alloc (w : World) (o : Obj) : (w.alloc o).heap.size = w.heap.size + 1 := by show (w.heap.push o).size = _; simp
theorem size_set (w : World) (a : Addr) (u : Value) : w.heap.size ≤ (w.setCell a u).heap.size := by simp [World.setCell]
theorem heap_lt {w : World} {b : Nat} {o : Obj} (h : w.heap[b]? = some o) : b < w.heap.size := (Array.getElem?_eq_some_iff.1 h).1
theorem below_heap {B b : Nat} {w w' : World} {o : Obj} (h : Below B w w') (hb : b < B) (hw : w.heap[b]? = some o) : w'.heap[b]? = some o := by rw [h.block b hb]; exact hw
theorem heap_one {w : World} {b o : Nat} {cs : Array Value} {T : TypeId} (h : w.heap[b]? = some (.cells cs T (0, 0))) (u : Value) : (w.setCell ⟨b, o, none⟩ u).heap[b]? = some (.cells (cs.setIfInBounds o u) T (0, 0)) := heap_setCell_same w b o cs T u h
theorem box_cell {w : World} {b j : Nat} {cs : Array Value} {T : TypeId} {u : Value} (h : w.heap[b]? = some (.cells cs T (0, 0))) (hj : cs[j]? = some u) : w.cell? ⟨b, j, none⟩ = some u := by
  unfold World.cell?; rw [h]; exact hj
theorem box_frz {w : World} {b : Nat} {cs : Array Value} {T : TypeId} (h : w.heap[b]? = some (.cells cs T (0, 0))) (j : Nat) : w.frozen? ⟨b, j, none⟩ = false := by
  unfold World.frozen?; rw [h]; simp
theorem box_far {w : World} {b c : Nat} {o : Obj} (h : w.heap[b]? = some o) (hne : b ≠ c) (j : Nat) (u : Value) : (w.setCell ⟨c, j, none⟩ u).heap[b]? = some o := by
  rw [Below.heap_setCell _ _ _ _ hne]; exact h
theorem three_new0 (w : World) (o0 o1 o2 : Obj) : (((w.alloc o0).alloc o1).alloc o2).heap[w.heap.size]? = some o0 := by
  rw [Below.heap_alloc _ _ _ (by rw [size_alloc, size_alloc]; omega), Below.heap_alloc _ _ _ (by rw [size_alloc]; omega)]
  exact heap_alloc_new w _
theorem three_new1 (w : World) (o0 o1 o2 : Obj) : (((w.alloc o0).alloc o1).alloc o2).heap[w.heap.size + 1]? = some o1 := by
  rw [Below.heap_alloc _ _ _ (by rw [size_alloc, size_alloc]; omega)]
  have h := heap_alloc_new (w.alloc o0) o1
  rw [size_alloc] at h
  exact h
theorem three_new2 (w : World) (o0 o1 o2 : Obj) : (((w.alloc o0).alloc o1).alloc o2).heap[w.heap.size + 2]? = some o2 := by
  have h := heap_alloc_new ((w.alloc o0).alloc o1) o2
  rw [size_alloc, size_alloc] at h
  exact h

/-- A slice of integers. -/
def intCells (zs : List Int) : List Rw := zs.map fun z => .leaf (.int .i64 z)
def rwI (v : Value) (zs : List Int) : Rw := .sl v zs.length 1 3 (intCells zs)
def IsIntS (x : Rw) : Prop := ∃ v zs, x = rwI v zs
theorem rwI_is (v : Value) (zs : List Int) : IsIntS (rwI v zs) := ⟨v, zs, rfl⟩
theorem is_sl_IntS {x : Rw} (h : IsIntS x) : ∃ v n k e cs, x = .sl v n k e cs := by
  obtain ⟨v, zs, rfl⟩ := h
  exact ⟨v, _, _, _, _, rfl⟩
theorem intCells_map (zs : List Int) : (intCells zs).map Rw.cell = zs.map (.int .i64) := by
  unfold intCells; rw [List.map_map]; rfl
theorem intCells_len (zs : List Int) : (intCells zs).length = zs.length := by unfold intCells; rw [List.length_map]
theorem intCells_leaf {zs : List Int} {c : Rw} (h : c ∈ intCells zs) : ∃ z, c = .leaf (.int .i64 z) := by
  obtain ⟨z, _, rfl⟩ := List.mem_map.1 h
  exact ⟨z, rfl⟩
theorem intCells_blocks (zs : List Int) : blocksL (intCells zs) = [] := blocksL_nil fun c hc => by
  obtain ⟨z, rfl⟩ := intCells_leaf hc
  rw [Rw.blocks]
theorem intCells_count : ∀ zs : List Int, countL (intCells zs) = zs.length
  | [] => rfl
  | z :: zs => by
    have := intCells_count zs
    unfold intCells at this ⊢
    rw [List.map_cons, countL, Rw.count, this, List.length_cons]; omega
theorem intCells_weight : ∀ zs : List Int, weightL (intCells zs) = 0
  | [] => rfl
  | z :: zs => by
    have := intCells_weight zs
    unfold intCells at this ⊢
    rw [List.map_cons, weightL, Rw.weight, this]; rfl
theorem marksI_cons (k n : Nat) : marksI k (n + 1) = (k : Int) :: marksI (k + 1) n := by
  unfold marksI
  rw [List.range_succ_eq_map, List.map_cons, List.map_map]
  congr 1
  apply List.map_congr_left
  intro i _
  show ((k + (i + 1) : Nat) : Int) = ((k + 1 + i : Nat) : Int)
  congr 1; omega
theorem intCells_mark : ∀ (zs : List Int) (q : Nat), markL (intCells zs) q = intCells (marksI q zs.length)
  | [], q => by rw [List.length_nil]; rfl
  | z :: zs, q => by
    have := intCells_mark zs (q + 1)
    rw [List.length_cons, marksI_cons]
    unfold intCells at this ⊢
    rw [List.map_cons, List.map_cons, markL, mark_leaf, Rw.count, this]; rfl
theorem rwI_blocks (v : Value) (zs : List Int) : (rwI v zs).blocks = v.ownBlock.toList := by rw [rwI, Rw.blocks, intCells_blocks, List.append_nil]
theorem rwI_count (v : Value) (zs : List Int) : (rwI v zs).count = zs.length := by rw [rwI, Rw.count, intCells_count]
theorem rwI_weight (v : Value) (zs : List Int) : (rwI v zs).weight = zs.length := by rw [rwI, Rw.weight, intCells_weight]; rfl
theorem rwI_mark (v : Value) (zs : List Int) (q : Nat) : (rwI v zs).mark q = rwI v (marksI q zs.length) := by
  rw [rwI, mark_cell_sl, intCells_mark, rwI, marksI_len]
theorem rwI_own {lo hi : Nat} {w : World} {v : Value} {zs : List Int} : (rwI v zs).OwnR lo hi w ↔ Own .i64 3 lo hi w v zs := by
  rw [rwI, Rw.OwnR, intCells_map]
  constructor
  · intro h; exact h.1
  · intro h; exact ⟨h, ownRL_iff.2 fun c hc => by obtain ⟨z, rfl⟩ := intCells_leaf hc; rw [Rw.OwnR]; rfl⟩
theorem rwI_reads {hi : Nat} {w : World} {v : Value} {zs : List Int} : (rwI v zs).ReadR hi w ↔ Reads .i64 hi w v zs := by
  rw [rwI, Rw.ReadR, intCells_map]
  constructor
  · rintro ⟨⟨a, cap, rfl, _, h2, h3, h4, h5⟩, _⟩
    refine ⟨a, cap, rfl, h2, h3, h4, ?_⟩
    rcases h5 with h5 | ⟨g, off, e2, hg, hc⟩
    · exact Or.inl h5
    · exact Or.inr ⟨g, off, e2, hg, fun j hj => hc j _ (by rw [List.getElem?_map, getD_at hj]; rfl)⟩
  · rintro ⟨a, cap, rfl, h2, h3, h4, h5⟩
    refine ⟨⟨a, cap, rfl, by rw [intCells_len, Nat.mul_one], h2, h3, h4, ?_⟩, readRL_iff.2 fun c hc => by obtain ⟨z, rfl⟩ := intCells_leaf hc; rw [Rw.ReadR]; rfl⟩
    rcases h5 with h5 | ⟨g, off, e2, hg, hc⟩
    · exact Or.inl h5
    · refine Or.inr ⟨g, off, e2, hg, fun j c hj => ?_⟩
      have hjl : j < zs.length := by have := (List.getElem?_eq_some_iff.1 hj).1; simpa using this
      rw [List.getElem?_map, getD_at hjl] at hj
      cases hj
      exact hc j hjl
theorem intCells_inj {zs ys : List Int} (h : dataL (intCells zs) = dataL (intCells ys)) : zs = ys := by
  induction zs generalizing ys with
  | nil =>
    cases ys with
    | nil => rfl
    | cons y ys => unfold intCells at h; rw [List.map_nil, List.map_cons, dataL, dataL] at h; cases h
  | cons z zs ih =>
    cases ys with
    | nil => unfold intCells at h; rw [List.map_nil, List.map_cons, dataL, dataL] at h; cases h
    | cons y ys =>
      unfold intCells at h
      rw [List.map_cons, List.map_cons, dataL, dataL] at h
      obtain ⟨h1, h2⟩ := List.cons.inj h
      rw [Rw.data, Rw.data] at h1
      injection h1 with h3
      injection h3 with _ h4
      rw [h4, ih h2]
theorem rwI_data {v u : Value} {zs ys : List Int} : (rwI v zs).data = (rwI u ys).data ↔ zs = ys := by
  rw [rwI, rwI, Rw.data, Rw.data]
  constructor
  · intro h; exact intCells_inj (Dt.sl.inj h).2
  · intro h; rw [h]

end Go.Proofs.Ytpkicliimhflgaa

/- More on data with slices in slices: lists of them (a struct's slices), an own slice put into a cell, new slices of zero cells, boxes. No claim of its own. Helper contracts over the functions with which the laws copy, compare, measure and mark slices, by program (deep.py). Asked: what lies in memory is as named. -/
import Derived.Test.YtpkicliimhflgaaGreatDoorMf1
import Derived.Test.YtpkicliimhflgaaGreatDoorMf2
import Derived.Laws.MakeOwn
import Derived.Shelf.SlSortCmp.QuietGrown
namespace Go.Proofs.YtpkicliimhflgaaGreatDoor

open Go.ChangeShapes Go.WideShapes Go.ChangeAt Go.RowKit

theorem own_top {lo hi : Nat} {w : World} : ∀ (x : Rw), x.OwnR lo hi w → x.OwnR lo w.heap.size w := by
  refine Rw.ind (fun v h => ?_) (fun v n k e cs ih h => ?_)
  · rw [Rw.OwnR] at h ⊢; exact h
  · rw [Rw.OwnR] at h ⊢
    exact ⟨⟨h.1.1, fun g hg => (h.1.1.lt g hg).2⟩, ownRL_iff.2 fun c hc => ih c hc (ownRL_iff.1 h.2 c hc)⟩
theorem Rw.OwnR.top {lo hi : Nat} {w : World} {x : Rw} (h : x.OwnR lo hi w) : x.OwnR lo w.heap.size w := own_top x h
theorem sl_form {x : Rw} {hi : Nat} {w : World} (hx : ∃ v n k e cs, x = .sl v n k e cs) (h : x.ReadR hi w) : ∃ a n c, x.cell = .slice a n c := by
  obtain ⟨v, n, k, e, cs, rfl⟩ := hx
  rw [Rw.ReadR] at h
  obtain ⟨⟨a, cap, rfl, _⟩, _⟩ := h
  exact ⟨a, n, cap, rfl⟩
theorem is_sl_mark {x : Rw} (hx : ∃ v n k e cs, x = .sl v n k e cs) (q : Nat) : ∃ v n k e cs, x.mark q = .sl v n k e cs := by
  obtain ⟨v, n, k, e, cs, rfl⟩ := hx
  exact ⟨v, n, k, e, markL cs q, by rw [mark_cell_sl]⟩
theorem weightL_mem : ∀ {cs : List Rw} {c : Rw}, c ∈ cs → c.weight ≤ weightL cs
  | [], c, h => by cases h
  | d :: cs, c, h => by
    rw [weightL]
    rcases List.mem_cons.1 h with e | h2
    · rw [e]; omega
    · have := weightL_mem h2; omega
/-- A cell that holds a plain value takes an own slice (or another plain value). -/
theorem Rw.OwnR.put {lo hi g n k cap m : Nat} {e : TypeId} {w : World} {cs : List Rw} {u : Value} {y : Rw} (h : (Rw.sl (.slice (some ⟨g, 0, none⟩) n cap) n k e cs).OwnR lo hi w) (hn : g ∉ blocksL cs) (hm : cs[m]? = some (.leaf u)) (hy : y.OwnR lo hi w) (hg : g ∉ y.blocks) :
    (Rw.sl (.slice (some ⟨g, 0, none⟩) n cap) n k e (cs.set m y)).OwnR lo hi (w.setCell ⟨g, m, none⟩ y.cell) ∧ OnlyB [g] w (w.setCell ⟨g, m, none⟩ y.cell) ∧ (∀ b, b ∈ blocksL (cs.set m y) ↔ b ∈ y.blocks ∨ b ∈ blocksL cs) ∧
      ((blocksL cs).Nodup → y.blocks.Nodup → (∀ b ∈ y.blocks, b ∉ blocksL cs) → (blocksL (cs.set m y)).Nodup) := by
  have hml : m < cs.length := (List.getElem?_eq_some_iff.1 hm).1
  rw [Rw.OwnR] at h
  have hst := h.1.1.stored m y.cell
  have hon : OnlyB [g] w (w.setCell ⟨g, m, none⟩ y.cell) := OnlyB.of_grown hst.2
  have e1 : cs = cs.take m ++ .leaf u :: cs.drop (m + 1) := by
    conv => lhs; rw [← List.take_append_drop m cs, List.drop_eq_getElem_cons hml]
    rw [show cs[m] = .leaf u from Option.some.inj ((List.getElem?_eq_getElem hml).symm.trans hm)]
  have e2 : cs.set m y = cs.take m ++ y :: cs.drop (m + 1) := List.set_eq_take_append_cons_drop.trans (if_pos hml)
  have b1 : blocksL cs = blocksL (cs.take m) ++ blocksL (cs.drop (m + 1)) := by
    conv => lhs; rw [e1, blocksL_append, blocksL, Rw.blocks]
    rfl
  have b2 : blocksL (cs.set m y) = blocksL (cs.take m) ++ (y.blocks ++ blocksL (cs.drop (m + 1))) := by rw [e2, blocksL_append, blocksL]
  refine ⟨?_, hon, fun b => ?_, fun hd hyd hdis => ?_⟩
  · rw [Rw.OwnR]
    refine ⟨⟨by rw [List.map_set]; exact hst.1, h.1.2⟩, ownRL_iff.2 fun c hc => ?_⟩
    rcases List.mem_or_eq_of_mem_set hc with h1 | h1
    · refine Rw.OwnR.only hon c (ownRL_iff.1 h.2 c h1) fun b hb hbg => ?_
      rw [List.mem_singleton] at hbg
      subst hbg
      exact hn (blocksL_mem.2 ⟨c, h1, hb⟩)
    · rw [h1]
      refine Rw.OwnR.only hon y hy fun b hb hbg => ?_
      rw [List.mem_singleton] at hbg
      subst hbg
      exact hg hb
  · rw [b2, b1]; simp only [List.mem_append]; constructor
    · rintro (h | h | h)
      · exact Or.inr (Or.inl h)
      · exact Or.inl h
      · exact Or.inr (Or.inr h)
    · rintro (h | h | h)
      · exact Or.inr (Or.inl h)
      · exact Or.inl h
      · exact Or.inr (Or.inr h)
  · rw [b2]
    rw [b1] at hd hdis
    have hA := List.nodup_append.1 hd
    refine List.nodup_append.2 ⟨hA.1, List.nodup_append.2 ⟨hyd, hA.2.1, fun a ha b hb e => ?_⟩, fun a ha b hb e => ?_⟩
    · subst e; exact hdis a ha (List.mem_append.2 (Or.inr hb))
    · subst e
      rcases List.mem_append.1 hb with hb | hb
      · exact hdis a hb (List.mem_append.2 (Or.inl ha))
      · exact hA.2.2 a ha a hb rfl

theorem made_one {z : Array Value} (h : ∀ u ∈ z, u.oneCell' = true) (hz : 0 < z.size) (n : Nat) : ∀ u ∈ (madeCells z n).toList, u.oneCell' = true := by
  intro u hu
  unfold madeCells at hu
  simp only [Array.toList_map, List.mem_map] at hu
  obtain ⟨i, _, rfl⟩ := hu
  have hi : i % z.size < z.size := Nat.mod_lt _ hz
  rw [getElem!_pos z (i % z.size) hi]
  exact h _ (Array.getElem_mem hi)
theorem leaves_blocks (us : List Value) : blocksL (us.map Rw.leaf) = [] := blocksL_nil fun c hc => by
  obtain ⟨u, _, rfl⟩ := List.mem_map.1 hc
  rw [Rw.blocks]
theorem leaves_own {lo k n : Nat} {e : TypeId} {w : World} {v : Value} {us : List Value} (h : w.ownsRow lo e k v n us) (h1 : ∀ u ∈ us, u.oneCell' = true) : (Rw.sl v n k e (us.map Rw.leaf)).OwnR lo w.heap.size w := by
  rw [Rw.OwnR]
  refine ⟨⟨?_, fun g hg => (h.lt g hg).2⟩, ownRL_iff.2 fun c hc => ?_⟩
  · rw [List.map_map, show (Rw.cell ∘ Rw.leaf) = (id : Value → Value) from rfl, List.map_id]; exact h
  · obtain ⟨u, hu, rfl⟩ := List.mem_map.1 hc
    rw [Rw.OwnR]; exact h1 u hu
theorem dataL_ext {cs ds : List Rw} (hl : cs.length = ds.length) (h : ∀ (m : Nat) (c d : Rw), cs[m]? = some c → ds[m]? = some d → c.data = d.data) : dataL cs = dataL ds := by
  apply List.ext_getElem?
  intro m
  rw [dataL_at, dataL_at]
  by_cases hm : m < cs.length
  · rw [List.getElem?_eq_getElem hm, List.getElem?_eq_getElem (hl ▸ hm)]
    show some _ = some _
    rw [h m _ _ (List.getElem?_eq_getElem hm) (List.getElem?_eq_getElem (hl ▸ hm))]
  · rw [List.getElem?_eq_none (by omega), List.getElem?_eq_none (by omega)]

theorem ownL_only {lo hi : Nat} {w w' : World} {bs : List Nat} {L : List Rw} (h : OwnRL lo hi w L) (hb : OnlyB bs w w') (hd : ∀ b ∈ blocksL L, b ∉ bs) : OwnRL lo hi w' L :=
  ownRL_iff.2 fun c hc => Rw.OwnR.only hb c (ownRL_iff.1 h c hc) fun b hbc => hd b (blocksL_mem.2 ⟨c, hc, hbc⟩)
theorem ownL_later {lo hi : Nat} {w w' : World} {L : List Rw} (h : OwnRL lo hi w L) (hb : Below w.heap.size w w') : OwnRL lo hi w' L :=
  ownL_only h (OnlyB.of_below hb []) fun _ _ hm => by cases hm
theorem ownL_lt {lo hi : Nat} {w : World} {L : List Rw} (h : OwnRL lo hi w L) : ∀ b ∈ blocksL L, lo ≤ b ∧ b < hi ∧ b < w.heap.size := by
  intro b hb
  obtain ⟨c, hc, hbc⟩ := blocksL_mem.1 hb
  exact Rw.OwnR.lt c (ownRL_iff.1 h c hc) b hbc
theorem ownL_mono {lo hi lo' hi' : Nat} {w : World} {L : List Rw} (h : OwnRL lo hi w L) (hl : lo' ≤ lo) (hh : hi ≤ hi') : OwnRL lo' hi' w L :=
  ownRL_iff.2 fun c hc => Rw.OwnR.mono hl hh c (ownRL_iff.1 h c hc)
theorem ownL_reads {lo hi : Nat} {w : World} {L : List Rw} (h : OwnRL lo hi w L) : ReadRL hi w L := readRL_iff.2 fun c hc => Rw.OwnR.reads c (ownRL_iff.1 h c hc)
theorem ownL_read {lo hi hi' : Nat} {w : World} {L : List Rw} (h : OwnRL lo hi w L) (hh : hi ≤ hi') : ReadRL hi' w L := readRL_iff.2 fun c hc => Rw.ReadR.mono hh c (Rw.OwnR.reads c (ownRL_iff.1 h c hc))
theorem ownL_apart {lo hi lo' hi' : Nat} {w w' : World} {L M : List Rw} (h : OwnRL lo hi w L) (hy : OwnRL lo' hi' w M) (hh : hi ≤ lo' ∨ hi' ≤ lo) (ho : OnlyB (blocksL M) w w') : OwnRL lo hi w' L :=
  ownL_only h ho fun b hb hby => by
    have h1 := ownL_lt h b hb
    have h2 := ownL_lt hy b hby
    omega
theorem ownL_back {lo hi : Nat} {w0 w w' : World} {M : List Rw} (hb : Below lo w0 w) (hy : OwnRL lo hi w M) (hl : lo ≤ w.heap.size) (ho : OnlyB (blocksL M) w w') : Below lo w0 w' :=
  hb.trans (ho.below (fun b hbm => (ownL_lt hy b hbm).1) hl)
theorem own_mono_L {lo hi lo' : Nat} {w : World} {L : List Rw} (h : OwnRL lo hi w L) (hl : lo' ≤ lo) : OwnRL lo' w.heap.size w L :=
  ownRL_iff.2 fun c hc => Rw.OwnR.top (Rw.OwnR.mono hl (Nat.le_refl _) c (ownRL_iff.1 h c hc))
theorem own_mono {x : Rw} {lo hi lo' hi' : Nat} {w : World} (h : x.OwnR lo hi w) (hl : lo' ≤ lo) (hh : hi ≤ hi') : x.OwnR lo' hi' w := Rw.OwnR.mono hl hh x h
theorem nodup_in : ∀ {L : List Rw} {c : Rw}, (blocksL L).Nodup → c ∈ L → c.blocks.Nodup
  | [], c, _, h => by cases h
  | d :: L, c, hn, h => by
    rw [blocksL] at hn
    rcases List.mem_cons.1 h with e | h2
    · rw [e]; exact (List.nodup_append.1 hn).1
    · exact nodup_in (List.nodup_append.1 hn).2.1 h2
theorem nodup_apart : ∀ {L : List Rw} {a b : Rw} {i j : Nat}, (blocksL L).Nodup → L[i]? = some a → L[j]? = some b → i ≠ j → ∀ x ∈ a.blocks, x ∉ b.blocks
  | [], _, _, _, _, _, h, _, _ => by simp at h
  | c :: L, a, b, 0, 0, _, _, _, h => absurd rfl h
  | c :: L, a, b, 0, j + 1, hn, ha, hb, _ => fun x hx hy => by
    rw [blocksL] at hn
    have e : c = a := by simpa using ha
    subst e
    exact (List.nodup_append.1 hn).2.2 x hx x (blocksL_mem.2 ⟨b, List.mem_of_getElem? (by simpa using hb), hy⟩) rfl
  | c :: L, a, b, i + 1, 0, hn, ha, hb, _ => fun x hx hy => by
    rw [blocksL] at hn
    have e : c = b := by simpa using hb
    subst e
    exact (List.nodup_append.1 hn).2.2 x hy x (blocksL_mem.2 ⟨a, List.mem_of_getElem? (by simpa using ha), hx⟩) rfl
  | c :: L, a, b, i + 1, j + 1, hn, ha, hb, h => by
    rw [blocksL] at hn
    exact nodup_apart (List.nodup_append.1 hn).2.1 (by simpa using ha) (by simpa using hb) (fun e => h (by rw [e]))
theorem cell_only {bs : List Nat} {w w' : World} {a : Addr} (h : OnlyB bs w w') (hn : a.block ∉ bs) (hl : a.block < w.heap.size) : w'.cell? a = w.cell? a := World.cell?_of_block (h.block _ hl hn)
theorem ownL_top {lo hi : Nat} {w : World} {L : List Rw} (h : OwnRL lo hi w L) : OwnRL lo w.heap.size w L := ownRL_iff.2 fun c hc => Rw.OwnR.top (ownRL_iff.1 h c hc)
theorem ownL_one {lo hi : Nat} {w : World} {a : Rw} : OwnRL lo hi w [a] ↔ a.OwnR lo hi w := by rw [ownRL_iff]; simp
theorem ownL_two {lo hi : Nat} {w : World} {a b : Rw} : OwnRL lo hi w [a, b] ↔ a.OwnR lo hi w ∧ b.OwnR lo hi w := by rw [ownRL_iff]; simp
theorem rd_of {lo hi : Nat} {w : World} {x : Rw} (h : x.OwnR lo hi w) : x.ReadR w.heap.size w := Rw.OwnR.reads _ h.top
theorem rdL1 {lo hi : Nat} {w : World} {a b : Rw} (h : OwnRL lo hi w [a, b]) : a.ReadR w.heap.size w := rd_of (ownL_two.1 h).1
theorem rdL2 {lo hi : Nat} {w : World} {a b : Rw} (h : OwnRL lo hi w [a, b]) : b.ReadR w.heap.size w := rd_of (ownL_two.1 h).2

theorem OnlyB.set {bs : List Nat} {w w' : World} {b o : Nat} {u : Value} (h : OnlyB bs w w') (hb : b ∈ bs) : OnlyB bs w (w'.setCell ⟨b, o, none⟩ u) :=
  ⟨h.os, h.tape, h.output, Nat.le_trans h.size (by simp [World.setCell]), fun i hi hn => by
    rw [Below.heap_setCell _ _ _ _ (show i ≠ b from fun e => hn (e ▸ hb))]; exact h.block i hi hn⟩
theorem size_alloc (w : World) (o : Obj) : (w.alloc o).heap.size = w.heap.size + 1 := by show (w.heap.push o).size = _; simp
theorem size_set (w : World) (a : Addr) (u : Value) : w.heap.size ≤ (w.setCell a u).heap.size := by simp [World.setCell]
theorem heap_lt {w : World} {b : Nat} {o : Obj} (h : w.heap[b]? = some o) : b < w.heap.size := (Array.getElem?_eq_some_iff.1 h).1
theorem below_heap {B b : Nat} {w w' : World} {o : Obj} (h : Below B w w') (hb : b < B) (hw : w.heap[b]? = some o) : w'.heap[b]? = some o := by rw [h.block b hb]; exact hw
theorem heap_one {w : World} {b o : Nat} {cs : Array Value} {T : TypeId} (h : w.heap[b]? = some (.cells cs T (0, 0))) (u : Value) : (w.setCell ⟨b, o, none⟩ u).heap[b]? = some (.cells (cs.setIfInBounds o u) T (0, 0)) := heap_setCell_same w b o cs T u h
theorem box_cell {w : World} {b j : Nat} {cs : Array Value} {T : TypeId} {u : Value} (h : w.heap[b]? = some (.cells cs T (0, 0))) (hj : cs[j]? = some u) : w.cell? ⟨b, j, none⟩ = some u := by
  unfold World.cell?; rw [h]; exact hj
theorem box_frz {w : World} {b : Nat} {cs : Array Value} {T : TypeId} (h : w.heap[b]? = some (.cells cs T (0, 0))) (j : Nat) : w.frozen? ⟨b, j, none⟩ = false := by
  unfold World.frozen?; rw [h]; simp
theorem box_far {w : World} {b c : Nat} {o : Obj} (h : w.heap[b]? = some o) (hne : b ≠ c) (j : Nat) (u : Value) : (w.setCell ⟨c, j, none⟩ u).heap[b]? = some o := by
  rw [Below.heap_setCell _ _ _ _ hne]; exact h
theorem three_new0 (w : World) (o0 o1 o2 : Obj) : (((w.alloc o0).alloc o1).alloc o2).heap[w.heap.size]? = some o0 := by
  rw [Below.heap_alloc _ _ _ (by rw [size_alloc, size_alloc]; omega), Below.heap_alloc _ _ _ (by rw [size_alloc]; omega)]
  exact heap_alloc_new w _
theorem three_new1 (w : World) (o0 o1 o2 : Obj) : (((w.alloc o0).alloc o1).alloc o2).heap[w.heap.size + 1]? = some o1 := by
  rw [Below.heap_alloc _ _ _ (by rw [size_alloc, size_alloc]; omega)]
  have h := heap_alloc_new (w.alloc o0) o1
  rw [size_alloc] at h
  exact h
theorem three_new2 (w : World) (o0 o1 o2 : Obj) : (((w.alloc o0).alloc o1).alloc o2).heap[w.heap.size + 2]? = some o2 := by
  have h := heap_alloc_new ((w.alloc o0).alloc o1) o2
  rw [size_alloc, size_alloc] at h
  exact h

/-- A slice of integers. -/
def intCells (zs : List Int) : List Rw := zs.map fun z => .leaf (.int .i64 z)
def rwI (v : Value) (zs : List Int) : Rw := .sl v zs.length 1 3 (intCells zs)
def IsIntS (x : Rw) : Prop := ∃ v zs, x = rwI v zs
theorem rwI_is (v : Value) (zs : List Int) : IsIntS (rwI v zs) := ⟨v, zs, rfl⟩
theorem is_sl_IntS {x : Rw} (h : IsIntS x) : ∃ v n k e cs, x = .sl v n k e cs := by
  obtain ⟨v, zs, rfl⟩ := h
  exact ⟨v, _, _, _, _, rfl⟩
theorem intCells_map (zs : List Int) : (intCells zs).map Rw.cell = zs.map (.int .i64) := by
  unfold intCells; rw [List.map_map]; rfl
theorem intCells_len (zs : List Int) : (intCells zs).length = zs.length := by unfold intCells; rw [List.length_map]
theorem intCells_leaf {zs : List Int} {c : Rw} (h : c ∈ intCells zs) : ∃ z, c = .leaf (.int .i64 z) := by
  obtain ⟨z, _, rfl⟩ := List.mem_map.1 h
  exact ⟨z, rfl⟩
theorem intCells_blocks (zs : List Int) : blocksL (intCells zs) = [] := blocksL_nil fun c hc => by
  obtain ⟨z, rfl⟩ := intCells_leaf hc
  rw [Rw.blocks]
theorem intCells_count : ∀ zs : List Int, countL (intCells zs) = zs.length
  | [] => rfl
  | z :: zs => by
    have := intCells_count zs
    unfold intCells at this ⊢
    rw [List.map_cons, countL, Rw.count, this, List.length_cons]; omega
theorem intCells_weight : ∀ zs : List Int, weightL (intCells zs) = 0
  | [] => rfl
  | z :: zs => by
    have := intCells_weight zs
    unfold intCells at this ⊢
    rw [List.map_cons, weightL, Rw.weight, this]; rfl
theorem marksI_cons (k n : Nat) : marksI k (n + 1) = (k : Int) :: marksI (k + 1) n := by
  unfold marksI
  rw [List.range_succ_eq_map, List.map_cons, List.map_map]
  congr 1
  apply List.map_congr_left
  intro i _
  show ((k + (i + 1) : Nat) : Int) = ((k + 1 + i : Nat) : Int)
  congr 1; omega
theorem intCells_mark : ∀ (zs : List Int) (q : Nat), markL (intCells zs) q = intCells (marksI q zs.length)
  | [], q => by rw [List.length_nil]; rfl
  | z :: zs, q => by
    have := intCells_mark zs (q + 1)
    rw [List.length_cons, marksI_cons]
    unfold intCells at this ⊢
    rw [List.map_cons, List.map_cons, markL, mark_leaf, Rw.count, this]; rfl
theorem rwI_blocks (v : Value) (zs : List Int) : (rwI v zs).blocks = v.ownBlock.toList := by rw [rwI, Rw.blocks, intCells_blocks, List.append_nil]
theorem rwI_count (v : Value) (zs : List Int) : (rwI v zs).count = zs.length := by rw [rwI, Rw.count, intCells_count]
theorem rwI_weight (v : Value) (zs : List Int) : (rwI v zs).weight = zs.length := by rw [rwI, Rw.weight, intCells_weight]; rfl
theorem rwI_mark (v : Value) (zs : List Int) (q : Nat) : (rwI v zs).mark q = rwI v (marksI q zs.length) := by
  rw [rwI, mark_cell_sl, intCells_mark, rwI, marksI_len]
theorem rwI_own {lo hi : Nat} {w : World} {v : Value} {zs : List Int} : (rwI v zs).OwnR lo hi w ↔ Own .i64 3 lo hi w v zs := by
  rw [rwI, Rw.OwnR, intCells_map]
  constructor
  · intro h; exact h.1
  · intro h; exact ⟨h, ownRL_iff.2 fun c hc => by obtain ⟨z, rfl⟩ := intCells_leaf hc; rw [Rw.OwnR]; rfl⟩
theorem rwI_reads {hi : Nat} {w : World} {v : Value} {zs : List Int} : (rwI v zs).ReadR hi w ↔ Reads .i64 hi w v zs := by
  rw [rwI, Rw.ReadR, intCells_map]
  constructor
  · rintro ⟨⟨a, cap, rfl, _, h2, h3, h4, h5⟩, _⟩
    refine ⟨a, cap, rfl, h2, h3, h4, ?_⟩
    rcases h5 with h5 | ⟨g, off, e2, hg, hc⟩
    · exact Or.inl h5
    · exact Or.inr ⟨g, off, e2, hg, fun j hj => hc j _ (by rw [List.getElem?_map, getD_at hj]; rfl)⟩
  · rintro ⟨a, cap, rfl, h2, h3, h4, h5⟩
    refine ⟨⟨a, cap, rfl, by rw [intCells_len, Nat.mul_one], h2, h3, h4, ?_⟩, readRL_iff.2 fun c hc => by obtain ⟨z, rfl⟩ := intCells_leaf hc; rw [Rw.ReadR]; rfl⟩
    rcases h5 with h5 | ⟨g, off, e2, hg, hc⟩
    · exact Or.inl h5
    · refine Or.inr ⟨g, off, e2, hg, fun j c hj => ?_⟩
      have hjl : j < zs.length := by have := (List.getElem?_eq_some_iff.1 hj).1; simpa using this
      rw [List.getElem?_map, getD_at hjl] at hj
      cases hj
      exact hc j hjl
theorem intCells_inj {zs ys : List Int} (h : dataL (intCells zs) = dataL (intCells ys)) : zs = ys := by
  induction zs generalizing ys with
  | nil =>
    cases ys with
    | nil => rfl
    | cons y ys => unfold intCells at h; rw [List.map_nil, List.map_cons, dataL, dataL] at h; cases h
  | cons z zs ih =>
    cases ys with
    | nil => unfold intCells at h; rw [List.map_nil, List.map_cons, dataL, dataL] at h; cases h
    | cons y ys =>
      unfold intCells at h
      rw [List.map_cons, List.map_cons, dataL, dataL] at h
      obtain ⟨h1, h2⟩ := List.cons.inj h
      rw [Rw.data, Rw.data] at h1
      injection h1 with h3
      injection h3 with _ h4
      rw [h4, ih h2]
theorem rwI_data {v u : Value} {zs ys : List Int} : (rwI v zs).data = (rwI u ys).data ↔ zs = ys := by
  rw [rwI, rwI, Rw.data, Rw.data]
  constructor
  · intro h; exact intCells_inj (Dt.sl.inj h).2
  · intro h; rw [h]

set_option maxHeartbeats 1000000 in
theorem eq64_anyG (v u : Value) (hi hi' : Nat) (zs : List Int) (w : World) (hv : Reads .i64 hi w v zs) (hu : Reads .i64 hi' w u zs) :
    Calls Tryz.prog 82 #[v, u] w fun e w' => e = .returned (.bool true) ∧ Grw w w' := by
  obtain ⟨a, cap, rfl, hc1, hc2, _, hcells⟩ := hv
  obtain ⟨a', cap', rfl, hc1', hc2', _, hcells'⟩ := hu
  have HC := Lib.hid hcells; have HC' := Lib.hid hcells'; clear hcells hcells'
  obtain ⟨n, hn⟩ : ∃ n, zs.length = n := ⟨_, rfl⟩
  rw [hn] at hc1 hc1' HC HC' ⊢
  have HN := Lib.hid hn; clear hn
  go_enter Tryz.func82, Tryz.ntmps82
  go_wp2
  go_loopw [5] (fun i wr => ∃ (k : Nat), k ≤ n ∧ i = .int .i64 k ∧ Same w wr ∧ Grw w wr)
    (fun i _ => n - (intOf i).toNat)
  case atStart => exact ⟨0, Nat.zero_le _, rfl, Same.refl _, Grw.refl _⟩
  case round =>
    obtain ⟨k, hk, rfl, hs, hg⟩ := hrel
    have HS := Lib.hid hs; have HG := Lib.hid hg
    clear hs hg
    by_cases hlt : (k : Int) < (n : Int)
    · rcases HC.out with h0 | ⟨g, off, rfl, hg, hcells⟩
      · omega
      · rcases HC'.out with h0 | ⟨g', off', rfl, hg', hcells'⟩
        · omega
        · have c1 : wr.cell? ⟨g, off + k, none⟩ = some (.int .i64 (zs.getD k 0)) := by rw [HS.out.cell]; exact hcells k (by omega)
          have c2 : wr.cell? ⟨g', off' + k, none⟩ = some (.int .i64 (zs.getD k 0)) := by rw [HS.out.cell]; exact hcells' k (by omega)
          obtain ⟨z, hz⟩ : ∃ z, zs.getD k 0 = z := ⟨_, rfl⟩
          rw [hz] at c1 c2
          clear hcells hcells' hz
          go_wp2
          go_quiet (fail)
          go_wp2
          go_roundw
          case rel => exact ⟨k + 1, by omega, by go_num, HS.out.trans ⟨rfl, rfl, rfl, rfl⟩, HG.out.drewN _⟩
          case measure => simp [intOf]; omega
    · have hkn : decide ((k : Int) < (n : Int)) = false := decide_eq_false hlt
      go_wp2
      go_ret
      exact ⟨rfl, HG.out⟩

set_option maxHeartbeats 1000000 in
theorem held64_anyG (v : Value) (hi n : Nat) (k0 : Nat) (q : Int) (hq : q = k0) (w : World) (hv : Reads .i64 hi w v (marksI k0 n)) (hk : (k0 : Int) + (n : Int) ≤ 4611686018427387904) :
    Calls Tryz.prog 88 #[v, .int .i64 q] w fun e w' => e = .returned (.int .i64 ((k0 : Int) + (n : Int))) ∧ Grw w w' := by
  subst hq
  obtain ⟨a, cap, rfl, hc1, hc2, _, hcells⟩ := hv
  rw [marksI_len] at hc1 hcells ⊢
  have HC := Lib.hid hcells; clear hcells
  go_enter Tryz.func88, Tryz.ntmps88
  go_wp2
  go_loopw [1, 5] (fun m i wr => ∃ (j : Nat), j ≤ n ∧ i = .int .i64 j ∧ m = .int .i64 ((k0 : Int) + (j : Int)) ∧ Grw w wr)
    (fun _ i _ => n - (intOf i).toNat)
  case atStart => exact ⟨0, Nat.zero_le _, rfl, by simp, Grw.refl _⟩
  case round =>
    obtain ⟨j, hj, rfl, rfl, hs⟩ := hrel
    have HS := Lib.hid hs
    clear hs
    by_cases hlt : (j : Int) < (n : Int)
    · rcases HC.out with h0 | ⟨g, off, rfl, hg, hcells⟩
      · omega
      · rcases Nat.lt_or_ge g w.heap.size with hgw | hgw
        · have c1 : wr.cell? ⟨g, off + j, none⟩ = some (.int .i64 ((k0 : Int) + (j : Int))) := by rw [HS.out.below.cell hgw, hcells j (by omega), marksI_at (by omega)]
          clear hcells
          go_wp2
          go_roundw
          case rel => exact ⟨j + 1, by omega, by go_num, by go_num, HS.out⟩
          case measure => simp [intOf]; omega
        · exact absurd (World.block_lt_of_cell? w _ (hcells j (by omega))) (Nat.not_lt.2 hgw)
    · have hjn : j = n := by omega
      subst hjn
      go_wp2
      go_ret
      exact ⟨rfl, HS.out⟩

theorem to_IntS (x : Rw) (hx : IsIntS x) (w : World) (rx : x.ReadR w.heap.size w) (hl : x.weight ≤ 4398046511104) :
    Calls Tryz.prog 79 #[x.cell] w fun e w' => ∃ y : Rw, e = .returned y.cell ∧ IsIntS y ∧ y.data = x.data ∧ y.blocks.Nodup ∧ y.OwnR w.heap.size w'.heap.size w' ∧ Below w.heap.size w w' := by
  obtain ⟨v, zs, rfl⟩ := hx
  rw [rwI_weight] at hl
  refine (to64_any v w.heap.size zs w (rwI_reads.1 rx) (Nat.le_refl _) (by omega)).mono ?_
  rintro en w1 ⟨u, rfl, ho, hb⟩
  refine ⟨rwI u zs, rfl, rwI_is _ _, rwI_data.2 rfl, ?_, rwI_own.2 ⟨ho.1, fun g hg => (ho.1.lt g hg).2⟩, hb⟩
  rw [rwI_blocks]; cases u.ownBlock <;> simp

theorem eq_IntS (x y : Rw) (hx : IsIntS x) (hy : IsIntS y) (hd : x.data = y.data) (w : World) (rx : x.ReadR w.heap.size w) (ry : y.ReadR w.heap.size w) :
    Calls Tryz.prog 82 #[x.cell, y.cell] w fun e w' => e = .returned (.bool true) ∧ Grw w w' := by
  obtain ⟨v, zs, rfl⟩ := hx
  obtain ⟨v', zs', rfl⟩ := hy
  obtain rfl := rwI_data.1 hd
  refine (eq64_anyG v v' w.heap.size w.heap.size zs w (rwI_reads.1 rx) (rwI_reads.1 ry)).mono ?_
  rintro en w1 ⟨rfl, hs⟩
  exact ⟨rfl, hs⟩

theorem sz_IntS (x : Rw) (hx : IsIntS x) (left : Int) (l1 : 0 ≤ left) (l2 : left ≤ 1099511627776) (w : World) (rx : x.ReadR w.heap.size w) (hz : x.Small) :
    Calls Tryz.prog 76 #[x.cell, .int .i64 left] w fun e w' => ∃ r : Int, e = .returned (.int .i64 r) ∧ -1 ≤ r ∧ (0 ≤ r → r + (x.weight : Nat) = left) ∧ Grw w w' := by
  obtain ⟨v, zs, rfl⟩ := hx
  rw [rwI_weight]
  obtain ⟨a, cap, rfl, h2, h3, h4, h5⟩ := rwI_reads.1 rx
  clear rx hz h5
  rw [show (rwI (.slice a zs.length cap) zs).cell = .slice a zs.length cap from rfl]
  generalize zs.length = n at h2 ⊢
  by_cases c : left - (n : Int) < 0
  · go_enter Tryz.func76, Tryz.ntmps76
    go_wp2
    go_ret
    exact ⟨-1, rfl, by omega, by omega, Grw.refl _⟩
  · go_enter Tryz.func76, Tryz.ntmps76
    go_wp2
    go_ret
    exact ⟨left - (n : Int), rfl, by omega, by omega, Grw.refl _⟩

theorem mk_IntS (x : Rw) (hx : IsIntS x) (lo hi k0 : Nat) (q : Int) (hq : q = k0) (w : World) (ho : x.OwnR lo hi w) (hd : x.blocks.Nodup) (hk : k0 + x.count ≤ 4611686018427387904) :
    Calls Tryz.prog 85 #[x.cell, .int .i64 q] w fun e w' => e = .returned (.int .i64 ((k0 + x.count : Nat) : Int)) ∧ (x.mark k0).OwnR lo hi w' ∧ OnlyB x.blocks w w' := by
  obtain ⟨v, zs, rfl⟩ := hx
  rw [rwI_count] at hk ⊢
  rw [rwI_blocks, rwI_mark]
  have h := rwI_own.1 ho
  refine (mark64_any v lo hi zs k0 q hq w h (by omega)).mono ?_
  rintro en w1 ⟨rfl, h1, h2⟩
  refine ⟨by congr 2, rwI_own.2 h1, OnlyB.of_grown h2⟩

theorem hd_IntS (x : Rw) (hx : IsIntS x) (hi k0 : Nat) (q : Int) (hq : q = k0) (w : World) (hr : (x.mark k0).ReadR hi w) (_ : hi ≤ w.heap.size) (hk : k0 + x.count ≤ 4611686018427387904) :
    Calls Tryz.prog 88 #[x.cell, .int .i64 q] w fun e w' => e = .returned (.int .i64 ((k0 + x.count : Nat) : Int)) ∧ Grw w w' := by
  obtain ⟨v, zs, rfl⟩ := hx
  rw [rwI_count] at hk ⊢
  rw [rwI_mark] at hr
  refine (held64_anyG v hi zs.length k0 q hq w (rwI_reads.1 hr) (by omega)).mono ?_
  rintro en w1 ⟨rfl, h1⟩
  exact ⟨by congr 2, h1⟩

end Go.Proofs.YtpkicliimhflgaaGreatDoor
namespace Go.Proofs.YtpkicliimhflgaaGreatDoor
open Go.ChangeShapes Go.WideShapes Go.ChangeAt Go.RowKit

/-- What a slice of this type holds. -/
def IsNodeS (x : Rw) : Prop := ∃ v n e cs, x = .sl v n 4 e cs ∧ ∀ j, j < n → ∃ (a0 : ByteArray) (a1 : ByteArray) (a2 : Int) (a3 : Rw), cs[j * 4]? = some (.leaf (.string a0)) ∧ cs[j * 4 + 1]? = some (.leaf (.string a1)) ∧ cs[j * 4 + 2]? = some (.leaf (.int .i64 a2)) ∧ cs[j * 4 + 3]? = some a3 ∧ IsAttrS a3
theorem is_sl_NodeS {x : Rw} (h : IsNodeS x) : ∃ v n k e cs, x = .sl v n k e cs := by
  obtain ⟨v, n, e, cs, rfl, _⟩ := h
  exact ⟨v, n, _, e, cs, rfl⟩

set_option maxHeartbeats 2000000 in
theorem eq_Node (a0 : ByteArray) (a1 : ByteArray) (a2 : Int) (a3 b3 : Rw) (w : World) (hx3 : IsAttrS a3) (hy3 : IsAttrS b3) (hd3 : a3.data = b3.data) (rx3 : a3.ReadR w.heap.size w) (ry3 : b3.ReadR w.heap.size w) :
    Calls Tryz.prog 126 #[.agg #[.string a0, .string a1, .int .i64 a2, a3.cell], .agg #[.string a0, .string a1, .int .i64 a2, b3.cell]] w fun e w' => e = .returned (.bool true) ∧ Grw w w' := by
  have e0 : (a0.toList == a0.toList) = true := beqL_yes rfl
  have e1 : (a1.toList == a1.toList) = true := beqL_yes rfl
  go_enter Tryz.func126, Tryz.ntmps126
  go_wp2_with fail
  obtain ⟨w0, hw0⟩ : ∃ x, ((w.alloc (.cells #[.string a0, .string a1, .int .i64 a2, a3.cell] 117)).alloc (.cells #[.string a0, .string a1, .int .i64 a2, b3.cell] 117)) = x := ⟨_, rfl⟩
  rw [hw0]
  have HG0 := Lib.hid (show Grw w w0 by rw [← hw0]; exact ((Grw.refl w).alloc _).alloc _)
  clear hw0
  refine (eq_AttrS a3 b3 hx3 hy3 hd3 _ (rx3.up HG0.out) (ry3.up HG0.out)).mono ?_
  rintro e w1 ⟨rfl, hg1⟩
  have HG1 := Lib.hid (HG0.out.trans hg1); clear hg1
  go_wp2_with fail
  go_ret
  exact ⟨rfl, HG1.out⟩

set_option maxRecDepth 100000 in
set_option maxHeartbeats 4000000 in
theorem mk_NodeS (x : Rw) (hx : IsNodeS x) (lo hi k0 : Nat) (q : Int) (hq : q = k0) (w : World) (ho : x.OwnR lo hi w) (hd : x.blocks.Nodup) (hk : k0 + x.count ≤ 4611686018427387904) :
    Calls Tryz.prog 84 #[x.cell, .int .i64 q] w fun e w' => e = .returned (.int .i64 ((k0 + x.count : Nat) : Int)) ∧ (x.mark k0).OwnR lo hi w' ∧ OnlyB x.blocks w w' := by
  subst hq
  obtain ⟨v, n, e0, cs, rfl, hrow⟩ := hx
  rw [Rw.cell_sl]; rw [Rw.count] at hk ⊢; rw [mark_cell_sl]
  have ho2 := ho; rw [Rw.OwnR] at ho2
  have hlen : cs.length = n * 4 := by have := ho2.1.1.1; rwa [List.length_map] at this
  have hrw := ho2.1.1.2; clear ho2
  have HROW := Lib.hid hrow; have HD := Lib.hid hd; have HO0 := Lib.hid ho; have HLEN := Lib.hid hlen; have HK := Lib.hid hk; clear hrow hd ho hlen hk
  rcases hrw with ⟨rfl, h0⟩ | ⟨g, cap, cur, rfl, hg, _, hcap, hm, _⟩
  · subst h0
    have hz : cs = [] := List.eq_nil_of_length_eq_zero (by have := HLEN.out; omega)
    subst hz
    go_enter Tryz.func84, Tryz.ntmps84
    go_wp2
    refine wp_loop_rounds 1 ?_
    rw [rounds_succ]
    go_wp2
    go_ret
    exact ⟨by simp [countL], by rw [markL]; exact HO0.out, OnlyB.refl _ _⟩
  · unfold maxLen at hm
    obtain ⟨st, hst⟩ : ∃ f : Nat → List Rw, f = markTo cs k0 := ⟨_, rfl⟩
    obtain ⟨cn, hcn⟩ : ∃ f : Nat → Nat, f = fun m => k0 + countL (cs.take m) := ⟨_, rfl⟩
    have HST := Lib.hid hst; have HCN := Lib.hid hcn; clear hst hcn
    have HTOP := Lib.hid (fun m => show cn m ≤ 4611686018427387904 by rw [HCN.out]; have := countL_take_le cs m; have := HK.out; show k0 + countL (cs.take m) ≤ _; omega)
    have HNOT := Lib.hid (show g ∉ blocksL cs by have := HD.out; rw [Rw.blocks] at this; exact (List.nodup_cons.1 (show (g :: blocksL cs).Nodup from this)).1)
    have HOB := Lib.hid (show ∀ m, blocksL (st m) = blocksL cs from fun m => by rw [HST.out]; exact markTo_blocks cs k0 m)
    go_enter Tryz.func84, Tryz.ntmps84
    go_wp2
    go_loopw [1, 5] (fun m i wr => ∃ (j : Nat), j ≤ n ∧ i = .int .i64 j ∧ m = .int .i64 (cn (j * 4) : Int) ∧ (Rw.sl (.slice (some ⟨g, 0, none⟩) n cap) n 4 e0 (st (j * 4))).OwnR lo hi wr ∧ OnlyB (Rw.sl (.slice (some ⟨g, 0, none⟩) n cap) n 4 e0 cs).blocks w wr)
      (fun _ i _ => n - (intOf i).toNat)
    case atStart => exact ⟨0, Nat.zero_le _, rfl, by rw [HCN.out]; simp [countL], by rw [HST.out, Nat.zero_mul, markTo_zero]; exact HO0.out, OnlyB.refl _ _⟩
    case round =>
      obtain ⟨j, hj, rfl, rfl, hown, hon⟩ := hrel
      have HO := Lib.hid hown; have HN := Lib.hid hon
      clear hown hon
      by_cases hlt : (j : Int) < (n : Int)
      · obtain ⟨a0, a1, a2, a3, f0, f1, f2, f3, s3⟩ := HROW.out j (by omega)
        have hc0 : cn (j * 4 + 1) = cn (j * 4) + 1 := by rw [HCN.out]; have := countL_more f0; rw [Rw.count] at this; show k0 + countL (cs.take (j * 4 + 1)) = k0 + countL (cs.take (j * 4)) + _; omega
        have hs0 : (st (j * 4)).set (j * 4) (.leaf (.string (mt (cn (j * 4))))) = st (j * 4 + 1) := by rw [HST.out, HCN.out]; have := markTo_next f0 k0; rw [mark_leaf] at this; exact this
        have ha0 : (st (j * 4))[j * 4]? = some (.leaf (.string a0)) := by rw [HST.out]; exact markTo_at f0 k0
        have HC0 := Lib.hid hc0; have HS0 := Lib.hid hs0; have HA0 := Lib.hid ha0; clear hc0 hs0 ha0 f0
        have hc1 : cn (j * 4 + 2) = cn (j * 4 + 1) + 1 := by rw [HCN.out]; have := countL_more f1; rw [Rw.count] at this; show k0 + countL (cs.take (j * 4 + 1 + 1)) = k0 + countL (cs.take (j * 4 + 1)) + _; omega
        have hs1 : (st (j * 4 + 1)).set (j * 4 + 1) (.leaf (.string (mt (cn (j * 4 + 1))))) = st (j * 4 + 2) := by rw [HST.out, HCN.out]; have := markTo_next f1 k0; rw [mark_leaf] at this; exact this
        have ha1 : (st (j * 4 + 1))[j * 4 + 1]? = some (.leaf (.string a1)) := by rw [HST.out]; exact markTo_at f1 k0
        have HC1 := Lib.hid hc1; have HS1 := Lib.hid hs1; have HA1 := Lib.hid ha1; clear hc1 hs1 ha1 f1
        have hc2 : cn (j * 4 + 3) = cn (j * 4 + 2) + 1 := by rw [HCN.out]; have := countL_more f2; rw [Rw.count] at this; show k0 + countL (cs.take (j * 4 + 2 + 1)) = k0 + countL (cs.take (j * 4 + 2)) + _; omega
        have hs2 : (st (j * 4 + 2)).set (j * 4 + 2) (.leaf (.int .i64 (cn (j * 4 + 2) : Int))) = st (j * 4 + 3) := by rw [HST.out, HCN.out]; have := markTo_next f2 k0; rw [mark_leaf] at this; exact this
        have ha2 : (st (j * 4 + 2))[j * 4 + 2]? = some (.leaf (.int .i64 a2)) := by rw [HST.out]; exact markTo_at f2 k0
        have HC2 := Lib.hid hc2; have HS2 := Lib.hid hs2; have HA2 := Lib.hid ha2; clear hc2 hs2 ha2 f2
        have hc3 : cn (j * 4 + 4) = cn (j * 4 + 3) + a3.count := by rw [HCN.out]; have := countL_more f3; skip; show k0 + countL (cs.take (j * 4 + 3 + 1)) = k0 + countL (cs.take (j * 4 + 3)) + _; omega
        have hs3 : (st (j * 4 + 3)).set (j * 4 + 3) (a3.mark (cn (j * 4 + 3))) = st (j * 4 + 4) := by rw [HST.out, HCN.out]; have := markTo_next f3 k0;  exact this
        have ha3 : (st (j * 4 + 3))[j * 4 + 3]? = some (a3) := by rw [HST.out]; exact markTo_at f3 k0
        have HF3 := Lib.hid f3; have HC3 := Lib.hid hc3; have HS3 := Lib.hid hs3; have HA3 := Lib.hid ha3; clear hc3 hs3 ha3 f3
        obtain ⟨q0, hq0⟩ : ∃ q, cn (j * 4) = q := ⟨_, rfl⟩
        obtain ⟨q1, hq1⟩ : ∃ q, cn (j * 4 + 1) = q := ⟨_, rfl⟩
        obtain ⟨q2, hq2⟩ : ∃ q, cn (j * 4 + 2) = q := ⟨_, rfl⟩
        obtain ⟨q3, hq3⟩ : ∃ q, cn (j * 4 + 3) = q := ⟨_, rfl⟩
        obtain ⟨q4, hq4⟩ : ∃ q, cn (j * 4 + 4) = q := ⟨_, rfl⟩
        rw [hq0, hq1] at HC0
        rw [hq0] at HS0
        rw [hq1, hq2] at HC1
        rw [hq1] at HS1
        rw [hq2, hq3] at HC2
        rw [hq2] at HS2
        rw [hq3, hq4] at HC3
        rw [hq3] at HS3
        have ht0 : q0 ≤ 4611686018427387904 := by rw [← hq0]; exact HTOP.out _
        have ht1 : q1 ≤ 4611686018427387904 := by rw [← hq1]; exact HTOP.out _
        have ht2 : q2 ≤ 4611686018427387904 := by rw [← hq2]; exact HTOP.out _
        have ht3 : q3 ≤ 4611686018427387904 := by rw [← hq3]; exact HTOP.out _
        have ht4 : q4 ≤ 4611686018427387904 := by rw [← hq4]; exact HTOP.out _
        rw [hq0]
        have HE := Lib.hid (show cn ((j + 1) * 4) = q4 by rw [Nat.add_mul, Nat.one_mul]; exact hq4)
        clear hq0 hq1 hq2 hq3 hq4
        go_wp2_with fail
        refine (mark_anyI q0 _ rfl (by omega) _).mono ?_
        rintro e w0 ⟨rfl, hg0⟩
        have HO0a := Lib.hid (HO.out.later hg0.below)
        have HN0a := Lib.hid (HN.out.trans (OnlyB.of_below hg0.below _))
        have r0 := HO0a.out; rw [Rw.OwnR] at r0
        have d0 : w0.cell? ⟨g, j * 4, none⟩ = some (.string a0) := by rw [r0.1.1.cellAt (j * 4) (by omega), List.getElem?_map, HA0.out]; rfl
        have z0 : w0.frozen? ⟨g, j * 4, none⟩ = false := r0.1.1.frozenAt _
        have hsto := HO0a.out.store (v := .string (mt q0)) (by rw [HOB.out]; exact HNOT.out) HA0.out rfl
        rw [HS0.out] at hsto
        have HO0' := Lib.hid hsto.1; have HN0' := Lib.hid (HN0a.out.trans (hsto.2.1.mono (by intro i hi; rw [Rw.blocks]; exact List.mem_append.2 (Or.inl hi)))); clear hsto r0 hg0
        go_wp2_with fail
        refine (mark_anyI q1 _ (by have := HC0.out; omega) (by omega) _).mono ?_
        rintro e w1 ⟨rfl, hg1⟩
        have HO1a := Lib.hid (HO0'.out.later hg1.below)
        have HN1a := Lib.hid (HN0'.out.trans (OnlyB.of_below hg1.below _))
        have r1 := HO1a.out; rw [Rw.OwnR] at r1
        have d1 : w1.cell? ⟨g, j * 4 + 1, none⟩ = some (.string a1) := by rw [r1.1.1.cellAt (j * 4 + 1) (by omega), List.getElem?_map, HA1.out]; rfl
        have z1 : w1.frozen? ⟨g, j * 4 + 1, none⟩ = false := r1.1.1.frozenAt _
        have hsto := HO1a.out.store (v := .string (mt q1)) (by rw [HOB.out]; exact HNOT.out) HA1.out rfl
        rw [HS1.out] at hsto
        have HO1' := Lib.hid hsto.1; have HN1' := Lib.hid (HN1a.out.trans (hsto.2.1.mono (by intro i hi; rw [Rw.blocks]; exact List.mem_append.2 (Or.inl hi)))); clear hsto r1 hg1
        have r2 := HO1'.out; rw [Rw.OwnR] at r2
        have d2 := r2.1.1.cellAt (j * 4 + 2) (by omega); rw [List.getElem?_map, HA2.out] at d2; replace d2 := d2.trans (show _ = some (Value.int .i64 a2) from rfl)
        have z2 := r2.1.1.frozenAt (j * 4 + 2)
        have hsx : (st (j * 4 + 2)).set (j * 4 + 2) (.leaf (.int .i64 ((q0 : Int) + 1 + 1))) = st (j * 4 + 3) := by rw [show ((q0 : Int) + 1 + 1) = (q2 : Int) from by have := HC0.out; have := HC1.out; omega]; exact HS2.out
        have hsto := HO1'.out.store (v := .int .i64 ((q0 : Int) + 1 + 1)) (by rw [HOB.out]; exact HNOT.out) HA2.out rfl
        rw [hsx] at hsto
        have HO2' := Lib.hid hsto.1; have HN2' := Lib.hid (HN1'.out.trans (hsto.2.1.mono (by intro i hi; rw [Rw.blocks]; exact List.mem_append.2 (Or.inl hi)))); clear hsto r2 hsx
        have r3 := HO2'.out; rw [Rw.OwnR] at r3
        have d3 := r3.1.1.cellAt (j * 4 + 3) (by omega); rw [List.getElem?_map, HA3.out] at d3; replace d3 := d3.trans (show _ = some a3.cell from rfl)
        have HI3 := Lib.hid (ownRL_iff.1 r3.2 _ (List.mem_of_getElem? HA3.out)); clear r3
        go_wp2_with fail
        refine (mk_AttrS a3 s3 lo hi q3 _ (by have := HC0.out; have := HC1.out; have := HC2.out; omega) _ HI3.out (inner_nodup HD.out HF3.out) (by have := HC3.out; omega)).mono ?_
        rintro e w3 ⟨rfl, hoi, hon⟩
        rw [show q3 + a3.count = q4 from HC3.out.symm]
        have HN3' := Lib.hid (HN2'.out.trans (hon.mono (inner_mem HF3.out)))
        have hin := HO2'.out.inner (by rw [blocks_same (HOB.out _)]; exact HD.out) HA3.out hon hoi (mark_cell (is_sl_AttrS s3) _) (mark_blocks _ _)
        rw [HS3.out] at hin
        have HO3' := Lib.hid hin.1; clear hin hoi hon d3
        go_wp2_with fail
        go_roundw
        case rel => exact ⟨j + 1, by omega, by go_num, by first | (rw [HE.out]; done) | (rw [HE.out]; have := HC0.out; have := HC1.out; have := HC2.out; have := HC3.out; go_num), by rw [Nat.add_mul, Nat.one_mul]; exact HO3'.out, HN3'.out⟩
        case measure => simp [intOf]; omega
      · have hjn : j = n := by omega
        subst hjn
        have HF := Lib.hid (show cn (j * 4) = k0 + countL cs by rw [HCN.out]; show k0 + countL (cs.take (j * 4)) = _; rw [List.take_of_length_le (by have := HLEN.out; omega)])
        have HG := Lib.hid (show st (j * 4) = markL cs k0 by rw [HST.out]; exact markTo_full cs k0 (by have := HLEN.out; omega))
        go_wp2_with fail
        go_ret
        exact ⟨by rw [HF.out]; rfl, by rw [← HG.out]; exact HO.out, HN.out⟩

set_option maxRecDepth 100000 in
set_option maxHeartbeats 4000000 in
theorem hd_NodeS (x : Rw) (hx : IsNodeS x) (hi k0 : Nat) (q : Int) (hq : q = k0) (w : World) (hr : (x.mark k0).ReadR hi w) (hh : hi ≤ w.heap.size) (hk : k0 + x.count ≤ 4611686018427387904) :
    Calls Tryz.prog 87 #[x.cell, .int .i64 q] w fun e w' => e = .returned (.int .i64 ((k0 + x.count : Nat) : Int)) ∧ Grw w w' := by
  have mixed : Tryz.prog.follows .mixedOrders = true := by kernel_rfl
  subst hq
  obtain ⟨v, n, e0, cs, rfl, hrow⟩ := hx
  rw [Rw.cell_sl]; rw [Rw.count] at hk ⊢; rw [mark_cell_sl, Rw.ReadR] at hr
  obtain ⟨⟨a, cap, rfl, hlen, hc1, hc2, _, hcells⟩, hrin⟩ := hr
  rw [markL_len] at hlen
  have HROW := Lib.hid hrow; have HLEN := Lib.hid hlen; have HK := Lib.hid hk; have HC := Lib.hid hcells; have HIN := Lib.hid hrin; clear hrow hlen hk hcells hrin
  obtain ⟨cn, hcn⟩ : ∃ f : Nat → Nat, f = fun m => k0 + countL (cs.take m) := ⟨_, rfl⟩
  have HCN := Lib.hid hcn; clear hcn
  have HTOP := Lib.hid (fun m => show cn m ≤ 4611686018427387904 by rw [HCN.out]; have := countL_take_le cs m; have := HK.out; show k0 + countL (cs.take m) ≤ _; omega)
  go_enter Tryz.func87, Tryz.ntmps87
  go_wp2
  go_loopw [1, 5] (fun m i wr => ∃ (j : Nat), j ≤ n ∧ i = .int .i64 j ∧ m = .int .i64 (cn (j * 4) : Int) ∧ Grw w wr)
    (fun _ i _ => n - (intOf i).toNat)
  case atStart => exact ⟨0, Nat.zero_le _, rfl, by rw [HCN.out]; simp [countL], Grw.refl _⟩
  case round =>
    obtain ⟨j, hj, rfl, rfl, hs⟩ := hrel
    have HS := Lib.hid hs
    clear hs
    by_cases hlt : (j : Int) < (n : Int)
    · rcases HC.out with h0 | ⟨g, off, rfl, hg, hcells⟩
      · omega
      · have HCL := Lib.hid hcells; clear hcells
        obtain ⟨a0, a1, a2, a3, f0, f1, f2, f3, s3⟩ := HROW.out j (by omega)
        have hc0 : cn (j * 4 + 1) = cn (j * 4) + 1 := by rw [HCN.out]; have := countL_more f0; rw [Rw.count] at this; show k0 + countL (cs.take (j * 4 + 1)) = k0 + countL (cs.take (j * 4)) + _; omega
        have hm0 : (markL cs k0)[j * 4]? = some (.leaf (.string (mt (cn (j * 4))))) := by rw [HCN.out]; have := markL_at f0 k0; rw [mark_leaf] at this; exact this
        have hl0 : w.cell? ⟨g, off + j * 4, none⟩ = some (.string (mt (cn (j * 4)))) := HCL.out (j * 4) _ (by rw [List.getElem?_map, hm0]; rfl)
        have HC0 := Lib.hid hc0; have HL0 := Lib.hid hl0; clear hc0 hl0 f0 hm0
        have hc1 : cn (j * 4 + 2) = cn (j * 4 + 1) + 1 := by rw [HCN.out]; have := countL_more f1; rw [Rw.count] at this; show k0 + countL (cs.take (j * 4 + 1 + 1)) = k0 + countL (cs.take (j * 4 + 1)) + _; omega
        have hm1 : (markL cs k0)[j * 4 + 1]? = some (.leaf (.string (mt (cn (j * 4 + 1))))) := by rw [HCN.out]; have := markL_at f1 k0; rw [mark_leaf] at this; exact this
        have hl1 : w.cell? ⟨g, off + j * 4 + 1, none⟩ = some (.string (mt (cn (j * 4 + 1)))) := by rw [Nat.add_assoc]; exact HCL.out (j * 4 + 1) _ (by rw [List.getElem?_map, hm1]; rfl)
        have HC1 := Lib.hid hc1; have HL1 := Lib.hid hl1; clear hc1 hl1 f1 hm1
        have hc2 : cn (j * 4 + 3) = cn (j * 4 + 2) + 1 := by rw [HCN.out]; have := countL_more f2; rw [Rw.count] at this; show k0 + countL (cs.take (j * 4 + 2 + 1)) = k0 + countL (cs.take (j * 4 + 2)) + _; omega
        have hm2 : (markL cs k0)[j * 4 + 2]? = some (.leaf (.int .i64 (cn (j * 4 + 2) : Int))) := by rw [HCN.out]; have := markL_at f2 k0; rw [mark_leaf] at this; exact this
        have hl2 : w.cell? ⟨g, off + j * 4 + 2, none⟩ = some (.int .i64 (cn (j * 4 + 2) : Int)) := by rw [Nat.add_assoc]; exact HCL.out (j * 4 + 2) _ (by rw [List.getElem?_map, hm2]; rfl)
        have HC2 := Lib.hid hc2; have HL2 := Lib.hid hl2; clear hc2 hl2 f2 hm2
        have hc3 : cn (j * 4 + 4) = cn (j * 4 + 3) + a3.count := by rw [HCN.out]; have := countL_more f3; skip; show k0 + countL (cs.take (j * 4 + 3 + 1)) = k0 + countL (cs.take (j * 4 + 3)) + _; omega
        have hm3 : (markL cs k0)[j * 4 + 3]? = some (a3.mark (cn (j * 4 + 3))) := by rw [HCN.out]; have := markL_at f3 k0;  exact this
        have hl3 : w.cell? ⟨g, off + j * 4 + 3, none⟩ = some ((a3.mark (cn (j * 4 + 3))).cell) := by rw [Nat.add_assoc]; exact HCL.out (j * 4 + 3) _ (by rw [List.getElem?_map, hm3]; rfl)
        have hrd3 := readRL_iff.1 HIN.out _ (List.mem_of_getElem? hm3); rw [mark_cell (is_sl_AttrS s3)] at hl3
        have HC3 := Lib.hid hc3; have HL3 := Lib.hid hl3; clear hc3 hl3 f3 hm3
        obtain ⟨q0, hq0⟩ : ∃ q, cn (j * 4) = q := ⟨_, rfl⟩
        obtain ⟨q1, hq1⟩ : ∃ q, cn (j * 4 + 1) = q := ⟨_, rfl⟩
        obtain ⟨q2, hq2⟩ : ∃ q, cn (j * 4 + 2) = q := ⟨_, rfl⟩
        obtain ⟨q3, hq3⟩ : ∃ q, cn (j * 4 + 3) = q := ⟨_, rfl⟩
        obtain ⟨q4, hq4⟩ : ∃ q, cn (j * 4 + 4) = q := ⟨_, rfl⟩
        rw [hq0, hq1] at HC0
        rw [hq0] at HL0
        rw [hq1, hq2] at HC1
        rw [hq1] at HL1
        rw [hq2, hq3] at HC2
        rw [hq2] at HL2
        rw [hq3, hq4] at HC3
        rw [hq3] at hrd3; have HRD3 := Lib.hid hrd3; clear hrd3
        have ht0 : q0 ≤ 4611686018427387904 := by rw [← hq0]; exact HTOP.out _
        have ht1 : q1 ≤ 4611686018427387904 := by rw [← hq1]; exact HTOP.out _
        have ht2 : q2 ≤ 4611686018427387904 := by rw [← hq2]; exact HTOP.out _
        have ht3 : q3 ≤ 4611686018427387904 := by rw [← hq3]; exact HTOP.out _
        have ht4 : q4 ≤ 4611686018427387904 := by rw [← hq4]; exact HTOP.out _
        rw [hq0]
        have HE := Lib.hid (show cn ((j + 1) * 4) = q4 by rw [Nat.add_mul, Nat.one_mul]; exact hq4)
        clear hq0 hq1 hq2 hq3 hq4
        have e0 : ((mt q0).toList == (mt q0).toList) = true := beqL_yes rfl
        have c0 : ∀ m os, (Sort.grow (wr.drewN m) os).cell? ⟨g, off + j * 4, none⟩ = some (.string (mt q0)) := cell_grown (show g < wr.heap.size by have := HS.out.below.size; omega) (by rw [HS.out.below.cell (show g < _ by omega)]; exact HL0.out)
        have HM0 := Lib.hid (fun (q : Int) (hq : q = q0) W => mark_anyI q0 q hq ht0 W)
        obtain ⟨m0, hm0⟩ : ∃ m, mt q0 = m := ⟨_, rfl⟩
        rw [hm0] at c0 HM0 e0; clear hm0
        go_wp2_with fail
        refine wp_region_quiet_grown mixed (by kernel_rfl) ?_
        repeat (go_big_quiet_step (first | (go_at_call 90; refine Calls.grown_of (HM0.out _ ?_ _); have := HC0.out; have := HC1.out; have := HC2.out; have := HC3.out; omega)))
        refine wpQuiet_nil ?_; intro _ hw'; obtain ⟨⟨nq, osq⟩, hw''⟩ := hw'; subst hw''
        have HG0 := Lib.hid (HS.out.trans ⟨nq, osq, rfl⟩)
        obtain ⟨w0, hw0⟩ : ∃ x, Sort.grow (wr.drewN nq) osq = x := ⟨_, rfl⟩
        rw [hw0] at HG0 ⊢; clear hw0 c0
        have e1 : ((mt q1).toList == (mt q1).toList) = true := beqL_yes rfl
        have c1 : ∀ m os, (Sort.grow (w0.drewN m) os).cell? ⟨g, off + j * 4 + 1, none⟩ = some (.string (mt q1)) := cell_grown (show g < w0.heap.size by have := HG0.out.below.size; omega) (by rw [HG0.out.below.cell (show g < _ by omega)]; exact HL1.out)
        have HM1 := Lib.hid (fun (q : Int) (hq : q = q1) W => mark_anyI q1 q hq ht1 W)
        obtain ⟨m1, hm1⟩ : ∃ m, mt q1 = m := ⟨_, rfl⟩
        rw [hm1] at c1 HM1 e1; clear hm1
        go_wp2_with fail
        refine wp_region_quiet_grown mixed (by kernel_rfl) ?_
        repeat (go_big_quiet_step (first | (go_at_call 90; refine Calls.grown_of (HM1.out _ ?_ _); have := HC0.out; have := HC1.out; have := HC2.out; have := HC3.out; omega)))
        refine wpQuiet_nil ?_; intro _ hw'; obtain ⟨⟨nq, osq⟩, hw''⟩ := hw'; subst hw''
        have HG1 := Lib.hid (HG0.out.trans ⟨nq, osq, rfl⟩)
        obtain ⟨w1, hw1⟩ : ∃ x, Sort.grow (w0.drewN nq) osq = x := ⟨_, rfl⟩
        rw [hw1] at HG1 ⊢; clear hw1 c1
        have c2 : w1.cell? ⟨g, off + j * 4 + 2, none⟩ = some (.int .i64 (q2 : Int)) := by rw [HG1.out.below.cell (show g < _ by omega)]; exact HL2.out
        have x2 : (q0 : Int) + 1 + 1 = (q2 : Int) := by have := HC0.out; have := HC1.out; omega
        have c3 : w1.cell? ⟨g, off + j * 4 + 3, none⟩ = some a3.cell := by rw [HG1.out.below.cell (show g < _ by omega)]; exact HL3.out
        go_wp2_with fail
        refine (hd_AttrS a3 s3 hi q3 _ (by have := HC0.out; have := HC1.out; have := HC2.out; omega) _ (HRD3.out.grw hh HG1.out) (by have := HG1.out.below.size; omega) (by have := HC3.out; omega)).mono ?_
        rintro e w3 ⟨rfl, hg3⟩
        rw [show q3 + a3.count = q4 from HC3.out.symm]
        have HG3 := Lib.hid (HG1.out.trans hg3); clear hg3 c3
        have n3 : ¬ ((q4 : Int) < 0) := by omega
        go_wp2_with fail
        go_roundw
        case rel => exact ⟨j + 1, by omega, by go_num, by first | (rw [HE.out]; done) | (rw [HE.out]; have := HC0.out; have := HC1.out; have := HC2.out; have := HC3.out; go_num), HG3.out⟩
        case measure => simp [intOf]; omega
    · have hjn : j = n := by omega
      subst hjn
      have HF := Lib.hid (show cn (j * 4) = k0 + countL cs by rw [HCN.out]; show k0 + countL (cs.take (j * 4)) = _; rw [List.take_of_length_le (by have := HLEN.out; omega)])
      go_wp2_with fail
      go_ret
      exact ⟨by rw [HF.out]; rfl, HS.out⟩

set_option maxRecDepth 100000 in
set_option maxHeartbeats 4000000 in
theorem eq_NodeS (x y : Rw) (hx : IsNodeS x) (hy : IsNodeS y) (hd : x.data = y.data) (w : World) (rx : x.ReadR w.heap.size w) (ry : y.ReadR w.heap.size w) :
    Calls Tryz.prog 81 #[x.cell, y.cell] w fun e w' => e = .returned (.bool true) ∧ Grw w w' := by
  have mixed : Tryz.prog.follows .mixedOrders = true := by kernel_rfl
  obtain ⟨v, n, e0, cs, rfl, hrow⟩ := hx
  obtain ⟨v', n', e0', cs', rfl, hrow'⟩ := hy
  rw [Rw.data, Rw.data] at hd
  have hdd := (Dt.sl.inj hd).2; clear hd
  rw [Rw.ReadR] at rx ry
  rw [Rw.cell_sl, Rw.cell_sl]
  obtain ⟨⟨a, cap, rfl, hlen, hc1, hc2, _, hcells⟩, hin⟩ := rx
  obtain ⟨⟨a', cap', rfl, hlen', hc1', hc2', _, hcells'⟩, hin'⟩ := ry
  have hnn : n = n' := by have := congrArg List.length hdd; rw [dataL_len, dataL_len] at this; omega
  subst hnn
  have HROW := Lib.hid hrow; have HROW' := Lib.hid hrow'; have HD := Lib.hid hdd; have HC := Lib.hid hcells; have HC' := Lib.hid hcells'; have HIN := Lib.hid hin; have HIN' := Lib.hid hin'
  clear hrow hrow' hdd hcells hcells' hin hin' hlen hlen'
  go_enter Tryz.func81, Tryz.ntmps81
  go_wp2
  go_loopw [5] (fun i wr => ∃ (j : Nat), j ≤ n ∧ i = .int .i64 j ∧ Grw w wr)
    (fun i _ => n - (intOf i).toNat)
  case atStart => exact ⟨0, Nat.zero_le _, rfl, Grw.refl _⟩
  case round =>
    obtain ⟨j, hj, rfl, hs⟩ := hrel
    have HS := Lib.hid hs
    clear hs
    by_cases hlt : (j : Int) < (n : Int)
    · rcases HC.out with h0 | ⟨g, off, rfl, hg, hcells⟩
      · omega
      · rcases HC'.out with h0 | ⟨g', off', rfl, hg', hcells'⟩
        · omega
        · have HCL := Lib.hid hcells; have HCL' := Lib.hid hcells'; clear hcells hcells'
          obtain ⟨a0, a1, a2, a3, f0, f1, f2, f3, s3⟩ := HROW.out j (by omega)
          obtain ⟨b0, b1, b2, b3, f0', f1', f2', f3', s3'⟩ := HROW'.out j (by omega)
          have hd0 := data_same HD.out f0 f0'
          have hv0 := leaf_same hd0; obtain rfl : a0 = b0 := by cases hv0; rfl
          clear hd0 hv0
          have c0 : ∀ m os, (Sort.grow (wr.drewN m) os).cell? ⟨g, off + j * 4, none⟩ = some (.string a0) := cell_grown (show g < wr.heap.size by have := HS.out.below.size; omega) (by rw [HS.out.below.cell (show g < _ by omega)]; exact HCL.out (j * 4) _ (by rw [List.getElem?_map, f0]; rfl))
          have c0' : ∀ m os, (Sort.grow (wr.drewN m) os).cell? ⟨g', off' + j * 4, none⟩ = some (.string a0) := cell_grown (show g' < wr.heap.size by have := HS.out.below.size; omega) (by rw [HS.out.below.cell (show g' < _ by omega)]; exact HCL'.out (j * 4) _ (by rw [List.getElem?_map, f0']; rfl))
          have hd1 := data_same HD.out f1 f1'
          have hv1 := leaf_same hd1; obtain rfl : a1 = b1 := by cases hv1; rfl
          clear hd1 hv1
          have c1 : ∀ m os, (Sort.grow (wr.drewN m) os).cell? ⟨g, off + j * 4 + 1, none⟩ = some (.string a1) := cell_grown (show g < wr.heap.size by have := HS.out.below.size; omega) (by rw [HS.out.below.cell (show g < _ by omega)]; rw [Nat.add_assoc]; exact HCL.out (j * 4 + 1) _ (by rw [List.getElem?_map, f1]; rfl))
          have c1' : ∀ m os, (Sort.grow (wr.drewN m) os).cell? ⟨g', off' + j * 4 + 1, none⟩ = some (.string a1) := cell_grown (show g' < wr.heap.size by have := HS.out.below.size; omega) (by rw [HS.out.below.cell (show g' < _ by omega)]; rw [Nat.add_assoc]; exact HCL'.out (j * 4 + 1) _ (by rw [List.getElem?_map, f1']; rfl))
          have hd2 := data_same HD.out f2 f2'
          have hv2 := leaf_same hd2; obtain rfl : a2 = b2 := by cases hv2; rfl
          clear hd2 hv2
          have c2 : ∀ m os, (Sort.grow (wr.drewN m) os).cell? ⟨g, off + j * 4 + 2, none⟩ = some (.int .i64 a2) := cell_grown (show g < wr.heap.size by have := HS.out.below.size; omega) (by rw [HS.out.below.cell (show g < _ by omega)]; rw [Nat.add_assoc]; exact HCL.out (j * 4 + 2) _ (by rw [List.getElem?_map, f2]; rfl))
          have c2' : ∀ m os, (Sort.grow (wr.drewN m) os).cell? ⟨g', off' + j * 4 + 2, none⟩ = some (.int .i64 a2) := cell_grown (show g' < wr.heap.size by have := HS.out.below.size; omega) (by rw [HS.out.below.cell (show g' < _ by omega)]; rw [Nat.add_assoc]; exact HCL'.out (j * 4 + 2) _ (by rw [List.getElem?_map, f2']; rfl))
          have hd3 := data_same HD.out f3 f3'
          have c3 : ∀ m os, (Sort.grow (wr.drewN m) os).cell? ⟨g, off + j * 4 + 3, none⟩ = some (a3.cell) := cell_grown (show g < wr.heap.size by have := HS.out.below.size; omega) (by rw [HS.out.below.cell (show g < _ by omega)]; rw [Nat.add_assoc]; exact HCL.out (j * 4 + 3) _ (by rw [List.getElem?_map, f3]; rfl))
          have c3' : ∀ m os, (Sort.grow (wr.drewN m) os).cell? ⟨g', off' + j * 4 + 3, none⟩ = some (b3.cell) := cell_grown (show g' < wr.heap.size by have := HS.out.below.size; omega) (by rw [HS.out.below.cell (show g' < _ by omega)]; rw [Nat.add_assoc]; exact HCL'.out (j * 4 + 3) _ (by rw [List.getElem?_map, f3']; rfl))
          have HE := Lib.hid (fun (n : Nat) (os : Array Obj) => (show Grw w wr from HS.out) |> fun HG0 => eq_Node a0 a1 a2 a3 b3 (Sort.grow (wr.drewN n) os) s3 s3' hd3 ((HG0.trans ⟨n, os, rfl⟩).rd (readRL_iff.1 HIN.out _ (List.mem_of_getElem? f3))) ((HG0.trans ⟨n, os, rfl⟩).rd (readRL_iff.1 HIN'.out _ (List.mem_of_getElem? f3'))))
          clear f0 f0' f1 f1' f2 f2' f3 f3'
          go_wp2_with fail
          refine wp_region_quiet_grown mixed (by kernel_rfl) ?_
          repeat (go_big_quiet_step (first | (go_at_call 126; refine Calls.grown_of (HE.out _ _))))
          refine wpQuiet_nil ?_; intro _ hw'; obtain ⟨⟨nq, osq⟩, hw''⟩ := hw'; subst hw''
          have HG1 := Lib.hid (HS.out.trans ⟨nq, osq, rfl⟩)
          obtain ⟨w1, hw1⟩ : ∃ x, Sort.grow (wr.drewN nq) osq = x := ⟨_, rfl⟩
          rw [hw1] at HG1 ⊢; clear hw1 c0 c0' c1 c1' c2 c2' c3 c3'
          go_wp2_with fail
          go_roundw
          case rel => exact ⟨j + 1, by omega, by go_num, HG1.out⟩
          case measure => simp [intOf]; omega
    · have hkn : decide ((j : Int) < (n : Int)) = false := decide_eq_false hlt
      go_wp2_with fail
      go_ret
      exact ⟨rfl, HS.out⟩

end Go.Proofs.YtpkicliimhflgaaGreatDoor

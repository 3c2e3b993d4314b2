/- Helper facts on data with slices in slices: what lies where, that a call owns all of it, and how that is carried over the changes of memory; the marks that a law writes into it. No claim of its own. -/
import Derived.Test.YtpkicliimhflgaaRec
import Derived.Test.YtpkicliimhflgaaMarkT
namespace Go.Proofs.Ytpkicliimhflgaa
open Go.ChangeShapes Go.WideShapes Go.ChangeAt Go.RowKit

/-- What lies in one cell: a plain value, or a slice (n elements of k cells each, of type e) with what lies in its cells. -/
inductive Rw where
  | leaf (v : Value)
  | sl (v : Value) (n k : Nat) (e : TypeId) (cs : List Rw)
/-- The same without the places. -/
inductive Dt where
  | leaf (v : Value)
  | sl (k : Nat) (cs : List Dt)
def Rw.cell : Rw → Value
  | .leaf v => v
  | .sl v _ _ _ _ => v
theorem Rw.cell_leaf (v : Value) : (Rw.leaf v).cell = v := rfl
theorem Rw.cell_sl (v : Value) (n k : Nat) (e : TypeId) (cs : List Rw) : (Rw.sl v n k e cs).cell = v := rfl

mutual
def Rw.blocks : Rw → List Nat
  | .leaf _ => []
  | .sl v _ _ _ cs => v.ownBlock.toList ++ blocksL cs
def blocksL : List Rw → List Nat
  | [] => []
  | c :: cs => c.blocks ++ blocksL cs
end
mutual
def Rw.data : Rw → Dt
  | .leaf v => .leaf v
  | .sl _ _ k _ cs => .sl k (dataL cs)
def dataL : List Rw → List Dt
  | [] => []
  | c :: cs => c.data :: dataL cs
end
mutual
/-- How many plain values. -/
def Rw.count : Rw → Nat
  | .leaf _ => 1
  | .sl _ _ _ _ cs => countL cs
def countL : List Rw → Nat
  | [] => 0
  | c :: cs => c.count + countL cs
end
def weightV (v : Value) : Nat := match v with
  | .string s => s.size
  | _ => 0
mutual
/-- The letters and elements. -/
def Rw.weight : Rw → Nat
  | .leaf v => weightV v
  | .sl _ n _ _ cs => n + weightL cs
def weightL : List Rw → Nat
  | [] => 0
  | c :: cs => c.weight + weightL cs
end
mutual
/-- Every string is within reach. -/
def Rw.Small : Rw → Prop
  | .leaf v => weightV v ≤ 9223372036854775807
  | .sl _ _ _ _ cs => SmallL cs
def SmallL : List Rw → Prop
  | [] => True
  | c :: cs => c.Small ∧ SmallL cs
end
def markV (v : Value) (q : Nat) : Value := match v with
  | .string _ => .string (mt q)
  | .int k _ => .int k q
  | .bool _ => .bool (decide (q % 3 = 0))
  | v => v
mutual
/-- Marked, from q on. -/
def Rw.mark : Rw → Nat → Rw
  | .leaf v, q => .leaf (markV v q)
  | .sl v n k e cs, q => .sl v n k e (markL cs q)
def markL : List Rw → Nat → List Rw
  | [], _ => []
  | c :: cs, q => c.mark q :: markL cs (q + c.count)
end
mutual
/-- The call's own: every block lies in [lo, hi). -/
def Rw.OwnR (lo hi : Nat) (w : World) : Rw → Prop
  | .leaf v => v.oneCell' = true
  | .sl v n k e cs => (w.ownsRow lo e k v n (cs.map Rw.cell) ∧ ∀ g, v.ownBlock = some g → g < hi) ∧ OwnRL lo hi w cs
def OwnRL (lo hi : Nat) (w : World) : List Rw → Prop
  | [] => True
  | c :: cs => c.OwnR lo hi w ∧ OwnRL lo hi w cs
end
mutual
/-- It reads so; every block lies below hi. -/
def Rw.ReadR (hi : Nat) (w : World) : Rw → Prop
  | .leaf v => v.oneCell' = true
  | .sl v n k _ cs => (∃ (a : Option Addr) (cap : Nat), v = .slice a n cap ∧ cs.length = n * k ∧ n ≤ cap ∧ cap ≤ 9223372036854775807 ∧ (a = none → cap = 0) ∧ (n = 0 ∨ ∃ g off, a = some ⟨g, off, none⟩ ∧ g < hi ∧ ∀ j c, (cs.map Rw.cell)[j]? = some c → w.cell? ⟨g, off + j, none⟩ = some c)) ∧ ReadRL hi w cs
def ReadRL (hi : Nat) (w : World) : List Rw → Prop
  | [] => True
  | c :: cs => c.ReadR hi w ∧ ReadRL hi w cs
end

mutual
theorem Rw.ind {P : Rw → Prop} (hl : ∀ v, P (.leaf v)) (hs : ∀ v n k e cs, (∀ c ∈ cs, P c) → P (.sl v n k e cs)) : ∀ x, P x
  | .leaf v => hl v
  | .sl v n k e cs => hs v n k e cs (Rw.indL hl hs cs)
theorem Rw.indL {P : Rw → Prop} (hl : ∀ v, P (.leaf v)) (hs : ∀ v n k e cs, (∀ c ∈ cs, P c) → P (.sl v n k e cs)) : ∀ (cs : List Rw), ∀ c ∈ cs, P c
  | [], _, h => by cases h
  | d :: ds, c, h => by
    rcases List.mem_cons.1 h with e | h2
    · rw [e]; exact Rw.ind hl hs d
    · exact Rw.indL hl hs ds c h2
end

theorem ownRL_iff {lo hi : Nat} {w : World} : ∀ {cs : List Rw}, OwnRL lo hi w cs ↔ ∀ c ∈ cs, c.OwnR lo hi w
  | [] => by simp [OwnRL]
  | c :: cs => by
    rw [OwnRL, ownRL_iff (cs := cs)]; simp
theorem readRL_iff {hi : Nat} {w : World} : ∀ {cs : List Rw}, ReadRL hi w cs ↔ ∀ c ∈ cs, c.ReadR hi w
  | [] => by simp [ReadRL]
  | c :: cs => by
    rw [ReadRL, readRL_iff (cs := cs)]; simp
theorem smallL_iff : ∀ {cs : List Rw}, SmallL cs ↔ ∀ c ∈ cs, c.Small
  | [] => by simp [SmallL]
  | c :: cs => by
    rw [SmallL, smallL_iff (cs := cs)]; simp
theorem blocksL_mem {b : Nat} : ∀ {cs : List Rw}, b ∈ blocksL cs ↔ ∃ c ∈ cs, b ∈ c.blocks
  | [] => by simp [blocksL]
  | c :: cs => by
    rw [blocksL, List.mem_append, blocksL_mem (cs := cs)]; simp
theorem dataL_at : ∀ (cs : List Rw) (j : Nat), (dataL cs)[j]? = (cs[j]?).map Rw.data
  | [], j => by simp [dataL]
  | c :: cs, 0 => by simp [dataL]
  | c :: cs, j + 1 => by
    rw [dataL, List.getElem?_cons_succ, List.getElem?_cons_succ]; exact dataL_at cs j
theorem dataL_len : ∀ (cs : List Rw), (dataL cs).length = cs.length
  | [] => rfl
  | c :: cs => by rw [dataL, List.length_cons, List.length_cons, dataL_len cs]
theorem data_same {cs ds : List Rw} (h : dataL cs = dataL ds) {m : Nat} {c d : Rw} (hc : cs[m]? = some c) (hd : ds[m]? = some d) : c.data = d.data := by
  have h1 := dataL_at cs m
  have h2 := dataL_at ds m
  rw [h, h2, hc, hd] at h1
  exact (Option.some.inj h1).symm
theorem leaf_same {u v : Value} (h : (Rw.leaf u).data = (Rw.leaf v).data) : u = v := by
  rw [Rw.data, Rw.data] at h
  exact Dt.leaf.inj h
theorem rows_all {cs : List Rw} {n K : Nat} (hK : 0 < K) (hlen : cs.length = n * K) (Q : Rw → Prop) (h : ∀ j, j < n → ∀ t, t < K → ∃ c, cs[j * K + t]? = some c ∧ Q c) : ∀ c ∈ cs, Q c := by
  intro c hc
  obtain ⟨i, hi⟩ := List.mem_iff_getElem?.1 hc
  have hil := (List.getElem?_eq_some_iff.1 hi).1
  have hj : i / K < n := by rw [Nat.div_lt_iff_lt_mul hK]; omega
  obtain ⟨d, hd, hq⟩ := h (i / K) hj (i % K) (Nat.mod_lt _ hK)
  rw [Nat.div_add_mod' i K, hi] at hd
  cases hd
  exact hq
theorem blocksL_nil : ∀ {cs : List Rw}, (∀ c ∈ cs, c.blocks = []) → blocksL cs = []
  | [], _ => by rw [blocksL]
  | c :: cs, h => by rw [blocksL, h c List.mem_cons_self, blocksL_nil fun d hd => h d (List.mem_cons_of_mem _ hd)]; rfl
theorem dataL_append : ∀ (cs ds : List Rw), dataL (cs ++ ds) = dataL cs ++ dataL ds
  | [], _ => by rw [dataL]; rfl
  | c :: cs, ds => by rw [List.cons_append, dataL, dataL, dataL_append cs ds, List.cons_append]
theorem countL_append : ∀ (cs ds : List Rw), countL (cs ++ ds) = countL cs + countL ds
  | [], ds => by rw [countL, List.nil_append, Nat.zero_add]
  | c :: cs, ds => by rw [List.cons_append, countL, countL, countL_append cs ds]; omega
theorem markL_len : ∀ (cs : List Rw) (q : Nat), (markL cs q).length = cs.length
  | [], _ => rfl
  | c :: cs, q => by rw [markL, List.length_cons, List.length_cons, markL_len cs]
theorem markL_append : ∀ (cs ds : List Rw) (q : Nat), markL (cs ++ ds) q = markL cs q ++ markL ds (q + countL cs)
  | [], ds, q => by rw [countL, markL, List.nil_append, List.nil_append, Nat.add_zero]
  | c :: cs, ds, q => by rw [List.cons_append, markL, markL, countL, markL_append cs ds, List.cons_append, Nat.add_assoc]
theorem mark_cell_sl (v : Value) (n k : Nat) (e : TypeId) (cs : List Rw) (q : Nat) : (Rw.sl v n k e cs).mark q = .sl v n k e (markL cs q) := by rw [Rw.mark]
theorem mark_leaf (v : Value) (q : Nat) : (Rw.leaf v).mark q = .leaf (markV v q) := by rw [Rw.mark]

mutual
theorem mark_blocks : ∀ (x : Rw) (q : Nat), (x.mark q).blocks = x.blocks
  | .leaf v, q => by rw [mark_leaf, Rw.blocks, Rw.blocks]
  | .sl v n k e cs, q => by rw [mark_cell_sl, Rw.blocks, Rw.blocks, markL_blocks cs q]
theorem markL_blocks : ∀ (cs : List Rw) (q : Nat), blocksL (markL cs q) = blocksL cs
  | [], q => by rw [markL]
  | c :: cs, q => by rw [markL, blocksL, blocksL, mark_blocks c q, markL_blocks cs]
end
mutual
theorem mark_count : ∀ (x : Rw) (q : Nat), (x.mark q).count = x.count
  | .leaf v, q => by rw [mark_leaf, Rw.count, Rw.count]
  | .sl v n k e cs, q => by rw [mark_cell_sl, Rw.count, Rw.count, markL_count cs q]
theorem markL_count : ∀ (cs : List Rw) (q : Nat), countL (markL cs q) = countL cs
  | [], q => by rw [markL]
  | c :: cs, q => by rw [markL, countL, countL, mark_count c q, markL_count cs]
end

/-- The first m cells marked. -/
def markTo (cs : List Rw) (q m : Nat) : List Rw := markL (cs.take m) q ++ cs.drop m
theorem markTo_zero (cs : List Rw) (q : Nat) : markTo cs q 0 = cs := by simp [markTo, markL]
theorem markTo_full (cs : List Rw) (q : Nat) {m : Nat} (h : cs.length ≤ m) : markTo cs q m = markL cs q := by
  unfold markTo; rw [List.take_of_length_le h, List.drop_of_length_le h, List.append_nil]
theorem markTo_len (cs : List Rw) (q m : Nat) : (markTo cs q m).length = cs.length := by
  unfold markTo; rw [List.length_append, markL_len, List.length_take, List.length_drop]; omega
theorem markTo_at {cs : List Rw} {m : Nat} {c : Rw} (h : cs[m]? = some c) (q : Nat) : (markTo cs q m)[m]? = some c := by
  have hm : m < cs.length := (List.getElem?_eq_some_iff.1 h).1
  unfold markTo
  rw [List.getElem?_append_right (by rw [markL_len, List.length_take]; omega), markL_len, List.length_take, Nat.min_eq_left (by omega), Nat.sub_self, List.getElem?_drop, Nat.add_zero, h]
theorem take_more {cs : List Rw} {m : Nat} {c : Rw} (h : cs[m]? = some c) : cs.take (m + 1) = cs.take m ++ [c] := by
  rw [List.take_add_one, h]; rfl
theorem countL_more {cs : List Rw} {m : Nat} {c : Rw} (h : cs[m]? = some c) : countL (cs.take (m + 1)) = countL (cs.take m) + c.count := by
  rw [take_more h, countL_append, countL, countL, Nat.add_zero]
theorem weightL_append : ∀ (cs ds : List Rw), weightL (cs ++ ds) = weightL cs + weightL ds
  | [], ds => by rw [weightL, List.nil_append, Nat.zero_add]
  | c :: cs, ds => by rw [List.cons_append, weightL, weightL, weightL_append cs ds]; omega
theorem weightL_more {cs : List Rw} {m : Nat} {c : Rw} (h : cs[m]? = some c) : weightL (cs.take (m + 1)) = weightL (cs.take m) + c.weight := by
  rw [take_more h, weightL_append, weightL, weightL, Nat.add_zero]
theorem countL_take_le (cs : List Rw) (m : Nat) : countL (cs.take m) ≤ countL cs := by
  have := countL_append (cs.take m) (cs.drop m)
  rw [List.take_append_drop] at this; omega
theorem markTo_next {cs : List Rw} {m : Nat} {c : Rw} (h : cs[m]? = some c) (q : Nat) : (markTo cs q m).set m (c.mark (q + countL (cs.take m))) = markTo cs q (m + 1) := by
  have hm : m < cs.length := (List.getElem?_eq_some_iff.1 h).1
  have hl : (markL (cs.take m) q).length = m := by rw [markL_len, List.length_take]; omega
  unfold markTo
  rw [List.set_append_right _ _ (by omega), hl, Nat.sub_self, take_more h, markL_append, markL, markL, List.drop_eq_getElem_cons hm, List.set_cons_zero, List.append_assoc]
  rfl
theorem markL_at {cs : List Rw} {m : Nat} {c : Rw} (h : cs[m]? = some c) (q : Nat) : (markL cs q)[m]? = some (c.mark (q + countL (cs.take m))) := by
  have hm : m < cs.length := (List.getElem?_eq_some_iff.1 h).1
  have e : cs = cs.take m ++ c :: cs.drop (m + 1) := by
    conv => lhs; rw [← List.take_append_drop m cs, List.drop_eq_getElem_cons hm]
    rw [show cs[m] = c from Option.some.inj ((List.getElem?_eq_getElem hm).symm.trans h)]
  conv => lhs; rw [e]
  rw [markL_append, List.getElem?_append_right (by rw [markL_len, List.length_take]; omega), markL_len, List.length_take, Nat.min_eq_left (by omega), Nat.sub_self, markL]
  rfl
theorem blocksL_append : ∀ (cs ds : List Rw), blocksL (cs ++ ds) = blocksL cs ++ blocksL ds
  | [], _ => by rw [blocksL]; rfl
  | c :: cs, ds => by rw [List.cons_append, blocksL, blocksL, blocksL_append cs ds, List.append_assoc]
theorem markTo_blocks (cs : List Rw) (q m : Nat) : blocksL (markTo cs q m) = blocksL cs := by
  unfold markTo
  rw [blocksL_append, markL_blocks, ← blocksL_append, List.take_append_drop]

/-- Only these blocks were written; new ones were made, numbers were drawn. -/
structure OnlyB (bs : List Nat) (w w' : World) : Prop where
  os : w'.os = w.os
  tape : w'.tape = w.tape
  output : w'.output = w.output
  size : w.heap.size ≤ w'.heap.size
  block : ∀ i, i < w.heap.size → i ∉ bs → w'.heap[i]? = w.heap[i]?
theorem OnlyB.refl (bs : List Nat) (w : World) : OnlyB bs w w := ⟨rfl, rfl, rfl, Nat.le_refl _, fun _ _ _ => rfl⟩
theorem OnlyB.trans {bs : List Nat} {a b c : World} (h : OnlyB bs a b) (k : OnlyB bs b c) : OnlyB bs a c :=
  ⟨k.os.trans h.os, k.tape.trans h.tape, k.output.trans h.output, Nat.le_trans h.size k.size, fun i hi hn => (k.block i (Nat.lt_of_lt_of_le hi h.size) hn).trans (h.block i hi hn)⟩
theorem OnlyB.mono {bs cs : List Nat} {a b : World} (h : OnlyB bs a b) (hs : ∀ i ∈ bs, i ∈ cs) : OnlyB cs a b :=
  ⟨h.os, h.tape, h.output, h.size, fun i hi hn => h.block i hi fun hb => hn (hs i hb)⟩
theorem OnlyB.of_below {w w' : World} (h : Below w.heap.size w w') (bs : List Nat) : OnlyB bs w w' := ⟨h.os, h.tape, h.output, h.size, fun i hi _ => h.block i hi⟩
theorem OnlyB.of_grown {w w' : World} {r : Option Nat} (h : w.grownBy w' r) : OnlyB r.toList w w' :=
  ⟨h.os, h.tape, h.output, h.size, fun i hi hn => h.block i hi fun e => hn (by rw [← e]; simp)⟩
theorem OnlyB.below {bs : List Nat} {w w' : World} (h : OnlyB bs w w') {B : Nat} (hb : ∀ i ∈ bs, B ≤ i) (hB : B ≤ w.heap.size) : Below B w w' :=
  ⟨h.os, h.tape, h.output, h.size, fun i hi => h.block i (by omega) fun hm => by have := hb i hm; omega⟩

theorem ownsRow_only {lo k n : Nat} {e : TypeId} {w w' : World} {v : Value} {cs : List Value} {bs : List Nat} (h : w.ownsRow lo e k v n cs) (hb : OnlyB bs w w') (hn : ∀ b, v.ownBlock = some b → b ∉ bs) : w'.ownsRow lo e k v n cs := by
  refine ⟨h.1, ?_⟩
  rcases h.2 with h1 | ⟨g, cap, cur, h1, h2, h3, h4⟩
  · exact Or.inl h1
  · have hg := (h.lt g (by rw [h1]; rfl)).2
    exact Or.inr ⟨g, cap, cur, h1, h2, by rw [hb.block g hg (hn g (by rw [h1]; rfl))]; exact h3, h4⟩
theorem Rw.OwnR.only {lo hi : Nat} {w w' : World} {bs : List Nat} (hb : OnlyB bs w w') : ∀ (x : Rw), x.OwnR lo hi w → (∀ b ∈ x.blocks, b ∉ bs) → x.OwnR lo hi w' := by
  refine Rw.ind (fun v h _ => ?_) (fun v n k e cs ih h hd => ?_)
  · rw [Rw.OwnR] at h ⊢; exact h
  · rw [Rw.OwnR] at h ⊢
    rw [Rw.blocks] at hd
    refine ⟨⟨ownsRow_only h.1.1 hb fun b hv => hd b (List.mem_append.2 (Or.inl (by rw [hv]; simp))), h.1.2⟩, ownRL_iff.2 fun c hc => ?_⟩
    exact ih c hc (ownRL_iff.1 h.2 c hc) fun b hbm => hd b (List.mem_append.2 (Or.inr (blocksL_mem.2 ⟨c, hc, hbm⟩)))
theorem Rw.OwnR.later {lo hi : Nat} {w w' : World} {x : Rw} (h : x.OwnR lo hi w) (hb : Below w.heap.size w w') : x.OwnR lo hi w' :=
  Rw.OwnR.only (OnlyB.of_below hb []) x h fun _ _ hm => by cases hm
theorem Rw.OwnR.mono {lo hi lo' hi' : Nat} {w : World} (hl : lo' ≤ lo) (hh : hi ≤ hi') : ∀ (x : Rw), x.OwnR lo hi w → x.OwnR lo' hi' w := by
  refine Rw.ind (fun v h => ?_) (fun v n k e cs ih h => ?_)
  · rw [Rw.OwnR] at h ⊢; exact h
  · rw [Rw.OwnR] at h ⊢
    refine ⟨⟨⟨h.1.1.1, ?_⟩, fun g hg => by have := h.1.2 g hg; omega⟩, ownRL_iff.2 fun c hc => ih c hc (ownRL_iff.1 h.2 c hc)⟩
    rcases h.1.1.2 with h1 | ⟨g, cap, cur, h1, h2, h3⟩
    · exact Or.inl h1
    · exact Or.inr ⟨g, cap, cur, h1, by omega, h3⟩
theorem Rw.OwnR.lt {lo hi : Nat} {w : World} : ∀ (x : Rw), x.OwnR lo hi w → ∀ b ∈ x.blocks, lo ≤ b ∧ b < hi ∧ b < w.heap.size := by
  refine Rw.ind (fun v _ b hb => ?_) (fun v n k e cs ih h b hb => ?_)
  · rw [Rw.blocks] at hb; cases hb
  · rw [Rw.OwnR] at h
    rw [Rw.blocks] at hb
    rcases List.mem_append.1 hb with h1 | h1
    · have hv : v.ownBlock = some b := by simpa using h1
      have := h.1.1.lt b hv
      exact ⟨this.1, h.1.2 b hv, this.2⟩
    · obtain ⟨c, hc, hbc⟩ := blocksL_mem.1 h1
      exact ih c hc (ownRL_iff.1 h.2 c hc) b hbc
theorem Rw.OwnR.reads {lo hi : Nat} {w : World} : ∀ (x : Rw), x.OwnR lo hi w → x.ReadR hi w := by
  refine Rw.ind (fun v h => ?_) (fun v n k e cs ih h => ?_)
  · rw [Rw.OwnR] at h; rw [Rw.ReadR]; exact h
  · rw [Rw.OwnR] at h
    rw [Rw.ReadR]
    refine ⟨?_, readRL_iff.2 fun c hc => ih c hc (ownRL_iff.1 h.2 c hc)⟩
    have hrow := h.1.1
    have hlen : cs.length = n * k := by have := hrow.1; rwa [List.length_map] at this
    rcases hrow.2 with ⟨rfl, h0⟩ | ⟨g, cap, cur, rfl, hg, hh, hc, hm, _⟩
    · exact ⟨none, 0, by rw [h0], hlen, by omega, by omega, (fun _ => rfl), Or.inl h0⟩
    · refine ⟨_, cap, rfl, hlen, hc, by unfold maxLen at hm; omega, (fun h => by cases h), Or.inr ⟨g, 0, rfl, h.1.2 g rfl, fun j c hj => ?_⟩⟩
      have hjl := (List.getElem?_eq_some_iff.1 hj).1
      rw [List.length_map] at hjl
      rw [Nat.zero_add, hrow.cellAt j (by omega), hj]
theorem Rw.ReadR.below {hi B : Nat} {w w' : World} (hb : Below B w w') (hB : hi ≤ B) : ∀ (x : Rw), x.ReadR hi w → x.ReadR hi w' := by
  refine Rw.ind (fun v h => ?_) (fun v n k e cs ih h => ?_)
  · rw [Rw.ReadR] at h ⊢; exact h
  · rw [Rw.ReadR] at h ⊢
    refine ⟨?_, readRL_iff.2 fun c hc => ih c hc (readRL_iff.1 h.2 c hc)⟩
    obtain ⟨a, cap, e1, h1, h2, h3, h4, h5⟩ := h.1
    refine ⟨a, cap, e1, h1, h2, h3, h4, ?_⟩
    rcases h5 with h5 | ⟨g, off, e2, hg, hc⟩
    · exact Or.inl h5
    · exact Or.inr ⟨g, off, e2, hg, fun j c hj => by rw [hb.cell (show g < B by omega)]; exact hc j c hj⟩
theorem Rw.ReadR.mono {hi hi' : Nat} {w : World} (hh : hi ≤ hi') : ∀ (x : Rw), x.ReadR hi w → x.ReadR hi' w := by
  refine Rw.ind (fun v h => ?_) (fun v n k e cs ih h => ?_)
  · rw [Rw.ReadR] at h ⊢; exact h
  · rw [Rw.ReadR] at h ⊢
    refine ⟨?_, readRL_iff.2 fun c hc => ih c hc (readRL_iff.1 h.2 c hc)⟩
    obtain ⟨a, cap, e1, h1, h2, h3, h4, h5⟩ := h.1
    refine ⟨a, cap, e1, h1, h2, h3, h4, ?_⟩
    rcases h5 with h5 | ⟨g, off, e2, hg, hc⟩
    · exact Or.inl h5
    · exact Or.inr ⟨g, off, e2, by omega, hc⟩
theorem Rw.ReadR.grw {hi : Nat} {w w' : World} {x : Rw} (h : x.ReadR hi w) (hh : hi ≤ w.heap.size) (hg : Grw w w') : x.ReadR hi w' := Rw.ReadR.below hg.below hh x h
theorem Rw.ReadR.up {w w' : World} {x : Rw} (h : x.ReadR w.heap.size w) (hg : Grw w w') : x.ReadR w'.heap.size w' := Rw.ReadR.mono hg.below.size x (h.grw (Nat.le_refl _) hg)
theorem Grw.rd {w w' : World} (hg : Grw w w') {x : Rw} (h : x.ReadR w.heap.size w) : x.ReadR w'.heap.size w' := h.up hg
theorem Rw.OwnR.cell {lo hi : Nat} {w : World} {x : Rw} (h : x.OwnR lo hi w) : x.cell.oneCell' = true := by
  cases x with
  | leaf v => rw [Rw.OwnR] at h; exact h
  | sl v n k e cs =>
    rw [Rw.OwnR] at h
    rcases h.1.1.2 with ⟨rfl, _⟩ | ⟨g, cap, cur, rfl, _⟩ <;> rfl
theorem Rw.ReadR.cell {hi : Nat} {w : World} {x : Rw} (h : x.ReadR hi w) : x.cell.oneCell' = true := by
  cases x with
  | leaf v => rw [Rw.ReadR] at h; exact h
  | sl v n k e cs =>
    rw [Rw.ReadR] at h
    obtain ⟨⟨a, cap, rfl, _⟩, _⟩ := h
    rfl

/-- A plain value is stored into a cell of an own slice. -/
theorem Rw.OwnR.store {lo hi g n k cap m : Nat} {e : TypeId} {w : World} {cs : List Rw} {u v : Value} (h : (Rw.sl (.slice (some ⟨g, 0, none⟩) n cap) n k e cs).OwnR lo hi w) (hn : g ∉ blocksL cs) (hm : cs[m]? = some (.leaf u)) (hv : v.oneCell' = true) :
    (Rw.sl (.slice (some ⟨g, 0, none⟩) n cap) n k e (cs.set m (.leaf v))).OwnR lo hi (w.setCell ⟨g, m, none⟩ v) ∧ OnlyB [g] w (w.setCell ⟨g, m, none⟩ v) ∧ blocksL (cs.set m (.leaf v)) = blocksL cs := by
  have hml : m < cs.length := (List.getElem?_eq_some_iff.1 hm).1
  rw [Rw.OwnR] at h
  have hst := h.1.1.stored m v
  have hon : OnlyB [g] w (w.setCell ⟨g, m, none⟩ v) := OnlyB.of_grown hst.2
  refine ⟨?_, hon, ?_⟩
  · rw [Rw.OwnR]
    refine ⟨⟨?_, h.1.2⟩, ownRL_iff.2 fun c hc => ?_⟩
    · rw [List.map_set]; exact hst.1
    · rcases List.mem_or_eq_of_mem_set hc with h1 | h1
      · refine Rw.OwnR.only hon c (ownRL_iff.1 h.2 c h1) fun b hb => ?_
        intro hbg
        rw [List.mem_singleton] at hbg
        subst hbg
        exact hn (blocksL_mem.2 ⟨c, h1, hb⟩)
      · rw [h1, Rw.OwnR]; exact hv
  · have e1 : cs = cs.take m ++ .leaf u :: cs.drop (m + 1) := by
      conv => lhs; rw [← List.take_append_drop m cs, List.drop_eq_getElem_cons hml]
      rw [show cs[m] = .leaf u from Option.some.inj ((List.getElem?_eq_getElem hml).symm.trans hm)]
    have e2 : cs.set m (.leaf v) = cs.take m ++ .leaf v :: cs.drop (m + 1) := List.set_eq_take_append_cons_drop.trans (if_pos hml)
    rw [e2, blocksL_append, blocksL, Rw.blocks]
    conv => rhs; rw [e1, blocksL_append, blocksL, Rw.blocks]
/-- An inner slice is written by a call. -/
theorem Rw.OwnR.inner {lo hi g n k cap m : Nat} {e : TypeId} {w w' : World} {cs : List Rw} {y y' : Rw} (h : (Rw.sl (.slice (some ⟨g, 0, none⟩) n cap) n k e cs).OwnR lo hi w) (hd : (Rw.sl (.slice (some ⟨g, 0, none⟩) n cap) n k e cs).blocks.Nodup) (hm : cs[m]? = some y)
    (hon : OnlyB y.blocks w w') (hy : y'.OwnR lo hi w') (hc : y'.cell = y.cell) (hb : y'.blocks = y.blocks) :
    (Rw.sl (.slice (some ⟨g, 0, none⟩) n cap) n k e (cs.set m y')).OwnR lo hi w' ∧ blocksL (cs.set m y') = blocksL cs := by
  have hml : m < cs.length := (List.getElem?_eq_some_iff.1 hm).1
  have e1 : cs = cs.take m ++ y :: cs.drop (m + 1) := by
    conv => lhs; rw [← List.take_append_drop m cs, List.drop_eq_getElem_cons hml]
    rw [show cs[m] = y from Option.some.inj ((List.getElem?_eq_getElem hml).symm.trans hm)]
  have e2 : cs.set m y' = cs.take m ++ y' :: cs.drop (m + 1) := List.set_eq_take_append_cons_drop.trans (if_pos hml)
  have hbl : blocksL (cs.set m y') = blocksL cs := by
    rw [e2, blocksL_append, blocksL, hb]
    conv => rhs; rw [e1, blocksL_append, blocksL]
  rw [Rw.blocks] at hd
  have hd1 : g ∉ blocksL cs := by
    have := (List.nodup_cons.1 (show (g :: blocksL cs).Nodup from hd)).1
    exact this
  have hd2 : (blocksL cs).Nodup := (List.nodup_cons.1 (show (g :: blocksL cs).Nodup from hd)).2
  rw [e1, blocksL_append, blocksL] at hd2
  have hA := List.nodup_append.1 hd2
  have hB := List.nodup_append.1 hA.2.1
  rw [Rw.OwnR] at h
  refine ⟨?_, hbl⟩
  rw [Rw.OwnR]
  refine ⟨⟨?_, h.1.2⟩, ownRL_iff.2 fun c hcm => ?_⟩
  · have e3 : (cs.set m y').map Rw.cell = cs.map Rw.cell := by
      rw [e2, List.map_append, List.map_cons, hc]
      conv => rhs; rw [e1, List.map_append, List.map_cons]
    rw [e3]
    refine ownsRow_only h.1.1 hon fun b hv => ?_
    have hbg : b = g := by
      have : some g = some b := hv
      exact (Option.some.inj this).symm
    subst hbg
    exact fun hyb => hd1 (blocksL_mem.2 ⟨y, List.mem_of_getElem? hm, hyb⟩)
  · rw [e2] at hcm
    rcases List.mem_append.1 hcm with h1 | h1
    · refine Rw.OwnR.only hon c (ownRL_iff.1 h.2 c (List.mem_of_mem_take h1)) fun b hbc hby => ?_
      exact hA.2.2 b (blocksL_mem.2 ⟨c, h1, hbc⟩) b (List.mem_append.2 (Or.inl hby)) rfl
    · rcases List.mem_cons.1 h1 with h2 | h2
      · rw [h2]; exact hy
      · refine Rw.OwnR.only hon c (ownRL_iff.1 h.2 c (List.mem_of_mem_drop h2)) fun b hbc hby => ?_
        exact hB.2.2 b hby b (blocksL_mem.2 ⟨c, h2, hbc⟩) rfl
theorem mark_cell {x : Rw} (h : ∃ v n k e cs, x = .sl v n k e cs) (q : Nat) : (x.mark q).cell = x.cell := by
  obtain ⟨v, n, k, e, cs, rfl⟩ := h
  rw [mark_cell_sl, Rw.cell_sl, Rw.cell_sl]
theorem inner_nodup {v : Value} {n k : Nat} {e : TypeId} {cs : List Rw} {m : Nat} {y : Rw} (h : (Rw.sl v n k e cs).blocks.Nodup) (hm : cs[m]? = some y) : y.blocks.Nodup := by
  have hml : m < cs.length := (List.getElem?_eq_some_iff.1 hm).1
  have e1 : cs = cs.take m ++ y :: cs.drop (m + 1) := by
    conv => lhs; rw [← List.take_append_drop m cs, List.drop_eq_getElem_cons hml]
    rw [show cs[m] = y from Option.some.inj ((List.getElem?_eq_getElem hml).symm.trans hm)]
  rw [Rw.blocks, e1, blocksL_append, blocksL] at h
  exact (List.nodup_append.1 (List.nodup_append.1 (List.nodup_append.1 h).2.1).2.1).1
theorem inner_mem {v : Value} {n k : Nat} {e : TypeId} {cs : List Rw} {m : Nat} {y : Rw} (hm : cs[m]? = some y) : ∀ b ∈ y.blocks, b ∈ (Rw.sl v n k e cs).blocks := by
  intro b hb
  rw [Rw.blocks]
  exact List.mem_append.2 (Or.inr (blocksL_mem.2 ⟨y, List.mem_of_getElem? hm, hb⟩))
theorem blocks_same {v : Value} {n k : Nat} {e : TypeId} {cs ds : List Rw} (h : blocksL ds = blocksL cs) : (Rw.sl v n k e ds).blocks = (Rw.sl v n k e cs).blocks := by
  rw [Rw.blocks, Rw.blocks, h]
end Go.Proofs.Ytpkicliimhflgaa

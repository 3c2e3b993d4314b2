/- Nodes and their attributes in memory: what it means that a slice value reads as a list of them, that a call owns all of it, and append to such a slice. Helper facts, no claim of its own. Helper contracts: FindAttr of the program and of the model answer alike. Asked: the slice reads as the list named. Helper contracts on trees that only read: IsVoid, the nodes by pointer, what can be open, NewBuilder. Asked: what lies in memory is as named. Helper contracts: CountName and TextOf of the program and of the model. Asked: the builder lies in memory as named. Helper contracts: the model's own division of a text, and its search for a byte. Asked: the string is shorter than 2^40 bytes. Append of attributes to a slice of the call's own. Helper facts, no claim of its own. -/
import Derived.Test.YtpkicliimhflgaaGreatDoorMf4
import Derived.Test.YtpkicliimhflgaaGreatDoorMf5
import Derived.Test.YtpkicliimhflgaaGreatDoorMf2
namespace Go.Proofs.YtpkicliimhflgaaGreatDoor

open Go.ChangeShapes Go.WideShapes Go.ChangeAt Go.RowKit

theorem infoNd : (Tryz.prog.info? 117).map (fun i => (i.zero, i.size, i.bytes)) = some (some (.agg #[.string ⟨#[]⟩, .string ⟨#[]⟩, .int .i64 0, .slice none 0 0]), 4, 64) := by kernel_rfl
abbrev Nv := Nd × Sv
def ndV (p : Nv) : Value := .agg #[.string p.1.name, .string p.1.text, .int .i64 p.1.parent, sv p.2]
def encN (p : Nv) : List Value := [.string p.1.name, .string p.1.text, .int .i64 p.1.parent, sv p.2]
theorem encN_len (p : Nv) : (encN p).length = 4 := rfl
theorem encN_one (p : Nv) : ∀ u ∈ encN p, u.oneCell' = true := by
  intro u hu
  simp only [encN, List.mem_cons, List.mem_nil_iff, or_false] at hu
  rcases hu with rfl | rfl | rfl | rfl <;> rfl
def ndCells : List Nv → List Rw
  | [] => []
  | p :: ts => .leaf (.string p.1.name) :: .leaf (.string p.1.text) :: .leaf (.int .i64 p.1.parent) :: rwA (sv p.2) p.1.attrs :: ndCells ts
/-- A slice of tokens. -/
def rwN (v : Value) (ts : List Nv) : Rw := .sl v ts.length 4 117 (ndCells ts)
theorem rwN_cell (v : Value) (ts : List Nv) : (rwN v ts).cell = v := rfl
def insN (ts : List Nv) : List Nat := ts.flatMap fun p => (sv p.2).ownBlock.toList
theorem ndCells_map : ∀ ts : List Nv, (ndCells ts).map Rw.cell = ts.flatMap encN
  | [] => rfl
  | p :: ts => by
    rw [ndCells, List.map_cons, List.map_cons, List.map_cons, List.map_cons, ndCells_map ts, List.flatMap_cons]; rfl
theorem ndCells_len : ∀ ts : List Nv, (ndCells ts).length = ts.length * 4
  | [] => rfl
  | p :: ts => by rw [ndCells, List.length_cons, List.length_cons, List.length_cons, List.length_cons, ndCells_len ts, List.length_cons]; omega
theorem ndCells_at : ∀ {ts : List Nv} {j : Nat} {p : Nv}, ts[j]? = some p → (ndCells ts)[j * 4]? = some (.leaf (.string p.1.name)) ∧ (ndCells ts)[j * 4 + 1]? = some (.leaf (.string p.1.text)) ∧ (ndCells ts)[j * 4 + 2]? = some (.leaf (.int .i64 p.1.parent)) ∧ (ndCells ts)[j * 4 + 3]? = some (rwA (sv p.2) p.1.attrs)
  | [], j, p, h => by simp at h
  | q :: ts, 0, p, h => by
    have : q = p := by simpa using h
    subst this; exact ⟨rfl, rfl, rfl, rfl⟩
  | q :: ts, j + 1, p, h => by
    have ih := ndCells_at (ts := ts) (j := j) (by simpa using h)
    rw [show (j + 1) * 4 = j * 4 + 1 + 1 + 1 + 1 by omega, ndCells]
    simpa using ih
theorem ndCells_mem : ∀ {ts : List Nv}, ∀ c ∈ ndCells ts, (∃ v, c = .leaf v ∧ v.oneCell' = true) ∨ ∃ p ∈ ts, c = rwA (sv p.2) p.1.attrs
  | [], c, h => by cases h
  | p :: ts, c, h => by
    rw [ndCells] at h
    rcases List.mem_cons.1 h with h | h
    · exact Or.inl ⟨_, h, rfl⟩
    rcases List.mem_cons.1 h with h | h
    · exact Or.inl ⟨_, h, rfl⟩
    rcases List.mem_cons.1 h with h | h
    · exact Or.inl ⟨_, h, rfl⟩
    rcases List.mem_cons.1 h with h | h
    · exact Or.inr ⟨p, List.mem_cons_self, h⟩
    rcases ndCells_mem c h with h | ⟨q, hq, e⟩
    · exact Or.inl h
    · exact Or.inr ⟨q, List.mem_cons_of_mem _ hq, e⟩
theorem ndCells_blocks : ∀ ts : List Nv, blocksL (ndCells ts) = insN ts
  | [] => rfl
  | p :: ts => by
    rw [ndCells, blocksL, blocksL, blocksL, blocksL, ndCells_blocks ts, Rw.blocks, Rw.blocks, Rw.blocks, rwA_blocks, insN, insN, List.flatMap_cons]
    rfl
theorem insN_append (ts us : List Nv) : insN (ts ++ us) = insN ts ++ insN us := by unfold insN; rw [List.flatMap_append]
theorem insN_mem {ts : List Nv} {b : Nat} : b ∈ insN ts ↔ ∃ p ∈ ts, (sv p.2).ownBlock = some b := by
  unfold insN
  rw [List.mem_flatMap]
  constructor
  · rintro ⟨p, hp, hb⟩
    exact ⟨p, hp, by simpa using hb⟩
  · rintro ⟨p, hp, hb⟩
    exact ⟨p, hp, by simpa using hb⟩
theorem rwN_is (v : Value) (ts : List Nv) : IsNodeS (rwN v ts) :=
  ⟨v, ts.length, _, ndCells ts, rfl, fun j hj => by
    obtain ⟨p, h⟩ : ∃ p, ts[j]? = some p := ⟨_, List.getElem?_eq_getElem hj⟩
    obtain ⟨h1, h2, h3, h4⟩ := ndCells_at h
    exact ⟨_, _, _, _, h1, h2, h3, h4, rwA_is _ _⟩⟩
theorem ndCells_data : ∀ {ts us : List Nv}, ts.map Prod.fst = us.map Prod.fst → dataL (ndCells ts) = dataL (ndCells us)
  | [], [], _ => rfl
  | [], u :: us, h => by simp at h
  | t :: ts, [], h => by simp at h
  | t :: ts, u :: us, h => by
    rw [List.map_cons, List.map_cons] at h
    obtain ⟨h1, h2⟩ := List.cons.inj h
    rw [ndCells, ndCells, dataL, dataL, dataL, dataL, dataL, dataL, dataL, dataL, ndCells_data h2, h1, rwA_data]
theorem rwN_data (v u : Value) {ts us : List Nv} (h : ts.map Prod.fst = us.map Prod.fst) : (rwN v ts).data = (rwN u us).data := by
  rw [rwN, rwN, Rw.data, Rw.data, ndCells_data h]
theorem rwN_count {ts us : List Nv} (h : ts.map Prod.fst = us.map Prod.fst) : ts.length = us.length := by
  have := congrArg List.length h
  simpa using this
theorem nd_ne_at : 117 ≠ 178 := by decide

/-- A slice of tokens of the call's own, with all that they hold, in blocks from B on, while of what lay below B nothing was written. -/
structure MineN (B : Nat) (w0 w : World) (v : Value) (ts : List Nv) : Prop where
  row : MineK encN 4 117 B w0 w v ts
  inn : ∀ p ∈ ts, OwnK encA 2 178 B w.heap.size w (sv p.2) p.1.attrs
  nod : (insN ts).Nodup
theorem MineN.own {B : Nat} {w0 w : World} {v : Value} {ts : List Nv} (h : MineN B w0 w v ts) : (rwN v ts).OwnR B w.heap.size w := by
  rw [rwN, Rw.OwnR]
  refine ⟨⟨by rw [ndCells_map]; exact h.row.row, fun g hg => (h.row.row.lt g hg).2⟩, ownRL_iff.2 fun c hc => ?_⟩
  rcases ndCells_mem c hc with ⟨u, rfl, hu⟩ | ⟨p, hp, rfl⟩
  · rw [Rw.OwnR]; exact hu
  · exact rwA_own (h.inn p hp)
theorem MineN.nodup {B : Nat} {w0 w : World} {v : Value} {ts : List Nv} (h : MineN B w0 w v ts) : (rwN v ts).blocks.Nodup := by
  rw [rwN, Rw.blocks, ndCells_blocks]
  cases hv : v.ownBlock with
  | none => exact h.nod
  | some g =>
    refine List.nodup_cons.2 ⟨fun hg => ?_, h.nod⟩
    obtain ⟨p, hp, hb⟩ := insN_mem.1 hg
    exact rows_ne h.row.row (h.inn p hp).1 nd_ne_at hv hb
theorem MineN.later {B : Nat} {w0 w w' : World} {v : Value} {ts : List Nv} (h : MineN B w0 w v ts) (hb : Below w.heap.size w w') : MineN B w0 w' v ts :=
  ⟨h.row.later hb, fun p hp => ((h.inn p hp).later hb).mono (Nat.le_refl _) hb.size, h.nod⟩
theorem MineN.empty (w0 w : World) (B : Nat) (hb : Below B w0 w) (hB : B ≤ w.heap.size) : MineN B w0 (w.alloc (.cells #[] 117)) (.slice (some ⟨w.heap.size, 0, none⟩) 0 0) [] :=
  ⟨MineK.empty _ _ _ _ _ _ hb hB, fun p hp => (by cases hp), List.nodup_nil⟩
theorem MineN.lt {B : Nat} {w0 w : World} {v : Value} {ts : List Nv} (h : MineN B w0 w v ts) : ∀ b ∈ insN ts, B ≤ b ∧ b < w.heap.size := by
  intro b hb
  obtain ⟨p, hp, e⟩ := insN_mem.1 hb
  exact ⟨((h.inn p hp).1.lt b e).1, ((h.inn p hp).1.lt b e).2⟩
/-- One token in a new block: what append takes. -/
theorem readsN_one (w : World) (p : Nv) {k : Int} {nm tx : ByteArray} {u : Value} (h1 : p.1.name = nm) (h2 : p.1.text = tx) (h3 : p.1.parent = k) (h4 : sv p.2 = u) :
    ReadsK encN 4 (w.heap.size + 1) (w.alloc (.cells #[.string nm, .string tx, .int .i64 k, u] 117)) (.slice (some ⟨w.heap.size, 0, none⟩) 1 1) [p] := by
  subst h1; subst h2; subst h3; subst h4
  refine ⟨_, 1, rfl, by simp, by omega, (fun h => by cases h), Or.inr ⟨_, 0, rfl, by omega, fun j y hy i hi' => ?_⟩⟩
  have hj : j = 0 := by have := (List.getElem?_eq_some_iff.1 hy).1; simp at this; omega
  subst hj
  simp only [List.getElem?_cons_zero, Option.some.injEq] at hy
  subst hy
  rcases (show i = 0 ∨ i = 1 ∨ i = 2 ∨ i = 3 by omega) with rfl | rfl | rfl | rfl <;> simp [encN]
/-- append to such a slice, of whatever reads as tokens whose attributes the call owns. -/
theorem wpList_appN {w : World} {ops : Array Oper} {rest : List Oper} {o : Oper} {a : Act} {Q : Exit → Act → World → Prop} (hgd : o.guard = none) (s x : Operand)
    (ho : o.op = .call { callee := .builtin .append, args := #[s, x], argTypes := #[38, 38] })
    (B : Nat) (w0 : World) (v : Value) (ts : List Nv) (hs : a.eval s = v) (hM : MineN B w0 w v ts) (vx : Value) (top : Nat) (us : List Nv) (hx : a.eval x = vx) (hr : ReadsK encN 4 top w vx us)
    (hin : ∀ p ∈ us, OwnK encA 2 178 B w.heap.size w (sv p.2) p.1.attrs) (hnd : (insN ts ++ insN us).Nodup)
    (hlen : ts.length + us.length ≤ 137438953472)
    (h : ∀ v' w', MineN B w0 w' v' (ts ++ us) → wpList Tryz.prog ops Q rest (a.put o.dst v') w') : wpList Tryz.prog ops Q (o :: rest) a w := by
  obtain ⟨i, hi, hz, hsize, hby⟩ := info_parts infoNd
  obtain ⟨ad, cap, rfl, h1, h2, h3, h4⟩ := id hr
  cases ad with
  | none =>
    obtain ⟨rfl, _, rfl⟩ := hr.nil
    refine wpList_append_own_none hgd s x _ ho B _ i 4 Tryz.underlying38 hi v ts.length _ hs hM.row.row hx ?_
    exact h v w (by simpa using hM)
  | some ad =>
    refine wpList_append_own _ hgd s x _ ho B _ i _ 4 64 Tryz.underlying38 hi hz hsize hby (by rfl) (by decide) v ts.length _ hs hM.row.row ad us.length cap (us.flatMap encN) hx (flat_len encN_len us) (hr.news encN_len) ?_ ?_ ?_ hM.row.size ?_
    · intro u hu
      obtain ⟨y, _, hy⟩ := List.mem_flatMap.1 hu
      exact encN_one y u hy
    · unfold maxLen; omega
    · have : (ts.length + us.length) * 64 ≤ (ts.length + us.length) * 1024 := Nat.mul_le_mul_left _ (by omega)
      omega
    · intro v' w' hown hgr hn
      refine h v' w' ⟨hM.row.grow hown hgr, fun p hp => ?_, by rw [insN_append]; exact hnd⟩
      have hall : OwnK encA 2 178 B w.heap.size w (sv p.2) p.1.attrs := by
        rcases List.mem_append.1 hp with h | h
        · exact hM.inn p h
        · exact hin p h
      refine ⟨hall.1.kept hgr ?_, fun g hg => Nat.lt_of_lt_of_le (hall.2 g hg) hgr.size⟩
      cases hv : (sv p.2).ownBlock with
      | none => exact Or.inl rfl
      | some g =>
        right
        intro e
        exact rows_ne hM.row.row hall.1 nd_ne_at e.symm hv
theorem readsN_of {hi : Nat} {w : World} {v : Value} {B : Nat} {w0 : World} {ts : List Nv} (h : MineN B w0 w v ts) (hh : w.heap.size ≤ hi) : ReadsK encN 4 hi w v ts := (h.row.own.reads encN_len).mono hh

theorem MineN.nil (w0 w : World) (B : Nat) (hb : Below B w0 w) (hB : B ≤ w.heap.size) : MineN B w0 w (.slice none 0 0) [] :=
  ⟨MineK.nil _ _ _ _ _ _ hb hB, fun p hp => (by cases hp), List.nodup_nil⟩
/-- It reads so, with all that the nodes hold. -/
def ReadN (hi : Nat) (w : World) (v : Value) (ns : List Nv) : Prop := ReadsK encN 4 hi w v ns ∧ ∀ p ∈ ns, ReadsK encA 2 hi w (sv p.2) p.1.attrs
theorem MineN.reads {B hi : Nat} {w0 w : World} {v : Value} {ns : List Nv} (h : MineN B w0 w v ns) (hh : w.heap.size ≤ hi) : ReadN hi w v ns :=
  ⟨(h.row.own.reads encN_len).mono hh, fun p hp => ((h.inn p hp).reads encA_len).mono hh⟩
theorem ReadN.below {hi B : Nat} {w w' : World} {v : Value} {ns : List Nv} (h : ReadN hi w v ns) (hb : Below B w w') (hB : hi ≤ B) : ReadN hi w' v ns :=
  ⟨h.1.below hb hB, fun p hp => (h.2 p hp).below hb hB⟩
theorem ReadN.mono {hi hi' : Nat} {w : World} {v : Value} {ns : List Nv} (h : ReadN hi w v ns) (hh : hi ≤ hi') : ReadN hi' w v ns :=
  ⟨h.1.mono hh, fun p hp => (h.2 p hp).mono hh⟩
theorem rwN_reads {hi : Nat} {w : World} {v : Value} {ns : List Nv} (h : ReadN hi w v ns) : (rwN v ns).ReadR hi w := by
  rw [rwN, Rw.ReadR]
  have h0 := h.1
  obtain ⟨⟨a, cap, rfl, h1, h2, h3, h4⟩, hin⟩ := h
  refine ⟨⟨a, cap, rfl, ndCells_len ns, h1, h2, h3, ?_⟩, readRL_iff.2 fun c hc => ?_⟩
  · rcases h4 with h4 | ⟨g, off, rfl, hg, hc⟩
    · exact Or.inl h4
    · refine Or.inr ⟨g, off, rfl, hg, fun j c hj => ?_⟩
      rw [ndCells_map] at hj
      have := h0.news encN_len j c hj
      rwa [add_off] at this
  · rcases ndCells_mem c hc with ⟨u, rfl, hu⟩ | ⟨p, hp, rfl⟩
    · rw [Rw.ReadR]; exact hu
    · exact rwA_reads (hin p hp)
theorem ndCells_of {hi : Nat} {w : World} : ∀ {ns : List Nv} {cs : List Rw}, dataL cs = dataL (ndCells ns) → ReadRL hi w cs →
    ∃ ns' : List Nv, ns'.map Prod.fst = ns.map Prod.fst ∧ cs.map Rw.cell = ns'.flatMap encN ∧ ∀ p ∈ ns', ReadsK encA 2 hi w (sv p.2) p.1.attrs
  | [], cs, h, _ => by
    cases cs with
    | nil => exact ⟨[], rfl, rfl, fun p hp => by cases hp⟩
    | cons c cs => rw [ndCells, dataL, dataL] at h; cases h
  | q :: ns, cs, h, hr => by
    rw [ndCells] at h
    rcases cs with _ | ⟨c0, _ | ⟨c1, _ | ⟨c2, _ | ⟨c3, cs⟩⟩⟩⟩
    · simp [dataL] at h
    · simp [dataL] at h
    · simp [dataL] at h
    · simp [dataL] at h
    · simp only [dataL, List.cons.injEq] at h
      obtain ⟨h0, h1, h2, h3, h4⟩ := h
      have e0 := leaf_of_data h0
      have e1 := leaf_of_data h1
      have e2 := leaf_of_data h2
      subst e0; subst e1; subst e2
      have hr' := readRL_iff.1 hr
      obtain ⟨ns', k1, k2, k3⟩ := ndCells_of (ns := ns) (cs := cs) h4 (readRL_iff.2 fun c hc => hr' c (by simp [hc]))
      have ha := attrs_of_data h3 (hr' c3 (by simp))
      obtain ⟨s, hs⟩ : ∃ s : Sv, c3.cell = sv s := by
        obtain ⟨a, cap, e, _⟩ := ha
        exact ⟨(a, _, cap), e⟩
      rw [hs] at ha
      refine ⟨(q.1, s) :: ns', by rw [List.map_cons, List.map_cons, k1], ?_, fun p hp => ?_⟩
      · rw [List.map_cons, List.map_cons, List.map_cons, List.map_cons, k2, List.flatMap_cons, hs]; rfl
      · rcases List.mem_cons.1 hp with h | h
        · rw [h]; exact ha
        · exact k3 p h
theorem nodes_of_data {x : Rw} {u : Value} {ns : List Nv} {hi : Nat} {w : World} (h : x.data = (rwN u ns).data) (hr : x.ReadR hi w) : ∃ ns', ns'.map Prod.fst = ns.map Prod.fst ∧ ReadN hi w x.cell ns' := by
  cases x with
  | leaf v => rw [rwN, Rw.data, Rw.data] at h; cases h
  | sl v n k e cs =>
    rw [rwN, Rw.data, Rw.data] at h
    obtain ⟨rfl, hd⟩ := Dt.sl.inj h
    have hl : cs.length = ns.length * 4 := by have := congrArg List.length hd; rwa [dataL_len, dataL_len, ndCells_len] at this
    rw [Rw.ReadR] at hr
    obtain ⟨⟨a, cap, rfl, h1, h2, h3, h4, h5⟩, hrl⟩ := hr
    obtain ⟨ns', k1, k2, k3⟩ := ndCells_of hd hrl
    have hnl : ns'.length = ns.length := by have := congrArg List.length k1; simpa using this
    have hn : n = ns'.length := by omega
    subst hn
    refine ⟨ns', k1, ⟨a, cap, rfl, h2, h3, h4, ?_⟩, k3⟩
    rcases h5 with h5 | ⟨g, off, rfl, hg, hc⟩
    · exact Or.inl h5
    · refine Or.inr ⟨g, off, rfl, hg, fun j y hj i hi' => ?_⟩
      have hjl := (List.getElem?_eq_some_iff.1 hj).1
      have hb := Nat.mul_le_mul_right 4 (show j + 1 ≤ ns'.length by omega)
      obtain ⟨c, hcs⟩ : ∃ c, (cs.map Rw.cell)[j * 4 + i]? = some c := ⟨_, List.getElem?_eq_getElem (by rw [List.length_map]; omega)⟩
      rw [Nat.add_assoc, hc (j * 4 + i) c hcs, ← hcs, k2, flat_at encN_len hj hi']
/-- The same for tokens. -/
def ReadT (hi : Nat) (w : World) (v : Value) (ts : List Tv) : Prop := ReadsK encT 4 hi w v ts ∧ ∀ p ∈ ts, ReadsK encA 2 hi w (sv p.2) p.1.attrs
theorem ReadT.below {hi B : Nat} {w w' : World} {v : Value} {ns : List Tv} (h : ReadT hi w v ns) (hb : Below B w w') (hB : hi ≤ B) : ReadT hi w' v ns :=
  ⟨h.1.below hb hB, fun p hp => (h.2 p hp).below hb hB⟩
theorem ReadT.mono {hi hi' : Nat} {w : World} {v : Value} {ns : List Tv} (h : ReadT hi w v ns) (hh : hi ≤ hi') : ReadT hi' w v ns :=
  ⟨h.1.mono hh, fun p hp => (h.2 p hp).mono hh⟩
theorem MineT.reads {B hi : Nat} {w0 w : World} {v : Value} {ns : List Tv} (h : MineT B w0 w v ns) (hh : w.heap.size ≤ hi) : ReadT hi w v ns :=
  ⟨(h.row.own.reads encT_len).mono hh, fun p hp => ((h.inn p hp).reads encA_len).mono hh⟩
theorem rwT_reads {hi : Nat} {w : World} {v : Value} {ns : List Tv} (h : ReadT hi w v ns) : (rwT v ns).ReadR hi w := by
  rw [rwT, Rw.ReadR]
  have h0 := h.1
  obtain ⟨⟨a, cap, rfl, h1, h2, h3, h4⟩, hin⟩ := h
  refine ⟨⟨a, cap, rfl, tkCells_len ns, h1, h2, h3, ?_⟩, readRL_iff.2 fun c hc => ?_⟩
  · rcases h4 with h4 | ⟨g, off, rfl, hg, hc⟩
    · exact Or.inl h4
    · refine Or.inr ⟨g, off, rfl, hg, fun j c hj => ?_⟩
      rw [tkCells_map] at hj
      have := h0.news encT_len j c hj
      rwa [add_off] at this
  · rcases tkCells_mem c hc with ⟨u, rfl, hu⟩ | ⟨p, hp, rfl⟩
    · rw [Rw.ReadR]; exact hu
    · exact rwA_reads (hin p hp)
theorem tkCells_of {hi : Nat} {w : World} : ∀ {ns : List Tv} {cs : List Rw}, dataL cs = dataL (tkCells ns) → ReadRL hi w cs →
    ∃ ns' : List Tv, ns'.map Prod.fst = ns.map Prod.fst ∧ cs.map Rw.cell = ns'.flatMap encT ∧ ∀ p ∈ ns', ReadsK encA 2 hi w (sv p.2) p.1.attrs
  | [], cs, h, _ => by
    cases cs with
    | nil => exact ⟨[], rfl, rfl, fun p hp => by cases hp⟩
    | cons c cs => rw [tkCells, dataL, dataL] at h; cases h
  | q :: ns, cs, h, hr => by
    rw [tkCells] at h
    rcases cs with _ | ⟨c0, _ | ⟨c1, _ | ⟨c2, _ | ⟨c3, cs⟩⟩⟩⟩
    · simp [dataL] at h
    · simp [dataL] at h
    · simp [dataL] at h
    · simp [dataL] at h
    · simp only [dataL, List.cons.injEq] at h
      obtain ⟨h0, h1, h2, h3, h4⟩ := h
      have e0 := leaf_of_data h0
      have e1 := leaf_of_data h1
      have e3 := leaf_of_data h3
      subst e0; subst e1; subst e3
      have hr' := readRL_iff.1 hr
      obtain ⟨ns', k1, k2, k3⟩ := tkCells_of (ns := ns) (cs := cs) h4 (readRL_iff.2 fun c hc => hr' c (by simp [hc]))
      have ha := attrs_of_data h2 (hr' c2 (by simp))
      obtain ⟨s, hs⟩ : ∃ s : Sv, c2.cell = sv s := by
        obtain ⟨a, cap, e, _⟩ := ha
        exact ⟨(a, _, cap), e⟩
      rw [hs] at ha
      refine ⟨(q.1, s) :: ns', by rw [List.map_cons, List.map_cons, k1], ?_, fun p hp => ?_⟩
      · rw [List.map_cons, List.map_cons, List.map_cons, List.map_cons, k2, List.flatMap_cons, hs]; rfl
      · rcases List.mem_cons.1 hp with h | h
        · rw [h]; exact ha
        · exact k3 p h
theorem toks_of_data {x : Rw} {u : Value} {ns : List Tv} {hi : Nat} {w : World} (h : x.data = (rwT u ns).data) (hr : x.ReadR hi w) : ∃ ns', ns'.map Prod.fst = ns.map Prod.fst ∧ ReadT hi w x.cell ns' := by
  cases x with
  | leaf v => rw [rwT, Rw.data, Rw.data] at h; cases h
  | sl v n k e cs =>
    rw [rwT, Rw.data, Rw.data] at h
    obtain ⟨rfl, hd⟩ := Dt.sl.inj h
    have hl : cs.length = ns.length * 4 := by have := congrArg List.length hd; rwa [dataL_len, dataL_len, tkCells_len] at this
    rw [Rw.ReadR] at hr
    obtain ⟨⟨a, cap, rfl, h1, h2, h3, h4, h5⟩, hrl⟩ := hr
    obtain ⟨ns', k1, k2, k3⟩ := tkCells_of hd hrl
    have hnl : ns'.length = ns.length := by have := congrArg List.length k1; simpa using this
    have hn : n = ns'.length := by omega
    subst hn
    refine ⟨ns', k1, ⟨a, cap, rfl, h2, h3, h4, ?_⟩, k3⟩
    rcases h5 with h5 | ⟨g, off, rfl, hg, hc⟩
    · exact Or.inl h5
    · refine Or.inr ⟨g, off, rfl, hg, fun j y hj i hi' => ?_⟩
      have hjl := (List.getElem?_eq_some_iff.1 hj).1
      have hb := Nat.mul_le_mul_right 4 (show j + 1 ≤ ns'.length by omega)
      obtain ⟨c, hcs⟩ : ∃ c, (cs.map Rw.cell)[j * 4 + i]? = some c := ⟨_, List.getElem?_eq_getElem (by rw [List.length_map]; omega)⟩
      rw [Nat.add_assoc, hc (j * 4 + i) c hcs, ← hcs, k2, flat_at encT_len hj hi']
theorem nd_ne_bd : 117 ≠ 41 ∧ 178 ≠ 41 ∧ 3 ≠ 41 ∧ 117 ≠ 3 ∧ 178 ≠ 3 := by decide
/-- What is owned lies in no block of another type. -/
theorem ownK_setT {α : Type} {enc : α → List Value} {k : Nat} {e T : TypeId} {lo hi b o : Nat} {w : World} {v u : Value} {xs : List α} {cs : Array Value} (h : OwnK enc k e lo hi w v xs) (hb : w.heap[b]? = some (.cells cs T (0, 0))) (hne : e ≠ T) : OwnK enc k e lo hi (w.setCell ⟨b, o, none⟩ u) v xs := by
  refine ⟨⟨h.1.1, ?_⟩, h.2⟩
  rcases h.1.2 with h1 | ⟨g, cap, cur, h1, h2, h3, h4⟩
  · exact Or.inl h1
  · refine Or.inr ⟨g, cap, cur, h1, h2, ?_, h4⟩
    rw [Below.heap_setCell _ _ _ _ (show g ≠ b from fun e' => ?_)]
    · exact h3
    · subst e'
      rw [h3] at hb
      injection hb with h5
      injection h5 with _ h6 _
      exact hne h6
theorem row_ne_box {w : World} {B k n b : Nat} {e T : TypeId} {v : Value} {xs : List Value} {cs : Array Value} (h : w.ownsRow B e k v n xs) (hb : w.heap[b]? = some (.cells cs T (0, 0))) (hne : e ≠ T) : some b ≠ v.ownBlock := by
  rcases h.2 with ⟨rfl, _⟩ | ⟨g, cap, cur, rfl, _, h2, _⟩
  · intro h; cases h
  · intro h
    have e : b = g := Option.some.inj h
    subst e
    rw [h2] at hb
    injection hb with h5
    injection h5 with _ h6 _
    exact hne h6
theorem own_setT {k : IntKind} {e T : TypeId} {lo hi b o : Nat} {w : World} {v u : Value} {zs : List Int} {cs : Array Value} (h : Own k e lo hi w v zs) (hb : w.heap[b]? = some (.cells cs T (0, 0))) (hne : e ≠ T) : Own k e lo hi (w.setCell ⟨b, o, none⟩ u) v zs := by
  refine ⟨⟨h.1.1, ?_⟩, h.2⟩
  rcases h.1.2 with h1 | ⟨g, cap, cur, h1, h2, h3, h4⟩
  · exact Or.inl h1
  · refine Or.inr ⟨g, cap, cur, h1, h2, ?_, h4⟩
    rw [Below.heap_setCell _ _ _ _ (show g ≠ b from fun e' => ?_)]
    · exact h3
    · subst e'
      rw [h3] at hb
      injection hb with h5
      injection h5 with _ h6 _
      exact hne h6
theorem MineN.setT {B b o : Nat} {w0 w : World} {v u : Value} {ts : List Nv} {cs : Array Value} (h : MineN B w0 w v ts) (hb : w.heap[b]? = some (.cells cs 41 (0, 0))) (hB : B ≤ b) : MineN B w0 (w.setCell ⟨b, o, none⟩ u) v ts :=
  ⟨⟨(ownK_setT h.row.own hb nd_ne_bd.1).1, h.row.below.setCell hB _, Nat.le_trans h.row.size (size_set _ _ _)⟩, fun p hp => (ownK_setT (h.inn p hp) hb nd_ne_bd.2.1).mono (Nat.le_refl _) (size_set _ _ _), h.nod⟩
theorem mine_setT {B b o : Nat} {w0 w : World} {v u : Value} {zs : List Int} {cs : Array Value} (h : Mine .i64 3 B w0 w v zs) (hb : w.heap[b]? = some (.cells cs 41 (0, 0))) (hB : B ≤ b) : Mine .i64 3 B w0 (w.setCell ⟨b, o, none⟩ u) v zs :=
  ⟨(own_setT h.own hb nd_ne_bd.2.2.1).1, h.below.setCell hB _, Nat.le_trans h.size (size_set _ _ _)⟩
/-- The first elements of an own row. -/
theorem row_take {w : World} {B k n m g cap : Nat} {e : TypeId} {xs : List Value} (h : w.ownsRow B e k (.slice (some ⟨g, 0, none⟩) n cap) n xs) (hm : m ≤ n) : w.ownsRow B e k (.slice (some ⟨g, 0, none⟩) m cap) m (xs.take (m * k)) := by
  refine ⟨by rw [List.length_take, h.1, Nat.min_eq_left (Nat.mul_le_mul_right k hm)], ?_⟩
  rcases h.2 with ⟨h1, _⟩ | ⟨g', cap', cur, h1, h2, h3, h4, h5, h6, h7⟩
  · cases h1
  · cases h1
    refine Or.inr ⟨g, cap, cur, rfl, h2, h3, by omega, h5, h6, ?_⟩
    rw [← h7, List.take_take, Nat.min_eq_left (Nat.mul_le_mul_right k hm)]
theorem Mine.take {k : IntKind} {e : TypeId} {B n cap g m : Nat} {w0 w : World} {zs : List Int} (h : Mine k e B w0 w (.slice (some ⟨g, 0, none⟩) n cap) zs) (hn : n = zs.length) (hm : m ≤ n) : Mine k e B w0 w (.slice (some ⟨g, 0, none⟩) m cap) (zs.take m) := by
  have h1 := row_take (hn ▸ h.row) (hn ▸ hm)
  have e2 : (zs.take m).length = m := by rw [List.length_take]; omega
  exact ⟨by rw [e2, List.map_take]; simpa using h1, h.below, h.size⟩

/-- A builder in memory: the call's own; read alone. -/
def BdAt (B : Nat) (w0 w : World) (nv ov : Value) (b : Bd) : Prop := ∃ ns : List Nv, ns.map Prod.fst = b.nodes ∧ MineN B w0 w nv ns ∧ Mine .i64 3 B w0 w ov b.opn
def BdIn (hi : Nat) (w : World) (nv ov : Value) (b : Bd) : Prop := ∃ ns : List Nv, ns.map Prod.fst = b.nodes ∧ ReadN hi w nv ns ∧ Reads .i64 hi w ov b.opn
theorem BdIn.below {hi B : Nat} {w w' : World} {nv ov : Value} {b : Bd} (h : BdIn hi w nv ov b) (hb : Below B w w') (hB : hi ≤ B) : BdIn hi w' nv ov b := by
  obtain ⟨ns, h1, h2, h3⟩ := h
  exact ⟨ns, h1, h2.below hb hB, h3.below hb hB⟩
theorem BdIn.mono {hi hi' : Nat} {w : World} {nv ov : Value} {b : Bd} (h : BdIn hi w nv ov b) (hh : hi ≤ hi') : BdIn hi' w nv ov b := by
  obtain ⟨ns, h1, h2, h3⟩ := h
  exact ⟨ns, h1, h2.mono hh, h3.mono hh⟩
theorem BdIn.up {w w' : World} {nv ov : Value} {b : Bd} (h : BdIn w.heap.size w nv ov b) (hb : Below w.heap.size w w') : BdIn w'.heap.size w' nv ov b := (h.below hb (Nat.le_refl _)).mono hb.size
theorem BdAt.reads {B hi : Nat} {w0 w : World} {nv ov : Value} {b : Bd} (h : BdAt B w0 w nv ov b) (hh : w.heap.size ≤ hi) : BdIn hi w nv ov b := by
  obtain ⟨ns, h1, h2, h3⟩ := h
  exact ⟨ns, h1, h2.reads hh, h3.own.reads.mono hh⟩
theorem BdAt.later {B : Nat} {w0 w w' : World} {nv ov : Value} {b : Bd} (h : BdAt B w0 w nv ov b) (hb : Below w.heap.size w w') : BdAt B w0 w' nv ov b := by
  obtain ⟨ns, h1, h2, h3⟩ := h
  exact ⟨ns, h1, h2.later hb, h3.later hb⟩
theorem BdAt.lower {B B' : Nat} {w0 w0' w : World} {nv ov : Value} {b : Bd} (h : BdAt B w0 w nv ov b) (hb : Below B' w0' w0) (hB : B' ≤ B) : BdAt B' w0' w nv ov b := by
  obtain ⟨ns, h1, h2, h3⟩ := h
  refine ⟨ns, h1, ⟨⟨(h2.row.own.mono hB (Nat.le_refl _)).1, hb.trans (h2.row.below.mono hB), Nat.le_trans hB h2.row.size⟩, fun p hp => (h2.inn p hp).mono hB (Nat.le_refl _), h2.nod⟩, ⟨(h3.own.mono hB (Nat.le_refl _)).1, hb.trans (h3.below.mono hB), Nat.le_trans hB h3.size⟩⟩
theorem BdAt.below {B : Nat} {w0 w : World} {nv ov : Value} {b : Bd} (h : BdAt B w0 w nv ov b) : Below B w0 w := by
  obtain ⟨ns, h1, h2, h3⟩ := h
  exact h2.row.below
theorem BdAt.size {B : Nat} {w0 w : World} {nv ov : Value} {b : Bd} (h : BdAt B w0 w nv ov b) : B ≤ w.heap.size := by
  obtain ⟨ns, h1, h2, h3⟩ := h
  exact h2.row.size
theorem bdIn_of {lo hi : Nat} {w : World} {y0 y1 : Rw} {u v : Value} {ns : List Nv} {zs : List Int} (h0 : y0.data = (rwN u ns).data) (i1 : IsIntS y1) (h1 : y1.data = (rwI v zs).data) (h : OwnRL lo hi w [y0, y1]) : BdIn w.heap.size w y0.cell y1.cell ⟨ns.map Prod.fst, zs⟩ := by
  obtain ⟨k0, k1⟩ := ownL_two.1 h
  obtain ⟨ns', e1, e2⟩ := nodes_of_data h0 (Rw.OwnR.reads _ k0.top)
  obtain ⟨v', zs', rfl⟩ := i1
  obtain rfl := rwI_data.1 h1
  exact ⟨ns', e1, e2, rwI_reads.1 (Rw.OwnR.reads _ k1.top)⟩
theorem ownBd {lo hi : Nat} {w : World} {y0 y1 : Rw} {u v nv ov : Value} {ns : List Nv} {zs : List Int} (h0 : y0.data = (rwN u ns).data) (i1 : IsIntS y1) (h1 : y1.data = (rwI v zs).data) (e0 : y0.cell = nv) (e1 : y1.cell = ov) (h : OwnRL lo hi w [y0, y1]) : BdIn w.heap.size w nv ov ⟨ns.map Prod.fst, zs⟩ := by
  subst e0; subst e1; exact bdIn_of h0 i1 h1 h
theorem bdAt_own {B : Nat} {w0 w : World} {nv ov : Value} {ns : List Nv} {zs : List Int} (h : MineN B w0 w nv ns) (k : Mine .i64 3 B w0 w ov zs) : OwnRL B w.heap.size w [rwN nv ns, rwI ov zs] ∧ (blocksL [rwN nv ns, rwI ov zs]).Nodup := by
  refine ⟨ownL_two.2 ⟨h.own, rwI_own.2 k.own⟩, ?_⟩
  rw [blocksL, blocksL, blocksL, List.append_nil]
  refine List.nodup_append.2 ⟨h.nodup, by rw [rwI_blocks]; cases ov.ownBlock <;> simp, fun a ha b hb e => ?_⟩
  subst e
  rw [rwI_blocks] at hb
  have hb' : ov.ownBlock = some a := by simpa using hb
  rw [rwN, Rw.blocks, ndCells_blocks] at ha
  rcases List.mem_append.1 ha with ha | ha
  · have ha' : nv.ownBlock = some a := by simpa using ha
    exact rows_ne h.row.row k.row nd_ne_bd.2.2.2.1 ha' hb'
  · obtain ⟨p, hp, hpb⟩ := insN_mem.1 ha
    exact rows_ne (h.inn p hp).1 k.row nd_ne_bd.2.2.2.2 hpb hb'
/-- How many plain values the nodes hold. -/
def ndW : List Nd → Nat
  | [] => 0
  | x :: ns => 3 + 2 * x.attrs.length + ndW ns
theorem atCells_count' : ∀ ats : List At, countL (atCells ats) = 2 * ats.length
  | [] => rfl
  | a :: ats => by rw [atCells, countL, countL, Rw.count, Rw.count, atCells_count' ats, List.length_cons]; omega
theorem ndCells_count : ∀ ns : List Nv, countL (ndCells ns) = ndW (ns.map Prod.fst)
  | [] => rfl
  | p :: ns => by
    rw [ndCells, countL, countL, countL, countL, Rw.count, Rw.count, Rw.count, rwA, Rw.count, atCells_count', ndCells_count ns, List.map_cons, ndW]; omega
theorem rwN_cnt (v : Value) (ns : List Nv) : (rwN v ns).count = ndW (ns.map Prod.fst) := by rw [rwN, Rw.count, ndCells_count]
theorem ndCells_weight : ∀ ns : List Nv, ndW (ns.map Prod.fst) ≤ 3 * ns.length + 2 * weightL (ndCells ns)
  | [] => Nat.le_refl _
  | p :: ns => by
    have := ndCells_weight ns
    rw [ndCells, weightL, weightL, weightL, weightL, rwA, Rw.weight, Rw.weight, Rw.weight, Rw.weight, List.map_cons, ndW, List.length_cons]; omega
theorem rwN_weight (v : Value) (ns : List Nv) : ndW (ns.map Prod.fst) ≤ 3 * (rwN v ns).weight ∧ ns.length ≤ (rwN v ns).weight := by
  have := ndCells_weight ns
  rw [rwN, Rw.weight]; omega
theorem ndW_append : ∀ (a b : List Nd), ndW (a ++ b) = ndW a + ndW b
  | [], b => by rw [ndW, List.nil_append, Nat.zero_add]
  | x :: a, b => by rw [List.cons_append, ndW, ndW, ndW_append a b]; omega
theorem addTok_W (b : Bd) (t : Tok) : ndW (addTok b t).1.nodes ≤ ndW b.nodes + 3 + 2 * t.attrs.length ∧ (addTok b t).1.nodes.length ≤ max 40 b.nodes.length ∧ (addTok b t).1.opn.length ≤ max 8 b.opn.length := by
  unfold addTok openB textB roomB closeB
  split
  · split
    · exact ⟨by dsimp only; omega, by dsimp only; omega, by dsimp only; omega⟩
    · split
      · exact ⟨by dsimp only; omega, by dsimp only; omega, by dsimp only; omega⟩
      · rename_i h1 h2
        simp only [Bool.and_eq_false_iff, decide_eq_false_iff_not, not_or, Decidable.not_not] at h2
        refine ⟨by simp only [ndW_append, ndW]; omega, by simp only [List.length_append, List.length_cons, List.length_nil]; omega, ?_⟩
        show (if isVoid t.name = false then b.opn ++ [(b.nodes.length : Int)] else b.opn).length ≤ _
        split
        · rename_i h3
          have : ¬ 8 ≤ b.opn.length := fun h => h1 ⟨h3, h⟩
          simp only [List.length_append, List.length_cons, List.length_nil]; omega
        · omega
  · split
    · exact ⟨by dsimp only; omega, by dsimp only; omega, by simp only [List.length_take]; omega⟩
    · split
      · split
        · exact ⟨by dsimp only; omega, by dsimp only; omega, by dsimp only; omega⟩
        · rename_i h2
          simp only [Bool.and_eq_false_iff, decide_eq_false_iff_not, not_or, Decidable.not_not] at h2
          refine ⟨by simp only [ndW_append, ndW, List.length_nil]; omega, by simp only [List.length_append, List.length_cons, List.length_nil]; omega, by dsimp only; omega⟩
      · exact ⟨by dsimp only; omega, by dsimp only; omega, by dsimp only; omega⟩
theorem BdAt.setT {B c o : Nat} {w0 w : World} {nv ov u : Value} {b : Bd} {cs : Array Value} (h : BdAt B w0 w nv ov b) (hb : w.heap[c]? = some (.cells cs 41 (0, 0))) (hB : B ≤ c) : BdAt B w0 (w.setCell ⟨c, o, none⟩ u) nv ov b := by
  obtain ⟨ns, h1, h2, h3⟩ := h
  exact ⟨ns, h1, h2.setT hb hB, mine_setT h3 hb hB⟩

end Go.Proofs.YtpkicliimhflgaaGreatDoor
namespace Go.Proofs.YtpkicliimhflgaaGreatDoor
open Go.ChangeShapes Go.WideShapes Go.ChangeAt Go.RowKit

def findV (ats : List At) (n : ByteArray) : Value := match findA ats n with
  | none => .tuple #[.string ⟨#[]⟩, .bool false]
  | some v => .tuple #[.string v, .bool true]
theorem findV_none {ats : List At} {n : ByteArray} (h : findA ats n = none) : findV ats n = .tuple #[.string ⟨#[]⟩, .bool false] := by unfold findV; rw [h]
theorem findV_some {ats : List At} {n v : ByteArray} (h : findA ats n = some v) : findV ats n = .tuple #[.string v, .bool true] := by unfold findV; rw [h]
/-- The first k attributes have other names. -/
def fndTo (ats : List At) (n : ByteArray) (k : Nat) : Prop := findA ats n = findA (ats.drop k) n
theorem fndTo.zero (ats : List At) (n : ByteArray) : fndTo ats n 0 := by unfold fndTo; rw [List.drop_zero]
theorem drop_at {ats : List At} {k : Nat} {a : At} (h : ats[k]? = some a) : ats.drop k = a :: ats.drop (k + 1) := by
  have hk := (List.getElem?_eq_some_iff.1 h).1
  rw [List.drop_eq_getElem_cons hk, show ats[k] = a from Option.some.inj ((List.getElem?_eq_getElem hk).symm.trans h)]
theorem fndTo.hit {ats : List At} {n : ByteArray} {k : Nat} {a : At} (h : fndTo ats n k) (ha : ats[k]? = some a) (e : a.1 = n) : findV ats n = .tuple #[.string a.2, .bool true] := by
  unfold fndTo at h
  rw [drop_at ha, findA, if_pos e] at h
  exact findV_some h
theorem fndTo.succ {ats : List At} {n : ByteArray} {k : Nat} {a : At} (h : fndTo ats n k) (ha : ats[k]? = some a) (e : a.1 ≠ n) : fndTo ats n (k + 1) := by
  unfold fndTo at h ⊢
  rw [drop_at ha, findA, if_neg e] at h
  exact h
theorem fndTo.miss {ats : List At} {n : ByteArray} {k : Nat} (h : fndTo ats n k) (hk : ats.length ≤ k) : findV ats n = .tuple #[.string ⟨#[]⟩, .bool false] := by
  unfold fndTo at h
  rw [List.drop_of_length_le hk, findA] at h
  exact findV_none h

set_option maxHeartbeats 2000000 in
theorem find_spec (v : Value) (hi : Nat) (xs : List At) (name : ByteArray) (w : World) (hr : ReadsK encA 2 hi w v xs) (hh : hi ≤ w.heap.size) :
    Calls Tryz.prog 188 #[v, .string name] w fun e w' => e = .returned (findV xs name) ∧ Grw w w' := by
  obtain ⟨a, cap, rfl, hc1, hc2, _, hcells⟩ := hr
  have HC := Lib.hid hcells; clear hcells
  obtain ⟨n, hn⟩ : ∃ n, xs.length = n := ⟨_, rfl⟩
  rw [hn] at hc1 HC ⊢
  have HN := Lib.hid hn; clear hn
  go_enter Tryz.func188, Tryz.ntmps188
  go_wp2
  go_loopw [6] (fun i wr => ∃ (k : Nat), k ≤ n ∧ i = .int .i64 k ∧ fndTo xs name k ∧ Grw w wr)
    (fun i _ => n - (intOf i).toNat)
  case atStart => exact ⟨0, Nat.zero_le _, rfl, fndTo.zero _ _, Grw.refl _⟩
  case round =>
    obtain ⟨k, hk, rfl, hnot, hg⟩ := hrel
    have HNI := Lib.hid hnot; have HG := Lib.hid hg
    clear hnot hg
    by_cases hlt : (k : Int) < (n : Int)
    · rcases HC.out with h0 | ⟨g, off, rfl, hg, hcells⟩
      · omega
      · obtain ⟨x, y, hx⟩ := at_at (xs := xs) (j := k) (by have := HN.out; omega)
        have c0 : wr.cell? ⟨g, off + k * 2, none⟩ = some (.string x) := by rw [HG.out.below.cell (show g < _ by omega)]; exact hcells k _ hx 0 (by omega)
        have c1 : wr.cell? ⟨g, off + k * 2 + 1, none⟩ = some (.string y) := by rw [HG.out.below.cell (show g < _ by omega)]; exact hcells k _ hx 1 (by omega)
        have HX := Lib.hid hx
        clear hcells hx
        by_cases e1 : x = name
        · have e3 : (x.toList == name.toList) = true := beqL_yes e1
          have HR := Lib.hid (HNI.out.hit HX.out e1)
          clear e1
          go_wp2
          go_ret2
          exact ⟨by rw [HR.out]; rfl, HG.out⟩
        · have e3 : (x.toList == name.toList) = false := beqL_no e1
          have HR := Lib.hid (HNI.out.succ HX.out e1)
          clear e1
          go_wp2
          go_roundw
          case rel => exact ⟨k + 1, by omega, by go_num, HR.out, HG.out⟩
          case measure => simp [intOf]; omega
    · have hkn : decide ((k : Int) < (n : Int)) = false := decide_eq_false hlt
      have HR := Lib.hid (HNI.out.miss (show xs.length ≤ k by have := HN.out; omega))
      go_wp2
      go_ret2
      exact ⟨by rw [HR.out]; rfl, HG.out⟩

end Go.Proofs.YtpkicliimhflgaaGreatDoor
namespace Go.Proofs.YtpkicliimhflgaaGreatDoor
open Go.ChangeShapes Go.WideShapes Go.ChangeAt Go.RowKit

theorem emp_size {s : ByteArray} : (s.toList == ([] : List UInt8)) = decide (s.size = 0) := by
  rw [ByteArray.toList_eq]
  have h := size_list s
  by_cases e : s.size = 0
  · rw [decide_eq_true e, List.eq_nil_of_length_eq_zero (h.trans e)]; rfl
  · rw [decide_eq_false e]
    refine beq_eq_false_iff_ne.2 fun k => e ?_
    rw [k] at h; simpa using h.symm
theorem nd_at {ns : List Nv} {k : Nat} (h : k < ns.length) : ∃ p, ns[k]? = some p := ⟨_, List.getElem?_eq_getElem h⟩
/-- The cells of node k. -/
theorem ReadN.at {hi n cap k : Nat} {w : World} {a : Option Addr} {ns : List Nv} {p : Nv} (h : ReadN hi w (.slice a n cap) ns) (hk : ns[k]? = some p) :
    ∃ g off, a = some ⟨g, off, none⟩ ∧ g < hi ∧ w.cell? ⟨g, off + k * 4, none⟩ = some (.string p.1.name) ∧ w.cell? ⟨g, off + k * 4 + 1, none⟩ = some (.string p.1.text) ∧ w.cell? ⟨g, off + k * 4 + 2, none⟩ = some (.int .i64 p.1.parent) ∧ w.cell? ⟨g, off + k * 4 + 3, none⟩ = some (sv p.2) := by
  obtain ⟨⟨a', cap', e, h1, h2, h3, h4⟩, _⟩ := h
  cases e
  have hlt := (List.getElem?_eq_some_iff.1 hk).1
  rcases h4 with h4 | ⟨g, off, rfl, hg, hc⟩
  · omega
  · exact ⟨g, off, rfl, hg, hc k p hk 0 (by omega), hc k p hk 1 (by omega), hc k p hk 2 (by omega), hc k p hk 3 (by omega)⟩
theorem ReadN.form {hi : Nat} {w : World} {v : Value} {ns : List Nv} (h : ReadN hi w v ns) : ∃ a cap, v = .slice a ns.length cap ∧ ns.length ≤ cap ∧ cap ≤ 9223372036854775807 := by
  obtain ⟨⟨a, cap, e, h1, h2, _⟩, _⟩ := h
  exact ⟨a, cap, e, h1, h2⟩
theorem reads_form {hi : Nat} {w : World} {v : Value} {zs : List Int} (h : Reads .i64 hi w v zs) : ∃ a cap, v = .slice a zs.length cap ∧ zs.length ≤ cap ∧ cap ≤ 9223372036854775807 := by
  obtain ⟨a, cap, e, h1, h2, _⟩ := h
  exact ⟨a, cap, e, h1, h2⟩
theorem reads_at {hi n cap k : Nat} {w : World} {a : Option Addr} {zs : List Int} (h : Reads .i64 hi w (.slice a n cap) zs) (hk : k < zs.length) :
    ∃ g off, a = some ⟨g, off, none⟩ ∧ g < hi ∧ w.cell? ⟨g, off + k, none⟩ = some (.int .i64 (zs.getD k 0)) := by
  obtain ⟨a', cap', e, h1, h2, h3, h4⟩ := h
  cases e
  rcases h4 with h4 | ⟨g, off, rfl, hg, hc⟩
  · omega
  · exact ⟨g, off, rfl, hg, hc k hk⟩

theorem void_spec (s : ByteArray) (w : World) : Calls Tryz.prog 143 #[.string s] w fun e w' => e = .returned (.bool (isVoid s)) ∧ w = w' := by
  unfold isVoid
  cases h1 : (s.toList == [105, 109, 103]) with
  | true =>
    go_enter Tryz.func143, Tryz.ntmps143
    go_wp2
    go_ret
    exact ⟨rfl, rfl⟩
  | false =>
    cases h2 : (s.toList == [108, 105, 110, 107]) with
    | true =>
      go_enter Tryz.func143, Tryz.ntmps143
      go_wp2
      go_ret
      exact ⟨rfl, rfl⟩
    | false =>
      go_enter Tryz.func143, Tryz.ntmps143
      go_wp2
      go_ret
      exact ⟨rfl, rfl⟩

/-- A pointer to the node of this number, or nil. -/
theorem nodeAt_in (b g off n cap k : Nat) (w : World) (c0 : w.cell? ⟨b, 0, none⟩ = some (.slice (some ⟨g, off, none⟩) n cap)) (hk : k < n) (hn : n ≤ 9223372036854775807) :
    Calls Tryz.prog 67 #[.pointer (some ⟨b, 0, none⟩), .int .i64 (k : Int)] w fun e w' => e = .returned (.pointer (some ⟨g, off + k * 4, none⟩)) ∧ w' = w := by
  have e1 : inB k 0 ((n : Int) - 1) = true := inB_yes (by omega) (by omega)
  go_enter Tryz.func67, Tryz.ntmps67
  go_wp2_with (go_at_call 120; refine (rin_any _ _ _ _).mono ?_; rintro e w' ⟨rfl, rfl⟩)
  go_ret
  exact ⟨rfl, rfl⟩

theorem nodeAt_out (b n cap : Nat) (a : Option Addr) (z : Int) (w : World) (c0 : w.cell? ⟨b, 0, none⟩ = some (.slice a n cap)) (hk : z < 0 ∨ (n : Int) ≤ z) (hn : n ≤ 9223372036854775807) :
    Calls Tryz.prog 67 #[.pointer (some ⟨b, 0, none⟩), .int .i64 z] w fun e w' => e = .returned (.pointer none) ∧ w' = w := by
  have e1 : inB z 0 ((n : Int) - 1) = false := inB_no (by omega)
  go_enter Tryz.func67, Tryz.ntmps67
  go_wp2_with (go_at_call 120; refine (rin_any _ _ _ _).mono ?_; rintro e w' ⟨rfl, rfl⟩)
  go_ret
  exact ⟨rfl, rfl⟩

theorem nil_size {α : Type} {l : List α} [DecidableEq α] : decide (l = []) = decide (l.length = 0) := decide_eq_decide.2 ⟨fun h => by rw [h]; rfl, List.eq_nil_of_length_eq_zero⟩

end Go.Proofs.YtpkicliimhflgaaGreatDoor
namespace Go.Proofs.YtpkicliimhflgaaGreatDoor
open Go.ChangeShapes Go.WideShapes Go.ChangeAt Go.RowKit

theorem count_more {ns : List Nd} {s : ByteArray} {k : Nat} {x : Nd} (h : ns[k]? = some x) : countName (ns.take (k + 1)) s = countName (ns.take k) s + (if (x.name.toList == s.toList) = true then 1 else 0) := by
  induction ns generalizing k with
  | nil => simp at h
  | cons y ns ih =>
    cases k with
    | zero =>
      have : y = x := by simpa using h
      subst this
      simp [countName]
    | succ k =>
      rw [List.take_succ_cons, List.take_succ_cons, countName, countName, ih (by simpa using h)]; omega
theorem count_le : ∀ (ns : List Nd) (s : ByteArray), countName ns s ≤ ns.length
  | [], s => Nat.le_refl _
  | x :: ns, s => by
    have := count_le ns s
    rw [countName, List.length_cons]; split <;> omega
theorem map_fst_at {ns : List Nv} {l : List Nd} (h : ns.map Prod.fst = l) {k : Nat} {p : Nv} (hp : ns[k]? = some p) : l[k]? = some p.1 := by
  subst h; rw [List.getElem?_map, hp]; rfl

set_option maxRecDepth 100000 in
set_option maxHeartbeats 2000000 in
theorem count_spec (nv ov : Value) (b : Bd) (s : ByteArray) (w : World) (hb : BdIn w.heap.size w nv ov b) :
    Calls Tryz.prog 73 #[.agg #[nv, ov], .string s] w fun e w' => e = .returned (.int .i64 (countName b.nodes s : Int)) ∧ Grw w w' := by
  obtain ⟨ns, hns, hrn, hro⟩ := hb
  obtain ⟨oa, oc, rfl, _⟩ := reads_form hro
  obtain ⟨on, hon⟩ : ∃ n, b.opn.length = n := ⟨_, rfl⟩
  rw [hon]; clear hro hon
  obtain ⟨a, cap, rfl, hc1, hc2⟩ := hrn.form
  obtain ⟨n, hn⟩ : ∃ n, ns.length = n := ⟨_, rfl⟩
  rw [hn] at hc1 hrn ⊢
  have hnl : b.nodes.length = n := by rw [← hns, List.length_map, hn]
  have hg0 := (Grw.refl w).alloc (.cells #[.slice a n cap, .slice oa on oc] 41)
  have HR := Lib.hid (hrn.below hg0.below (Nat.le_refl _)); have HN := Lib.hid hn; have HNS := Lib.hid hns; have HNL := Lib.hid hnl
  obtain ⟨cn, hcn⟩ : ∃ f : Nat → Nat, f = fun m => countName (b.nodes.take m) s := ⟨_, rfl⟩
  have HCN := Lib.hid hcn
  have HCL := Lib.hid (fun m => show cn m ≤ m by rw [hcn]; have h1 := count_le (b.nodes.take m) s; rw [List.length_take] at h1; show countName (b.nodes.take m) s ≤ m; omega)
  have q0 : (w.alloc (.cells #[.slice a n cap, .slice oa on oc] 41)).cell? ⟨w.heap.size, 0, none⟩ = some (.slice a n cap) := by simp
  have HQ := Lib.hid q0; have HG0 := Lib.hid hg0
  clear hrn hn hns hnl hcn q0 hg0
  go_enter Tryz.func73, Tryz.ntmps73
  go_wp2
  go_loopw [5, 6] (fun c i wr => ∃ (k : Nat), k ≤ n ∧ i = .int .i64 k ∧ c = .int .i64 (cn k : Int) ∧ wr = w.alloc (.cells #[.slice a n cap, .slice oa on oc] 41))
    (fun _ i _ => n - (intOf i).toNat)
  case atStart => exact ⟨0, Nat.zero_le _, rfl, by rw [HCN.out]; rfl, rfl⟩
  case round =>
    obtain ⟨k, hk, rfl, rfl, rfl⟩ := hrel
    have q0 := HQ.out
    by_cases hlt : (k : Int) < (n : Int)
    · obtain ⟨p, hp⟩ := nd_at (ns := ns) (k := k) (by have := HN.out; omega)
      obtain ⟨g, off, rfl, hg, c0, _⟩ := HR.out.at hp
      have hm := count_more (s := s) (map_fst_at HNS.out hp)
      have HM := Lib.hid (show cn (k + 1) = cn k + _ by rw [HCN.out]; exact hm)
      have hcl := HCL.out k
      clear hm hp
      obtain ⟨⟨nd, sl⟩, rfl⟩ : ∃ q : Nv, p = q := ⟨p, rfl⟩
      obtain ⟨x, hx⟩ : ∃ x, nd.name = x := ⟨_, rfl⟩
      replace c0 : _ = some (Value.string nd.name) := c0
      replace HM := Lib.hid (show cn (k + 1) = cn k + (if (nd.name.toList == s.toList) = true then 1 else 0) from HM.out)
      rw [hx] at c0 HM
      clear hx
      cases he : (x.toList == s.toList) with
      | true =>
        rw [he, if_pos rfl] at HM
        go_wp2
        go_roundw
        case rel => exact ⟨k + 1, by omega, by go_num, by rw [HM.out]; go_num, by first | trivial | rfl⟩
        case measure => simp [intOf]; omega
      | false =>
        rw [he, if_neg (by decide)] at HM
        go_wp2
        go_roundw
        case rel => exact ⟨k + 1, by omega, by go_num, by rw [HM.out]; rfl, by first | trivial | rfl⟩
        case measure => simp [intOf]; omega
    · have hkn : k = n := by omega
      subst hkn
      have HF := Lib.hid (show cn k = countName b.nodes s by rw [HCN.out]; show countName (b.nodes.take k) s = _; rw [List.take_of_length_le (by rw [HNL.out]; exact Nat.le_refl _)])
      go_wp2
      go_ret
      exact ⟨by rw [HF.out]; rfl, HG0.out⟩
set_option maxRecDepth 100000 in
set_option maxHeartbeats 2000000 in
theorem count_impl (nv ov : Value) (b : Bd) (s : ByteArray) (w : World) (hb : BdIn w.heap.size w nv ov b) :
    Calls Tryz.prog 192 #[.agg #[nv, ov], .string s] w fun e w' => e = .returned (.int .i64 (countName b.nodes s : Int)) ∧ Grw w w' := by
  obtain ⟨ns, hns, hrn, hro⟩ := hb
  obtain ⟨oa, oc, rfl, _⟩ := reads_form hro
  obtain ⟨on, hon⟩ : ∃ n, b.opn.length = n := ⟨_, rfl⟩
  rw [hon]; clear hro hon
  obtain ⟨a, cap, rfl, hc1, hc2⟩ := hrn.form
  obtain ⟨n, hn⟩ : ∃ n, ns.length = n := ⟨_, rfl⟩
  rw [hn] at hc1 hrn ⊢
  have hnl : b.nodes.length = n := by rw [← hns, List.length_map, hn]
  have hg0 := (Grw.refl w).alloc (.cells #[.slice a n cap, .slice oa on oc] 41)
  have HR := Lib.hid (hrn.below hg0.below (Nat.le_refl _)); have HN := Lib.hid hn; have HNS := Lib.hid hns; have HNL := Lib.hid hnl
  obtain ⟨cn, hcn⟩ : ∃ f : Nat → Nat, f = fun m => countName (b.nodes.take m) s := ⟨_, rfl⟩
  have HCN := Lib.hid hcn
  have HCL := Lib.hid (fun m => show cn m ≤ m by rw [hcn]; have h1 := count_le (b.nodes.take m) s; rw [List.length_take] at h1; show countName (b.nodes.take m) s ≤ m; omega)
  have q0 : (w.alloc (.cells #[.slice a n cap, .slice oa on oc] 41)).cell? ⟨w.heap.size, 0, none⟩ = some (.slice a n cap) := by simp
  have HQ := Lib.hid q0; have HG0 := Lib.hid hg0
  clear hrn hn hns hnl hcn q0 hg0
  go_enter Tryz.func192, Tryz.ntmps192
  go_wp2
  go_loopw [5, 10] (fun c i wr => ∃ (k : Nat), k ≤ n ∧ i = .int .i64 k ∧ c = .int .i64 (cn k : Int) ∧ wr = w.alloc (.cells #[.slice a n cap, .slice oa on oc] 41))
    (fun _ i _ => n - (intOf i).toNat)
  case atStart => exact ⟨0, Nat.zero_le _, rfl, by rw [HCN.out]; rfl, rfl⟩
  case round =>
    obtain ⟨k, hk, rfl, rfl, rfl⟩ := hrel
    have q0 := HQ.out
    by_cases hlt : (k : Int) < (n : Int)
    · obtain ⟨p, hp⟩ := nd_at (ns := ns) (k := k) (by have := HN.out; omega)
      obtain ⟨g, off, rfl, hg, c0, _⟩ := HR.out.at hp
      have hm := count_more (s := s) (map_fst_at HNS.out hp)
      have HM := Lib.hid (show cn (k + 1) = cn k + _ by rw [HCN.out]; exact hm)
      have hcl := HCL.out k
      clear hm hp
      obtain ⟨⟨nd, sl⟩, rfl⟩ : ∃ q : Nv, p = q := ⟨p, rfl⟩
      obtain ⟨x, hx⟩ : ∃ x, nd.name = x := ⟨_, rfl⟩
      replace c0 : _ = some (Value.string nd.name) := c0
      replace HM := Lib.hid (show cn (k + 1) = cn k + (if (nd.name.toList == s.toList) = true then 1 else 0) from HM.out)
      rw [hx] at c0 HM
      clear hx
      have HNA := Lib.hid (nodeAt_in w.heap.size g off n cap k _ q0 (by omega) (by omega))
      cases he : (x.toList == s.toList) with
      | true =>
        rw [he, if_pos rfl] at HM
        go_wp2_with (go_at_call 67; refine HNA.out.mono ?_; rintro e w' ⟨rfl, rfl⟩)
        go_roundw
        case rel => exact ⟨k + 1, by omega, by go_num, by rw [HM.out]; go_num, by first | trivial | rfl⟩
        case measure => simp [intOf]; omega
      | false =>
        rw [he, if_neg (by decide)] at HM
        go_wp2_with (go_at_call 67; refine HNA.out.mono ?_; rintro e w' ⟨rfl, rfl⟩)
        go_roundw
        case rel => exact ⟨k + 1, by omega, by go_num, by rw [HM.out]; rfl, by first | trivial | rfl⟩
        case measure => simp [intOf]; omega
    · have hkn : k = n := by omega
      subst hkn
      have HF := Lib.hid (show cn k = countName b.nodes s by rw [HCN.out]; show countName (b.nodes.take k) s = _; rw [List.take_of_length_le (by rw [HNL.out]; exact Nat.le_refl _)])
      go_wp2
      go_ret
      exact ⟨by rw [HF.out]; rfl, HG0.out⟩

end Go.Proofs.YtpkicliimhflgaaGreatDoor
namespace Go.Proofs.YtpkicliimhflgaaGreatDoor
open Go.ChangeShapes Go.WideShapes Go.ChangeAt Go.RowKit

theorem byte_eq {s : ByteArray} {k : Nat} (hk : k < s.size) {c : UInt8} (h : s[k] = c) : s.data.toList[k]? = some c := by rw [get_at hk, h]
theorem byte_ne {s : ByteArray} {k : Nat} {c : UInt8} (h : ∀ hk : k < s.size, s[k] ≠ c) : s.data.toList[k]? ≠ some c := by
  intro e
  have hk : k < s.size := by have := (List.getElem?_eq_some_iff.1 e).1; rwa [size_list] at this
  rw [get_at hk] at e
  exact h hk (Option.some.inj e)
theorem u8_beq (b c : UInt8) : ((b.toNat : Int) == (c.toNat : Int)) = decide (b = c) := by
  by_cases h : b = c
  · subst h; simp
  · rw [decide_eq_false h]
    refine beq_eq_false_iff_ne.2 fun e => h (UInt8.toNat_inj.1 (by omega))

/-- No byte c from a on and below k. -/
def noB (c : UInt8) (s : ByteArray) (a k : Nat) : Prop := ∀ j, a ≤ j → j < k → s.data.toList[j]? ≠ some c
theorem noB.succ {c : UInt8} {s : ByteArray} {a k : Nat} (h : noB c s a k) (hk : s.data.toList[k]? ≠ some c) : noB c s a (k + 1) := by
  intro j h1 h2
  by_cases e : j = k
  · subst e; exact hk
  · exact h j h1 (by omega)
theorem noB.self (c : UInt8) (s : ByteArray) (a : Nat) : noB c s a a := fun _ h1 h2 => absurd h1 (by omega)

set_option maxHeartbeats 1000000 in
theorem ix_spec (s : ByteArray) (c : UInt8) (hs : s.size ≤ 1099511627776) (w : World) :
    Calls Tryz.prog 175 #[.string s, .int .u8 (c.toNat : Int)] w fun e w' => e = .returned (.int .i64 (idxB c s.data.toList : Nat)) ∧ w = w' := by
  go_enter Tryz.func175, Tryz.ntmps175
  go_wp2
  go_loop [5] (fun i => ∃ (k : Nat), k ≤ s.size ∧ i = .int .i64 k ∧ noB c s 0 k) (fun i => s.size - (intOf i).toNat)
  case atStart => exact ⟨0, Nat.zero_le _, rfl, noB.self _ _ _⟩
  case round =>
    obtain ⟨k, hk, rfl, hv⟩ := hrel
    have HV := Lib.hid hv; clear hv
    by_cases hlt : k < s.size
    · have hlt2 : decide ((k : Int) < (s.size : Int)) = true := by simp; omega
      have hb8 : (s[k].toNat : Int) < 256 := by have := UInt8.toNat_lt s[k]; omega
      by_cases he : s[k] = c
      · have hbq : ((s[k].toNat : Int) == (c.toNat : Int)) = true := by rw [u8_beq, decide_eq_true he]
        have HI := Lib.hid (idxB_first (byte_eq hlt he) fun j hj => HV.out j (Nat.zero_le _) hj)
        clear he
        go_wp2
        go_ret
        exact ⟨by rw [HI.out]; rfl, rfl⟩
      · have hbq : ((s[k].toNat : Int) == (c.toNat : Int)) = false := by rw [u8_beq, decide_eq_false he]
        have HS := Lib.hid (HV.out.succ (byte_ne fun _ => he))
        clear he
        go_wp2
        go_round
        case rel => exact ⟨k + 1, by omega, by go_num, HS.out⟩
        case measure => simp [intOf] <;> omega
    · have HI := Lib.hid (show idxB c s.data.toList = s.size by
        rw [← size_list]
        refine idxB_none fun j hj => ?_
        have hjl := (List.getElem?_eq_some_iff.1 hj).1
        rw [size_list] at hjl
        exact HV.out j (Nat.zero_le _) (by omega) hj)
      go_wp2
      go_ret
      exact ⟨by rw [HI.out]; rfl, rfl⟩

/-- The pieces as strings. -/
def splS (c : UInt8) (l : List UInt8) : List ByteArray := (splitB c l).map ofL
theorem splS_len (c : UInt8) (l : List UInt8) : (splS c l).length ≤ l.length + 1 := by unfold splS; rw [List.length_map]; exact splitB_length c l
theorem splS_round {c : UInt8} {s : ByteArray} {a i : Nat} (hai : a ≤ i) (hi : s.data.toList[i]? = some c) (hf : noB c s a i) :
    splS c (s.data.toList.drop a) = s.extract a i :: splS c (s.data.toList.drop (i + 1)) := by
  unfold splS
  rw [split_round hai hi hf, List.map_cons, extract_eq]
theorem splS_last {c : UInt8} {s : ByteArray} {a i : Nat} (hi : i = s.size) (hf : noB c s a i) :
    splS c (s.data.toList.drop a) = [s.extract a i] := by
  subst hi
  unfold splS
  rw [split_last fun j hj he => hf j hj (by have := (List.getElem?_eq_some_iff.1 he).1; rwa [size_list] at this) he, List.map_cons, List.map_nil, extract_suf]
theorem readsS_one (w : World) (s : ByteArray) : ReadsK encS 1 (w.heap.size + 1) (w.alloc (.cells #[.string s] 9)) (.slice (some ⟨w.heap.size, 0, none⟩) 1 1) [s] := by
  refine ⟨_, 1, rfl, by simp, by omega, (fun h => by cases h), Or.inr ⟨_, 0, rfl, by omega, fun j y hy i hi' => ?_⟩⟩
  have hj : j = 0 := by have := (List.getElem?_eq_some_iff.1 hy).1; simp at this; omega
  subst hj
  simp only [List.getElem?_cons_zero, Option.some.injEq] at hy
  subst hy
  obtain rfl : i = 0 := by omega
  simp [encS]
/-- append of strings to a slice of the call's own. -/
theorem wpList_appS {w : World} {ops : Array Oper} {rest : List Oper} {o : Oper} {a : Act} {Q : Exit → Act → World → Prop} (hgd : o.guard = none) (s x : Operand)
    (ho : o.op = .call { callee := .builtin .append, args := #[s, x], argTypes := #[37, 37] })
    (B : Nat) (w0 : World) (v : Value) (xs : List ByteArray) (hs : a.eval s = v) (hM : MineK encS 1 9 B w0 w v xs) (vx : Value) (top : Nat) (ys : List ByteArray) (hx : a.eval x = vx) (hr : ReadsK encS 1 top w vx ys)
    (hlen : xs.length + ys.length ≤ 137438953472)
    (h : ∀ v' w', MineK encS 1 9 B w0 w' v' (xs ++ ys) → wpList Tryz.prog ops Q rest (a.put o.dst v') w') : wpList Tryz.prog ops Q (o :: rest) a w := by
  obtain ⟨i, hi, hz, hsize, hby⟩ := info_parts infoStr
  exact wpList_appK hgd s x _ ho encS_len encS_one (by decide) _ i _ 16 Tryz.underlying37 hi hz hsize hby (by rfl) B w0 v xs hs hM vx top ys hx hr (by omega) hlen fun v' w' hM' _ => h v' w' hM'

set_option maxRecDepth 100000 in
set_option maxHeartbeats 2000000 in
theorem spl_spec (s : ByteArray) (c : UInt8) (hs : s.size ≤ 1099511627) (w : World) :
    Calls Tryz.prog 144 #[.string s, .int .u8 (c.toNat : Int)] w (NewK encS 1 9 (splS c s.data.toList) w) := by
  go_enter Tryz.func144, Tryz.ntmps144
  go_wp2
  go_loopw [5, 6, 7] (fun o f i wr => ∃ (a k : Nat) (done : List ByteArray), a ≤ k ∧ k ≤ s.size + 1 ∧ f = .int .i64 a ∧ i = .int .i64 k ∧ MineK encS 1 9 w.heap.size w wr o done ∧ done.length ≤ k ∧ noB c s a k ∧ (k ≤ s.size → splS c s.data.toList = done ++ splS c (s.data.toList.drop a)) ∧ (k = s.size + 1 → splS c s.data.toList = done))
    (fun _ _ i _ => s.size + 1 - (intOf i).toNat)
  case atStart => exact ⟨0, 0, [], Nat.le_refl _, Nat.zero_le _, rfl, rfl, MineK.empty _ _ _ _ _ _ (Below.refl _ _) (Nat.le_refl _), Nat.le_refl _, noB.self _ _ _, (fun _ => by rw [List.drop_zero, List.nil_append]), (fun h => by omega)⟩
  case round =>
    obtain ⟨a, k, done, hak, hk, rfl, rfl, hM, hdl, hno, hsp, hfin⟩ := hrel
    have HM := Lib.hid hM; have HNO := Lib.hid hno; have HSP := Lib.hid hsp; have HFIN := Lib.hid hfin
    clear hM hno hsp hfin
    by_cases hle : k ≤ s.size
    · have hle2 : decide ((k : Int) ≤ (s.size : Int)) = true := decide_eq_true (by omega)
      have c1 : (a : Int) ≤ (k : Int) := by omega
      have c2 : (k : Int) ≤ (s.size : Int) := by omega
      by_cases hend : k = s.size
      · subst hend
        have HR := Lib.hid (splS_last rfl HNO.out)
        go_wp2_with (at_builtin; refine wpList_appS rfl _ _ rfl w.heap.size w _ done rfl (HM.out.alloc _) _ _ [s.extract a s.size] rfl (readsS_one wr _) ?c3 ?_)
        case c3 => simp; omega
        intro v' w' hM'
        have HM2 := Lib.hid hM'; clear hM'
        go_wp2
        go_roundw
        case rel =>
          refine ⟨s.size + 1, s.size + 1, done ++ [s.extract a s.size], Nat.le_refl _, by omega, by go_num, by go_num, HM2.out, by simp; omega, noB.self _ _ _, (fun h => by omega), fun _ => ?_⟩
          rw [HSP.out hle, HR.out]
        case measure => simp [intOf] <;> omega
      · have hq : ((k : Int) == (s.size : Int)) = false := beq_eq_false_iff_ne.2 (by omega)
        have hlt : k < s.size := by omega
        have hb8 : (s[k].toNat : Int) < 256 := by have := UInt8.toNat_lt s[k]; omega
        by_cases he : s[k] = c
        · have hbq : ((s[k].toNat : Int) == (c.toNat : Int)) = true := by rw [u8_beq, decide_eq_true he]
          have HR := Lib.hid (splS_round hak (byte_eq hlt he) HNO.out)
          clear he
          go_wp2_with (at_builtin; refine wpList_appS rfl _ _ rfl w.heap.size w _ done rfl (HM.out.alloc _) _ _ [s.extract a k] rfl (readsS_one wr _) ?c3 ?_)
          case c3 => simp; omega
          intro v' w' hM'
          have HM2 := Lib.hid hM'; clear hM'
          go_wp2
          go_roundw
          case rel =>
            refine ⟨k + 1, k + 1, done ++ [s.extract a k], Nat.le_refl _, by omega, by go_num, by go_num, HM2.out, by simp; omega, noB.self _ _ _, (fun h => ?_), fun h => by omega⟩
            rw [HSP.out hle, HR.out, List.append_assoc]; rfl
          case measure => simp [intOf] <;> omega
        · have hbq : ((s[k].toNat : Int) == (c.toNat : Int)) = false := by rw [u8_beq, decide_eq_false he]
          have HS := Lib.hid (HNO.out.succ (byte_ne fun _ => he))
          clear he
          go_wp2
          go_roundw
          case rel => exact ⟨a, k + 1, done, by omega, by omega, rfl, by go_num, HM.out, by omega, HS.out, (fun h => HSP.out hle), fun h => by omega⟩
          case measure => simp [intOf] <;> omega
    · have hle2 : decide ((k : Int) ≤ (s.size : Int)) = false := decide_eq_false (by omega)
      have HF := Lib.hid (HFIN.out (by omega))
      go_wp2
      go_ret
      exact ⟨_, rfl, by rw [HF.out]; exact HM.out.own, HM.out.below⟩

end Go.Proofs.YtpkicliimhflgaaGreatDoor
namespace Go.Proofs.YtpkicliimhflgaaGreatDoor
open Go.ChangeShapes Go.WideShapes Go.ChangeAt Go.RowKit

/-- append of attributes to a slice of the call's own. -/
theorem wpList_appA {w : World} {ops : Array Oper} {rest : List Oper} {o : Oper} {a : Act} {Q : Exit → Act → World → Prop} (hgd : o.guard = none) (s x : Operand)
    (ho : o.op = .call { callee := .builtin .append, args := #[s, x], argTypes := #[115, 115] })
    (B : Nat) (w0 : World) (v : Value) (xs : List At) (hs : a.eval s = v) (hM : MineK encA 2 178 B w0 w v xs) (vx : Value) (top : Nat) (ys : List At) (hx : a.eval x = vx) (hr : ReadsK encA 2 top w vx ys)
    (hlen : xs.length + ys.length ≤ 137438953472)
    (h : ∀ v' w', MineK encA 2 178 B w0 w' v' (xs ++ ys) → wpList Tryz.prog ops Q rest (a.put o.dst v') w') : wpList Tryz.prog ops Q (o :: rest) a w := by
  obtain ⟨i, hi, hz, hsize, hby⟩ := info_parts infoAt
  exact wpList_appK hgd s x _ ho encA_len encA_one (by decide) _ i _ 32 Tryz.underlying115 hi hz hsize hby (by rfl) B w0 v xs hs hM vx top ys hx hr (by omega) hlen fun v' w' hM' _ => h v' w' hM'

end Go.Proofs.YtpkicliimhflgaaGreatDoor

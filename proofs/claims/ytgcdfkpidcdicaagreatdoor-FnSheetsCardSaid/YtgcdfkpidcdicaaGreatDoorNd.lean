/- Nodes and their attributes in memory: what it means that a slice value reads as a list of them, that a call owns all of it, and append to such a slice. Helper facts, no claim of its own. -/
import Derived.Test.YtgcdfkpidcdicaaGreatDoorDpBd
import Derived.Test.YtgcdfkpidcdicaaGreatDoorTk
import Derived.Test.YtgcdfkpidcdicaaGreatDoorBd
namespace Go.Proofs.YtgcdfkpidcdicaaGreatDoor
open Go.ChangeShapes Go.WideShapes Go.ChangeAt Go.RowKit

theorem infoNd : (Tryz.prog.info? 125).map (fun i => (i.zero, i.size, i.bytes)) = some (some (.agg #[.string ⟨#[]⟩, .string ⟨#[]⟩, .int .i64 0, .slice none 0 0]), 4, 64) := by kernel_rfl
abbrev Nv := Nd × Sv
def ndV (p : Nv) : Value := .agg #[.string p.1.name, .string p.1.text, .int .i64 p.1.parent, sv p.2]
def encN (p : Nv) : List Value := [.string p.1.name, .string p.1.text, .int .i64 p.1.parent, sv p.2]
theorem encN_len (p : Nv) : (encN p).length = 4 := rfl
theorem encN_one (p : Nv) : ∀ u ∈ encN p, u.oneCell' = true := by
  intro u hu
  simp only [encN, List.mem_cons, List.mem_nil_iff, or_false] at hu
  rcases hu with rfl | rfl | rfl | rfl <;> rfl
def ndCells : List Nv → List Rw
  | [] => []
  | p :: ts => .leaf (.string p.1.name) :: .leaf (.string p.1.text) :: .leaf (.int .i64 p.1.parent) :: rwA (sv p.2) p.1.attrs :: ndCells ts
/-- A slice of tokens. -/
def rwN (v : Value) (ts : List Nv) : Rw := .sl v ts.length 4 125 (ndCells ts)
theorem rwN_cell (v : Value) (ts : List Nv) : (rwN v ts).cell = v := rfl
def insN (ts : List Nv) : List Nat := ts.flatMap fun p => (sv p.2).ownBlock.toList
theorem ndCells_map : ∀ ts : List Nv, (ndCells ts).map Rw.cell = ts.flatMap encN
  | [] => rfl
  | p :: ts => by
    rw [ndCells, List.map_cons, List.map_cons, List.map_cons, List.map_cons, ndCells_map ts, List.flatMap_cons]; rfl
theorem ndCells_len : ∀ ts : List Nv, (ndCells ts).length = ts.length * 4
  | [] => rfl
  | p :: ts => by rw [ndCells, List.length_cons, List.length_cons, List.length_cons, List.length_cons, ndCells_len ts, List.length_cons]; omega
theorem ndCells_at : ∀ {ts : List Nv} {j : Nat} {p : Nv}, ts[j]? = some p → (ndCells ts)[j * 4]? = some (.leaf (.string p.1.name)) ∧ (ndCells ts)[j * 4 + 1]? = some (.leaf (.string p.1.text)) ∧ (ndCells ts)[j * 4 + 2]? = some (.leaf (.int .i64 p.1.parent)) ∧ (ndCells ts)[j * 4 + 3]? = some (rwA (sv p.2) p.1.attrs)
  | [], j, p, h => by simp at h
  | q :: ts, 0, p, h => by
    have : q = p := by simpa using h
    subst this; exact ⟨rfl, rfl, rfl, rfl⟩
  | q :: ts, j + 1, p, h => by
    have ih := ndCells_at (ts := ts) (j := j) (by simpa using h)
    rw [show (j + 1) * 4 = j * 4 + 1 + 1 + 1 + 1 by omega, ndCells]
    simpa using ih
theorem ndCells_mem : ∀ {ts : List Nv}, ∀ c ∈ ndCells ts, (∃ v, c = .leaf v ∧ v.oneCell' = true) ∨ ∃ p ∈ ts, c = rwA (sv p.2) p.1.attrs
  | [], c, h => by cases h
  | p :: ts, c, h => by
    rw [ndCells] at h
    rcases List.mem_cons.1 h with h | h
    · exact Or.inl ⟨_, h, rfl⟩
    rcases List.mem_cons.1 h with h | h
    · exact Or.inl ⟨_, h, rfl⟩
    rcases List.mem_cons.1 h with h | h
    · exact Or.inl ⟨_, h, rfl⟩
    rcases List.mem_cons.1 h with h | h
    · exact Or.inr ⟨p, List.mem_cons_self, h⟩
    rcases ndCells_mem c h with h | ⟨q, hq, e⟩
    · exact Or.inl h
    · exact Or.inr ⟨q, List.mem_cons_of_mem _ hq, e⟩
theorem ndCells_blocks : ∀ ts : List Nv, blocksL (ndCells ts) = insN ts
  | [] => rfl
  | p :: ts => by
    rw [ndCells, blocksL, blocksL, blocksL, blocksL, ndCells_blocks ts, Rw.blocks, Rw.blocks, Rw.blocks, rwA_blocks, insN, insN, List.flatMap_cons]
    rfl
theorem insN_append (ts us : List Nv) : insN (ts ++ us) = insN ts ++ insN us := by unfold insN; rw [List.flatMap_append]
theorem insN_mem {ts : List Nv} {b : Nat} : b ∈ insN ts ↔ ∃ p ∈ ts, (sv p.2).ownBlock = some b := by
  unfold insN
  rw [List.mem_flatMap]
  constructor
  · rintro ⟨p, hp, hb⟩
    exact ⟨p, hp, by simpa using hb⟩
  · rintro ⟨p, hp, hb⟩
    exact ⟨p, hp, by simpa using hb⟩
theorem rwN_is (v : Value) (ts : List Nv) : IsNodeS (rwN v ts) :=
  ⟨v, ts.length, _, ndCells ts, rfl, fun j hj => by
    obtain ⟨p, h⟩ : ∃ p, ts[j]? = some p := ⟨_, List.getElem?_eq_getElem hj⟩
    obtain ⟨h1, h2, h3, h4⟩ := ndCells_at h
    exact ⟨_, _, _, _, h1, h2, h3, h4, rwA_is _ _⟩⟩
theorem ndCells_data : ∀ {ts us : List Nv}, ts.map Prod.fst = us.map Prod.fst → dataL (ndCells ts) = dataL (ndCells us)
  | [], [], _ => rfl
  | [], u :: us, h => by simp at h
  | t :: ts, [], h => by simp at h
  | t :: ts, u :: us, h => by
    rw [List.map_cons, List.map_cons] at h
    obtain ⟨h1, h2⟩ := List.cons.inj h
    rw [ndCells, ndCells, dataL, dataL, dataL, dataL, dataL, dataL, dataL, dataL, ndCells_data h2, h1, rwA_data]
theorem rwN_data (v u : Value) {ts us : List Nv} (h : ts.map Prod.fst = us.map Prod.fst) : (rwN v ts).data = (rwN u us).data := by
  rw [rwN, rwN, Rw.data, Rw.data, ndCells_data h]
theorem rwN_count {ts us : List Nv} (h : ts.map Prod.fst = us.map Prod.fst) : ts.length = us.length := by
  have := congrArg List.length h
  simpa using this
theorem nd_ne_at : 125 ≠ 187 := by decide

/-- A slice of tokens of the call's own, with all that they hold, in blocks from B on, while of what lay below B nothing was written. -/
structure MineN (B : Nat) (w0 w : World) (v : Value) (ts : List Nv) : Prop where
  row : MineK encN 4 125 B w0 w v ts
  inn : ∀ p ∈ ts, OwnK encA 2 187 B w.heap.size w (sv p.2) p.1.attrs
  nod : (insN ts).Nodup
theorem MineN.own {B : Nat} {w0 w : World} {v : Value} {ts : List Nv} (h : MineN B w0 w v ts) : (rwN v ts).OwnR B w.heap.size w := by
  rw [rwN, Rw.OwnR]
  refine ⟨⟨by rw [ndCells_map]; exact h.row.row, fun g hg => (h.row.row.lt g hg).2⟩, ownRL_iff.2 fun c hc => ?_⟩
  rcases ndCells_mem c hc with ⟨u, rfl, hu⟩ | ⟨p, hp, rfl⟩
  · rw [Rw.OwnR]; exact hu
  · exact rwA_own (h.inn p hp)
theorem MineN.nodup {B : Nat} {w0 w : World} {v : Value} {ts : List Nv} (h : MineN B w0 w v ts) : (rwN v ts).blocks.Nodup := by
  rw [rwN, Rw.blocks, ndCells_blocks]
  cases hv : v.ownBlock with
  | none => exact h.nod
  | some g =>
    refine List.nodup_cons.2 ⟨fun hg => ?_, h.nod⟩
    obtain ⟨p, hp, hb⟩ := insN_mem.1 hg
    exact rows_ne h.row.row (h.inn p hp).1 nd_ne_at hv hb
theorem MineN.later {B : Nat} {w0 w w' : World} {v : Value} {ts : List Nv} (h : MineN B w0 w v ts) (hb : Below w.heap.size w w') : MineN B w0 w' v ts :=
  ⟨h.row.later hb, fun p hp => ((h.inn p hp).later hb).mono (Nat.le_refl _) hb.size, h.nod⟩
theorem MineN.empty (w0 w : World) (B : Nat) (hb : Below B w0 w) (hB : B ≤ w.heap.size) : MineN B w0 (w.alloc (.cells #[] 125)) (.slice (some ⟨w.heap.size, 0, none⟩) 0 0) [] :=
  ⟨MineK.empty _ _ _ _ _ _ hb hB, fun p hp => (by cases hp), List.nodup_nil⟩
theorem MineN.lt {B : Nat} {w0 w : World} {v : Value} {ts : List Nv} (h : MineN B w0 w v ts) : ∀ b ∈ insN ts, B ≤ b ∧ b < w.heap.size := by
  intro b hb
  obtain ⟨p, hp, e⟩ := insN_mem.1 hb
  exact ⟨((h.inn p hp).1.lt b e).1, ((h.inn p hp).1.lt b e).2⟩
/-- One token in a new block: what append takes. -/
theorem readsN_one (w : World) (p : Nv) {k : Int} {nm tx : ByteArray} {u : Value} (h1 : p.1.name = nm) (h2 : p.1.text = tx) (h3 : p.1.parent = k) (h4 : sv p.2 = u) :
    ReadsK encN 4 (w.heap.size + 1) (w.alloc (.cells #[.string nm, .string tx, .int .i64 k, u] 125)) (.slice (some ⟨w.heap.size, 0, none⟩) 1 1) [p] := by
  subst h1; subst h2; subst h3; subst h4
  refine ⟨_, 1, rfl, by simp, by omega, (fun h => by cases h), Or.inr ⟨_, 0, rfl, by omega, fun j y hy i hi' => ?_⟩⟩
  have hj : j = 0 := by have := (List.getElem?_eq_some_iff.1 hy).1; simp at this; omega
  subst hj
  simp only [List.getElem?_cons_zero, Option.some.injEq] at hy
  subst hy
  rcases (show i = 0 ∨ i = 1 ∨ i = 2 ∨ i = 3 by omega) with rfl | rfl | rfl | rfl <;> simp [encN]
/-- append to such a slice, of whatever reads as tokens whose attributes the call owns. -/
theorem wpList_appN {w : World} {ops : Array Oper} {rest : List Oper} {o : Oper} {a : Act} {Q : Exit → Act → World → Prop} (hgd : o.guard = none) (s x : Operand)
    (ho : o.op = .call { callee := .builtin .append, args := #[s, x], argTypes := #[37, 37] })
    (B : Nat) (w0 : World) (v : Value) (ts : List Nv) (hs : a.eval s = v) (hM : MineN B w0 w v ts) (vx : Value) (top : Nat) (us : List Nv) (hx : a.eval x = vx) (hr : ReadsK encN 4 top w vx us)
    (hin : ∀ p ∈ us, OwnK encA 2 187 B w.heap.size w (sv p.2) p.1.attrs) (hnd : (insN ts ++ insN us).Nodup)
    (hlen : ts.length + us.length ≤ 137438953472)
    (h : ∀ v' w', MineN B w0 w' v' (ts ++ us) → wpList Tryz.prog ops Q rest (a.put o.dst v') w') : wpList Tryz.prog ops Q (o :: rest) a w := by
  obtain ⟨i, hi, hz, hsize, hby⟩ := info_parts infoNd
  obtain ⟨ad, cap, rfl, h1, h2, h3, h4⟩ := id hr
  cases ad with
  | none =>
    obtain ⟨rfl, _, rfl⟩ := hr.nil
    refine wpList_append_own_none hgd s x _ ho B _ i 4 Tryz.underlying37 hi v ts.length _ hs hM.row.row hx ?_
    exact h v w (by simpa using hM)
  | some ad =>
    refine wpList_append_own _ hgd s x _ ho B _ i _ 4 64 Tryz.underlying37 hi hz hsize hby (by rfl) (by decide) v ts.length _ hs hM.row.row ad us.length cap (us.flatMap encN) hx (flat_len encN_len us) (hr.news encN_len) ?_ ?_ ?_ hM.row.size ?_
    · intro u hu
      obtain ⟨y, _, hy⟩ := List.mem_flatMap.1 hu
      exact encN_one y u hy
    · unfold maxLen; omega
    · have : (ts.length + us.length) * 64 ≤ (ts.length + us.length) * 1024 := Nat.mul_le_mul_left _ (by omega)
      omega
    · intro v' w' hown hgr hn
      refine h v' w' ⟨hM.row.grow hown hgr, fun p hp => ?_, by rw [insN_append]; exact hnd⟩
      have hall : OwnK encA 2 187 B w.heap.size w (sv p.2) p.1.attrs := by
        rcases List.mem_append.1 hp with h | h
        · exact hM.inn p h
        · exact hin p h
      refine ⟨hall.1.kept hgr ?_, fun g hg => Nat.lt_of_lt_of_le (hall.2 g hg) hgr.size⟩
      cases hv : (sv p.2).ownBlock with
      | none => exact Or.inl rfl
      | some g =>
        right
        intro e
        exact rows_ne hM.row.row hall.1 nd_ne_at e.symm hv
theorem readsN_of {hi : Nat} {w : World} {v : Value} {B : Nat} {w0 : World} {ts : List Nv} (h : MineN B w0 w v ts) (hh : w.heap.size ≤ hi) : ReadsK encN 4 hi w v ts := (h.row.own.reads encN_len).mono hh

theorem MineN.nil (w0 w : World) (B : Nat) (hb : Below B w0 w) (hB : B ≤ w.heap.size) : MineN B w0 w (.slice none 0 0) [] :=
  ⟨MineK.nil _ _ _ _ _ _ hb hB, fun p hp => (by cases hp), List.nodup_nil⟩
/-- It reads so, with all that the nodes hold. -/
def ReadN (hi : Nat) (w : World) (v : Value) (ns : List Nv) : Prop := ReadsK encN 4 hi w v ns ∧ ∀ p ∈ ns, ReadsK encA 2 hi w (sv p.2) p.1.attrs
theorem MineN.reads {B hi : Nat} {w0 w : World} {v : Value} {ns : List Nv} (h : MineN B w0 w v ns) (hh : w.heap.size ≤ hi) : ReadN hi w v ns :=
  ⟨(h.row.own.reads encN_len).mono hh, fun p hp => ((h.inn p hp).reads encA_len).mono hh⟩
theorem ReadN.below {hi B : Nat} {w w' : World} {v : Value} {ns : List Nv} (h : ReadN hi w v ns) (hb : Below B w w') (hB : hi ≤ B) : ReadN hi w' v ns :=
  ⟨h.1.below hb hB, fun p hp => (h.2 p hp).below hb hB⟩
theorem ReadN.mono {hi hi' : Nat} {w : World} {v : Value} {ns : List Nv} (h : ReadN hi w v ns) (hh : hi ≤ hi') : ReadN hi' w v ns :=
  ⟨h.1.mono hh, fun p hp => (h.2 p hp).mono hh⟩
theorem rwN_reads {hi : Nat} {w : World} {v : Value} {ns : List Nv} (h : ReadN hi w v ns) : (rwN v ns).ReadR hi w := by
  rw [rwN, Rw.ReadR]
  have h0 := h.1
  obtain ⟨⟨a, cap, rfl, h1, h2, h3, h4⟩, hin⟩ := h
  refine ⟨⟨a, cap, rfl, ndCells_len ns, h1, h2, h3, ?_⟩, readRL_iff.2 fun c hc => ?_⟩
  · rcases h4 with h4 | ⟨g, off, rfl, hg, hc⟩
    · exact Or.inl h4
    · refine Or.inr ⟨g, off, rfl, hg, fun j c hj => ?_⟩
      rw [ndCells_map] at hj
      have := h0.news encN_len j c hj
      rwa [add_off] at this
  · rcases ndCells_mem c hc with ⟨u, rfl, hu⟩ | ⟨p, hp, rfl⟩
    · rw [Rw.ReadR]; exact hu
    · exact rwA_reads (hin p hp)
theorem ndCells_of {hi : Nat} {w : World} : ∀ {ns : List Nv} {cs : List Rw}, dataL cs = dataL (ndCells ns) → ReadRL hi w cs →
    ∃ ns' : List Nv, ns'.map Prod.fst = ns.map Prod.fst ∧ cs.map Rw.cell = ns'.flatMap encN ∧ ∀ p ∈ ns', ReadsK encA 2 hi w (sv p.2) p.1.attrs
  | [], cs, h, _ => by
    cases cs with
    | nil => exact ⟨[], rfl, rfl, fun p hp => by cases hp⟩
    | cons c cs => rw [ndCells, dataL, dataL] at h; cases h
  | q :: ns, cs, h, hr => by
    rw [ndCells] at h
    rcases cs with _ | ⟨c0, _ | ⟨c1, _ | ⟨c2, _ | ⟨c3, cs⟩⟩⟩⟩
    · simp [dataL] at h
    · simp [dataL] at h
    · simp [dataL] at h
    · simp [dataL] at h
    · simp only [dataL, List.cons.injEq] at h
      obtain ⟨h0, h1, h2, h3, h4⟩ := h
      have e0 := leaf_of_data h0
      have e1 := leaf_of_data h1
      have e2 := leaf_of_data h2
      subst e0; subst e1; subst e2
      have hr' := readRL_iff.1 hr
      obtain ⟨ns', k1, k2, k3⟩ := ndCells_of (ns := ns) (cs := cs) h4 (readRL_iff.2 fun c hc => hr' c (by simp [hc]))
      have ha := attrs_of_data h3 (hr' c3 (by simp))
      obtain ⟨s, hs⟩ : ∃ s : Sv, c3.cell = sv s := by
        obtain ⟨a, cap, e, _⟩ := ha
        exact ⟨(a, _, cap), e⟩
      rw [hs] at ha
      refine ⟨(q.1, s) :: ns', by rw [List.map_cons, List.map_cons, k1], ?_, fun p hp => ?_⟩
      · rw [List.map_cons, List.map_cons, List.map_cons, List.map_cons, k2, List.flatMap_cons, hs]; rfl
      · rcases List.mem_cons.1 hp with h | h
        · rw [h]; exact ha
        · exact k3 p h
theorem nodes_of_data {x : Rw} {u : Value} {ns : List Nv} {hi : Nat} {w : World} (h : x.data = (rwN u ns).data) (hr : x.ReadR hi w) : ∃ ns', ns'.map Prod.fst = ns.map Prod.fst ∧ ReadN hi w x.cell ns' := by
  cases x with
  | leaf v => rw [rwN, Rw.data, Rw.data] at h; cases h
  | sl v n k e cs =>
    rw [rwN, Rw.data, Rw.data] at h
    obtain ⟨rfl, hd⟩ := Dt.sl.inj h
    have hl : cs.length = ns.length * 4 := by have := congrArg List.length hd; rwa [dataL_len, dataL_len, ndCells_len] at this
    rw [Rw.ReadR] at hr
    obtain ⟨⟨a, cap, rfl, h1, h2, h3, h4, h5⟩, hrl⟩ := hr
    obtain ⟨ns', k1, k2, k3⟩ := ndCells_of hd hrl
    have hnl : ns'.length = ns.length := by have := congrArg List.length k1; simpa using this
    have hn : n = ns'.length := by omega
    subst hn
    refine ⟨ns', k1, ⟨a, cap, rfl, h2, h3, h4, ?_⟩, k3⟩
    rcases h5 with h5 | ⟨g, off, rfl, hg, hc⟩
    · exact Or.inl h5
    · refine Or.inr ⟨g, off, rfl, hg, fun j y hj i hi' => ?_⟩
      have hjl := (List.getElem?_eq_some_iff.1 hj).1
      have hb := Nat.mul_le_mul_right 4 (show j + 1 ≤ ns'.length by omega)
      obtain ⟨c, hcs⟩ : ∃ c, (cs.map Rw.cell)[j * 4 + i]? = some c := ⟨_, List.getElem?_eq_getElem (by rw [List.length_map]; omega)⟩
      rw [Nat.add_assoc, hc (j * 4 + i) c hcs, ← hcs, k2, flat_at encN_len hj hi']
/-- The same for tokens. -/
def ReadT (hi : Nat) (w : World) (v : Value) (ts : List Tv) : Prop := ReadsK encT 4 hi w v ts ∧ ∀ p ∈ ts, ReadsK encA 2 hi w (sv p.2) p.1.attrs
theorem ReadT.below {hi B : Nat} {w w' : World} {v : Value} {ns : List Tv} (h : ReadT hi w v ns) (hb : Below B w w') (hB : hi ≤ B) : ReadT hi w' v ns :=
  ⟨h.1.below hb hB, fun p hp => (h.2 p hp).below hb hB⟩
theorem ReadT.mono {hi hi' : Nat} {w : World} {v : Value} {ns : List Tv} (h : ReadT hi w v ns) (hh : hi ≤ hi') : ReadT hi' w v ns :=
  ⟨h.1.mono hh, fun p hp => (h.2 p hp).mono hh⟩
theorem MineT.reads {B hi : Nat} {w0 w : World} {v : Value} {ns : List Tv} (h : MineT B w0 w v ns) (hh : w.heap.size ≤ hi) : ReadT hi w v ns :=
  ⟨(h.row.own.reads encT_len).mono hh, fun p hp => ((h.inn p hp).reads encA_len).mono hh⟩
theorem rwT_reads {hi : Nat} {w : World} {v : Value} {ns : List Tv} (h : ReadT hi w v ns) : (rwT v ns).ReadR hi w := by
  rw [rwT, Rw.ReadR]
  have h0 := h.1
  obtain ⟨⟨a, cap, rfl, h1, h2, h3, h4⟩, hin⟩ := h
  refine ⟨⟨a, cap, rfl, tkCells_len ns, h1, h2, h3, ?_⟩, readRL_iff.2 fun c hc => ?_⟩
  · rcases h4 with h4 | ⟨g, off, rfl, hg, hc⟩
    · exact Or.inl h4
    · refine Or.inr ⟨g, off, rfl, hg, fun j c hj => ?_⟩
      rw [tkCells_map] at hj
      have := h0.news encT_len j c hj
      rwa [add_off] at this
  · rcases tkCells_mem c hc with ⟨u, rfl, hu⟩ | ⟨p, hp, rfl⟩
    · rw [Rw.ReadR]; exact hu
    · exact rwA_reads (hin p hp)
theorem tkCells_of {hi : Nat} {w : World} : ∀ {ns : List Tv} {cs : List Rw}, dataL cs = dataL (tkCells ns) → ReadRL hi w cs →
    ∃ ns' : List Tv, ns'.map Prod.fst = ns.map Prod.fst ∧ cs.map Rw.cell = ns'.flatMap encT ∧ ∀ p ∈ ns', ReadsK encA 2 hi w (sv p.2) p.1.attrs
  | [], cs, h, _ => by
    cases cs with
    | nil => exact ⟨[], rfl, rfl, fun p hp => by cases hp⟩
    | cons c cs => rw [tkCells, dataL, dataL] at h; cases h
  | q :: ns, cs, h, hr => by
    rw [tkCells] at h
    rcases cs with _ | ⟨c0, _ | ⟨c1, _ | ⟨c2, _ | ⟨c3, cs⟩⟩⟩⟩
    · simp [dataL] at h
    · simp [dataL] at h
    · simp [dataL] at h
    · simp [dataL] at h
    · simp only [dataL, List.cons.injEq] at h
      obtain ⟨h0, h1, h2, h3, h4⟩ := h
      have e0 := leaf_of_data h0
      have e1 := leaf_of_data h1
      have e3 := leaf_of_data h3
      subst e0; subst e1; subst e3
      have hr' := readRL_iff.1 hr
      obtain ⟨ns', k1, k2, k3⟩ := tkCells_of (ns := ns) (cs := cs) h4 (readRL_iff.2 fun c hc => hr' c (by simp [hc]))
      have ha := attrs_of_data h2 (hr' c2 (by simp))
      obtain ⟨s, hs⟩ : ∃ s : Sv, c2.cell = sv s := by
        obtain ⟨a, cap, e, _⟩ := ha
        exact ⟨(a, _, cap), e⟩
      rw [hs] at ha
      refine ⟨(q.1, s) :: ns', by rw [List.map_cons, List.map_cons, k1], ?_, fun p hp => ?_⟩
      · rw [List.map_cons, List.map_cons, List.map_cons, List.map_cons, k2, List.flatMap_cons, hs]; rfl
      · rcases List.mem_cons.1 hp with h | h
        · rw [h]; exact ha
        · exact k3 p h
theorem toks_of_data {x : Rw} {u : Value} {ns : List Tv} {hi : Nat} {w : World} (h : x.data = (rwT u ns).data) (hr : x.ReadR hi w) : ∃ ns', ns'.map Prod.fst = ns.map Prod.fst ∧ ReadT hi w x.cell ns' := by
  cases x with
  | leaf v => rw [rwT, Rw.data, Rw.data] at h; cases h
  | sl v n k e cs =>
    rw [rwT, Rw.data, Rw.data] at h
    obtain ⟨rfl, hd⟩ := Dt.sl.inj h
    have hl : cs.length = ns.length * 4 := by have := congrArg List.length hd; rwa [dataL_len, dataL_len, tkCells_len] at this
    rw [Rw.ReadR] at hr
    obtain ⟨⟨a, cap, rfl, h1, h2, h3, h4, h5⟩, hrl⟩ := hr
    obtain ⟨ns', k1, k2, k3⟩ := tkCells_of hd hrl
    have hnl : ns'.length = ns.length := by have := congrArg List.length k1; simpa using this
    have hn : n = ns'.length := by omega
    subst hn
    refine ⟨ns', k1, ⟨a, cap, rfl, h2, h3, h4, ?_⟩, k3⟩
    rcases h5 with h5 | ⟨g, off, rfl, hg, hc⟩
    · exact Or.inl h5
    · refine Or.inr ⟨g, off, rfl, hg, fun j y hj i hi' => ?_⟩
      have hjl := (List.getElem?_eq_some_iff.1 hj).1
      have hb := Nat.mul_le_mul_right 4 (show j + 1 ≤ ns'.length by omega)
      obtain ⟨c, hcs⟩ : ∃ c, (cs.map Rw.cell)[j * 4 + i]? = some c := ⟨_, List.getElem?_eq_getElem (by rw [List.length_map]; omega)⟩
      rw [Nat.add_assoc, hc (j * 4 + i) c hcs, ← hcs, k2, flat_at encT_len hj hi']
theorem nd_ne_bd : 125 ≠ 40 ∧ 187 ≠ 40 ∧ 3 ≠ 40 ∧ 125 ≠ 3 ∧ 187 ≠ 3 := by decide
/-- What is owned lies in no block of another type. -/
theorem ownK_setT {α : Type} {enc : α → List Value} {k : Nat} {e T : TypeId} {lo hi b o : Nat} {w : World} {v u : Value} {xs : List α} {cs : Array Value} (h : OwnK enc k e lo hi w v xs) (hb : w.heap[b]? = some (.cells cs T (0, 0))) (hne : e ≠ T) : OwnK enc k e lo hi (w.setCell ⟨b, o, none⟩ u) v xs := by
  refine ⟨⟨h.1.1, ?_⟩, h.2⟩
  rcases h.1.2 with h1 | ⟨g, cap, cur, h1, h2, h3, h4⟩
  · exact Or.inl h1
  · refine Or.inr ⟨g, cap, cur, h1, h2, ?_, h4⟩
    rw [Below.heap_setCell _ _ _ _ (show g ≠ b from fun e' => ?_)]
    · exact h3
    · subst e'
      rw [h3] at hb
      injection hb with h5
      injection h5 with _ h6 _
      exact hne h6
theorem row_ne_box {w : World} {B k n b : Nat} {e T : TypeId} {v : Value} {xs : List Value} {cs : Array Value} (h : w.ownsRow B e k v n xs) (hb : w.heap[b]? = some (.cells cs T (0, 0))) (hne : e ≠ T) : some b ≠ v.ownBlock := by
  rcases h.2 with ⟨rfl, _⟩ | ⟨g, cap, cur, rfl, _, h2, _⟩
  · intro h; cases h
  · intro h
    have e : b = g := Option.some.inj h
    subst e
    rw [h2] at hb
    injection hb with h5
    injection h5 with _ h6 _
    exact hne h6
theorem own_setT {k : IntKind} {e T : TypeId} {lo hi b o : Nat} {w : World} {v u : Value} {zs : List Int} {cs : Array Value} (h : Own k e lo hi w v zs) (hb : w.heap[b]? = some (.cells cs T (0, 0))) (hne : e ≠ T) : Own k e lo hi (w.setCell ⟨b, o, none⟩ u) v zs := by
  refine ⟨⟨h.1.1, ?_⟩, h.2⟩
  rcases h.1.2 with h1 | ⟨g, cap, cur, h1, h2, h3, h4⟩
  · exact Or.inl h1
  · refine Or.inr ⟨g, cap, cur, h1, h2, ?_, h4⟩
    rw [Below.heap_setCell _ _ _ _ (show g ≠ b from fun e' => ?_)]
    · exact h3
    · subst e'
      rw [h3] at hb
      injection hb with h5
      injection h5 with _ h6 _
      exact hne h6
theorem MineN.setT {B b o : Nat} {w0 w : World} {v u : Value} {ts : List Nv} {cs : Array Value} (h : MineN B w0 w v ts) (hb : w.heap[b]? = some (.cells cs 40 (0, 0))) (hB : B ≤ b) : MineN B w0 (w.setCell ⟨b, o, none⟩ u) v ts :=
  ⟨⟨(ownK_setT h.row.own hb nd_ne_bd.1).1, h.row.below.setCell hB _, Nat.le_trans h.row.size (size_set _ _ _)⟩, fun p hp => (ownK_setT (h.inn p hp) hb nd_ne_bd.2.1).mono (Nat.le_refl _) (size_set _ _ _), h.nod⟩
theorem mine_setT {B b o : Nat} {w0 w : World} {v u : Value} {zs : List Int} {cs : Array Value} (h : Mine .i64 3 B w0 w v zs) (hb : w.heap[b]? = some (.cells cs 40 (0, 0))) (hB : B ≤ b) : Mine .i64 3 B w0 (w.setCell ⟨b, o, none⟩ u) v zs :=
  ⟨(own_setT h.own hb nd_ne_bd.2.2.1).1, h.below.setCell hB _, Nat.le_trans h.size (size_set _ _ _)⟩
/-- The first elements of an own row. -/
theorem row_take {w : World} {B k n m g cap : Nat} {e : TypeId} {xs : List Value} (h : w.ownsRow B e k (.slice (some ⟨g, 0, none⟩) n cap) n xs) (hm : m ≤ n) : w.ownsRow B e k (.slice (some ⟨g, 0, none⟩) m cap) m (xs.take (m * k)) := by
  refine ⟨by rw [List.length_take, h.1, Nat.min_eq_left (Nat.mul_le_mul_right k hm)], ?_⟩
  rcases h.2 with ⟨h1, _⟩ | ⟨g', cap', cur, h1, h2, h3, h4, h5, h6, h7⟩
  · cases h1
  · cases h1
    refine Or.inr ⟨g, cap, cur, rfl, h2, h3, by omega, h5, h6, ?_⟩
    rw [← h7, List.take_take, Nat.min_eq_left (Nat.mul_le_mul_right k hm)]
theorem Mine.take {k : IntKind} {e : TypeId} {B n cap g m : Nat} {w0 w : World} {zs : List Int} (h : Mine k e B w0 w (.slice (some ⟨g, 0, none⟩) n cap) zs) (hn : n = zs.length) (hm : m ≤ n) : Mine k e B w0 w (.slice (some ⟨g, 0, none⟩) m cap) (zs.take m) := by
  have h1 := row_take (hn ▸ h.row) (hn ▸ hm)
  have e2 : (zs.take m).length = m := by rw [List.length_take]; omega
  exact ⟨by rw [e2, List.map_take]; simpa using h1, h.below, h.size⟩

/-- A builder in memory: the call's own; read alone. -/
def BdAt (B : Nat) (w0 w : World) (nv ov : Value) (b : Bd) : Prop := ∃ ns : List Nv, ns.map Prod.fst = b.nodes ∧ MineN B w0 w nv ns ∧ Mine .i64 3 B w0 w ov b.opn
def BdIn (hi : Nat) (w : World) (nv ov : Value) (b : Bd) : Prop := ∃ ns : List Nv, ns.map Prod.fst = b.nodes ∧ ReadN hi w nv ns ∧ Reads .i64 hi w ov b.opn
theorem BdIn.below {hi B : Nat} {w w' : World} {nv ov : Value} {b : Bd} (h : BdIn hi w nv ov b) (hb : Below B w w') (hB : hi ≤ B) : BdIn hi w' nv ov b := by
  obtain ⟨ns, h1, h2, h3⟩ := h
  exact ⟨ns, h1, h2.below hb hB, h3.below hb hB⟩
theorem BdIn.mono {hi hi' : Nat} {w : World} {nv ov : Value} {b : Bd} (h : BdIn hi w nv ov b) (hh : hi ≤ hi') : BdIn hi' w nv ov b := by
  obtain ⟨ns, h1, h2, h3⟩ := h
  exact ⟨ns, h1, h2.mono hh, h3.mono hh⟩
theorem BdIn.up {w w' : World} {nv ov : Value} {b : Bd} (h : BdIn w.heap.size w nv ov b) (hb : Below w.heap.size w w') : BdIn w'.heap.size w' nv ov b := (h.below hb (Nat.le_refl _)).mono hb.size
theorem BdAt.reads {B hi : Nat} {w0 w : World} {nv ov : Value} {b : Bd} (h : BdAt B w0 w nv ov b) (hh : w.heap.size ≤ hi) : BdIn hi w nv ov b := by
  obtain ⟨ns, h1, h2, h3⟩ := h
  exact ⟨ns, h1, h2.reads hh, h3.own.reads.mono hh⟩
theorem BdAt.later {B : Nat} {w0 w w' : World} {nv ov : Value} {b : Bd} (h : BdAt B w0 w nv ov b) (hb : Below w.heap.size w w') : BdAt B w0 w' nv ov b := by
  obtain ⟨ns, h1, h2, h3⟩ := h
  exact ⟨ns, h1, h2.later hb, h3.later hb⟩
theorem BdAt.lower {B B' : Nat} {w0 w0' w : World} {nv ov : Value} {b : Bd} (h : BdAt B w0 w nv ov b) (hb : Below B' w0' w0) (hB : B' ≤ B) : BdAt B' w0' w nv ov b := by
  obtain ⟨ns, h1, h2, h3⟩ := h
  refine ⟨ns, h1, ⟨⟨(h2.row.own.mono hB (Nat.le_refl _)).1, hb.trans (h2.row.below.mono hB), Nat.le_trans hB h2.row.size⟩, fun p hp => (h2.inn p hp).mono hB (Nat.le_refl _), h2.nod⟩, ⟨(h3.own.mono hB (Nat.le_refl _)).1, hb.trans (h3.below.mono hB), Nat.le_trans hB h3.size⟩⟩
theorem BdAt.below {B : Nat} {w0 w : World} {nv ov : Value} {b : Bd} (h : BdAt B w0 w nv ov b) : Below B w0 w := by
  obtain ⟨ns, h1, h2, h3⟩ := h
  exact h2.row.below
theorem BdAt.size {B : Nat} {w0 w : World} {nv ov : Value} {b : Bd} (h : BdAt B w0 w nv ov b) : B ≤ w.heap.size := by
  obtain ⟨ns, h1, h2, h3⟩ := h
  exact h2.row.size
theorem bdIn_of {lo hi : Nat} {w : World} {y0 y1 : Rw} {u v : Value} {ns : List Nv} {zs : List Int} (h0 : y0.data = (rwN u ns).data) (i1 : IsIntS y1) (h1 : y1.data = (rwI v zs).data) (h : OwnRL lo hi w [y0, y1]) : BdIn w.heap.size w y0.cell y1.cell ⟨ns.map Prod.fst, zs⟩ := by
  obtain ⟨k0, k1⟩ := ownL_two.1 h
  obtain ⟨ns', e1, e2⟩ := nodes_of_data h0 (Rw.OwnR.reads _ k0.top)
  obtain ⟨v', zs', rfl⟩ := i1
  obtain rfl := rwI_data.1 h1
  exact ⟨ns', e1, e2, rwI_reads.1 (Rw.OwnR.reads _ k1.top)⟩
theorem ownBd {lo hi : Nat} {w : World} {y0 y1 : Rw} {u v nv ov : Value} {ns : List Nv} {zs : List Int} (h0 : y0.data = (rwN u ns).data) (i1 : IsIntS y1) (h1 : y1.data = (rwI v zs).data) (e0 : y0.cell = nv) (e1 : y1.cell = ov) (h : OwnRL lo hi w [y0, y1]) : BdIn w.heap.size w nv ov ⟨ns.map Prod.fst, zs⟩ := by
  subst e0; subst e1; exact bdIn_of h0 i1 h1 h
theorem bdAt_own {B : Nat} {w0 w : World} {nv ov : Value} {ns : List Nv} {zs : List Int} (h : MineN B w0 w nv ns) (k : Mine .i64 3 B w0 w ov zs) : OwnRL B w.heap.size w [rwN nv ns, rwI ov zs] ∧ (blocksL [rwN nv ns, rwI ov zs]).Nodup := by
  refine ⟨ownL_two.2 ⟨h.own, rwI_own.2 k.own⟩, ?_⟩
  rw [blocksL, blocksL, blocksL, List.append_nil]
  refine List.nodup_append.2 ⟨h.nodup, by rw [rwI_blocks]; cases ov.ownBlock <;> simp, fun a ha b hb e => ?_⟩
  subst e
  rw [rwI_blocks] at hb
  have hb' : ov.ownBlock = some a := by simpa using hb
  rw [rwN, Rw.blocks, ndCells_blocks] at ha
  rcases List.mem_append.1 ha with ha | ha
  · have ha' : nv.ownBlock = some a := by simpa using ha
    exact rows_ne h.row.row k.row nd_ne_bd.2.2.2.1 ha' hb'
  · obtain ⟨p, hp, hpb⟩ := insN_mem.1 ha
    exact rows_ne (h.inn p hp).1 k.row nd_ne_bd.2.2.2.2 hpb hb'
/-- How many plain values the nodes hold. -/
def ndW : List Nd → Nat
  | [] => 0
  | x :: ns => 3 + 2 * x.attrs.length + ndW ns
theorem atCells_count' : ∀ ats : List At, countL (atCells ats) = 2 * ats.length
  | [] => rfl
  | a :: ats => by rw [atCells, countL, countL, Rw.count, Rw.count, atCells_count' ats, List.length_cons]; omega
theorem ndCells_count : ∀ ns : List Nv, countL (ndCells ns) = ndW (ns.map Prod.fst)
  | [] => rfl
  | p :: ns => by
    rw [ndCells, countL, countL, countL, countL, Rw.count, Rw.count, Rw.count, rwA, Rw.count, atCells_count', ndCells_count ns, List.map_cons, ndW]; omega
theorem rwN_cnt (v : Value) (ns : List Nv) : (rwN v ns).count = ndW (ns.map Prod.fst) := by rw [rwN, Rw.count, ndCells_count]
theorem ndCells_weight : ∀ ns : List Nv, ndW (ns.map Prod.fst) ≤ 3 * ns.length + 2 * weightL (ndCells ns)
  | [] => Nat.le_refl _
  | p :: ns => by
    have := ndCells_weight ns
    rw [ndCells, weightL, weightL, weightL, weightL, rwA, Rw.weight, Rw.weight, Rw.weight, Rw.weight, List.map_cons, ndW, List.length_cons]; omega
theorem rwN_weight (v : Value) (ns : List Nv) : ndW (ns.map Prod.fst) ≤ 3 * (rwN v ns).weight ∧ ns.length ≤ (rwN v ns).weight := by
  have := ndCells_weight ns
  rw [rwN, Rw.weight]; omega
theorem ndW_append : ∀ (a b : List Nd), ndW (a ++ b) = ndW a + ndW b
  | [], b => by rw [ndW, List.nil_append, Nat.zero_add]
  | x :: a, b => by rw [List.cons_append, ndW, ndW, ndW_append a b]; omega
theorem addTok_W (b : Bd) (t : Tok) : ndW (addTok b t).1.nodes ≤ ndW b.nodes + 3 + 2 * t.attrs.length ∧ (addTok b t).1.nodes.length ≤ max 40 b.nodes.length ∧ (addTok b t).1.opn.length ≤ max 8 b.opn.length := by
  unfold addTok openB textB roomB closeB
  split
  · split
    · exact ⟨by dsimp only; omega, by dsimp only; omega, by dsimp only; omega⟩
    · split
      · exact ⟨by dsimp only; omega, by dsimp only; omega, by dsimp only; omega⟩
      · rename_i h1 h2
        simp only [Bool.and_eq_false_iff, decide_eq_false_iff_not, not_or, Decidable.not_not] at h2
        refine ⟨by simp only [ndW_append, ndW]; omega, by simp only [List.length_append, List.length_cons, List.length_nil]; omega, ?_⟩
        show (if isVoid t.name = false then b.opn ++ [(b.nodes.length : Int)] else b.opn).length ≤ _
        split
        · rename_i h3
          have : ¬ 8 ≤ b.opn.length := fun h => h1 ⟨h3, h⟩
          simp only [List.length_append, List.length_cons, List.length_nil]; omega
        · omega
  · split
    · exact ⟨by dsimp only; omega, by dsimp only; omega, by simp only [List.length_take]; omega⟩
    · split
      · split
        · exact ⟨by dsimp only; omega, by dsimp only; omega, by dsimp only; omega⟩
        · rename_i h2
          simp only [Bool.and_eq_false_iff, decide_eq_false_iff_not, not_or, Decidable.not_not] at h2
          refine ⟨by simp only [ndW_append, ndW, List.length_nil]; omega, by simp only [List.length_append, List.length_cons, List.length_nil]; omega, by dsimp only; omega⟩
      · exact ⟨by dsimp only; omega, by dsimp only; omega, by dsimp only; omega⟩
theorem BdAt.setT {B c o : Nat} {w0 w : World} {nv ov u : Value} {b : Bd} {cs : Array Value} (h : BdAt B w0 w nv ov b) (hb : w.heap[c]? = some (.cells cs 40 (0, 0))) (hB : B ≤ c) : BdAt B w0 (w.setCell ⟨c, o, none⟩ u) nv ov b := by
  obtain ⟨ns, h1, h2, h3⟩ := h
  exact ⟨ns, h1, h2.setT hb hB, mine_setT h3 hb hB⟩
end Go.Proofs.YtgcdfkpidcdicaaGreatDoor

/- Tokens and their attributes in memory: what it means that a slice value reads as a list of them, that a call owns all of it, and append to such a slice. Helper facts, no claim of its own. -/
import Derived.Test.YtgcdfkpidcdicaaGreatDoorDpTok
import Derived.Test.YtgcdfkpidcdicaaGreatDoorTok
import Derived.Test.YtgcdfkpidcdicaaGreatDoorEs
namespace Go.Proofs.YtgcdfkpidcdicaaGreatDoor
open Go.ChangeShapes Go.WideShapes Go.ChangeAt Go.RowKit

abbrev At := ByteArray × ByteArray
def encA (a : At) : List Value := [.string a.1, .string a.2]
theorem encA_len (a : At) : (encA a).length = 2 := rfl
theorem encA_one (a : At) : ∀ u ∈ encA a, u.oneCell' = true := by
  intro u hu
  simp only [encA, List.mem_cons, List.mem_nil_iff, or_false] at hu
  rcases hu with rfl | rfl <;> rfl
theorem infoAt : (Tryz.prog.info? 187).map (fun i => (i.zero, i.size, i.bytes)) = some (some (.agg #[.string ⟨#[]⟩, .string ⟨#[]⟩]), 2, 32) := by kernel_rfl
theorem infoTk : (Tryz.prog.info? 176).map (fun i => (i.zero, i.size, i.bytes)) = some (some (.agg #[.int .i64 0, .string ⟨#[]⟩, .slice none 0 0, .string ⟨#[]⟩]), 4, 64) := by kernel_rfl
theorem at_at {xs : List At} {j : Nat} (h : j < xs.length) : ∃ a b, xs[j]? = some (a, b) := ⟨xs[j].1, xs[j].2, List.getElem?_eq_getElem h⟩

def atCells : List At → List Rw
  | [] => []
  | a :: ats => .leaf (.string a.1) :: .leaf (.string a.2) :: atCells ats
/-- A slice of attributes. -/
def rwA (v : Value) (ats : List At) : Rw := .sl v ats.length 2 187 (atCells ats)
theorem rwA_cell (v : Value) (ats : List At) : (rwA v ats).cell = v := rfl
theorem atCells_map : ∀ ats : List At, (atCells ats).map Rw.cell = ats.flatMap encA
  | [] => rfl
  | a :: ats => by
    rw [atCells, List.map_cons, List.map_cons, atCells_map ats, List.flatMap_cons]; rfl
theorem atCells_len : ∀ ats : List At, (atCells ats).length = ats.length * 2
  | [] => rfl
  | a :: ats => by rw [atCells, List.length_cons, List.length_cons, atCells_len ats, List.length_cons]; omega
theorem atCells_at : ∀ {ats : List At} {j : Nat} {a : At}, ats[j]? = some a → (atCells ats)[j * 2]? = some (.leaf (.string a.1)) ∧ (atCells ats)[j * 2 + 1]? = some (.leaf (.string a.2))
  | [], j, a, h => by simp at h
  | b :: ats, 0, a, h => by
    have : b = a := by simpa using h
    subst this; exact ⟨rfl, rfl⟩
  | b :: ats, j + 1, a, h => by
    have ih := atCells_at (ats := ats) (j := j) (by simpa using h)
    rw [show (j + 1) * 2 = j * 2 + 1 + 1 by omega, atCells]
    simpa using ih
theorem atCells_leaf : ∀ {ats : List At}, ∀ c ∈ atCells ats, ∃ s, c = .leaf (.string s)
  | [], c, h => by cases h
  | a :: ats, c, h => by
    rw [atCells] at h
    rcases List.mem_cons.1 h with h | h
    · exact ⟨_, h⟩
    · rcases List.mem_cons.1 h with h | h
      · exact ⟨_, h⟩
      · exact atCells_leaf c h
theorem atCells_blocks (ats : List At) : blocksL (atCells ats) = [] := blocksL_nil fun c hc => by
  obtain ⟨s, rfl⟩ := atCells_leaf c hc
  rw [Rw.blocks]
theorem rwA_blocks (v : Value) (ats : List At) : (rwA v ats).blocks = v.ownBlock.toList := by rw [rwA, Rw.blocks, atCells_blocks, List.append_nil]
theorem rwA_is (v : Value) (ats : List At) : IsAttrS (rwA v ats) :=
  ⟨v, ats.length, _, atCells ats, rfl, fun j hj => by
    obtain ⟨a, b, h⟩ := at_at hj
    obtain ⟨h1, h2⟩ := atCells_at h
    exact ⟨a, b, h1, h2⟩⟩
theorem rwA_own {lo hi : Nat} {w : World} {v : Value} {ats : List At} (h : OwnK encA 2 187 lo hi w v ats) : (rwA v ats).OwnR lo hi w := by
  rw [rwA, Rw.OwnR]
  exact ⟨by rw [atCells_map]; exact h, ownRL_iff.2 fun c hc => by obtain ⟨s, rfl⟩ := atCells_leaf c hc; rw [Rw.OwnR]; rfl⟩
theorem rwA_reads {hi : Nat} {w : World} {v : Value} {ats : List At} (h : ReadsK encA 2 hi w v ats) : (rwA v ats).ReadR hi w := by
  rw [rwA, Rw.ReadR]
  have h0 := h
  obtain ⟨a, cap, rfl, h1, h2, h3, h4⟩ := h
  refine ⟨⟨a, cap, rfl, atCells_len ats, h1, h2, h3, ?_⟩, readRL_iff.2 fun c hc => by obtain ⟨s, rfl⟩ := atCells_leaf c hc; rw [Rw.ReadR]; rfl⟩
  rcases h4 with h4 | ⟨g, off, rfl, hg, hc⟩
  · exact Or.inl h4
  · refine Or.inr ⟨g, off, rfl, hg, fun j c hj => ?_⟩
    rw [atCells_map] at hj
    have := h0.news encA_len j c hj
    rwa [add_off] at this
theorem rwA_data (v u : Value) (ats : List At) : (rwA v ats).data = (rwA u ats).data := by rw [rwA, rwA, Rw.data, Rw.data]
theorem attrs_of_data {x : Rw} {u : Value} {ats : List At} {hi : Nat} {w : World} (h : x.data = (rwA u ats).data) (hr : x.ReadR hi w) : ReadsK encA 2 hi w x.cell ats := by
  cases x with
  | leaf v => rw [rwA, Rw.data, Rw.data] at h; cases h
  | sl v n k e cs =>
    rw [rwA, Rw.data, Rw.data] at h
    obtain ⟨rfl, hd⟩ := Dt.sl.inj h
    have hl : cs.length = ats.length * 2 := by have := congrArg List.length hd; rwa [dataL_len, dataL_len, atCells_len] at this
    rw [Rw.ReadR] at hr
    obtain ⟨⟨a, cap, rfl, h1, h2, h3, h4, h5⟩, _⟩ := hr
    have hn : n = ats.length := by omega
    subst hn
    refine ⟨a, cap, rfl, h2, h3, h4, ?_⟩
    rcases h5 with h5 | ⟨g, off, rfl, hg, hc⟩
    · exact Or.inl h5
    · refine Or.inr ⟨g, off, rfl, hg, fun j y hj i hi' => ?_⟩
      obtain ⟨k1, k2⟩ := atCells_at hj
      have hjl := (List.getElem?_eq_some_iff.1 hj).1
      have one : ∀ (m : Nat) (s : ByteArray), m < cs.length → (atCells ats)[m]? = some (.leaf (.string s)) → w.cell? ⟨g, off + m, none⟩ = some (.string s) := by
        intro m s hm hs
        obtain ⟨c, hcm⟩ : ∃ c, cs[m]? = some c := ⟨_, List.getElem?_eq_getElem hm⟩
        have e1 := leaf_of_data (data_same hd hcm hs)
        refine hc m _ ?_
        rw [List.getElem?_map, hcm, e1]; rfl
      rcases (show i = 0 ∨ i = 1 by omega) with rfl | rfl
      · exact one (j * 2) _ (by omega) k1
      · rw [Nat.add_assoc]; exact one (j * 2 + 1) _ (by omega) k2

/-- Where a slice of attributes lies. -/
abbrev Sv := Option Addr × Nat × Nat
def sv (s : Sv) : Value := .slice s.1 s.2.1 s.2.2
def svNil : Sv := (none, 0, 0)
theorem OwnK.sv {α : Type} {enc : α → List Value} {k : Nat} {e : TypeId} {lo hi : Nat} {w : World} {v : Value} {xs : List α} (h : OwnK enc k e lo hi w v xs) : ∃ s, v = sv s := by
  rcases h.1.2 with ⟨rfl, _⟩ | ⟨g, cap, cur, rfl, _⟩
  · exact ⟨svNil, rfl⟩
  · exact ⟨(_, _, _), rfl⟩
theorem ownK_nil {α : Type} (enc : α → List Value) (k : Nat) (e : TypeId) (lo hi : Nat) (w : World) : OwnK enc k e lo hi w (.slice none 0 0) [] :=
  ⟨World.ownsRow_nil _ _ _ _, fun g hg => by cases hg⟩
/-- A token and where its attributes lie. -/
abbrev Tv := Tok × Sv
def tokV (p : Tv) : Value := .agg #[.int .i64 p.1.kind, .string p.1.name, sv p.2, .string p.1.text]
def encT (p : Tv) : List Value := [.int .i64 p.1.kind, .string p.1.name, sv p.2, .string p.1.text]
theorem encT_len (p : Tv) : (encT p).length = 4 := rfl
theorem encT_one (p : Tv) : ∀ u ∈ encT p, u.oneCell' = true := by
  intro u hu
  simp only [encT, List.mem_cons, List.mem_nil_iff, or_false] at hu
  rcases hu with rfl | rfl | rfl | rfl <;> rfl
def tkCells : List Tv → List Rw
  | [] => []
  | p :: ts => .leaf (.int .i64 p.1.kind) :: .leaf (.string p.1.name) :: rwA (sv p.2) p.1.attrs :: .leaf (.string p.1.text) :: tkCells ts
/-- A slice of tokens. -/
def rwT (v : Value) (ts : List Tv) : Rw := .sl v ts.length 4 176 (tkCells ts)
theorem rwT_cell (v : Value) (ts : List Tv) : (rwT v ts).cell = v := rfl
def insB (ts : List Tv) : List Nat := ts.flatMap fun p => (sv p.2).ownBlock.toList
theorem tkCells_map : ∀ ts : List Tv, (tkCells ts).map Rw.cell = ts.flatMap encT
  | [] => rfl
  | p :: ts => by
    rw [tkCells, List.map_cons, List.map_cons, List.map_cons, List.map_cons, tkCells_map ts, List.flatMap_cons]; rfl
theorem tkCells_len : ∀ ts : List Tv, (tkCells ts).length = ts.length * 4
  | [] => rfl
  | p :: ts => by rw [tkCells, List.length_cons, List.length_cons, List.length_cons, List.length_cons, tkCells_len ts, List.length_cons]; omega
theorem tkCells_at : ∀ {ts : List Tv} {j : Nat} {p : Tv}, ts[j]? = some p → (tkCells ts)[j * 4]? = some (.leaf (.int .i64 p.1.kind)) ∧ (tkCells ts)[j * 4 + 1]? = some (.leaf (.string p.1.name)) ∧ (tkCells ts)[j * 4 + 2]? = some (rwA (sv p.2) p.1.attrs) ∧ (tkCells ts)[j * 4 + 3]? = some (.leaf (.string p.1.text))
  | [], j, p, h => by simp at h
  | q :: ts, 0, p, h => by
    have : q = p := by simpa using h
    subst this; exact ⟨rfl, rfl, rfl, rfl⟩
  | q :: ts, j + 1, p, h => by
    have ih := tkCells_at (ts := ts) (j := j) (by simpa using h)
    rw [show (j + 1) * 4 = j * 4 + 1 + 1 + 1 + 1 by omega, tkCells]
    simpa using ih
theorem tkCells_mem : ∀ {ts : List Tv}, ∀ c ∈ tkCells ts, (∃ v, c = .leaf v ∧ v.oneCell' = true) ∨ ∃ p ∈ ts, c = rwA (sv p.2) p.1.attrs
  | [], c, h => by cases h
  | p :: ts, c, h => by
    rw [tkCells] at h
    rcases List.mem_cons.1 h with h | h
    · exact Or.inl ⟨_, h, rfl⟩
    rcases List.mem_cons.1 h with h | h
    · exact Or.inl ⟨_, h, rfl⟩
    rcases List.mem_cons.1 h with h | h
    · exact Or.inr ⟨p, List.mem_cons_self, h⟩
    rcases List.mem_cons.1 h with h | h
    · exact Or.inl ⟨_, h, rfl⟩
    rcases tkCells_mem c h with h | ⟨q, hq, e⟩
    · exact Or.inl h
    · exact Or.inr ⟨q, List.mem_cons_of_mem _ hq, e⟩
theorem tkCells_blocks : ∀ ts : List Tv, blocksL (tkCells ts) = insB ts
  | [] => rfl
  | p :: ts => by
    rw [tkCells, blocksL, blocksL, blocksL, blocksL, tkCells_blocks ts, Rw.blocks, Rw.blocks, Rw.blocks, rwA_blocks, insB, insB, List.flatMap_cons]
    rfl
theorem insB_append (ts us : List Tv) : insB (ts ++ us) = insB ts ++ insB us := by unfold insB; rw [List.flatMap_append]
theorem insB_mem {ts : List Tv} {b : Nat} : b ∈ insB ts ↔ ∃ p ∈ ts, (sv p.2).ownBlock = some b := by
  unfold insB
  rw [List.mem_flatMap]
  constructor
  · rintro ⟨p, hp, hb⟩
    exact ⟨p, hp, by simpa using hb⟩
  · rintro ⟨p, hp, hb⟩
    exact ⟨p, hp, by simpa using hb⟩
theorem rwT_is (v : Value) (ts : List Tv) : IsTokenS (rwT v ts) :=
  ⟨v, ts.length, _, tkCells ts, rfl, fun j hj => by
    obtain ⟨p, h⟩ : ∃ p, ts[j]? = some p := ⟨_, List.getElem?_eq_getElem hj⟩
    obtain ⟨h1, h2, h3, h4⟩ := tkCells_at h
    exact ⟨_, _, _, _, h1, h2, h3, rwA_is _ _, h4⟩⟩
theorem tkCells_data : ∀ {ts us : List Tv}, ts.map Prod.fst = us.map Prod.fst → dataL (tkCells ts) = dataL (tkCells us)
  | [], [], _ => rfl
  | [], u :: us, h => by simp at h
  | t :: ts, [], h => by simp at h
  | t :: ts, u :: us, h => by
    rw [List.map_cons, List.map_cons] at h
    obtain ⟨h1, h2⟩ := List.cons.inj h
    rw [tkCells, tkCells, dataL, dataL, dataL, dataL, dataL, dataL, dataL, dataL, tkCells_data h2, h1, rwA_data]
theorem rwT_data (v u : Value) {ts us : List Tv} (h : ts.map Prod.fst = us.map Prod.fst) : (rwT v ts).data = (rwT u us).data := by
  rw [rwT, rwT, Rw.data, Rw.data, tkCells_data h]
theorem rwT_count {ts us : List Tv} (h : ts.map Prod.fst = us.map Prod.fst) : ts.length = us.length := by
  have := congrArg List.length h
  simpa using this
theorem rows_ne {w : World} {B B' k k' n n' : Nat} {e e' : TypeId} {v v' : Value} {xs xs' : List Value} (h : w.ownsRow B e k v n xs) (h' : w.ownsRow B' e' k' v' n' xs') (hne : e ≠ e') {g : Nat} (hv : v.ownBlock = some g) : v'.ownBlock ≠ some g := by
  intro hv'
  rcases h.2 with ⟨rfl, _⟩ | ⟨a, cap, cur, rfl, _, h1, _⟩
  · cases hv
  · rcases h'.2 with ⟨rfl, _⟩ | ⟨b, cap', cur', rfl, _, h2, _⟩
    · cases hv'
    · have e1 : a = g := Option.some.inj hv
      have e2 : b = g := Option.some.inj hv'
      subst e1; subst e2
      rw [h1] at h2
      injection h2 with h3
      injection h3 with _ h4 _
      exact hne h4
theorem tk_ne_at : 176 ≠ 187 := by decide

/-- A slice of tokens of the call's own, with all that they hold, in blocks from B on, while of what lay below B nothing was written. -/
structure MineT (B : Nat) (w0 w : World) (v : Value) (ts : List Tv) : Prop where
  row : MineK encT 4 176 B w0 w v ts
  inn : ∀ p ∈ ts, OwnK encA 2 187 B w.heap.size w (sv p.2) p.1.attrs
  nod : (insB ts).Nodup
theorem MineT.own {B : Nat} {w0 w : World} {v : Value} {ts : List Tv} (h : MineT B w0 w v ts) : (rwT v ts).OwnR B w.heap.size w := by
  rw [rwT, Rw.OwnR]
  refine ⟨⟨by rw [tkCells_map]; exact h.row.row, fun g hg => (h.row.row.lt g hg).2⟩, ownRL_iff.2 fun c hc => ?_⟩
  rcases tkCells_mem c hc with ⟨u, rfl, hu⟩ | ⟨p, hp, rfl⟩
  · rw [Rw.OwnR]; exact hu
  · exact rwA_own (h.inn p hp)
theorem MineT.nodup {B : Nat} {w0 w : World} {v : Value} {ts : List Tv} (h : MineT B w0 w v ts) : (rwT v ts).blocks.Nodup := by
  rw [rwT, Rw.blocks, tkCells_blocks]
  cases hv : v.ownBlock with
  | none => exact h.nod
  | some g =>
    refine List.nodup_cons.2 ⟨fun hg => ?_, h.nod⟩
    obtain ⟨p, hp, hb⟩ := insB_mem.1 hg
    exact rows_ne h.row.row (h.inn p hp).1 tk_ne_at hv hb
theorem MineT.later {B : Nat} {w0 w w' : World} {v : Value} {ts : List Tv} (h : MineT B w0 w v ts) (hb : Below w.heap.size w w') : MineT B w0 w' v ts :=
  ⟨h.row.later hb, fun p hp => ((h.inn p hp).later hb).mono (Nat.le_refl _) hb.size, h.nod⟩
theorem MineT.empty (w0 w : World) (B : Nat) (hb : Below B w0 w) (hB : B ≤ w.heap.size) : MineT B w0 (w.alloc (.cells #[] 176)) (.slice (some ⟨w.heap.size, 0, none⟩) 0 0) [] :=
  ⟨MineK.empty _ _ _ _ _ _ hb hB, fun p hp => (by cases hp), List.nodup_nil⟩
theorem MineT.lt {B : Nat} {w0 w : World} {v : Value} {ts : List Tv} (h : MineT B w0 w v ts) : ∀ b ∈ insB ts, B ≤ b ∧ b < w.heap.size := by
  intro b hb
  obtain ⟨p, hp, e⟩ := insB_mem.1 hb
  exact ⟨((h.inn p hp).1.lt b e).1, ((h.inn p hp).1.lt b e).2⟩
/-- One token in a new block: what append takes. -/
theorem readsT_one (w : World) (p : Tv) {k : Int} {nm tx : ByteArray} {u : Value} (h1 : p.1.kind = k) (h2 : p.1.name = nm) (h3 : sv p.2 = u) (h4 : p.1.text = tx) :
    ReadsK encT 4 (w.heap.size + 1) (w.alloc (.cells #[.int .i64 k, .string nm, u, .string tx] 176)) (.slice (some ⟨w.heap.size, 0, none⟩) 1 1) [p] := by
  subst h1; subst h2; subst h3; subst h4
  refine ⟨_, 1, rfl, by simp, by omega, (fun h => by cases h), Or.inr ⟨_, 0, rfl, by omega, fun j y hy i hi' => ?_⟩⟩
  have hj : j = 0 := by have := (List.getElem?_eq_some_iff.1 hy).1; simp at this; omega
  subst hj
  simp only [List.getElem?_cons_zero, Option.some.injEq] at hy
  subst hy
  rcases (show i = 0 ∨ i = 1 ∨ i = 2 ∨ i = 3 by omega) with rfl | rfl | rfl | rfl <;> simp [encT]
/-- append to such a slice, of whatever reads as tokens whose attributes the call owns. -/
theorem wpList_appT {w : World} {ops : Array Oper} {rest : List Oper} {o : Oper} {a : Act} {Q : Exit → Act → World → Prop} (hgd : o.guard = none) (s x : Operand)
    (ho : o.op = .call { callee := .builtin .append, args := #[s, x], argTypes := #[210, 210] })
    (B : Nat) (w0 : World) (v : Value) (ts : List Tv) (hs : a.eval s = v) (hM : MineT B w0 w v ts) (vx : Value) (top : Nat) (us : List Tv) (hx : a.eval x = vx) (hr : ReadsK encT 4 top w vx us)
    (hin : ∀ p ∈ us, OwnK encA 2 187 B w.heap.size w (sv p.2) p.1.attrs) (hnd : (insB ts ++ insB us).Nodup)
    (hlen : ts.length + us.length ≤ 137438953472)
    (h : ∀ v' w', MineT B w0 w' v' (ts ++ us) → wpList Tryz.prog ops Q rest (a.put o.dst v') w') : wpList Tryz.prog ops Q (o :: rest) a w := by
  obtain ⟨i, hi, hz, hsize, hby⟩ := info_parts infoTk
  obtain ⟨ad, cap, rfl, h1, h2, h3, h4⟩ := id hr
  cases ad with
  | none =>
    obtain ⟨rfl, _, rfl⟩ := hr.nil
    refine wpList_append_own_none hgd s x _ ho B _ i 4 Tryz.underlying210 hi v ts.length _ hs hM.row.row hx ?_
    exact h v w (by simpa using hM)
  | some ad =>
    refine wpList_append_own _ hgd s x _ ho B _ i _ 4 64 Tryz.underlying210 hi hz hsize hby (by rfl) (by decide) v ts.length _ hs hM.row.row ad us.length cap (us.flatMap encT) hx (flat_len encT_len us) (hr.news encT_len) ?_ ?_ ?_ hM.row.size ?_
    · intro u hu
      obtain ⟨y, _, hy⟩ := List.mem_flatMap.1 hu
      exact encT_one y u hy
    · unfold maxLen; omega
    · have : (ts.length + us.length) * 64 ≤ (ts.length + us.length) * 1024 := Nat.mul_le_mul_left _ (by omega)
      omega
    · intro v' w' hown hgr hn
      refine h v' w' ⟨hM.row.grow hown hgr, fun p hp => ?_, by rw [insB_append]; exact hnd⟩
      have hall : OwnK encA 2 187 B w.heap.size w (sv p.2) p.1.attrs := by
        rcases List.mem_append.1 hp with h | h
        · exact hM.inn p h
        · exact hin p h
      refine ⟨hall.1.kept hgr ?_, fun g hg => Nat.lt_of_lt_of_le (hall.2 g hg) hgr.size⟩
      cases hv : (sv p.2).ownBlock with
      | none => exact Or.inl rfl
      | some g =>
        right
        intro e
        exact rows_ne hM.row.row hall.1 tk_ne_at e.symm hv
theorem readsT_of {hi : Nat} {w : World} {v : Value} {B : Nat} {w0 : World} {ts : List Tv} (h : MineT B w0 w v ts) (hh : w.heap.size ≤ hi) : ReadsK encT 4 hi w v ts := (h.row.own.reads encT_len).mono hh
end Go.Proofs.YtgcdfkpidcdicaaGreatDoor

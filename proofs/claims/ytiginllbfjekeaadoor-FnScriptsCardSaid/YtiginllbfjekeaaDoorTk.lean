/- Tokens and their attributes in memory: what it means that a slice value reads as a list of them, that a call owns all of it, and append to such a slice. Helper facts, no claim of its own. -/
import Derived.Test.YtiginllbfjekeaaDoorDpTok
import Derived.Test.YtiginllbfjekeaaDoorTok
namespace Go.Proofs.YtiginllbfjekeaaDoor
open Go.ChangeShapes Go.WideShapes Go.ChangeAt Go.RowKit

abbrev At := ByteArray × ByteArray
def encA (a : At) : List Value := [.string a.1, .string a.2]
theorem encA_len (a : At) : (encA a).length = 2 := rfl
theorem encA_one (a : At) : ∀ u ∈ encA a, u.oneCell' = true := by
  intro u hu
  simp only [encA, List.mem_cons, List.mem_nil_iff, or_false] at hu
  rcases hu with rfl | rfl <;> rfl
def encS (s : ByteArray) : List Value := [.string s]
theorem encS_len (s : ByteArray) : (encS s).length = 1 := rfl
theorem encS_one (s : ByteArray) : ∀ u ∈ encS s, u.oneCell' = true := by
  intro u hu
  simp only [encS, List.mem_cons, List.mem_nil_iff, or_false] at hu
  subst hu; rfl
theorem infoAt : (Tryd.prog.info? 158).map (fun i => (i.zero, i.size, i.bytes)) = some (some (.agg #[.string ⟨#[]⟩, .string ⟨#[]⟩]), 2, 32) := by kernel_rfl
theorem infoStr : (Tryd.prog.info? 9).map (fun i => (i.zero, i.size, i.bytes)) = some (some (.string ⟨#[]⟩), 1, 16) := by kernel_rfl
/-- A new slice of these elements, the call's own; of what lay in memory nothing is written. -/
def NewK {α : Type} (enc : α → List Value) (k : Nat) (e : TypeId) (xs : List α) (w : World) (en : Ending) (w' : World) : Prop :=
  ∃ v, en = .returned v ∧ OwnK enc k e w.heap.size w'.heap.size w' v xs ∧ Below w.heap.size w w'
theorem at_at {xs : List At} {j : Nat} (h : j < xs.length) : ∃ a b, xs[j]? = some (a, b) := ⟨xs[j].1, xs[j].2, List.getElem?_eq_getElem h⟩
theorem add_off (g off t : Nat) : (⟨g, off, none⟩ : Addr).add t = ⟨g, off + t, none⟩ := by unfold Addr.add; split <;> simp_all

def atCells : List At → List Rw
  | [] => []
  | a :: ats => .leaf (.string a.1) :: .leaf (.string a.2) :: atCells ats
/-- A slice of attributes. -/
def rwA (v : Value) (ats : List At) : Rw := .sl v ats.length 2 158 (atCells ats)
theorem rwA_cell (v : Value) (ats : List At) : (rwA v ats).cell = v := rfl
theorem atCells_map : ∀ ats : List At, (atCells ats).map Rw.cell = ats.flatMap encA
  | [] => rfl
  | a :: ats => by
    rw [atCells, List.map_cons, List.map_cons, atCells_map ats, List.flatMap_cons]; rfl
theorem atCells_len : ∀ ats : List At, (atCells ats).length = ats.length * 2
  | [] => rfl
  | a :: ats => by rw [atCells, List.length_cons, List.length_cons, atCells_len ats, List.length_cons]; omega
theorem atCells_at : ∀ {ats : List At} {j : Nat} {a : At}, ats[j]? = some a → (atCells ats)[j * 2]? = some (.leaf (.string a.1)) ∧ (atCells ats)[j * 2 + 1]? = some (.leaf (.string a.2))
  | [], j, a, h => by simp at h
  | b :: ats, 0, a, h => by
    have : b = a := by simpa using h
    subst this; exact ⟨rfl, rfl⟩
  | b :: ats, j + 1, a, h => by
    have ih := atCells_at (ats := ats) (j := j) (by simpa using h)
    rw [show (j + 1) * 2 = j * 2 + 1 + 1 by omega, atCells]
    simpa using ih
theorem atCells_leaf : ∀ {ats : List At}, ∀ c ∈ atCells ats, ∃ s, c = .leaf (.string s)
  | [], c, h => by cases h
  | a :: ats, c, h => by
    rw [atCells] at h
    rcases List.mem_cons.1 h with h | h
    · exact ⟨_, h⟩
    · rcases List.mem_cons.1 h with h | h
      · exact ⟨_, h⟩
      · exact atCells_leaf c h
theorem atCells_blocks (ats : List At) : blocksL (atCells ats) = [] := blocksL_nil fun c hc => by
  obtain ⟨s, rfl⟩ := atCells_leaf c hc
  rw [Rw.blocks]
theorem rwA_blocks (v : Value) (ats : List At) : (rwA v ats).blocks = v.ownBlock.toList := by rw [rwA, Rw.blocks, atCells_blocks, List.append_nil]
theorem rwA_is (v : Value) (ats : List At) : IsAttrS (rwA v ats) :=
  ⟨v, ats.length, _, atCells ats, rfl, fun j hj => by
    obtain ⟨a, b, h⟩ := at_at hj
    obtain ⟨h1, h2⟩ := atCells_at h
    exact ⟨a, b, h1, h2⟩⟩
theorem rwA_own {lo hi : Nat} {w : World} {v : Value} {ats : List At} (h : OwnK encA 2 158 lo hi w v ats) : (rwA v ats).OwnR lo hi w := by
  rw [rwA, Rw.OwnR]
  exact ⟨by rw [atCells_map]; exact h, ownRL_iff.2 fun c hc => by obtain ⟨s, rfl⟩ := atCells_leaf c hc; rw [Rw.OwnR]; rfl⟩
theorem rwA_reads {hi : Nat} {w : World} {v : Value} {ats : List At} (h : ReadsK encA 2 hi w v ats) : (rwA v ats).ReadR hi w := by
  rw [rwA, Rw.ReadR]
  have h0 := h
  obtain ⟨a, cap, rfl, h1, h2, h3, h4⟩ := h
  refine ⟨⟨a, cap, rfl, atCells_len ats, h1, h2, h3, ?_⟩, readRL_iff.2 fun c hc => by obtain ⟨s, rfl⟩ := atCells_leaf c hc; rw [Rw.ReadR]; rfl⟩
  rcases h4 with h4 | ⟨g, off, rfl, hg, hc⟩
  · exact Or.inl h4
  · refine Or.inr ⟨g, off, rfl, hg, fun j c hj => ?_⟩
    rw [atCells_map] at hj
    have := h0.news encA_len j c hj
    rwa [add_off] at this
theorem rwA_data (v u : Value) (ats : List At) : (rwA v ats).data = (rwA u ats).data := by rw [rwA, rwA, Rw.data, Rw.data]
theorem leaf_of_data {c : Rw} {v : Value} (h : c.data = (Rw.leaf v).data) : c = .leaf v := by
  cases c with
  | leaf u => rw [leaf_same h]
  | sl u n k e cs => rw [Rw.data, Rw.data] at h; cases h
theorem attrs_of_data {x : Rw} {u : Value} {ats : List At} {hi : Nat} {w : World} (h : x.data = (rwA u ats).data) (hr : x.ReadR hi w) : ReadsK encA 2 hi w x.cell ats := by
  cases x with
  | leaf v => rw [rwA, Rw.data, Rw.data] at h; cases h
  | sl v n k e cs =>
    rw [rwA, Rw.data, Rw.data] at h
    obtain ⟨rfl, hd⟩ := Dt.sl.inj h
    have hl : cs.length = ats.length * 2 := by have := congrArg List.length hd; rwa [dataL_len, dataL_len, atCells_len] at this
    rw [Rw.ReadR] at hr
    obtain ⟨⟨a, cap, rfl, h1, h2, h3, h4, h5⟩, _⟩ := hr
    have hn : n = ats.length := by omega
    subst hn
    refine ⟨a, cap, rfl, h2, h3, h4, ?_⟩
    rcases h5 with h5 | ⟨g, off, rfl, hg, hc⟩
    · exact Or.inl h5
    · refine Or.inr ⟨g, off, rfl, hg, fun j y hj i hi' => ?_⟩
      obtain ⟨k1, k2⟩ := atCells_at hj
      have hjl := (List.getElem?_eq_some_iff.1 hj).1
      have one : ∀ (m : Nat) (s : ByteArray), m < cs.length → (atCells ats)[m]? = some (.leaf (.string s)) → w.cell? ⟨g, off + m, none⟩ = some (.string s) := by
        intro m s hm hs
        obtain ⟨c, hcm⟩ : ∃ c, cs[m]? = some c := ⟨_, List.getElem?_eq_getElem hm⟩
        have e1 := leaf_of_data (data_same hd hcm hs)
        refine hc m _ ?_
        rw [List.getElem?_map, hcm, e1]; rfl
      rcases (show i = 0 ∨ i = 1 by omega) with rfl | rfl
      · exact one (j * 2) _ (by omega) k1
      · rw [Nat.add_assoc]; exact one (j * 2 + 1) _ (by omega) k2

/-- Where a slice of attributes lies. -/
abbrev Sv := Option Addr × Nat × Nat
def sv (s : Sv) : Value := .slice s.1 s.2.1 s.2.2
def svNil : Sv := (none, 0, 0)
theorem OwnK.sv {α : Type} {enc : α → List Value} {k : Nat} {e : TypeId} {lo hi : Nat} {w : World} {v : Value} {xs : List α} (h : OwnK enc k e lo hi w v xs) : ∃ s, v = sv s := by
  rcases h.1.2 with ⟨rfl, _⟩ | ⟨g, cap, cur, rfl, _⟩
  · exact ⟨svNil, rfl⟩
  · exact ⟨(_, _, _), rfl⟩
theorem ownK_nil {α : Type} (enc : α → List Value) (k : Nat) (e : TypeId) (lo hi : Nat) (w : World) : OwnK enc k e lo hi w (.slice none 0 0) [] :=
  ⟨World.ownsRow_nil _ _ _ _, fun g hg => by cases hg⟩
/-- A token and where its attributes lie. -/
abbrev Tv := Tok × Sv
def tokV (p : Tv) : Value := .agg #[.int .i64 p.1.kind, .string p.1.name, sv p.2, .string p.1.text]
def encT (p : Tv) : List Value := [.int .i64 p.1.kind, .string p.1.name, sv p.2, .string p.1.text]
theorem encT_len (p : Tv) : (encT p).length = 4 := rfl
theorem encT_one (p : Tv) : ∀ u ∈ encT p, u.oneCell' = true := by
  intro u hu
  simp only [encT, List.mem_cons, List.mem_nil_iff, or_false] at hu
  rcases hu with rfl | rfl | rfl | rfl <;> rfl
def tkCells : List Tv → List Rw
  | [] => []
  | p :: ts => .leaf (.int .i64 p.1.kind) :: .leaf (.string p.1.name) :: rwA (sv p.2) p.1.attrs :: .leaf (.string p.1.text) :: tkCells ts
def insB (ts : List Tv) : List Nat := ts.flatMap fun p => (sv p.2).ownBlock.toList
theorem tkCells_map : ∀ ts : List Tv, (tkCells ts).map Rw.cell = ts.flatMap encT
  | [] => rfl
  | p :: ts => by
    rw [tkCells, List.map_cons, List.map_cons, List.map_cons, List.map_cons, tkCells_map ts, List.flatMap_cons]; rfl
theorem tkCells_len : ∀ ts : List Tv, (tkCells ts).length = ts.length * 4
  | [] => rfl
  | p :: ts => by rw [tkCells, List.length_cons, List.length_cons, List.length_cons, List.length_cons, tkCells_len ts, List.length_cons]; omega
theorem tkCells_at : ∀ {ts : List Tv} {j : Nat} {p : Tv}, ts[j]? = some p → (tkCells ts)[j * 4]? = some (.leaf (.int .i64 p.1.kind)) ∧ (tkCells ts)[j * 4 + 1]? = some (.leaf (.string p.1.name)) ∧ (tkCells ts)[j * 4 + 2]? = some (rwA (sv p.2) p.1.attrs) ∧ (tkCells ts)[j * 4 + 3]? = some (.leaf (.string p.1.text))
  | [], j, p, h => by simp at h
  | q :: ts, 0, p, h => by
    have : q = p := by simpa using h
    subst this; exact ⟨rfl, rfl, rfl, rfl⟩
  | q :: ts, j + 1, p, h => by
    have ih := tkCells_at (ts := ts) (j := j) (by simpa using h)
    rw [show (j + 1) * 4 = j * 4 + 1 + 1 + 1 + 1 by omega, tkCells]
    simpa using ih
theorem tkCells_mem : ∀ {ts : List Tv}, ∀ c ∈ tkCells ts, (∃ v, c = .leaf v ∧ v.oneCell' = true) ∨ ∃ p ∈ ts, c = rwA (sv p.2) p.1.attrs
  | [], c, h => by cases h
  | p :: ts, c, h => by
    rw [tkCells] at h
    rcases List.mem_cons.1 h with h | h
    · exact Or.inl ⟨_, h, rfl⟩
    rcases List.mem_cons.1 h with h | h
    · exact Or.inl ⟨_, h, rfl⟩
    rcases List.mem_cons.1 h with h | h
    · exact Or.inr ⟨p, List.mem_cons_self, h⟩
    rcases List.mem_cons.1 h with h | h
    · exact Or.inl ⟨_, h, rfl⟩
    rcases tkCells_mem c h with h | ⟨q, hq, e⟩
    · exact Or.inl h
    · exact Or.inr ⟨q, List.mem_cons_of_mem _ hq, e⟩
theorem tkCells_blocks : ∀ ts : List Tv, blocksL (tkCells ts) = insB ts
  | [] => rfl
  | p :: ts => by
    rw [tkCells, blocksL, blocksL, blocksL, blocksL, tkCells_blocks ts, Rw.blocks, Rw.blocks, Rw.blocks, rwA_blocks, insB, insB, List.flatMap_cons]
    rfl
theorem insB_append (ts us : List Tv) : insB (ts ++ us) = insB ts ++ insB us := by unfold insB; rw [List.flatMap_append]
theorem insB_mem {ts : List Tv} {b : Nat} : b ∈ insB ts ↔ ∃ p ∈ ts, (sv p.2).ownBlock = some b := by
  unfold insB
  rw [List.mem_flatMap]
  constructor
  · rintro ⟨p, hp, hb⟩
    exact ⟨p, hp, by simpa using hb⟩
  · rintro ⟨p, hp, hb⟩
    exact ⟨p, hp, by simpa using hb⟩
theorem tkCells_data : ∀ {ts us : List Tv}, ts.map Prod.fst = us.map Prod.fst → dataL (tkCells ts) = dataL (tkCells us)
  | [], [], _ => rfl
  | [], u :: us, h => by simp at h
  | t :: ts, [], h => by simp at h
  | t :: ts, u :: us, h => by
    rw [List.map_cons, List.map_cons] at h
    obtain ⟨h1, h2⟩ := List.cons.inj h
    rw [tkCells, tkCells, dataL, dataL, dataL, dataL, dataL, dataL, dataL, dataL, tkCells_data h2, h1, rwA_data]
theorem rwT_count {ts us : List Tv} (h : ts.map Prod.fst = us.map Prod.fst) : ts.length = us.length := by
  have := congrArg List.length h
  simpa using this
theorem rows_ne {w : World} {B B' k k' n n' : Nat} {e e' : TypeId} {v v' : Value} {xs xs' : List Value} (h : w.ownsRow B e k v n xs) (h' : w.ownsRow B' e' k' v' n' xs') (hne : e ≠ e') {g : Nat} (hv : v.ownBlock = some g) : v'.ownBlock ≠ some g := by
  intro hv'
  rcases h.2 with ⟨rfl, _⟩ | ⟨a, cap, cur, rfl, _, h1, _⟩
  · cases hv
  · rcases h'.2 with ⟨rfl, _⟩ | ⟨b, cap', cur', rfl, _, h2, _⟩
    · cases hv'
    · have e1 : a = g := Option.some.inj hv
      have e2 : b = g := Option.some.inj hv'
      subst e1; subst e2
      rw [h1] at h2
      injection h2 with h3
      injection h3 with _ h4 _
      exact hne h4
end Go.Proofs.YtiginllbfjekeaaDoor

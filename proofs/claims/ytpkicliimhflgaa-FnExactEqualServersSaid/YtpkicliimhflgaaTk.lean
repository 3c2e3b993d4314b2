/- Tokens and their attributes in memory: what it means that a slice value reads as a list of them, that a call owns all of it, and append to such a slice. Helper facts, no claim of its own. -/
import Derived.Test.YtpkicliimhflgaaDpTok
import Derived.Test.YtpkicliimhflgaaTok
import Derived.Test.YtpkicliimhflgaaEs
namespace Go.Proofs.Ytpkicliimhflgaa
open Go.ChangeShapes Go.WideShapes Go.ChangeAt Go.RowKit

abbrev At := ByteArray × ByteArray
def encA (a : At) : List Value := [.string a.1, .string a.2]
theorem encA_len (a : At) : (encA a).length = 2 := rfl
theorem encA_one (a : At) : ∀ u ∈ encA a, u.oneCell' = true := by
  intro u hu
  simp only [encA, List.mem_cons, List.mem_nil_iff, or_false] at hu
  rcases hu with rfl | rfl <;> rfl
theorem at_at {xs : List At} {j : Nat} (h : j < xs.length) : ∃ a b, xs[j]? = some (a, b) := ⟨xs[j].1, xs[j].2, List.getElem?_eq_getElem h⟩

def atCells : List At → List Rw
  | [] => []
  | a :: ats => .leaf (.string a.1) :: .leaf (.string a.2) :: atCells ats
theorem atCells_map : ∀ ats : List At, (atCells ats).map Rw.cell = ats.flatMap encA
  | [] => rfl
  | a :: ats => by
    rw [atCells, List.map_cons, List.map_cons, atCells_map ats, List.flatMap_cons]; rfl
theorem atCells_len : ∀ ats : List At, (atCells ats).length = ats.length * 2
  | [] => rfl
  | a :: ats => by rw [atCells, List.length_cons, List.length_cons, atCells_len ats, List.length_cons]; omega
theorem atCells_at : ∀ {ats : List At} {j : Nat} {a : At}, ats[j]? = some a → (atCells ats)[j * 2]? = some (.leaf (.string a.1)) ∧ (atCells ats)[j * 2 + 1]? = some (.leaf (.string a.2))
  | [], j, a, h => by simp at h
  | b :: ats, 0, a, h => by
    have : b = a := by simpa using h
    subst this; exact ⟨rfl, rfl⟩
  | b :: ats, j + 1, a, h => by
    have ih := atCells_at (ats := ats) (j := j) (by simpa using h)
    rw [show (j + 1) * 2 = j * 2 + 1 + 1 by omega, atCells]
    simpa using ih
theorem atCells_leaf : ∀ {ats : List At}, ∀ c ∈ atCells ats, ∃ s, c = .leaf (.string s)
  | [], c, h => by cases h
  | a :: ats, c, h => by
    rw [atCells] at h
    rcases List.mem_cons.1 h with h | h
    · exact ⟨_, h⟩
    · rcases List.mem_cons.1 h with h | h
      · exact ⟨_, h⟩
      · exact atCells_leaf c h
theorem atCells_blocks (ats : List At) : blocksL (atCells ats) = [] := blocksL_nil fun c hc => by
  obtain ⟨s, rfl⟩ := atCells_leaf c hc
  rw [Rw.blocks]
/-- Where a slice of attributes lies. -/
abbrev Sv := Option Addr × Nat × Nat
def sv (s : Sv) : Value := .slice s.1 s.2.1 s.2.2
def svNil : Sv := (none, 0, 0)
theorem OwnK.sv {α : Type} {enc : α → List Value} {k : Nat} {e : TypeId} {lo hi : Nat} {w : World} {v : Value} {xs : List α} (h : OwnK enc k e lo hi w v xs) : ∃ s, v = sv s := by
  rcases h.1.2 with ⟨rfl, _⟩ | ⟨g, cap, cur, rfl, _⟩
  · exact ⟨svNil, rfl⟩
  · exact ⟨(_, _, _), rfl⟩
theorem ownK_nil {α : Type} (enc : α → List Value) (k : Nat) (e : TypeId) (lo hi : Nat) (w : World) : OwnK enc k e lo hi w (.slice none 0 0) [] :=
  ⟨World.ownsRow_nil _ _ _ _, fun g hg => by cases hg⟩
/-- A token and where its attributes lie. -/
abbrev Tv := Tok × Sv
def tokV (p : Tv) : Value := .agg #[.int .i64 p.1.kind, .string p.1.name, sv p.2, .string p.1.text]
def encT (p : Tv) : List Value := [.int .i64 p.1.kind, .string p.1.name, sv p.2, .string p.1.text]
theorem encT_len (p : Tv) : (encT p).length = 4 := rfl
theorem encT_one (p : Tv) : ∀ u ∈ encT p, u.oneCell' = true := by
  intro u hu
  simp only [encT, List.mem_cons, List.mem_nil_iff, or_false] at hu
  rcases hu with rfl | rfl | rfl | rfl <;> rfl
def insB (ts : List Tv) : List Nat := ts.flatMap fun p => (sv p.2).ownBlock.toList
theorem insB_append (ts us : List Tv) : insB (ts ++ us) = insB ts ++ insB us := by unfold insB; rw [List.flatMap_append]
theorem insB_mem {ts : List Tv} {b : Nat} : b ∈ insB ts ↔ ∃ p ∈ ts, (sv p.2).ownBlock = some b := by
  unfold insB
  rw [List.mem_flatMap]
  constructor
  · rintro ⟨p, hp, hb⟩
    exact ⟨p, hp, by simpa using hb⟩
  · rintro ⟨p, hp, hb⟩
    exact ⟨p, hp, by simpa using hb⟩
theorem rwT_count {ts us : List Tv} (h : ts.map Prod.fst = us.map Prod.fst) : ts.length = us.length := by
  have := congrArg List.length h
  simpa using this
theorem rows_ne {w : World} {B B' k k' n n' : Nat} {e e' : TypeId} {v v' : Value} {xs xs' : List Value} (h : w.ownsRow B e k v n xs) (h' : w.ownsRow B' e' k' v' n' xs') (hne : e ≠ e') {g : Nat} (hv : v.ownBlock = some g) : v'.ownBlock ≠ some g := by
  intro hv'
  rcases h.2 with ⟨rfl, _⟩ | ⟨a, cap, cur, rfl, _, h1, _⟩
  · cases hv
  · rcases h'.2 with ⟨rfl, _⟩ | ⟨b, cap', cur', rfl, _, h2, _⟩
    · cases hv'
    · have e1 : a = g := Option.some.inj hv
      have e2 : b = g := Option.some.inj hv'
      subst e1; subst e2
      rw [h1] at h2
      injection h2 with h3
      injection h3 with _ h4 _
      exact hne h4
end Go.Proofs.Ytpkicliimhflgaa

/- Nodes and their attributes in memory: what it means that a slice value reads as a list of them, that a call owns all of it, and append to such a slice. Helper facts, no claim of its own. -/
import Derived.Test.YtpkicliimhflgaaDpBd
import Derived.Test.YtpkicliimhflgaaTk
import Derived.Test.YtpkicliimhflgaaBd
namespace Go.Proofs.Ytpkicliimhflgaa
open Go.ChangeShapes Go.WideShapes Go.ChangeAt Go.RowKit

abbrev Nv := Nd × Sv
def ndV (p : Nv) : Value := .agg #[.string p.1.name, .string p.1.text, .int .i64 p.1.parent, sv p.2]
def encN (p : Nv) : List Value := [.string p.1.name, .string p.1.text, .int .i64 p.1.parent, sv p.2]
theorem encN_len (p : Nv) : (encN p).length = 4 := rfl
theorem encN_one (p : Nv) : ∀ u ∈ encN p, u.oneCell' = true := by
  intro u hu
  simp only [encN, List.mem_cons, List.mem_nil_iff, or_false] at hu
  rcases hu with rfl | rfl | rfl | rfl <;> rfl
def insN (ts : List Nv) : List Nat := ts.flatMap fun p => (sv p.2).ownBlock.toList
theorem insN_append (ts us : List Nv) : insN (ts ++ us) = insN ts ++ insN us := by unfold insN; rw [List.flatMap_append]
theorem insN_mem {ts : List Nv} {b : Nat} : b ∈ insN ts ↔ ∃ p ∈ ts, (sv p.2).ownBlock = some b := by
  unfold insN
  rw [List.mem_flatMap]
  constructor
  · rintro ⟨p, hp, hb⟩
    exact ⟨p, hp, by simpa using hb⟩
  · rintro ⟨p, hp, hb⟩
    exact ⟨p, hp, by simpa using hb⟩
theorem rwN_count {ts us : List Nv} (h : ts.map Prod.fst = us.map Prod.fst) : ts.length = us.length := by
  have := congrArg List.length h
  simpa using this
/-- It reads so, with all that the nodes hold. -/
def ReadN (hi : Nat) (w : World) (v : Value) (ns : List Nv) : Prop := ReadsK encN 4 hi w v ns ∧ ∀ p ∈ ns, ReadsK encA 2 hi w (sv p.2) p.1.attrs
theorem ReadN.below {hi B : Nat} {w w' : World} {v : Value} {ns : List Nv} (h : ReadN hi w v ns) (hb : Below B w w') (hB : hi ≤ B) : ReadN hi w' v ns :=
  ⟨h.1.below hb hB, fun p hp => (h.2 p hp).below hb hB⟩
theorem ReadN.mono {hi hi' : Nat} {w : World} {v : Value} {ns : List Nv} (h : ReadN hi w v ns) (hh : hi ≤ hi') : ReadN hi' w v ns :=
  ⟨h.1.mono hh, fun p hp => (h.2 p hp).mono hh⟩
/-- The same for tokens. -/
def ReadT (hi : Nat) (w : World) (v : Value) (ts : List Tv) : Prop := ReadsK encT 4 hi w v ts ∧ ∀ p ∈ ts, ReadsK encA 2 hi w (sv p.2) p.1.attrs
theorem ReadT.below {hi B : Nat} {w w' : World} {v : Value} {ns : List Tv} (h : ReadT hi w v ns) (hb : Below B w w') (hB : hi ≤ B) : ReadT hi w' v ns :=
  ⟨h.1.below hb hB, fun p hp => (h.2 p hp).below hb hB⟩
theorem ReadT.mono {hi hi' : Nat} {w : World} {v : Value} {ns : List Tv} (h : ReadT hi w v ns) (hh : hi ≤ hi') : ReadT hi' w v ns :=
  ⟨h.1.mono hh, fun p hp => (h.2 p hp).mono hh⟩
/-- What is owned lies in no block of another type. -/
theorem ownK_setT {α : Type} {enc : α → List Value} {k : Nat} {e T : TypeId} {lo hi b o : Nat} {w : World} {v u : Value} {xs : List α} {cs : Array Value} (h : OwnK enc k e lo hi w v xs) (hb : w.heap[b]? = some (.cells cs T (0, 0))) (hne : e ≠ T) : OwnK enc k e lo hi (w.setCell ⟨b, o, none⟩ u) v xs := by
  refine ⟨⟨h.1.1, ?_⟩, h.2⟩
  rcases h.1.2 with h1 | ⟨g, cap, cur, h1, h2, h3, h4⟩
  · exact Or.inl h1
  · refine Or.inr ⟨g, cap, cur, h1, h2, ?_, h4⟩
    rw [Below.heap_setCell _ _ _ _ (show g ≠ b from fun e' => ?_)]
    · exact h3
    · subst e'
      rw [h3] at hb
      injection hb with h5
      injection h5 with _ h6 _
      exact hne h6
theorem row_ne_box {w : World} {B k n b : Nat} {e T : TypeId} {v : Value} {xs : List Value} {cs : Array Value} (h : w.ownsRow B e k v n xs) (hb : w.heap[b]? = some (.cells cs T (0, 0))) (hne : e ≠ T) : some b ≠ v.ownBlock := by
  rcases h.2 with ⟨rfl, _⟩ | ⟨g, cap, cur, rfl, _, h2, _⟩
  · intro h; cases h
  · intro h
    have e : b = g := Option.some.inj h
    subst e
    rw [h2] at hb
    injection hb with h5
    injection h5 with _ h6 _
    exact hne h6
theorem own_setT {k : IntKind} {e T : TypeId} {lo hi b o : Nat} {w : World} {v u : Value} {zs : List Int} {cs : Array Value} (h : Own k e lo hi w v zs) (hb : w.heap[b]? = some (.cells cs T (0, 0))) (hne : e ≠ T) : Own k e lo hi (w.setCell ⟨b, o, none⟩ u) v zs := by
  refine ⟨⟨h.1.1, ?_⟩, h.2⟩
  rcases h.1.2 with h1 | ⟨g, cap, cur, h1, h2, h3, h4⟩
  · exact Or.inl h1
  · refine Or.inr ⟨g, cap, cur, h1, h2, ?_, h4⟩
    rw [Below.heap_setCell _ _ _ _ (show g ≠ b from fun e' => ?_)]
    · exact h3
    · subst e'
      rw [h3] at hb
      injection hb with h5
      injection h5 with _ h6 _
      exact hne h6
/-- The first elements of an own row. -/
theorem row_take {w : World} {B k n m g cap : Nat} {e : TypeId} {xs : List Value} (h : w.ownsRow B e k (.slice (some ⟨g, 0, none⟩) n cap) n xs) (hm : m ≤ n) : w.ownsRow B e k (.slice (some ⟨g, 0, none⟩) m cap) m (xs.take (m * k)) := by
  refine ⟨by rw [List.length_take, h.1, Nat.min_eq_left (Nat.mul_le_mul_right k hm)], ?_⟩
  rcases h.2 with ⟨h1, _⟩ | ⟨g', cap', cur, h1, h2, h3, h4, h5, h6, h7⟩
  · cases h1
  · cases h1
    refine Or.inr ⟨g, cap, cur, rfl, h2, h3, by omega, h5, h6, ?_⟩
    rw [← h7, List.take_take, Nat.min_eq_left (Nat.mul_le_mul_right k hm)]
theorem Mine.take {k : IntKind} {e : TypeId} {B n cap g m : Nat} {w0 w : World} {zs : List Int} (h : Mine k e B w0 w (.slice (some ⟨g, 0, none⟩) n cap) zs) (hn : n = zs.length) (hm : m ≤ n) : Mine k e B w0 w (.slice (some ⟨g, 0, none⟩) m cap) (zs.take m) := by
  have h1 := row_take (hn ▸ h.row) (hn ▸ hm)
  have e2 : (zs.take m).length = m := by rw [List.length_take]; omega
  exact ⟨by rw [e2, List.map_take]; simpa using h1, h.below, h.size⟩

def BdIn (hi : Nat) (w : World) (nv ov : Value) (b : Bd) : Prop := ∃ ns : List Nv, ns.map Prod.fst = b.nodes ∧ ReadN hi w nv ns ∧ Reads .i64 hi w ov b.opn
theorem BdIn.below {hi B : Nat} {w w' : World} {nv ov : Value} {b : Bd} (h : BdIn hi w nv ov b) (hb : Below B w w') (hB : hi ≤ B) : BdIn hi w' nv ov b := by
  obtain ⟨ns, h1, h2, h3⟩ := h
  exact ⟨ns, h1, h2.below hb hB, h3.below hb hB⟩
theorem BdIn.mono {hi hi' : Nat} {w : World} {nv ov : Value} {b : Bd} (h : BdIn hi w nv ov b) (hh : hi ≤ hi') : BdIn hi' w nv ov b := by
  obtain ⟨ns, h1, h2, h3⟩ := h
  exact ⟨ns, h1, h2.mono hh, h3.mono hh⟩
theorem BdIn.up {w w' : World} {nv ov : Value} {b : Bd} (h : BdIn w.heap.size w nv ov b) (hb : Below w.heap.size w w') : BdIn w'.heap.size w' nv ov b := (h.below hb (Nat.le_refl _)).mono hb.size
/-- How many plain values the nodes hold. -/
def ndW : List Nd → Nat
  | [] => 0
  | x :: ns => 3 + 2 * x.attrs.length + ndW ns
theorem atCells_count' : ∀ ats : List At, countL (atCells ats) = 2 * ats.length
  | [] => rfl
  | a :: ats => by rw [atCells, countL, countL, Rw.count, Rw.count, atCells_count' ats, List.length_cons]; omega
theorem ndW_append : ∀ (a b : List Nd), ndW (a ++ b) = ndW a + ndW b
  | [], b => by rw [ndW, List.nil_append, Nat.zero_add]
  | x :: a, b => by rw [List.cons_append, ndW, ndW, ndW_append a b]; omega
theorem addTok_W (b : Bd) (t : Tok) : ndW (addTok b t).1.nodes ≤ ndW b.nodes + 3 + 2 * t.attrs.length ∧ (addTok b t).1.nodes.length ≤ max 40 b.nodes.length ∧ (addTok b t).1.opn.length ≤ max 8 b.opn.length := by
  unfold addTok openB textB roomB closeB
  split
  · split
    · exact ⟨by dsimp only; omega, by dsimp only; omega, by dsimp only; omega⟩
    · split
      · exact ⟨by dsimp only; omega, by dsimp only; omega, by dsimp only; omega⟩
      · rename_i h1 h2
        simp only [Bool.and_eq_false_iff, decide_eq_false_iff_not, not_or, Decidable.not_not] at h2
        refine ⟨by simp only [ndW_append, ndW]; omega, by simp only [List.length_append, List.length_cons, List.length_nil]; omega, ?_⟩
        show (if isVoid t.name = false then b.opn ++ [(b.nodes.length : Int)] else b.opn).length ≤ _
        split
        · rename_i h3
          have : ¬ 8 ≤ b.opn.length := fun h => h1 ⟨h3, h⟩
          simp only [List.length_append, List.length_cons, List.length_nil]; omega
        · omega
  · split
    · exact ⟨by dsimp only; omega, by dsimp only; omega, by simp only [List.length_take]; omega⟩
    · split
      · split
        · exact ⟨by dsimp only; omega, by dsimp only; omega, by dsimp only; omega⟩
        · rename_i h2
          simp only [Bool.and_eq_false_iff, decide_eq_false_iff_not, not_or, Decidable.not_not] at h2
          refine ⟨by simp only [ndW_append, ndW, List.length_nil]; omega, by simp only [List.length_append, List.length_cons, List.length_nil]; omega, by dsimp only; omega⟩
      · exact ⟨by dsimp only; omega, by dsimp only; omega, by dsimp only; omega⟩
end Go.Proofs.Ytpkicliimhflgaa

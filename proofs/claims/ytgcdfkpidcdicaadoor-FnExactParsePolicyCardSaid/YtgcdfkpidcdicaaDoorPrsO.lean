/- Slices of strings of the call's own, wherever they begin in their block. Helper facts, no claim of its own. -/
import Derived.Test.YtgcdfkpidcdicaaDoorSs
import Derived.Test.YtgcdfkpidcdicaaDoorRawL
namespace Go.Proofs.YtgcdfkpidcdicaaDoor
open Go.ChangeShapes Go.WideShapes Go.ChangeAt Go.RowKit

/-- A slice of strings of the call's own, wherever it begins in its block. -/
def OwnO (lo hi : Nat) (w : World) (v : Value) (xs : List ByteArray) : Prop :=
  ∃ (a : Option Addr) (c : Nat), v = .slice a xs.length c ∧ xs.length ≤ c ∧ c ≤ 9223372036854775807 ∧ (a = none → c = 0) ∧ (xs.length = 0 ∨ ∃ (g off : Nat) (cs : Array Value), a = some ⟨g, off, none⟩ ∧ lo ≤ g ∧ g < hi ∧ w.heap[g]? = some (.cells cs 9 (0, 0)) ∧ ∀ (j : Nat) (x : ByteArray), xs[j]? = some x → cs[off + j]? = some (.string x))
theorem OwnO.reads {lo hi : Nat} {w : World} {v : Value} {xs : List ByteArray} (h : OwnO lo hi w v xs) : ReadsK encS 1 hi w v xs := by
  obtain ⟨a, c, rfl, h1, h2, h3, h4⟩ := h
  refine ⟨a, c, rfl, h1, h2, h3, ?_⟩
  rcases h4 with h4 | ⟨g, off, cs, rfl, _, hg, hh, hc⟩
  · exact Or.inl h4
  · refine Or.inr ⟨g, off, rfl, hg, fun j x hj i hi' => ?_⟩
    obtain rfl : i = 0 := by omega
    rw [Nat.mul_one, Nat.add_zero]
    exact box_cell hh (hc j x hj)
theorem OwnO.later {lo hi : Nat} {w w' : World} {v : Value} {xs : List ByteArray} (h : OwnO lo hi w v xs) (hb : Below w.heap.size w w') : OwnO lo hi w' v xs := by
  obtain ⟨a, c, e, h1, h2, h3, h4⟩ := h
  refine ⟨a, c, e, h1, h2, h3, ?_⟩
  rcases h4 with h4 | ⟨g, off, cs, e2, hl, hg, hh, hc⟩
  · exact Or.inl h4
  · exact Or.inr ⟨g, off, cs, e2, hl, hg, below_heap hb (heap_lt hh) hh, hc⟩
theorem OwnO.mono {lo hi lo' hi' : Nat} {w : World} {v : Value} {xs : List ByteArray} (h : OwnO lo hi w v xs) (hl' : lo' ≤ lo) (hh' : hi ≤ hi') : OwnO lo' hi' w v xs := by
  obtain ⟨a, c, e, h1, h2, h3, h4⟩ := h
  refine ⟨a, c, e, h1, h2, h3, ?_⟩
  rcases h4 with h4 | ⟨g, off, cs, e2, hl, hg, hh, hc⟩
  · exact Or.inl h4
  · exact Or.inr ⟨g, off, cs, e2, Nat.le_trans hl' hl, Nat.lt_of_lt_of_le hg hh', hh, hc⟩
theorem OwnO.top {lo hi : Nat} {w : World} {v : Value} {xs : List ByteArray} (h : OwnO lo hi w v xs) : OwnO lo w.heap.size w v xs := by
  obtain ⟨a, c, e, h1, h2, h3, h4⟩ := h
  refine ⟨a, c, e, h1, h2, h3, ?_⟩
  rcases h4 with h4 | ⟨g, off, cs, e2, hl, hg, hh, hc⟩
  · exact Or.inl h4
  · exact Or.inr ⟨g, off, cs, e2, hl, heap_lt hh, hh, hc⟩
theorem ownO_none (lo hi : Nat) (w : World) : OwnO lo hi w (.slice none 0 0) [] := ⟨_, 0, rfl, Nat.le_refl _, by omega, (fun _ => rfl), Or.inl rfl⟩
/-- The blocks in which something of it lies. -/
def blkO (v : Value) (xs : List ByteArray) : List Nat := if xs.length = 0 then [] else v.ownBlock.toList
theorem OwnO.blk {lo hi : Nat} {w : World} {v : Value} {xs : List ByteArray} (h : OwnO lo hi w v xs) : ∀ b ∈ blkO v xs, lo ≤ b ∧ b < hi ∧ b < w.heap.size := by
  obtain ⟨a, c, rfl, h1, h2, h3, h4⟩ := h
  intro b hb
  unfold blkO at hb
  rcases h4 with h4 | ⟨g, off, cs, rfl, hl, hg, hh, hc⟩
  · rw [if_pos h4] at hb; cases hb
  · split at hb
    · cases hb
    · have : b = g := by simpa [Value.ownBlock] using hb
      subst this
      exact ⟨hl, hg, heap_lt hh⟩
theorem OwnO.only {lo hi : Nat} {w w' : World} {v : Value} {xs : List ByteArray} {bs : List Nat} (h : OwnO lo hi w v xs) (hb : OnlyB bs w w') (hn : ∀ b ∈ blkO v xs, b ∉ bs) : OwnO lo hi w' v xs := by
  obtain ⟨a, c, rfl, h1, h2, h3, h4⟩ := h
  refine ⟨a, c, rfl, h1, h2, h3, ?_⟩
  rcases h4 with h4 | ⟨g, off, cs, rfl, hl, hg, hh, hc⟩
  · exact Or.inl h4
  · by_cases h0 : xs.length = 0
    · exact Or.inl h0
    · refine Or.inr ⟨g, off, cs, rfl, hl, hg, ?_, hc⟩
      rw [hb.block g (heap_lt hh) (hn g (by unfold blkO; rw [if_neg h0]; simp [Value.ownBlock]))]; exact hh
/-- What lies behind the first. -/
theorem OwnO.tail {lo hi n c g : Nat} {w : World} {x : ByteArray} {xs : List ByteArray} (h : OwnK encS 1 9 lo hi w (.slice (some ⟨g, 0, none⟩) n c) (x :: xs)) : OwnO lo hi w (if c = 1 then .slice (some ⟨g, 0, none⟩) (n - 1) (c - 1) else .slice (some ⟨g, 1, none⟩) (n - 1) (c - 1)) xs := by
  obtain ⟨hrow, hlt⟩ := h
  have hrl := hrow.1
  rcases hrow.2 with ⟨e, _⟩ | ⟨g', cap, cur, e, hg, hh, hcap, hm, hsz, htk⟩
  · cases e
  · unfold maxLen at hm
    injection e with e1 e2 e3
    injection e1 with e1
    injection e1 with e1
    subst e1; subst e3
    have hn : n = xs.length + 1 := by rw [e2]; rfl
    subst hn
    rw [Nat.add_sub_cancel]
    rw [flatS] at htk
    have hcl : ∀ (j : Nat) (y : ByteArray), xs[j]? = some y → cur[1 + j]? = some (.string y) := fun j y hj => by
      have h1 : ((x :: xs).map Value.string)[1 + j]? = some (.string y) := by rw [Nat.add_comm, List.map_cons, List.getElem?_cons_succ, List.getElem?_map, hj]; rfl
      rw [← htk, List.getElem?_take] at h1
      split at h1
      · rw [Array.getElem?_toList] at h1; exact h1
      · cases h1
    by_cases h1 : c = 1
    · subst h1
      rw [if_pos rfl]
      have : xs = [] := List.eq_nil_of_length_eq_zero (by omega)
      subst this
      exact ⟨_, 0, rfl, Nat.le_refl _, by omega, (fun h => by cases h), Or.inl rfl⟩
    · rw [if_neg h1]
      exact ⟨_, c - 1, rfl, by omega, by omega, (fun h => by cases h), Or.inr ⟨g, 1, cur, rfl, hg, hlt g rfl, hh, hcl⟩⟩
/-- A new slice of strings, wherever it begins in its block. -/
def NewO (xs : List ByteArray) (X : World) (e : Ending) (w' : World) : Prop := ∃ (a : Option Addr) (n c : Nat), e = .returned (.slice a n c) ∧ OwnO X.heap.size w'.heap.size w' (.slice a n c) xs ∧ Below X.heap.size X w'
end Go.Proofs.YtgcdfkpidcdicaaDoor

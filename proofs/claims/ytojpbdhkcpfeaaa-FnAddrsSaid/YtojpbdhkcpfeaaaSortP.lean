/- Plain facts on sorted lists of addresses: what is strictly in order is told by its members; what Compact leaves of a list in order; what is inserted at its place. No program. -/
import Derived.Test.YtojpbdhkcpfeaaaSort
namespace Go.Proofs.Ytojpbdhkcpfeaaa
open Go.ChangeShapes Go.WideShapes Go.ChangeAt Go.RowKit

def Strict (ys : List Ad) : Prop := ys.Pairwise fun x y => cmpA x y < 0
/-- In strict order, with the same members. -/
def SortedOf (xs ys : List Ad) : Prop := Strict ys ∧ ∀ a, a ∈ ys ↔ a ∈ xs
theorem cmpA_irr (a : Ad) : ¬ cmpA a a < 0 := by rw [cmpA_self]; omega
theorem cmpA_asym {a b : Ad} (h : cmpA a b < 0) : ¬ cmpA b a < 0 := by have := cmpA_neg a b; omega
theorem strict_nodup {ys : List Ad} (h : Strict ys) : ys.Nodup :=
  List.Pairwise.imp (fun {a b} hab e => by subst e; exact cmpA_irr _ hab) h
theorem strict_unique {l m : List Ad} (hl : Strict l) (hm : Strict m) (h : ∀ a, a ∈ l ↔ a ∈ m) : l = m := by
  have hp : l.Perm m := (List.perm_ext_iff_of_nodup (strict_nodup hl) (strict_nodup hm)).2 h
  exact List.Perm.eq_of_pairwise (le := fun x y => cmpA x y < 0) (fun a b _ _ h1 h2 => absurd h2 (cmpA_asym h1)) hl hm hp
theorem sortedOf_unique {xs l m : List Ad} (hl : SortedOf xs l) (hm : SortedOf xs m) : l = m :=
  strict_unique hl.1 hm.1 fun a => (hl.2 a).trans (hm.2 a).symm

theorem asc_le {ys : List Ad} (h : Asc ys) {i j : Nat} (hij : i ≤ j) (hj : j < ys.length) : ¬ cmpA ys[j] (ys[i]'(by omega)) < 0 := by
  by_cases e : i = j
  · subst e; exact cmpA_irr _
  · exact (List.pairwise_iff_getElem.1 h) i j (by omega) hj (by omega)
theorem get_bang {ys : List Ad} {i : Nat} (hi : i < ys.length) : ys.toArray[i]! = ys[i] := by
  rw [getElem!_pos ys.toArray i (by simpa using hi)]; rfl

theorem comp_sorted {ys : List Ad} (h : Asc ys) : SortedOf ys (compA ys) := by
  constructor
  · unfold Strict compA Lib.compactUpTo
    rw [List.pairwise_map]
    refine List.Pairwise.imp_of_mem ?_ (List.Pairwise.filter _ List.pairwise_lt_range)
    intro i j hi hj hij
    obtain ⟨hi1, _⟩ := List.mem_filter.1 hi
    obtain ⟨hj1, hk⟩ := List.mem_filter.1 hj
    have hi2 := List.mem_range.1 hi1
    have hj2 := List.mem_range.1 hj1
    have hne : ys.toArray[j]! ≠ ys.toArray[j - 1]! := by
      unfold Lib.keeps at hk
      rcases of_decide_eq_true hk with h0 | h0
      · omega
      · exact h0
    rw [get_bang hj2, get_bang (by omega)] at hne
    rw [get_bang hi2, get_bang hj2]
    have h1 := asc_le h (show j - 1 ≤ j by omega) hj2
    have h2 := asc_le h (show i ≤ j - 1 by omega) (by omega)
    have h3 : cmpA ys[j - 1] ys[j] < 0 := by
      have := cmpA_neg ys[j - 1] ys[j]
      have h0 : cmpA ys[j - 1] ys[j] ≠ 0 := fun e => hne (cmpA_eq e).symm
      omega
    by_cases e : cmpA ys[i] ys[j - 1] = 0
    · rw [cmpA_eq e]; exact h3
    · have h4 : cmpA ys[i] ys[j - 1] < 0 := by
        have := cmpA_neg ys[i] ys[j - 1]
        omega
      exact cmpA_trans h4 h3
  · intro a
    unfold compA Lib.compactUpTo
    rw [List.mem_map]
    constructor
    · rintro ⟨i, hi, rfl⟩
      have hi2 := List.mem_range.1 (List.mem_filter.1 hi).1
      rw [get_bang hi2]
      exact List.getElem_mem hi2
    · intro ha
      obtain ⟨i, hi, rfl⟩ := List.getElem_of_mem ha
      have key : ∀ i (hi : i < ys.length), ∃ j, j ∈ (List.range ys.length).filter (Lib.keeps ys.toArray) ∧ ys.toArray[j]! = ys[i] := by
        intro i
        induction i with
        | zero => exact fun hi => ⟨0, List.mem_filter.2 ⟨List.mem_range.2 hi, by simp [Lib.keeps]⟩, get_bang hi⟩
        | succ i ih =>
          intro hi
          by_cases hk : Lib.keeps ys.toArray (i + 1) = true
          · exact ⟨i + 1, List.mem_filter.2 ⟨List.mem_range.2 hi, hk⟩, get_bang hi⟩
          · obtain ⟨j, hj, he⟩ := ih (by omega)
            refine ⟨j, hj, he.trans ?_⟩
            unfold Lib.keeps at hk
            rw [decide_eq_true_eq] at hk
            have h1 : ys.toArray[i + 1]! = ys.toArray[i]! := by
              by_cases e : ys.toArray[i + 1]! = ys.toArray[i]!
              · exact e
              · exact absurd (Or.inr (by simpa using e)) hk
            rw [get_bang hi, get_bang (by omega)] at h1
            exact h1.symm
      exact key i hi

theorem sortedOf_perm {xs ys zs : List Ad} (h : SortedOf ys zs) (hp : ys.Perm xs) : SortedOf xs zs := ⟨h.1, fun a => (h.2 a).trans hp.mem_iff⟩

/-- The elements from place m on are behind a. -/
def behind (a : Ad) (ys : List Ad) (m : Nat) : Prop := ∀ j (h : j < ys.length), m ≤ j → cmpA a ys[j] < 0
theorem insert_sorted {xs ys : List Ad} {a : Ad} {m : Nat} (h : SortedOf xs ys) (hm : m ≤ ys.length) (hno : a ∉ ys) (hb : behind a ys m) (hf : m = 0 ∨ ∃ h : m - 1 < ys.length, 0 ≤ cmpA a ys[m - 1]) : SortedOf (xs ++ [a]) (ys.take m ++ (a :: ys.drop m)) := by
  rw [show ys.take m ++ (a :: ys.drop m) = ys.take m ++ [a] ++ ys.drop m by rw [List.append_assoc, List.singleton_append]]
  constructor
  · unfold Strict
    have hs : Strict (ys.take m ++ ys.drop m) := by rw [List.take_append_drop]; exact h.1
    obtain ⟨h1, h2, h3⟩ := List.pairwise_append.1 hs
    have hbef : ∀ x ∈ ys.take m, cmpA x a < 0 := by
      intro x hx
      obtain ⟨i, hi, rfl⟩ := List.getElem_of_mem hx
      have hil : i < m := by rw [List.length_take] at hi; omega
      rw [List.getElem_take]
      rcases hf with h0 | ⟨hl, h0⟩
      · omega
      · have hne : cmpA a ys[m - 1] ≠ 0 := fun e => hno (by rw [cmpA_eq e]; exact List.getElem_mem hl)
        have hlt : cmpA ys[m - 1] a < 0 := by have := cmpA_neg a ys[m - 1]; omega
        by_cases e : i = m - 1
        · subst e; exact hlt
        · exact cmpA_trans ((List.pairwise_iff_getElem.1 h.1) i (m - 1) (by omega) hl (by omega)) hlt
    have haft : ∀ x ∈ ys.drop m, cmpA a x < 0 := by
      intro x hx
      obtain ⟨i, hi, rfl⟩ := List.getElem_of_mem hx
      rw [List.getElem_drop]
      exact hb _ _ (by omega)
    rw [List.append_assoc, List.pairwise_append]
    refine ⟨h1, ?_, ?_⟩
    · rw [List.singleton_append, List.pairwise_cons]
      exact ⟨haft, h2⟩
    · intro x hx y hy
      rw [List.singleton_append, List.mem_cons] at hy
      rcases hy with rfl | hy
      · exact hbef x hx
      · exact h3 x hx y hy
  · intro b
    have e : b ∈ ys ↔ b ∈ ys.take m ∨ b ∈ ys.drop m := by
      rw [← List.mem_append, List.take_append_drop]
    rw [List.mem_append, List.mem_append, List.mem_append, List.mem_singleton, ← h.2 b, e]
    constructor
    · rintro ((h | h) | h)
      · exact Or.inl (Or.inl h)
      · exact Or.inr h
      · exact Or.inl (Or.inr h)
    · rintro ((h | h) | h)
      · exact Or.inl (Or.inl h)
      · exact Or.inr h
      · exact Or.inl (Or.inr h)
theorem keep_sorted {xs ys : List Ad} {a : Ad} (h : SortedOf xs ys) (ha : a ∈ ys) : SortedOf (xs ++ [a]) ys := by
  refine ⟨h.1, fun b => ?_⟩
  rw [List.mem_append, List.mem_singleton, ← h.2 b]
  constructor
  · exact Or.inl
  · rintro (h | rfl)
    · exact h
    · exact ha
theorem take_snoc {xs : List Ad} {k : Nat} {x : Ad} (h : xs[k]? = some x) : xs.take (k + 1) = xs.take k ++ [x] := by
  rw [List.take_add_one, h]; rfl
theorem nodup_len : ∀ {l m : List Ad}, l.Nodup → (∀ a ∈ l, a ∈ m) → l.length ≤ m.length
  | [], _, _, _ => Nat.zero_le _
  | a :: l, m, hn, hs => by
    obtain ⟨s, t, rfl⟩ := List.append_of_mem (hs a List.mem_cons_self)
    obtain ⟨h1, h2⟩ := List.nodup_cons.1 hn
    have := nodup_len (l := l) (m := s ++ t) h2 fun b hb => by
      have h3 := hs b (List.mem_cons_of_mem _ hb)
      rw [List.mem_append, List.mem_cons] at h3
      rw [List.mem_append]
      rcases h3 with h3 | h3 | h3
      · exact Or.inl h3
      · subst h3; exact absurd hb h1
      · exact Or.inr h3
    simp only [List.length_append, List.length_cons] at this ⊢
    omega
theorem sortedOf_len {xs ys : List Ad} (h : SortedOf xs ys) : ys.length ≤ xs.length := nodup_len (strict_nodup h.1) fun a ha => (h.2 a).1 ha
end Go.Proofs.Ytojpbdhkcpfeaaa

/- Plain facts on strings as lists of bytes. No program. -/
import Derived.Below
import Derived.Lib.Strings
import Derived.Lib.Walk
import Derived.Lib.Slices
import Derived.Lib.Bytealg
import Derived.Laws.Strings
namespace Go.Proofs.Ytpkicliimhflgaa


theorem bytesEq {a b : ByteArray} (h : a.data.toList = b.data.toList) : a = b := by
  cases a with | mk x => cases b with | mk y => rw [show x = y from Array.toList_inj.1 h]
theorem beqL_yes {a b : ByteArray} (h : a = b) : (a.toList == b.toList) = true := by rw [h]; exact beq_self_eq_true _
theorem beqL_no {a b : ByteArray} (h : a ≠ b) : (a.toList == b.toList) = false := by
  rw [beq_eq_false_iff_ne, ByteArray.toList_eq, ByteArray.toList_eq]
  exact fun e => h (bytesEq e)
theorem append_list (a b : ByteArray) : (a ++ b).data.toList = a.data.toList ++ b.data.toList := by rw [ByteArray.data_append, Array.toList_append]
theorem size_list (a : ByteArray) : a.data.toList.length = a.size := Array.length_toList
/-- A string of these bytes. -/
def ofL (l : List UInt8) : ByteArray := ⟨l.toArray⟩
theorem ofL_list (l : List UInt8) : (ofL l).data.toList = l := rfl
theorem ofL_of (s : ByteArray) : ofL s.data.toList = s := bytesEq rfl
theorem ofL_size (l : List UInt8) : (ofL l).size = l.length := by show l.toArray.size = _; simp
theorem ofL_append (l m : List UInt8) : ofL (l ++ m) = ofL l ++ ofL m := bytesEq (by rw [append_list]; rfl)
theorem ofL_inj {l m : List UInt8} (h : ofL l = ofL m) : l = m := by rw [← ofL_list l, h, ofL_list]
theorem extract_eq (s : ByteArray) (a b : Nat) : s.extract a b = ofL ((s.data.toList.drop a).take (b - a)) := bytesEq (by rw [Lib.extract_data]; rfl)
theorem extract_pre (s : ByteArray) (b : Nat) : s.extract 0 b = ofL (s.data.toList.take b) := by rw [extract_eq, List.drop_zero, Nat.sub_zero]
theorem extract_suf (s : ByteArray) (a : Nat) : s.extract a s.size = ofL (s.data.toList.drop a) := by
  rw [extract_eq, List.take_of_length_le (by rw [List.length_drop, size_list]; exact Nat.le_refl _)]

/-- The first place of a byte, or the length. -/
def idxB (c : UInt8) : List UInt8 → Nat
  | [] => 0
  | b :: l => if b = c then 0 else idxB c l + 1
theorem idxB_le (c : UInt8) : ∀ l, idxB c l ≤ l.length
  | [] => Nat.le_refl _
  | b :: l => by
    unfold idxB
    have := idxB_le c l
    split <;> simp <;> omega
theorem idxB_at {c : UInt8} : ∀ {l : List UInt8}, idxB c l < l.length → l[idxB c l]? = some c
  | [], h => absurd h (Nat.not_lt_zero _)
  | b :: l, h => by
    by_cases e : b = c
    · subst e; unfold idxB; rw [if_pos rfl]; rfl
    · have h2 : idxB c (b :: l) = idxB c l + 1 := by conv => lhs; unfold idxB; rw [if_neg e]
      rw [h2] at h ⊢
      rw [List.getElem?_cons_succ]
      exact idxB_at (by simpa using h)
theorem idxB_before {c : UInt8} : ∀ {l : List UInt8} {j : Nat}, j < idxB c l → l[j]? ≠ some c
  | [], _, h => absurd h (Nat.not_lt_zero _)
  | b :: l, j, h => by
    by_cases e : b = c
    · subst e; unfold idxB at h; rw [if_pos rfl] at h; exact absurd h (Nat.not_lt_zero _)
    · have h2 : idxB c (b :: l) = idxB c l + 1 := by conv => lhs; unfold idxB; rw [if_neg e]
      rw [h2] at h
      cases j with
      | zero => simp [e]
      | succ j => rw [List.getElem?_cons_succ]; exact idxB_before (by omega)
theorem idxB_first {c : UInt8} {l : List UInt8} {i : Nat} (h1 : l[i]? = some c) (h2 : ∀ j, j < i → l[j]? ≠ some c) : idxB c l = i := by
  have hi : i < l.length := (List.getElem?_eq_some_iff.1 h1).1
  rcases Nat.lt_trichotomy (idxB c l) i with h | h | h
  · exact absurd (idxB_at (by omega)) (h2 _ h)
  · exact h
  · exact absurd h1 (idxB_before h)
theorem idxB_none {c : UInt8} {l : List UInt8} (h : ∀ j : Nat, l[j]? ≠ some c) : idxB c l = l.length := by
  have := idxB_le c l
  rcases Nat.lt_or_ge (idxB c l) l.length with h1 | h1
  · exact absurd (idxB_at h1) (h _)
  · omega
theorem idxB_lt_append {c : UInt8} {l : List UInt8} (m : List UInt8) (h : idxB c l < l.length) : idxB c (l ++ m) = idxB c l := by
  refine idxB_first ?_ fun j hj => ?_
  · rw [List.getElem?_append_left h]; exact idxB_at h
  · rw [List.getElem?_append_left (by omega)]; exact idxB_before hj
theorem idxB_free {c : UInt8} {l : List UInt8} (h : ∀ b ∈ l, b ≠ c) : idxB c l = l.length :=
  idxB_none fun _ hj => h c (List.mem_of_getElem? hj) rfl
theorem idxB_free_append {c : UInt8} {l : List UInt8} (m : List UInt8) (h : ∀ b ∈ l, b ≠ c) : idxB c (l ++ c :: m) = l.length := by
  refine idxB_first ?_ fun j hj => ?_
  · rw [List.getElem?_append_right (Nat.le_refl _), Nat.sub_self]; rfl
  · rw [List.getElem?_append_left hj]; exact fun hc => h c (List.mem_of_getElem? hc) rfl

/-- The pieces between the bytes c. -/
def splitB (c : UInt8) : List UInt8 → List (List UInt8)
  | [] => [[]]
  | b :: l => if b = c then [] :: splitB c l else match splitB c l with
    | [] => [[b]]
    | p :: ps => (b :: p) :: ps
def joinB (c : UInt8) : List (List UInt8) → List UInt8
  | [] => []
  | [p] => p
  | p :: q :: ps => p ++ c :: joinB c (q :: ps)
theorem splitB_ne (c : UInt8) : ∀ l, splitB c l ≠ []
  | [] => by unfold splitB; exact List.cons_ne_nil _ _
  | b :: l => by
    unfold splitB
    split
    · exact List.cons_ne_nil _ _
    · split <;> exact List.cons_ne_nil _ _
theorem joinB_cons (c : UInt8) (p : List UInt8) {ps : List (List UInt8)} (h : ps ≠ []) : joinB c (p :: ps) = p ++ c :: joinB c ps := by
  cases ps with
  | nil => exact absurd rfl h
  | cons q ps => rfl
theorem joinB_split (c : UInt8) : ∀ l, joinB c (splitB c l) = l
  | [] => rfl
  | b :: l => by
    have ih := joinB_split c l
    by_cases e : b = c
    · subst e
      have h2 : splitB b (b :: l) = [] :: splitB b l := by conv => lhs; unfold splitB; rw [if_pos rfl]
      rw [h2, joinB_cons _ _ (splitB_ne _ _), ih]; rfl
    · cases hs : splitB c l with
      | nil => exact absurd hs (splitB_ne _ _)
      | cons p ps =>
        have h2 : splitB c (b :: l) = (b :: p) :: ps := by conv => lhs; unfold splitB; rw [if_neg e, hs]
        rw [h2]
        rw [hs] at ih
        cases ps with
        | nil => show b :: p = b :: l; rw [← ih]; rfl
        | cons q ps => show b :: (p ++ c :: joinB c (q :: ps)) = b :: l; rw [← ih]; rfl
theorem splitB_free {c : UInt8} : ∀ {l : List UInt8}, (∀ b ∈ l, b ≠ c) → splitB c l = [l]
  | [], _ => rfl
  | b :: l, h => by
    have e : b ≠ c := h b List.mem_cons_self
    have ih := splitB_free (l := l) fun x hx => h x (List.mem_cons_of_mem _ hx)
    unfold splitB; rw [if_neg e, ih]
theorem splitB_at {c : UInt8} : ∀ {l : List UInt8} (m : List UInt8), (∀ b ∈ l, b ≠ c) → splitB c (l ++ c :: m) = l :: splitB c m
  | [], m, _ => by show splitB c (c :: m) = _; conv => lhs; unfold splitB; rw [if_pos rfl]
  | b :: l, m, h => by
    have e : b ≠ c := h b List.mem_cons_self
    have ih := splitB_at (l := l) m fun x hx => h x (List.mem_cons_of_mem _ hx)
    show splitB c (b :: (l ++ c :: m)) = _
    conv => lhs; unfold splitB; rw [if_neg e, ih]
/-- No piece holds the byte. -/
theorem splitB_mem {c : UInt8} : ∀ {l : List UInt8} {p : List UInt8}, p ∈ splitB c l → ∀ b ∈ p, b ≠ c
  | [], p, hp => by
    unfold splitB at hp
    rw [List.mem_singleton] at hp; subst hp
    intro b hb; cases hb
  | b :: l, p, hp => by
    by_cases e : b = c
    · unfold splitB at hp; rw [if_pos e] at hp
      rcases List.mem_cons.1 hp with h | h
      · subst h; intro x hx; cases hx
      · exact splitB_mem h
    · cases hs : splitB c l with
      | nil => exact absurd hs (splitB_ne _ _)
      | cons q qs =>
        unfold splitB at hp; rw [if_neg e, hs] at hp
        rcases List.mem_cons.1 hp with h | h
        · subst h
          intro x hx
          rcases List.mem_cons.1 hx with h2 | h2
          · rw [h2]; exact e
          · exact splitB_mem (l := l) (by rw [hs]; exact List.mem_cons_self) x h2
        · exact splitB_mem (l := l) (by rw [hs]; exact List.mem_cons_of_mem _ h)
theorem splitB_length (c : UInt8) : ∀ l, (splitB c l).length ≤ l.length + 1
  | [] => Nat.le_refl _
  | b :: l => by
    have ih := splitB_length c l
    unfold splitB
    split
    · simp; omega
    · cases hs : splitB c l with
      | nil => simp
      | cons q qs => rw [hs] at ih; simp at ih ⊢; omega
theorem splitB_piece {c : UInt8} : ∀ {l : List UInt8} {p : List UInt8}, p ∈ splitB c l → p.length ≤ l.length
  | [], p, hp => by
    unfold splitB at hp
    rw [List.mem_singleton] at hp; subst hp; exact Nat.le_refl _
  | b :: l, p, hp => by
    by_cases e : b = c
    · unfold splitB at hp; rw [if_pos e] at hp
      rcases List.mem_cons.1 hp with h | h
      · subst h; exact Nat.zero_le _
      · have := splitB_piece h; simp; omega
    · cases hs : splitB c l with
      | nil => exact absurd hs (splitB_ne _ _)
      | cons q qs =>
        unfold splitB at hp; rw [if_neg e, hs] at hp
        rcases List.mem_cons.1 hp with h | h
        · subst h
          have := splitB_piece (l := l) (p := q) (by rw [hs]; exact List.mem_cons_self)
          simp; omega
        · have := splitB_piece (l := l) (p := p) (by rw [hs]; exact List.mem_cons_of_mem _ h)
          simp; omega
/-- One round of a loop that divides a text: from 'from' on, up to the byte at i. -/
theorem split_round {c : UInt8} {l : List UInt8} {a i : Nat} (hai : a ≤ i) (hi : l[i]? = some c) (hf : ∀ j, a ≤ j → j < i → l[j]? ≠ some c) :
    splitB c (l.drop a) = (l.drop a).take (i - a) :: splitB c (l.drop (i + 1)) := by
  have hil : i < l.length := (List.getElem?_eq_some_iff.1 hi).1
  have e : l.drop a = (l.drop a).take (i - a) ++ c :: l.drop (i + 1) := by
    conv => lhs; rw [← List.take_append_drop (i - a) (l.drop a)]
    rw [List.drop_drop, show a + (i - a) = i by omega, List.drop_eq_getElem_cons hil]
    congr 2
    exact (Option.some.inj ((List.getElem?_eq_getElem hil).symm.trans hi))
  conv => lhs; rw [e]
  refine splitB_at _ fun b hb hbc => ?_
  obtain ⟨j, hj⟩ := List.mem_iff_getElem?.1 hb
  have hjl : j < i - a := by
    have := (List.getElem?_eq_some_iff.1 hj).1
    rw [List.length_take] at this; omega
  rw [List.getElem?_take, if_pos hjl, List.getElem?_drop, hbc] at hj
  exact hf (a + j) (by omega) (by omega) hj
theorem split_last {c : UInt8} {l : List UInt8} {a : Nat} (hf : ∀ j, a ≤ j → l[j]? ≠ some c) : splitB c (l.drop a) = [l.drop a] := by
  refine splitB_free fun b hb hbc => ?_
  obtain ⟨j, hj⟩ := List.mem_iff_getElem?.1 hb
  rw [List.getElem?_drop, hbc] at hj
  exact hf (a + j) (by omega) hj
end Go.Proofs.Ytpkicliimhflgaa

/- A valid tree stays valid when a token of a name is added; how many nodes there are then. No program. -/
import Derived.Test.YtgcdfkpidcdicaaGreatDoorBd
namespace Go.Proofs.YtgcdfkpidcdicaaGreatDoor

theorem isBd_iff {b : Bd} : isBd b = true ↔ (1 ≤ b.nodes.length ∧ b.nodes.length ≤ 40) ∧ okRoot b.nodes = true ∧ (∀ i, 1 ≤ i → i < b.nodes.length → okNode b.nodes i = true) ∧ (1 ≤ b.opn.length ∧ b.opn.length ≤ 8) ∧ b.opn.getD 0 0 = 0 ∧ (∀ i, 1 ≤ i → i < b.opn.length → okOpen b i = true) := by
  unfold isBd
  simp only [Bool.and_eq_true, decide_eq_true_eq, allFrom_iff, and_assoc]
theorem isNm_pos {s : ByteArray} (h : isNm s = true) : 1 ≤ s.size := by
  unfold isNm at h
  have := (Bool.and_eq_true _ _ ▸ h : _ ∧ _).1
  have := of_decide_eq_true this
  exact this.1
theorem canOpen_lt {ns : List Nd} {z : Int} (h : canOpen ns z = true) : 0 ≤ z ∧ z.toNat < ns.length := by
  unfold canOpen at h
  rw [Bool.and_eq_true] at h
  refine ⟨of_decide_eq_true h.1, ?_⟩
  cases e : ns[z.toNat]? with
  | none => rw [e] at h; exact absurd h.2 (by simp)
  | some x => exact (List.getElem?_eq_some_iff.1 e).1
theorem canOpen_app {ns : List Nd} {z : Int} (xs : List Nd) (h : canOpen ns z = true) : canOpen (ns ++ xs) z = true := by
  have hl := (canOpen_lt h).2
  unfold canOpen at h ⊢
  rw [List.getElem?_append_left hl]; exact h
theorem okNode_app {ns : List Nd} {i : Nat} (xs : List Nd) (h : okNode ns i = true) (hi : i < ns.length) : okNode (ns ++ xs) i = true := by
  unfold okNode at h ⊢
  rw [List.getElem?_append_left hi]
  cases e : ns[i]? with
  | none => rw [e] at h; exact absurd h (by simp)
  | some x =>
    rw [e] at h
    simp only [Bool.and_eq_true] at h ⊢
    exact ⟨⟨h.1.1, canOpen_app xs h.1.2⟩, h.2⟩
theorem okRoot_app {ns : List Nd} (xs : List Nd) (h : okRoot ns = true) (hi : 0 < ns.length) : okRoot (ns ++ xs) = true := by
  unfold okRoot at h ⊢
  rw [List.getElem?_append_left hi]; exact h
theorem parentOf_app {ns : List Nd} {z : Int} (xs : List Nd) (hi : z.toNat < ns.length) : parentOf (ns ++ xs) z = parentOf ns z := by
  unfold parentOf; rw [List.getElem?_append_left hi]
theorem getD_app {xs ys : List Int} {i : Nat} (h : i < xs.length) : (xs ++ ys).getD i 0 = xs.getD i 0 := by
  rw [List.getD_eq_getElem?_getD, List.getD_eq_getElem?_getD, List.getElem?_append_left h]
theorem getD_take {xs : List Int} {i m : Nat} (h : i < m) : (xs.take m).getD i 0 = xs.getD i 0 := by
  rw [List.getD_eq_getElem?_getD, List.getD_eq_getElem?_getD, List.getElem?_take, if_pos h]
theorem okOpen_app {b : Bd} {i : Nat} (xs : List Nd) (ys : List Int) (h : okOpen b i = true) (hi : i < b.opn.length) : okOpen ⟨b.nodes ++ xs, b.opn ++ ys⟩ i = true := by
  unfold okOpen at h ⊢
  simp only [Bool.and_eq_true, decide_eq_true_eq] at h ⊢
  have hl := (canOpen_lt h.1.1).2
  rw [getD_app hi, getD_app (show i - 1 < b.opn.length by omega), parentOf_app xs hl]
  exact ⟨⟨canOpen_app xs h.1.1, h.1.2⟩, h.2⟩
theorem okOpen_take {b : Bd} {i m : Nat} (h : okOpen b i = true) (hi : i < m) : okOpen ⟨b.nodes, b.opn.take m⟩ i = true := by
  unfold okOpen at h ⊢
  simp only at h ⊢
  rw [getD_take hi, getD_take (show i - 1 < m by omega)]; exact h
theorem closeN_in (b : Bd) (s : ByteArray) : ∀ k, closeN b s k = b.opn.length ∨ 1 ≤ closeN b s k ∧ closeN b s k ≤ k
  | 0 => Or.inl rfl
  | k + 1 => by
    rw [closeN]; split
    · right; omega
    · rcases closeN_in b s k with h | h
      · exact Or.inl h
      · right; omega
theorem okRoot_open {ns : List Nd} (h : okRoot ns = true) : canOpen ns 0 = true := by
  unfold okRoot at h
  unfold canOpen
  cases e : ns[0]? with
  | none => rw [e] at h; exact absurd h (by simp)
  | some x =>
    rw [e] at h
    simp only [Bool.and_eq_true, decide_eq_true_eq] at h
    have h1 : x.name.toList = [112, 97, 103, 101] := by simpa using h.1.1.1
    have h2 : x.name.size ≠ 0 := by
      intro e0
      rw [ByteArray.toList_eq] at h1
      have : x.name.data.toList.length = 0 := by rw [Array.length_toList]; exact e0
      rw [h1] at this; cases this
    show (decide (0 ≤ (0 : Int)) && match ns[0]? with | some x => decide (x.name.size ≠ 0) && !isVoid x.name | none => false) = true
    rw [e]
    unfold isVoid
    dsimp only
    rw [h1, decide_eq_true h2]; rfl
theorem last_open {b : Bd} (h : isBd b = true) : canOpen b.nodes (lastOpen b) = true := by
  obtain ⟨_, hr, _, ho, h0, hop⟩ := isBd_iff.1 h
  unfold lastOpen
  by_cases e : b.opn.length = 1
  · rw [e, h0]; exact okRoot_open hr
  · have := hop (b.opn.length - 1) (by omega) (by omega)
    unfold okOpen at this
    simp only [Bool.and_eq_true] at this
    exact this.1.1
theorem node_new (ns : List Nd) (x : Nd) (h : canOpen ns x.parent = true) (hx : (if x.name.size = 0 then decide (x.text.size ≠ 0) && decide (x.attrs = []) else isNm x.name && decide (x.text.size = 0)) = true) : okNode (ns ++ [x]) ns.length = true := by
  unfold okNode
  rw [List.getElem?_append_right (Nat.le_refl _), Nat.sub_self]
  have hl := canOpen_lt h
  simp only [List.getElem?_cons_zero, Bool.and_eq_true, decide_eq_true_eq]
  exact ⟨⟨by omega, canOpen_app _ h⟩, hx⟩
theorem isBd_push {b : Bd} {x : Nd} (h : isBd b = true) (hn : b.nodes.length < 40) (hp : x.parent = lastOpen b) (hx : (if x.name.size = 0 then decide (x.text.size ≠ 0) && decide (x.attrs = []) else isNm x.name && decide (x.text.size = 0)) = true) : isBd ⟨b.nodes ++ [x], b.opn⟩ = true := by
  have hl := last_open h
  obtain ⟨h1, hr, hno, ho, h0, hop⟩ := isBd_iff.1 h
  refine isBd_iff.2 ⟨by simp only [List.length_append, List.length_cons, List.length_nil]; omega, okRoot_app _ hr (by omega), fun i hi1 hi2 => ?_, ho, h0, fun i hi1 hi2 => ?_⟩
  · simp only [List.length_append, List.length_cons, List.length_nil] at hi2
    by_cases e : i = b.nodes.length
    · rw [e]; exact node_new _ x (hp ▸ hl) hx
    · exact okNode_app _ (hno i hi1 (by omega)) (by omega)
  · have := okOpen_app [x] [] (hop i hi1 hi2) hi2
    rwa [List.append_nil] at this
theorem isBd_open {b : Bd} {x : Nd} (h : isBd b = true) (hn : b.nodes.length < 40) (ho8 : b.opn.length < 8) (hp : x.parent = lastOpen b) (hv : isVoid x.name = false) (hnm : isNm x.name = true) (ht : x.text.size = 0) : isBd ⟨b.nodes ++ [x], b.opn ++ [(b.nodes.length : Int)]⟩ = true := by
  have hs : ¬ x.name.size = 0 := by have := isNm_pos hnm; omega
  have h' := isBd_push h hn hp (by rw [if_neg hs, hnm, decide_eq_true ht]; rfl)
  have hl := last_open h
  obtain ⟨h1, hr, hno, ho, h0, hop⟩ := isBd_iff.1 h'
  obtain ⟨_, _, _, ho', _, hop'⟩ := isBd_iff.1 h
  refine isBd_iff.2 ⟨h1, hr, hno, by simp only [List.length_append, List.length_cons, List.length_nil]; omega, by rw [getD_app (by omega)]; exact h0, fun i hi1 hi2 => ?_⟩
  simp only [List.length_append, List.length_cons, List.length_nil] at hi2
  by_cases e : i = b.opn.length
  · subst e
    have eN : (b.opn ++ [(b.nodes.length : Int)]).getD b.opn.length 0 = (b.nodes.length : Int) := by
      rw [List.getD_eq_getElem?_getD, List.getElem?_append_right (Nat.le_refl _), Nat.sub_self]; rfl
    unfold okOpen
    simp only [Bool.and_eq_true, decide_eq_true_eq]
    rw [eN, getD_app (by omega)]
    have hx : (b.nodes ++ [x])[((b.nodes.length : Int)).toNat]? = some x := by
      rw [Int.toNat_natCast, List.getElem?_append_right (Nat.le_refl _), Nat.sub_self]; rfl
    refine ⟨⟨?_, by have := (isBd_iff.1 h).1; omega⟩, ?_⟩
    · unfold canOpen
      rw [hx]
      simp only [Bool.and_eq_true, decide_eq_true_eq, Bool.not_eq_true']
      exact ⟨by omega, hs, hv⟩
    · unfold parentOf
      rw [hx]
      show x.parent = _
      rw [hp]; rfl
  · exact okOpen_app [x] [(b.nodes.length : Int)] (hop' i hi1 (by omega)) (by omega)
theorem isBd_close {b : Bd} (h : isBd b = true) (s : ByteArray) : isBd (closeB b s) = true := by
  obtain ⟨h1, hr, hno, ho, h0, hop⟩ := isBd_iff.1 h
  unfold closeB
  have hc : 1 ≤ closeN b s (b.opn.length - 1) ∧ closeN b s (b.opn.length - 1) ≤ b.opn.length := by
    rcases closeN_in b s (b.opn.length - 1) with e | e <;> omega
  refine isBd_iff.2 ⟨h1, hr, hno, by simp only [List.length_take]; omega, by rw [getD_take (by omega)]; exact h0, fun i hi1 hi2 => ?_⟩
  simp only [List.length_take] at hi2
  exact okOpen_take (hop i hi1 (by omega)) (by omega)
theorem isBd_add {b : Bd} (h : isBd b = true) (t : Tok) (ht : t.kind ≠ 1 ∨ isNm t.name = true) : isBd (addTok b t).1 = true := by
  have hb := isBd_iff.1 h
  unfold addTok openB textB
  split
  · rename_i hk
    have hnm : isNm t.name = true := by rcases ht with h1 | h1; exact absurd hk h1; exact h1
    split
    · exact h
    · rename_i h8
      split
      · exact h
      · rename_i hroom
        have hroom' : roomB b = true := by cases e : roomB b; exact absurd e hroom; rfl
        unfold roomB at hroom'
        simp only [Bool.and_eq_true, decide_eq_true_eq] at hroom'
        have hs : ¬ t.name.size = 0 := by have := isNm_pos hnm; omega
        by_cases hv : isVoid t.name = false
        · rw [if_pos hv]
          exact isBd_open (x := ⟨t.name, ⟨#[]⟩, lastOpen b, t.attrs⟩) h hroom'.1 (by rcases Nat.lt_or_ge b.opn.length 8 with h1 | h1; exact h1; exact absurd ⟨hv, h1⟩ h8) rfl hv hnm rfl
        · rw [if_neg hv]
          exact isBd_push (x := ⟨t.name, ⟨#[]⟩, lastOpen b, t.attrs⟩) h hroom'.1 rfl (by show (if t.name.size = 0 then _ else _) = true; rw [if_neg hs, hnm]; rfl)
  · split
    · exact isBd_close h _
    · split
      · split
        · exact h
        · rename_i hr
          have hroom : roomB b = true := by cases e : roomB b; exact absurd (Or.inr e) hr; rfl
          have htx : t.text.size ≠ 0 := fun e => hr (Or.inl e)
          unfold roomB at hroom
          simp only [Bool.and_eq_true, decide_eq_true_eq] at hroom
          exact isBd_push (x := ⟨⟨#[]⟩, t.text, lastOpen b, []⟩) h hroom.1 rfl (by show (if (0 : Nat) = 0 then _ else _) = true; rw [if_pos rfl, decide_eq_true htx]; rfl)
      · exact h
/-- Which number a token's node gets, and how many nodes there are then. -/
theorem addTok_num (b : Bd) (t : Tok) : (addTok b t).2 = (b.nodes.length : Int) ∧ (addTok b t).1.nodes.length = b.nodes.length + 1 ∨ (addTok b t).2 = -1 ∧ (addTok b t).1.nodes.length = b.nodes.length := by
  unfold addTok openB textB closeB
  split
  · split
    · exact Or.inr ⟨rfl, rfl⟩
    · split
      · exact Or.inr ⟨rfl, rfl⟩
      · exact Or.inl ⟨rfl, by simp⟩
  · split
    · exact Or.inr ⟨rfl, rfl⟩
    · split
      · split
        · exact Or.inr ⟨rfl, rfl⟩
        · exact Or.inl ⟨rfl, by simp⟩
      · exact Or.inr ⟨rfl, rfl⟩
theorem addToks_num : ∀ (ts : List Tok) (b : Bd), (addToks b ts).nodes.length ≤ b.nodes.length + ts.length
  | [], b => Nat.le_refl _
  | t :: ts, b => by
    have h := addToks_num ts (addTok b t).1
    rw [addToks, List.length_cons]
    rcases addTok_num b t with ⟨_, e⟩ | ⟨_, e⟩ <;> omega
end Go.Proofs.YtgcdfkpidcdicaaGreatDoor

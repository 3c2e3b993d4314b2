/- Bounds of trees that tokens of a text of bounded length build: nodes, open elements, texts. No program. -/
import Derived.Test.YtiginllbfjekeaaBdV
namespace Go.Proofs.Ytiginllbfjekeaa

/-- No text of a token is longer than the text that it came from. -/
theorem tagB_text {l : List UInt8} {t : Tok} (h : tagB l = some t) : t.text.size = 0 := by
  unfold tagB at h
  split at h
  · cases h
  · split at h
    · split at h
      · cases h; rfl
      · cases h
    · split at h
      · cases h
      · split at h
        · cases h
        · split at h
          · cases h; rfl
          · cases h
theorem feed_text_le (a : List UInt8) : ∀ t ∈ (feedB a).1, t.text.size ≤ a.length := by
  generalize hn : a.length = n
  induction n using Nat.strongRecOn generalizing a with
  | _ n ih =>
    by_cases h1 : 0 < idxB 60 a ∧ idxB 60 a < a.length
    · rw [feed_text h1.1 h1.2]
      intro t ht
      rcases List.mem_cons.1 ht with h | h
      · subst h
        show (ofL (a.take (idxB 60 a))).size ≤ n
        rw [ofL_size, List.length_take]; omega
      · have := ih (a.length - idxB 60 a) (by omega) (a.drop (idxB 60 a)) List.length_drop t h
        omega
    · by_cases h2 : idxB 60 a = 0 ∧ idxB 62 a < a.length
      · rw [feed_tag h2.1 h2.2]
        intro t ht
        rcases List.mem_append.1 ht with h | h
        · have := tagB_text (Option.mem_toList.1 h); omega
        · have := ih (a.length - (idxB 62 a + 1)) (by omega) (a.drop (idxB 62 a + 1)) List.length_drop t h
          omega
      · have hl := idxB_le 60 a
        have hl2 := idxB_le 62 a
        rw [feed_end (x := a) (by omega) h1]
        intro t ht; cases ht
theorem tokens_text_le (s : List UInt8) : ∀ t ∈ tokensB s, t.text.size ≤ s.length := by
  intro t ht
  rcases List.mem_append.1 ht with h | h
  · exact feed_text_le s t h
  · have hf := feed_size s
    unfold endB at h
    split at h
    · cases h
    · rw [List.mem_singleton] at h; subst h
      show (ofL (feedB s).2).size ≤ s.length
      rw [ofL_size]; omega

/-- No name of a token is longer than a name may be. -/
theorem isNm_le {s : ByteArray} (h : isNm s = true) : s.size ≤ 6000 := by
  unfold isNm at h
  simp only [Bool.and_eq_true, decide_eq_true_eq] at h
  omega
theorem tagB_name {l : List UInt8} {t : Tok} (h : tagB l = some t) : t.name.size ≤ 6000 := by
  unfold tagB at h
  split at h
  · cases h
  · split at h
    · split at h
      · rename_i hn; cases h; exact isNm_le hn
      · cases h
    · split at h
      · cases h
      · split at h
        · cases h
        · split at h
          · rename_i hn; cases h; exact isNm_le hn.1
          · cases h
theorem feed_name_le (a : List UInt8) : ∀ t ∈ (feedB a).1, t.name.size ≤ 6000 := by
  generalize hn : a.length = n
  induction n using Nat.strongRecOn generalizing a with
  | _ n ih =>
    by_cases h1 : 0 < idxB 60 a ∧ idxB 60 a < a.length
    · rw [feed_text h1.1 h1.2]
      intro t ht
      rcases List.mem_cons.1 ht with h | h
      · subst h; exact Nat.zero_le _
      · exact ih (a.length - idxB 60 a) (by omega) (a.drop (idxB 60 a)) List.length_drop t h
    · by_cases h2 : idxB 60 a = 0 ∧ idxB 62 a < a.length
      · rw [feed_tag h2.1 h2.2]
        intro t ht
        rcases List.mem_append.1 ht with h | h
        · exact tagB_name (Option.mem_toList.1 h)
        · exact ih (a.length - (idxB 62 a + 1)) (by omega) (a.drop (idxB 62 a + 1)) List.length_drop t h
      · have hl := idxB_le 60 a
        have hl2 := idxB_le 62 a
        rw [feed_end (x := a) (by omega) h1]
        intro t ht; cases ht
theorem tokens_name_le (s : List UInt8) : ∀ t ∈ tokensB s, t.name.size ≤ 6000 := by
  intro t ht
  rcases List.mem_append.1 ht with h | h
  · exact feed_name_le s t h
  · unfold endB at h
    split at h
    · cases h
    · rw [List.mem_singleton] at h; subst h
      exact Nat.zero_le _

/-- Few nodes, few open elements, short texts. -/
structure BdOk (K : Nat) (b : Bd) : Prop where
  nodes : b.nodes.length ≤ 40
  opn : b.opn.length ≤ 8
  pos : 0 < b.opn.length
  text : ∀ x ∈ b.nodes, x.text.size ≤ K
  att : ∀ x ∈ b.nodes, x.attrs.length ≤ 4
  nam : ∀ x ∈ b.nodes, x.name.size ≤ 6000
theorem bdOk_new (K : Nat) : BdOk K bdNew := ⟨by decide, by decide, by decide, fun x hx => by
  have : x = ⟨sPage, ⟨#[]⟩, -1, []⟩ := List.mem_singleton.1 hx
  subst this; exact Nat.zero_le _, fun x hx => by
  have : x = ⟨sPage, ⟨#[]⟩, -1, []⟩ := List.mem_singleton.1 hx
  subst this; exact Nat.zero_le _, fun x hx => by
  have : x = ⟨sPage, ⟨#[]⟩, -1, []⟩ := List.mem_singleton.1 hx
  subst this; show sPage.size ≤ 6000; decide⟩
theorem roomB_lt {b : Bd} (h : ¬ roomB b = false) : b.nodes.length < 40 := by
  have h' : roomB b = true := by cases e : roomB b; exact absurd e h; rfl
  unfold roomB at h'
  simp only [Bool.and_eq_true, decide_eq_true_eq] at h'
  exact h'.1
theorem bdOk_push {K : Nat} {b : Bd} {x : Nd} {l : List Int} (h : BdOk K b) (hr : b.nodes.length < 40) (hx : x.text.size ≤ K) (ha : x.attrs.length ≤ 4) (hn : x.name.size ≤ 6000) (hl : l.length ≤ 8) (hp : 0 < l.length) : BdOk K ⟨b.nodes ++ [x], l⟩ :=
  ⟨by show (b.nodes ++ [x]).length ≤ 40; rw [List.length_append]; show _ + 1 ≤ 40; omega, hl, hp, fun y hy => by
    rcases List.mem_append.1 hy with h1 | h1
    · exact h.text y h1
    · rw [List.mem_singleton] at h1; subst h1; exact hx, fun y hy => by
    rcases List.mem_append.1 hy with h1 | h1
    · exact h.att y h1
    · rw [List.mem_singleton] at h1; subst h1; exact ha, fun y hy => by
    rcases List.mem_append.1 hy with h1 | h1
    · exact h.nam y h1
    · rw [List.mem_singleton] at h1; subst h1; exact hn⟩
theorem closeN_pos {b : Bd} {s : ByteArray} (h : 0 < b.opn.length) : ∀ k, 0 < closeN b s k
  | 0 => h
  | k + 1 => by
    unfold closeN; split
    · exact Nat.succ_pos _
    · exact closeN_pos h k
theorem bdOk_add {K : Nat} {b : Bd} {t : Tok} (h : BdOk K b) (ht : t.text.size ≤ K) (ha : t.attrs.length ≤ 4) (hnm : t.name.size ≤ 6000) : BdOk K (addTok b t).1 := by
  unfold addTok openB textB closeB
  split
  · split
    · exact h
    · rename_i h8
      split
      · exact h
      · rename_i hr
        refine bdOk_push h (roomB_lt hr) (Nat.zero_le _) ha hnm ?_ ?_
        · by_cases hv : isVoid t.name = false
          · rw [if_pos hv, List.length_append]
            have : ¬ 8 ≤ b.opn.length := fun e => h8 ⟨hv, e⟩
            show _ + 1 ≤ 8; omega
          · rw [if_neg hv]; exact h.opn
        · by_cases hv : isVoid t.name = false
          · rw [if_pos hv, List.length_append]
            show 0 < _ + 1; omega
          · rw [if_neg hv]; exact h.pos
  · split
    · refine ⟨h.nodes, ?_, ?_, h.text, h.att, h.nam⟩
      · show (b.opn.take _).length ≤ 8
        rw [List.length_take]; have := h.opn; omega
      · show 0 < (b.opn.take _).length
        rw [List.length_take]; have := h.pos; have := closeN_pos (s := t.name) h.pos (b.opn.length - 1); omega
    · split
      · split
        · exact h
        · rename_i hr
          exact bdOk_push h (roomB_lt fun e => hr (Or.inr e)) ht (Nat.zero_le _) (Nat.zero_le _) h.opn h.pos
      · exact h
theorem bdOk_adds {K : Nat} : ∀ (ts : List Tok) (b : Bd), BdOk K b → (∀ t ∈ ts, t.text.size ≤ K ∧ t.attrs.length ≤ 4 ∧ t.name.size ≤ 6000) → BdOk K (addToks b ts)
  | [], _, h, _ => h
  | t :: ts, _, h, ht => bdOk_adds ts _ (bdOk_add h (ht t List.mem_cons_self).1 (ht t List.mem_cons_self).2.1 (ht t List.mem_cons_self).2.2) fun u hu => ht u (List.mem_cons_of_mem _ hu)
end Go.Proofs.Ytiginllbfjekeaa

/- Tokens as plain values: what a tag is, what its form is, how a text is divided, and that the pieces of a text do not matter. No program. -/
import Derived.Test.YtpkicliimhflgaaName
import Derived.Test.YtpkicliimhflgaaStr
namespace Go.Proofs.Ytpkicliimhflgaa

def isVc (b : UInt8) : Bool := decide ((97 ≤ b.toNat ∧ b.toNat ≤ 122) ∨ (48 ≤ b.toNat ∧ b.toNat ≤ 57) ∨ b.toNat = 47)
/-- A value: 1 to 20 small letters, digits or slashes. -/
def isVal (s : ByteArray) : Bool := decide (1 ≤ s.size ∧ s.size ≤ 20) && s.data.toList.all isVc

/-- A token: kind, name, attributes, text. -/
structure Tok where
  kind : Int
  name : ByteArray
  attrs : List (ByteArray × ByteArray)
  text : ByteArray
def tokZero : Tok := ⟨0, ⟨#[]⟩, [], ⟨#[]⟩⟩
def tokClose (n : ByteArray) : Tok := ⟨2, n, [], ⟨#[]⟩⟩
def tokOpen (n : ByteArray) (ats : List (ByteArray × ByteArray)) : Tok := ⟨1, n, ats, ⟨#[]⟩⟩
def tokText (t : ByteArray) : Tok := ⟨3, ⟨#[]⟩, [], t⟩

/-- The first attribute of this name. -/
def findA (ats : List (ByteArray × ByteArray)) (n : ByteArray) : Option ByteArray := match ats with
  | [] => none
  | a :: ats => if a.1 = n then some a.2 else findA ats n
/-- KEY=VALUE. -/
def attrB (p : List UInt8) : Option (ByteArray × ByteArray) := match splitB 61 p with
  | [k, v] => if isNm (ofL k) = true ∧ isVal (ofL v) = true then some (ofL k, ofL v) else none
  | _ => none
/-- The attributes behind those that were taken. -/
def attrsB : List (List UInt8) → List (ByteArray × ByteArray) → Option (List (ByteArray × ByteArray))
  | [], acc => some acc
  | p :: ps, acc => match attrB p with
    | none => none
    | some a => if (findA acc a.1).isSome then none else attrsB ps (acc ++ [a])
def tagB (l : List UInt8) : Option Tok :=
  if 60 < l.length then none else
  match l with
  | 47 :: r => if isNm (ofL r) = true then some (tokClose (ofL r)) else none
  | _ => match splitB 32 l with
    | [] => none
    | n :: ps => match attrsB ps [] with
      | none => none
      | some ats => if isNm (ofL n) = true ∧ ats.length ≤ 4 then some (tokOpen (ofL n) ats) else none

def fmtAs : List (ByteArray × ByteArray) → List UInt8
  | [] => []
  | a :: ats => 32 :: a.1.data.toList ++ 61 :: a.2.data.toList ++ fmtAs ats
/-- The form of a token. -/
def fmtT (t : Tok) : List UInt8 :=
  if t.kind = 1 then 60 :: (t.name.data.toList ++ fmtAs t.attrs) ++ [62]
  else if t.kind = 2 then 60 :: 47 :: t.name.data.toList ++ [62]
  else if t.kind = 3 then t.text.data.toList
  else []
theorem fmtAs_append (ats bs : List (ByteArray × ByteArray)) : fmtAs (ats ++ bs) = fmtAs ats ++ fmtAs bs := by
  induction ats with
  | nil => rfl
  | cons a ats ih => show 32 :: _ ++ _ ++ fmtAs (ats ++ bs) = _; rw [ih]; simp [fmtAs]

theorem attrB_form {p : List UInt8} {a : ByteArray × ByteArray} (h : attrB p = some a) : a.1.data.toList ++ 61 :: a.2.data.toList = p := by
  have hj := joinB_split 61 p
  unfold attrB at h
  split at h
  · rename_i k v hs
    split at h
    · cases h
      rw [hs] at hj
      rw [← hj]; rfl
    · cases h
  · cases h
theorem attrsB_form : ∀ {ps : List (List UInt8)} {acc ats : List (ByteArray × ByteArray)}, attrsB ps acc = some ats → ∃ bs, ats = acc ++ bs ∧ bs.length = ps.length ∧ fmtAs bs = (ps.map fun p => 32 :: p).flatten
  | [], acc, ats, h => ⟨[], by cases h; simp, rfl, rfl⟩
  | p :: ps, acc, ats, h => by
    unfold attrsB at h
    cases ha : attrB p with
    | none => rw [ha] at h; cases h
    | some a =>
      rw [ha] at h
      simp only at h
      split at h
      · cases h
      · obtain ⟨bs, h1, h2, h3⟩ := attrsB_form h
        refine ⟨a :: bs, by rw [h1]; simp, by simp [h2], ?_⟩
        show 32 :: _ ++ _ ++ fmtAs bs = _
        rw [h3, List.map_cons, List.flatten_cons, ← attrB_form ha]
        simp
theorem joinB_flat (c : UInt8) (n : List UInt8) : ∀ ps : List (List UInt8), joinB c (n :: ps) = n ++ (ps.map fun p => c :: p).flatten
  | [] => by show n = _; simp
  | q :: ps => by
    rw [joinB_cons _ _ (List.cons_ne_nil _ _), joinB_flat c q ps]; simp
/-- The token of a tag has the tag as its form. -/
theorem tagB_form {l : List UInt8} {t : Tok} (h : tagB l = some t) : fmtT t = 60 :: l ++ [62] := by
  unfold tagB at h
  split at h
  · cases h
  · split at h
    · split at h
      · cases h; rfl
      · cases h
    · have hj := joinB_split 32 l
      cases hs : splitB 32 l with
      | nil => exact absurd hs (splitB_ne _ _)
      | cons n ps =>
        rw [hs] at h hj
        simp only at h
        cases ha : attrsB ps [] with
        | none => rw [ha] at h; cases h
        | some ats =>
          rw [ha] at h
          simp only at h
          split at h
          · cases h
            obtain ⟨bs, h1, _, h3⟩ := attrsB_form ha
            rw [List.nil_append] at h1; subst h1
            rw [joinB_flat] at hj
            show 60 :: ((ofL n).data.toList ++ fmtAs ats) ++ [62] = _
            rw [h3, ofL_list, hj]
          · cases h
theorem tagB_kind {l : List UInt8} {t : Tok} (h : tagB l = some t) : t.kind = 1 ∨ t.kind = 2 := by
  unfold tagB at h
  split at h
  · cases h
  · split at h
    · split at h
      · cases h; exact Or.inr rfl
      · cases h
    · split at h
      · cases h
      · split at h
        · cases h
        · split at h
          · cases h; exact Or.inl rfl
          · cases h
theorem tagB_long {l : List UInt8} (h : 60 < l.length) : tagB l = none := by unfold tagB; rw [if_pos h]
theorem tagB_short {l : List UInt8} {t : Tok} (h : tagB l = some t) : l.length ≤ 60 := by
  rcases Nat.lt_or_ge 60 l.length with h1 | h1
  · rw [tagB_long h1] at h; cases h
  · exact h1
theorem tagB_close {r : List UInt8} (h : r.length < 60) : tagB (47 :: r) = if isNm (ofL r) = true then some (tokClose (ofL r)) else none := by
  unfold tagB; rw [if_neg (by simp; omega)]; rfl
theorem tagB_open {l : List UInt8} {n : List UInt8} {ps : List (List UInt8)} (h : l.length ≤ 60) (h0 : l[0]? ≠ some 47) (hs : splitB 32 l = n :: ps) :
    tagB l = match attrsB ps [] with
      | none => none
      | some ats => if isNm (ofL n) = true ∧ ats.length ≤ 4 then some (tokOpen (ofL n) ats) else none := by
  unfold tagB
  rw [if_neg (by omega)]
  split
  · exact absurd rfl h0
  · rw [hs]

/-- A text divided into tokens, and what remains. -/
def feedB (x : List UInt8) : List Tok × List UInt8 :=
  if h : 0 < idxB 60 x ∧ idxB 60 x < x.length then
    (tokText (ofL (x.take (idxB 60 x))) :: (feedB (x.drop (idxB 60 x))).1, (feedB (x.drop (idxB 60 x))).2)
  else if h2 : idxB 60 x = 0 ∧ idxB 62 x < x.length then
    ((tagB ((x.take (idxB 62 x)).drop 1)).toList ++ (feedB (x.drop (idxB 62 x + 1))).1, (feedB (x.drop (idxB 62 x + 1))).2)
  else ([], x)
termination_by x.length
decreasing_by all_goals simp only [List.length_drop]; omega
theorem feed_text {x : List UInt8} (h1 : 0 < idxB 60 x) (h2 : idxB 60 x < x.length) :
    feedB x = (tokText (ofL (x.take (idxB 60 x))) :: (feedB (x.drop (idxB 60 x))).1, (feedB (x.drop (idxB 60 x))).2) := by
  rw [feedB, dif_pos ⟨h1, h2⟩]
theorem feed_tag {x : List UInt8} (h1 : idxB 60 x = 0) (h2 : idxB 62 x < x.length) :
    feedB x = ((tagB ((x.take (idxB 62 x)).drop 1)).toList ++ (feedB (x.drop (idxB 62 x + 1))).1, (feedB (x.drop (idxB 62 x + 1))).2) := by
  rw [feedB, dif_neg (by omega), dif_pos ⟨h1, h2⟩]
theorem feed_end {x : List UInt8} (h : idxB 60 x ≠ 0 ∨ idxB 62 x = x.length) (h2 : ¬ (0 < idxB 60 x ∧ idxB 60 x < x.length)) : feedB x = ([], x) := by
  rw [feedB, dif_neg h2, dif_neg (by omega)]
theorem feed_nil : feedB [] = ([], []) := feed_end (Or.inr rfl) (by simp)
/-- Feeding two texts one behind the other. -/
theorem feed_append (a b : List UInt8) : feedB (a ++ b) = ((feedB a).1 ++ (feedB ((feedB a).2 ++ b)).1, (feedB ((feedB a).2 ++ b)).2) := by
  generalize hn : a.length = n
  induction n using Nat.strongRecOn generalizing a with
  | _ n ih =>
    by_cases h1 : 0 < idxB 60 a ∧ idxB 60 a < a.length
    · have e := idxB_lt_append b h1.2
      rw [feed_text h1.1 h1.2, feed_text (x := a ++ b) (by omega) (by rw [e, List.length_append]; omega), e,
        List.take_append_of_le_length (by omega), List.drop_append_of_le_length (by omega),
        ih (a.length - idxB 60 a) (by omega) (a.drop (idxB 60 a)) List.length_drop]
      rfl
    · by_cases h2 : idxB 60 a = 0 ∧ idxB 62 a < a.length
      · have e := idxB_lt_append b h2.2
        have e0 : idxB 60 (a ++ b) = 0 := by rw [idxB_lt_append b (by omega)]; exact h2.1
        rw [feed_tag h2.1 h2.2, feed_tag (x := a ++ b) e0 (by rw [e, List.length_append]; omega), e,
          List.take_append_of_le_length (by omega), List.drop_append_of_le_length (by omega),
          ih (a.length - (idxB 62 a + 1)) (by omega) (a.drop (idxB 62 a + 1)) List.length_drop]
        simp only [List.append_assoc]
      · have hl := idxB_le 60 a
        have hl2 := idxB_le 62 a
        rw [feed_end (x := a) (by omega) h1]
        rfl
/-- One more piece. -/
theorem feed_more {s r : List UInt8} {a b : Nat} {acc : List Tok} (hab : a ≤ b) (h : feedB (s.take a) = (acc, r)) :
    feedB (s.take b) = (acc ++ (feedB (r ++ (s.take b).drop a)).1, (feedB (r ++ (s.take b).drop a)).2) := by
  have e : s.take b = s.take a ++ (s.take b).drop a := by
    conv => lhs; rw [← List.take_append_drop a (s.take b)]
    rw [List.take_take, Nat.min_eq_left hab]
  conv => lhs; rw [e]
  rw [feed_append, h]
/-- What a page's end gives. -/
def endB (r : List UInt8) : List Tok := if r = [] ∨ r[0]? = some 60 then [] else [tokText (ofL r)]
def tokensB (s : List UInt8) : List Tok := (feedB s).1 ++ endB (feedB s).2
/-- A token as texts give it: of a kind, and no text is empty. -/
def GoodT (t : Tok) : Prop := (t.kind = 1 ∨ t.kind = 2) ∨ t.kind = 3 ∧ fmtT t ≠ []
theorem goodT_text {l : List UInt8} (h : l ≠ []) : GoodT (tokText (ofL l)) := Or.inr ⟨rfl, h⟩
theorem feed_good (a : List UInt8) : ∀ t ∈ (feedB a).1, GoodT t := by
  generalize hn : a.length = n
  induction n using Nat.strongRecOn generalizing a with
  | _ n ih =>
    by_cases h1 : 0 < idxB 60 a ∧ idxB 60 a < a.length
    · rw [feed_text h1.1 h1.2]
      intro t ht
      rcases List.mem_cons.1 ht with h | h
      · subst h
        exact goodT_text (by intro hc; have := congrArg List.length hc; rw [List.length_take, List.length_nil] at this; omega)
      · exact ih (a.length - idxB 60 a) (by omega) (a.drop (idxB 60 a)) List.length_drop t h
    · by_cases h2 : idxB 60 a = 0 ∧ idxB 62 a < a.length
      · rw [feed_tag h2.1 h2.2]
        intro t ht
        rcases List.mem_append.1 ht with h | h
        · exact Or.inl (tagB_kind (Option.mem_toList.1 h))
        · exact ih (a.length - (idxB 62 a + 1)) (by omega) (a.drop (idxB 62 a + 1)) List.length_drop t h
      · have hl := idxB_le 60 a
        have hl2 := idxB_le 62 a
        rw [feed_end (x := a) (by omega) h1]
        intro t ht; cases ht
theorem tokens_good (s : List UInt8) : ∀ t ∈ tokensB s, GoodT t := by
  intro t ht
  rcases List.mem_append.1 ht with h | h
  · exact feed_good s t h
  · unfold endB at h
    split at h
    · cases h
    · rename_i hn
      rw [List.mem_singleton] at h; subst h
      exact goodT_text fun e => hn (Or.inl e)
theorem feed_size (a : List UInt8) : (feedB a).1.length + (feedB a).2.length ≤ a.length ∧ (feedB a).2.length ≤ a.length := by
  generalize hn : a.length = n
  induction n using Nat.strongRecOn generalizing a with
  | _ n ih =>
    by_cases h1 : 0 < idxB 60 a ∧ idxB 60 a < a.length
    · rw [feed_text h1.1 h1.2]
      have := ih (a.length - idxB 60 a) (by omega) (a.drop (idxB 60 a)) List.length_drop
      simp only [List.length_cons]; omega
    · by_cases h2 : idxB 60 a = 0 ∧ idxB 62 a < a.length
      · rw [feed_tag h2.1 h2.2]
        have := ih (a.length - (idxB 62 a + 1)) (by omega) (a.drop (idxB 62 a + 1)) List.length_drop
        have h3 : (tagB ((a.take (idxB 62 a)).drop 1)).toList.length ≤ 1 := by cases tagB ((a.take (idxB 62 a)).drop 1) <;> simp
        simp only [List.length_append]; omega
      · have hl := idxB_le 60 a
        have hl2 := idxB_le 62 a
        rw [feed_end (x := a) (by omega) h1]
        simp; omega
theorem tokens_size (s : List UInt8) : (tokensB s).length ≤ s.length + 1 := by
  have := feed_size s
  unfold tokensB endB
  rw [List.length_append]
  split <;> simp <;> omega
/-- The tokens of one tag. -/
theorem tokens_one {l : List UInt8} (h : ∀ b ∈ l, b ≠ 62) : tokensB (60 :: l ++ [62]) = (tagB l).toList := by
  have e0 : idxB 60 (60 :: l ++ [62]) = 0 := rfl
  have e1 : idxB 62 (60 :: l ++ [62]) = l.length + 1 := by
    have h2 : ∀ b ∈ (60 :: l), b ≠ (62 : UInt8) := by
      intro b hb
      rcases List.mem_cons.1 hb with h3 | h3
      · rw [h3]; decide
      · exact h b h3
    have := idxB_free_append [] h2
    simpa using this
  unfold tokensB
  rw [feed_tag e0 (by rw [e1]; simp), e1]
  have e2 : (60 :: l ++ [62]).drop (l.length + 1 + 1) = [] := List.drop_of_length_le (by simp)
  rw [e2, feed_nil]
  have e3 : ((60 :: l ++ [62]).take (l.length + 1)).drop 1 = l := by
    show ((60 :: (l ++ [62])).take (l.length + 1)).drop 1 = l
    rw [List.take_succ_cons, List.drop_succ_cons, List.drop_zero, List.take_left]
  rw [e3]
  simp [endB]
end Go.Proofs.Ytpkicliimhflgaa

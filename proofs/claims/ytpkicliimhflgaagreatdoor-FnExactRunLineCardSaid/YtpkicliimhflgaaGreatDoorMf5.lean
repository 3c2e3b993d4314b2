/- Tokens as plain values: what a tag is, what its form is, how a text is divided, and that the pieces of a text do not matter. No program. Strings as elements of slices; a new slice of the call's own. Helper facts, no claim of its own. Tokens and their attributes in memory: what it means that a slice value reads as a list of them, that a call owns all of it, and append to such a slice. Helper facts, no claim of its own. Trees under construction as plain values: what a token adds, what is closed, the text of children, the count of a name, what a valid one is. No program. -/
import Derived.Test.YtpkicliimhflgaaGreatDoorMf4
import Derived.Test.YtpkicliimhflgaaGreatDoorMf2
import Derived.Test.YtpkicliimhflgaaGreatDoorMf1
namespace Go.Proofs.YtpkicliimhflgaaGreatDoor

def isVc (b : UInt8) : Bool := decide ((97 ≤ b.toNat ∧ b.toNat ≤ 122) ∨ (48 ≤ b.toNat ∧ b.toNat ≤ 57) ∨ b.toNat = 47)
/-- A value: 1 to 20 small letters, digits or slashes. -/
def isVal (s : ByteArray) : Bool := decide (1 ≤ s.size ∧ s.size ≤ 20) && s.data.toList.all isVc

/-- A token: kind, name, attributes, text. -/
structure Tok where
  kind : Int
  name : ByteArray
  attrs : List (ByteArray × ByteArray)
  text : ByteArray
def tokZero : Tok := ⟨0, ⟨#[]⟩, [], ⟨#[]⟩⟩
def tokClose (n : ByteArray) : Tok := ⟨2, n, [], ⟨#[]⟩⟩
def tokOpen (n : ByteArray) (ats : List (ByteArray × ByteArray)) : Tok := ⟨1, n, ats, ⟨#[]⟩⟩
def tokText (t : ByteArray) : Tok := ⟨3, ⟨#[]⟩, [], t⟩

/-- The first attribute of this name. -/
def findA (ats : List (ByteArray × ByteArray)) (n : ByteArray) : Option ByteArray := match ats with
  | [] => none
  | a :: ats => if a.1 = n then some a.2 else findA ats n
/-- KEY=VALUE. -/
def attrB (p : List UInt8) : Option (ByteArray × ByteArray) := match splitB 61 p with
  | [k, v] => if isNm (ofL k) = true ∧ isVal (ofL v) = true then some (ofL k, ofL v) else none
  | _ => none
/-- The attributes behind those that were taken. -/
def attrsB : List (List UInt8) → List (ByteArray × ByteArray) → Option (List (ByteArray × ByteArray))
  | [], acc => some acc
  | p :: ps, acc => match attrB p with
    | none => none
    | some a => if (findA acc a.1).isSome then none else attrsB ps (acc ++ [a])
def tagB (l : List UInt8) : Option Tok :=
  if 60 < l.length then none else
  match l with
  | 47 :: r => if isNm (ofL r) = true then some (tokClose (ofL r)) else none
  | _ => match splitB 32 l with
    | [] => none
    | n :: ps => match attrsB ps [] with
      | none => none
      | some ats => if isNm (ofL n) = true ∧ ats.length ≤ 4 then some (tokOpen (ofL n) ats) else none

def fmtAs : List (ByteArray × ByteArray) → List UInt8
  | [] => []
  | a :: ats => 32 :: a.1.data.toList ++ 61 :: a.2.data.toList ++ fmtAs ats
/-- The form of a token. -/
def fmtT (t : Tok) : List UInt8 :=
  if t.kind = 1 then 60 :: (t.name.data.toList ++ fmtAs t.attrs) ++ [62]
  else if t.kind = 2 then 60 :: 47 :: t.name.data.toList ++ [62]
  else if t.kind = 3 then t.text.data.toList
  else []
theorem fmtAs_append (ats bs : List (ByteArray × ByteArray)) : fmtAs (ats ++ bs) = fmtAs ats ++ fmtAs bs := by
  induction ats with
  | nil => rfl
  | cons a ats ih => show 32 :: _ ++ _ ++ fmtAs (ats ++ bs) = _; rw [ih]; simp [fmtAs]

theorem attrB_form {p : List UInt8} {a : ByteArray × ByteArray} (h : attrB p = some a) : a.1.data.toList ++ 61 :: a.2.data.toList = p := by
  have hj := joinB_split 61 p
  unfold attrB at h
  split at h
  · rename_i k v hs
    split at h
    · cases h
      rw [hs] at hj
      rw [← hj]; rfl
    · cases h
  · cases h
theorem attrsB_form : ∀ {ps : List (List UInt8)} {acc ats : List (ByteArray × ByteArray)}, attrsB ps acc = some ats → ∃ bs, ats = acc ++ bs ∧ bs.length = ps.length ∧ fmtAs bs = (ps.map fun p => 32 :: p).flatten
  | [], acc, ats, h => ⟨[], by cases h; simp, rfl, rfl⟩
  | p :: ps, acc, ats, h => by
    unfold attrsB at h
    cases ha : attrB p with
    | none => rw [ha] at h; cases h
    | some a =>
      rw [ha] at h
      simp only at h
      split at h
      · cases h
      · obtain ⟨bs, h1, h2, h3⟩ := attrsB_form h
        refine ⟨a :: bs, by rw [h1]; simp, by simp [h2], ?_⟩
        show 32 :: _ ++ _ ++ fmtAs bs = _
        rw [h3, List.map_cons, List.flatten_cons, ← attrB_form ha]
        simp
theorem joinB_flat (c : UInt8) (n : List UInt8) : ∀ ps : List (List UInt8), joinB c (n :: ps) = n ++ (ps.map fun p => c :: p).flatten
  | [] => by show n = _; simp
  | q :: ps => by
    rw [joinB_cons _ _ (List.cons_ne_nil _ _), joinB_flat c q ps]; simp
/-- The token of a tag has the tag as its form. -/
theorem tagB_form {l : List UInt8} {t : Tok} (h : tagB l = some t) : fmtT t = 60 :: l ++ [62] := by
  unfold tagB at h
  split at h
  · cases h
  · split at h
    · split at h
      · cases h; rfl
      · cases h
    · have hj := joinB_split 32 l
      cases hs : splitB 32 l with
      | nil => exact absurd hs (splitB_ne _ _)
      | cons n ps =>
        rw [hs] at h hj
        simp only at h
        cases ha : attrsB ps [] with
        | none => rw [ha] at h; cases h
        | some ats =>
          rw [ha] at h
          simp only at h
          split at h
          · cases h
            obtain ⟨bs, h1, _, h3⟩ := attrsB_form ha
            rw [List.nil_append] at h1; subst h1
            rw [joinB_flat] at hj
            show 60 :: ((ofL n).data.toList ++ fmtAs ats) ++ [62] = _
            rw [h3, ofL_list, hj]
          · cases h
theorem tagB_kind {l : List UInt8} {t : Tok} (h : tagB l = some t) : t.kind = 1 ∨ t.kind = 2 := by
  unfold tagB at h
  split at h
  · cases h
  · split at h
    · split at h
      · cases h; exact Or.inr rfl
      · cases h
    · split at h
      · cases h
      · split at h
        · cases h
        · split at h
          · cases h; exact Or.inl rfl
          · cases h
theorem tagB_long {l : List UInt8} (h : 60 < l.length) : tagB l = none := by unfold tagB; rw [if_pos h]
theorem tagB_short {l : List UInt8} {t : Tok} (h : tagB l = some t) : l.length ≤ 60 := by
  rcases Nat.lt_or_ge 60 l.length with h1 | h1
  · rw [tagB_long h1] at h; cases h
  · exact h1
theorem tagB_close {r : List UInt8} (h : r.length < 60) : tagB (47 :: r) = if isNm (ofL r) = true then some (tokClose (ofL r)) else none := by
  unfold tagB; rw [if_neg (by simp; omega)]; rfl
theorem tagB_open {l : List UInt8} {n : List UInt8} {ps : List (List UInt8)} (h : l.length ≤ 60) (h0 : l[0]? ≠ some 47) (hs : splitB 32 l = n :: ps) :
    tagB l = match attrsB ps [] with
      | none => none
      | some ats => if isNm (ofL n) = true ∧ ats.length ≤ 4 then some (tokOpen (ofL n) ats) else none := by
  unfold tagB
  rw [if_neg (by omega)]
  split
  · exact absurd rfl h0
  · rw [hs]

/-- A text divided into tokens, and what remains. -/
def feedB (x : List UInt8) : List Tok × List UInt8 :=
  if h : 0 < idxB 60 x ∧ idxB 60 x < x.length then
    (tokText (ofL (x.take (idxB 60 x))) :: (feedB (x.drop (idxB 60 x))).1, (feedB (x.drop (idxB 60 x))).2)
  else if h2 : idxB 60 x = 0 ∧ idxB 62 x < x.length then
    ((tagB ((x.take (idxB 62 x)).drop 1)).toList ++ (feedB (x.drop (idxB 62 x + 1))).1, (feedB (x.drop (idxB 62 x + 1))).2)
  else ([], x)
termination_by x.length
decreasing_by all_goals simp only [List.length_drop]; omega
theorem feed_text {x : List UInt8} (h1 : 0 < idxB 60 x) (h2 : idxB 60 x < x.length) :
    feedB x = (tokText (ofL (x.take (idxB 60 x))) :: (feedB (x.drop (idxB 60 x))).1, (feedB (x.drop (idxB 60 x))).2) := by
  rw [feedB, dif_pos ⟨h1, h2⟩]
theorem feed_tag {x : List UInt8} (h1 : idxB 60 x = 0) (h2 : idxB 62 x < x.length) :
    feedB x = ((tagB ((x.take (idxB 62 x)).drop 1)).toList ++ (feedB (x.drop (idxB 62 x + 1))).1, (feedB (x.drop (idxB 62 x + 1))).2) := by
  rw [feedB, dif_neg (by omega), dif_pos ⟨h1, h2⟩]
theorem feed_end {x : List UInt8} (h : idxB 60 x ≠ 0 ∨ idxB 62 x = x.length) (h2 : ¬ (0 < idxB 60 x ∧ idxB 60 x < x.length)) : feedB x = ([], x) := by
  rw [feedB, dif_neg h2, dif_neg (by omega)]
theorem feed_nil : feedB [] = ([], []) := feed_end (Or.inr rfl) (by simp)
/-- Feeding two texts one behind the other. -/
theorem feed_append (a b : List UInt8) : feedB (a ++ b) = ((feedB a).1 ++ (feedB ((feedB a).2 ++ b)).1, (feedB ((feedB a).2 ++ b)).2) := by
  generalize hn : a.length = n
  induction n using Nat.strongRecOn generalizing a with
  | _ n ih =>
    by_cases h1 : 0 < idxB 60 a ∧ idxB 60 a < a.length
    · have e := idxB_lt_append b h1.2
      rw [feed_text h1.1 h1.2, feed_text (x := a ++ b) (by omega) (by rw [e, List.length_append]; omega), e,
        List.take_append_of_le_length (by omega), List.drop_append_of_le_length (by omega),
        ih (a.length - idxB 60 a) (by omega) (a.drop (idxB 60 a)) List.length_drop]
      rfl
    · by_cases h2 : idxB 60 a = 0 ∧ idxB 62 a < a.length
      · have e := idxB_lt_append b h2.2
        have e0 : idxB 60 (a ++ b) = 0 := by rw [idxB_lt_append b (by omega)]; exact h2.1
        rw [feed_tag h2.1 h2.2, feed_tag (x := a ++ b) e0 (by rw [e, List.length_append]; omega), e,
          List.take_append_of_le_length (by omega), List.drop_append_of_le_length (by omega),
          ih (a.length - (idxB 62 a + 1)) (by omega) (a.drop (idxB 62 a + 1)) List.length_drop]
        simp only [List.append_assoc]
      · have hl := idxB_le 60 a
        have hl2 := idxB_le 62 a
        rw [feed_end (x := a) (by omega) h1]
        rfl
/-- One more piece. -/
theorem feed_more {s r : List UInt8} {a b : Nat} {acc : List Tok} (hab : a ≤ b) (h : feedB (s.take a) = (acc, r)) :
    feedB (s.take b) = (acc ++ (feedB (r ++ (s.take b).drop a)).1, (feedB (r ++ (s.take b).drop a)).2) := by
  have e : s.take b = s.take a ++ (s.take b).drop a := by
    conv => lhs; rw [← List.take_append_drop a (s.take b)]
    rw [List.take_take, Nat.min_eq_left hab]
  conv => lhs; rw [e]
  rw [feed_append, h]
/-- What a page's end gives. -/
def endB (r : List UInt8) : List Tok := if r = [] ∨ r[0]? = some 60 then [] else [tokText (ofL r)]
def tokensB (s : List UInt8) : List Tok := (feedB s).1 ++ endB (feedB s).2
/-- A token as texts give it: of a kind, and no text is empty. -/
def GoodT (t : Tok) : Prop := (t.kind = 1 ∨ t.kind = 2) ∨ t.kind = 3 ∧ fmtT t ≠ []
theorem goodT_text {l : List UInt8} (h : l ≠ []) : GoodT (tokText (ofL l)) := Or.inr ⟨rfl, h⟩
theorem feed_good (a : List UInt8) : ∀ t ∈ (feedB a).1, GoodT t := by
  generalize hn : a.length = n
  induction n using Nat.strongRecOn generalizing a with
  | _ n ih =>
    by_cases h1 : 0 < idxB 60 a ∧ idxB 60 a < a.length
    · rw [feed_text h1.1 h1.2]
      intro t ht
      rcases List.mem_cons.1 ht with h | h
      · subst h
        exact goodT_text (by intro hc; have := congrArg List.length hc; rw [List.length_take, List.length_nil] at this; omega)
      · exact ih (a.length - idxB 60 a) (by omega) (a.drop (idxB 60 a)) List.length_drop t h
    · by_cases h2 : idxB 60 a = 0 ∧ idxB 62 a < a.length
      · rw [feed_tag h2.1 h2.2]
        intro t ht
        rcases List.mem_append.1 ht with h | h
        · exact Or.inl (tagB_kind (Option.mem_toList.1 h))
        · exact ih (a.length - (idxB 62 a + 1)) (by omega) (a.drop (idxB 62 a + 1)) List.length_drop t h
      · have hl := idxB_le 60 a
        have hl2 := idxB_le 62 a
        rw [feed_end (x := a) (by omega) h1]
        intro t ht; cases ht
theorem tokens_good (s : List UInt8) : ∀ t ∈ tokensB s, GoodT t := by
  intro t ht
  rcases List.mem_append.1 ht with h | h
  · exact feed_good s t h
  · unfold endB at h
    split at h
    · cases h
    · rename_i hn
      rw [List.mem_singleton] at h; subst h
      exact goodT_text fun e => hn (Or.inl e)
theorem feed_size (a : List UInt8) : (feedB a).1.length + (feedB a).2.length ≤ a.length ∧ (feedB a).2.length ≤ a.length := by
  generalize hn : a.length = n
  induction n using Nat.strongRecOn generalizing a with
  | _ n ih =>
    by_cases h1 : 0 < idxB 60 a ∧ idxB 60 a < a.length
    · rw [feed_text h1.1 h1.2]
      have := ih (a.length - idxB 60 a) (by omega) (a.drop (idxB 60 a)) List.length_drop
      simp only [List.length_cons]; omega
    · by_cases h2 : idxB 60 a = 0 ∧ idxB 62 a < a.length
      · rw [feed_tag h2.1 h2.2]
        have := ih (a.length - (idxB 62 a + 1)) (by omega) (a.drop (idxB 62 a + 1)) List.length_drop
        have h3 : (tagB ((a.take (idxB 62 a)).drop 1)).toList.length ≤ 1 := by cases tagB ((a.take (idxB 62 a)).drop 1) <;> simp
        simp only [List.length_append]; omega
      · have hl := idxB_le 60 a
        have hl2 := idxB_le 62 a
        rw [feed_end (x := a) (by omega) h1]
        simp; omega
theorem tokens_size (s : List UInt8) : (tokensB s).length ≤ s.length + 1 := by
  have := feed_size s
  unfold tokensB endB
  rw [List.length_append]
  split <;> simp <;> omega
/-- The tokens of one tag. -/
theorem tokens_one {l : List UInt8} (h : ∀ b ∈ l, b ≠ 62) : tokensB (60 :: l ++ [62]) = (tagB l).toList := by
  have e0 : idxB 60 (60 :: l ++ [62]) = 0 := rfl
  have e1 : idxB 62 (60 :: l ++ [62]) = l.length + 1 := by
    have h2 : ∀ b ∈ (60 :: l), b ≠ (62 : UInt8) := by
      intro b hb
      rcases List.mem_cons.1 hb with h3 | h3
      · rw [h3]; decide
      · exact h b h3
    have := idxB_free_append [] h2
    simpa using this
  unfold tokensB
  rw [feed_tag e0 (by rw [e1]; simp), e1]
  have e2 : (60 :: l ++ [62]).drop (l.length + 1 + 1) = [] := List.drop_of_length_le (by simp)
  rw [e2, feed_nil]
  have e3 : ((60 :: l ++ [62]).take (l.length + 1)).drop 1 = l := by
    show ((60 :: (l ++ [62])).take (l.length + 1)).drop 1 = l
    rw [List.take_succ_cons, List.drop_succ_cons, List.drop_zero, List.take_left]
  rw [e3]
  simp [endB]

end Go.Proofs.YtpkicliimhflgaaGreatDoor
namespace Go.Proofs.YtpkicliimhflgaaGreatDoor
open Go.ChangeShapes Go.WideShapes Go.ChangeAt Go.RowKit

def encS (s : ByteArray) : List Value := [.string s]
theorem encS_len (s : ByteArray) : (encS s).length = 1 := rfl
theorem encS_one (s : ByteArray) : ∀ u ∈ encS s, u.oneCell' = true := by
  intro u hu
  simp only [encS, List.mem_cons, List.mem_nil_iff, or_false] at hu
  subst hu; rfl
theorem infoStr : (Tryz.prog.info? 9).map (fun i => (i.zero, i.size, i.bytes)) = some (some (.string ⟨#[]⟩), 1, 16) := by kernel_rfl
/-- A new slice of these elements, the call's own; of what lay in memory nothing is written. -/
def NewK {α : Type} (enc : α → List Value) (k : Nat) (e : TypeId) (xs : List α) (w : World) (en : Ending) (w' : World) : Prop :=
  ∃ v, en = .returned v ∧ OwnK enc k e w.heap.size w'.heap.size w' v xs ∧ Below w.heap.size w w'
theorem add_off (g off t : Nat) : (⟨g, off, none⟩ : Addr).add t = ⟨g, off + t, none⟩ := by unfold Addr.add; split <;> simp_all
theorem leaf_of_data {c : Rw} {v : Value} (h : c.data = (Rw.leaf v).data) : c = .leaf v := by
  cases c with
  | leaf u => rw [leaf_same h]
  | sl u n k e cs => rw [Rw.data, Rw.data] at h; cases h

end Go.Proofs.YtpkicliimhflgaaGreatDoor
namespace Go.Proofs.YtpkicliimhflgaaGreatDoor
open Go.ChangeShapes Go.WideShapes Go.ChangeAt Go.RowKit

abbrev At := ByteArray × ByteArray
def encA (a : At) : List Value := [.string a.1, .string a.2]
theorem encA_len (a : At) : (encA a).length = 2 := rfl
theorem encA_one (a : At) : ∀ u ∈ encA a, u.oneCell' = true := by
  intro u hu
  simp only [encA, List.mem_cons, List.mem_nil_iff, or_false] at hu
  rcases hu with rfl | rfl <;> rfl
theorem infoAt : (Tryz.prog.info? 178).map (fun i => (i.zero, i.size, i.bytes)) = some (some (.agg #[.string ⟨#[]⟩, .string ⟨#[]⟩]), 2, 32) := by kernel_rfl
theorem infoTk : (Tryz.prog.info? 154).map (fun i => (i.zero, i.size, i.bytes)) = some (some (.agg #[.int .i64 0, .string ⟨#[]⟩, .slice none 0 0, .string ⟨#[]⟩]), 4, 64) := by kernel_rfl
theorem at_at {xs : List At} {j : Nat} (h : j < xs.length) : ∃ a b, xs[j]? = some (a, b) := ⟨xs[j].1, xs[j].2, List.getElem?_eq_getElem h⟩

def atCells : List At → List Rw
  | [] => []
  | a :: ats => .leaf (.string a.1) :: .leaf (.string a.2) :: atCells ats
/-- A slice of attributes. -/
def rwA (v : Value) (ats : List At) : Rw := .sl v ats.length 2 178 (atCells ats)
theorem rwA_cell (v : Value) (ats : List At) : (rwA v ats).cell = v := rfl
theorem atCells_map : ∀ ats : List At, (atCells ats).map Rw.cell = ats.flatMap encA
  | [] => rfl
  | a :: ats => by
    rw [atCells, List.map_cons, List.map_cons, atCells_map ats, List.flatMap_cons]; rfl
theorem atCells_len : ∀ ats : List At, (atCells ats).length = ats.length * 2
  | [] => rfl
  | a :: ats => by rw [atCells, List.length_cons, List.length_cons, atCells_len ats, List.length_cons]; omega
theorem atCells_at : ∀ {ats : List At} {j : Nat} {a : At}, ats[j]? = some a → (atCells ats)[j * 2]? = some (.leaf (.string a.1)) ∧ (atCells ats)[j * 2 + 1]? = some (.leaf (.string a.2))
  | [], j, a, h => by simp at h
  | b :: ats, 0, a, h => by
    have : b = a := by simpa using h
    subst this; exact ⟨rfl, rfl⟩
  | b :: ats, j + 1, a, h => by
    have ih := atCells_at (ats := ats) (j := j) (by simpa using h)
    rw [show (j + 1) * 2 = j * 2 + 1 + 1 by omega, atCells]
    simpa using ih
theorem atCells_leaf : ∀ {ats : List At}, ∀ c ∈ atCells ats, ∃ s, c = .leaf (.string s)
  | [], c, h => by cases h
  | a :: ats, c, h => by
    rw [atCells] at h
    rcases List.mem_cons.1 h with h | h
    · exact ⟨_, h⟩
    · rcases List.mem_cons.1 h with h | h
      · exact ⟨_, h⟩
      · exact atCells_leaf c h
theorem atCells_blocks (ats : List At) : blocksL (atCells ats) = [] := blocksL_nil fun c hc => by
  obtain ⟨s, rfl⟩ := atCells_leaf c hc
  rw [Rw.blocks]
theorem rwA_blocks (v : Value) (ats : List At) : (rwA v ats).blocks = v.ownBlock.toList := by rw [rwA, Rw.blocks, atCells_blocks, List.append_nil]
theorem rwA_is (v : Value) (ats : List At) : IsAttrS (rwA v ats) :=
  ⟨v, ats.length, _, atCells ats, rfl, fun j hj => by
    obtain ⟨a, b, h⟩ := at_at hj
    obtain ⟨h1, h2⟩ := atCells_at h
    exact ⟨a, b, h1, h2⟩⟩
theorem rwA_own {lo hi : Nat} {w : World} {v : Value} {ats : List At} (h : OwnK encA 2 178 lo hi w v ats) : (rwA v ats).OwnR lo hi w := by
  rw [rwA, Rw.OwnR]
  exact ⟨by rw [atCells_map]; exact h, ownRL_iff.2 fun c hc => by obtain ⟨s, rfl⟩ := atCells_leaf c hc; rw [Rw.OwnR]; rfl⟩
theorem rwA_reads {hi : Nat} {w : World} {v : Value} {ats : List At} (h : ReadsK encA 2 hi w v ats) : (rwA v ats).ReadR hi w := by
  rw [rwA, Rw.ReadR]
  have h0 := h
  obtain ⟨a, cap, rfl, h1, h2, h3, h4⟩ := h
  refine ⟨⟨a, cap, rfl, atCells_len ats, h1, h2, h3, ?_⟩, readRL_iff.2 fun c hc => by obtain ⟨s, rfl⟩ := atCells_leaf c hc; rw [Rw.ReadR]; rfl⟩
  rcases h4 with h4 | ⟨g, off, rfl, hg, hc⟩
  · exact Or.inl h4
  · refine Or.inr ⟨g, off, rfl, hg, fun j c hj => ?_⟩
    rw [atCells_map] at hj
    have := h0.news encA_len j c hj
    rwa [add_off] at this
theorem rwA_data (v u : Value) (ats : List At) : (rwA v ats).data = (rwA u ats).data := by rw [rwA, rwA, Rw.data, Rw.data]
theorem attrs_of_data {x : Rw} {u : Value} {ats : List At} {hi : Nat} {w : World} (h : x.data = (rwA u ats).data) (hr : x.ReadR hi w) : ReadsK encA 2 hi w x.cell ats := by
  cases x with
  | leaf v => rw [rwA, Rw.data, Rw.data] at h; cases h
  | sl v n k e cs =>
    rw [rwA, Rw.data, Rw.data] at h
    obtain ⟨rfl, hd⟩ := Dt.sl.inj h
    have hl : cs.length = ats.length * 2 := by have := congrArg List.length hd; rwa [dataL_len, dataL_len, atCells_len] at this
    rw [Rw.ReadR] at hr
    obtain ⟨⟨a, cap, rfl, h1, h2, h3, h4, h5⟩, _⟩ := hr
    have hn : n = ats.length := by omega
    subst hn
    refine ⟨a, cap, rfl, h2, h3, h4, ?_⟩
    rcases h5 with h5 | ⟨g, off, rfl, hg, hc⟩
    · exact Or.inl h5
    · refine Or.inr ⟨g, off, rfl, hg, fun j y hj i hi' => ?_⟩
      obtain ⟨k1, k2⟩ := atCells_at hj
      have hjl := (List.getElem?_eq_some_iff.1 hj).1
      have one : ∀ (m : Nat) (s : ByteArray), m < cs.length → (atCells ats)[m]? = some (.leaf (.string s)) → w.cell? ⟨g, off + m, none⟩ = some (.string s) := by
        intro m s hm hs
        obtain ⟨c, hcm⟩ : ∃ c, cs[m]? = some c := ⟨_, List.getElem?_eq_getElem hm⟩
        have e1 := leaf_of_data (data_same hd hcm hs)
        refine hc m _ ?_
        rw [List.getElem?_map, hcm, e1]; rfl
      rcases (show i = 0 ∨ i = 1 by omega) with rfl | rfl
      · exact one (j * 2) _ (by omega) k1
      · rw [Nat.add_assoc]; exact one (j * 2 + 1) _ (by omega) k2

/-- Where a slice of attributes lies. -/
abbrev Sv := Option Addr × Nat × Nat
def sv (s : Sv) : Value := .slice s.1 s.2.1 s.2.2
def svNil : Sv := (none, 0, 0)
theorem OwnK.sv {α : Type} {enc : α → List Value} {k : Nat} {e : TypeId} {lo hi : Nat} {w : World} {v : Value} {xs : List α} (h : OwnK enc k e lo hi w v xs) : ∃ s, v = sv s := by
  rcases h.1.2 with ⟨rfl, _⟩ | ⟨g, cap, cur, rfl, _⟩
  · exact ⟨svNil, rfl⟩
  · exact ⟨(_, _, _), rfl⟩
theorem ownK_nil {α : Type} (enc : α → List Value) (k : Nat) (e : TypeId) (lo hi : Nat) (w : World) : OwnK enc k e lo hi w (.slice none 0 0) [] :=
  ⟨World.ownsRow_nil _ _ _ _, fun g hg => by cases hg⟩
/-- A token and where its attributes lie. -/
abbrev Tv := Tok × Sv
def tokV (p : Tv) : Value := .agg #[.int .i64 p.1.kind, .string p.1.name, sv p.2, .string p.1.text]
def encT (p : Tv) : List Value := [.int .i64 p.1.kind, .string p.1.name, sv p.2, .string p.1.text]
theorem encT_len (p : Tv) : (encT p).length = 4 := rfl
theorem encT_one (p : Tv) : ∀ u ∈ encT p, u.oneCell' = true := by
  intro u hu
  simp only [encT, List.mem_cons, List.mem_nil_iff, or_false] at hu
  rcases hu with rfl | rfl | rfl | rfl <;> rfl
def tkCells : List Tv → List Rw
  | [] => []
  | p :: ts => .leaf (.int .i64 p.1.kind) :: .leaf (.string p.1.name) :: rwA (sv p.2) p.1.attrs :: .leaf (.string p.1.text) :: tkCells ts
/-- A slice of tokens. -/
def rwT (v : Value) (ts : List Tv) : Rw := .sl v ts.length 4 154 (tkCells ts)
theorem rwT_cell (v : Value) (ts : List Tv) : (rwT v ts).cell = v := rfl
def insB (ts : List Tv) : List Nat := ts.flatMap fun p => (sv p.2).ownBlock.toList
theorem tkCells_map : ∀ ts : List Tv, (tkCells ts).map Rw.cell = ts.flatMap encT
  | [] => rfl
  | p :: ts => by
    rw [tkCells, List.map_cons, List.map_cons, List.map_cons, List.map_cons, tkCells_map ts, List.flatMap_cons]; rfl
theorem tkCells_len : ∀ ts : List Tv, (tkCells ts).length = ts.length * 4
  | [] => rfl
  | p :: ts => by rw [tkCells, List.length_cons, List.length_cons, List.length_cons, List.length_cons, tkCells_len ts, List.length_cons]; omega
theorem tkCells_at : ∀ {ts : List Tv} {j : Nat} {p : Tv}, ts[j]? = some p → (tkCells ts)[j * 4]? = some (.leaf (.int .i64 p.1.kind)) ∧ (tkCells ts)[j * 4 + 1]? = some (.leaf (.string p.1.name)) ∧ (tkCells ts)[j * 4 + 2]? = some (rwA (sv p.2) p.1.attrs) ∧ (tkCells ts)[j * 4 + 3]? = some (.leaf (.string p.1.text))
  | [], j, p, h => by simp at h
  | q :: ts, 0, p, h => by
    have : q = p := by simpa using h
    subst this; exact ⟨rfl, rfl, rfl, rfl⟩
  | q :: ts, j + 1, p, h => by
    have ih := tkCells_at (ts := ts) (j := j) (by simpa using h)
    rw [show (j + 1) * 4 = j * 4 + 1 + 1 + 1 + 1 by omega, tkCells]
    simpa using ih
theorem tkCells_mem : ∀ {ts : List Tv}, ∀ c ∈ tkCells ts, (∃ v, c = .leaf v ∧ v.oneCell' = true) ∨ ∃ p ∈ ts, c = rwA (sv p.2) p.1.attrs
  | [], c, h => by cases h
  | p :: ts, c, h => by
    rw [tkCells] at h
    rcases List.mem_cons.1 h with h | h
    · exact Or.inl ⟨_, h, rfl⟩
    rcases List.mem_cons.1 h with h | h
    · exact Or.inl ⟨_, h, rfl⟩
    rcases List.mem_cons.1 h with h | h
    · exact Or.inr ⟨p, List.mem_cons_self, h⟩
    rcases List.mem_cons.1 h with h | h
    · exact Or.inl ⟨_, h, rfl⟩
    rcases tkCells_mem c h with h | ⟨q, hq, e⟩
    · exact Or.inl h
    · exact Or.inr ⟨q, List.mem_cons_of_mem _ hq, e⟩
theorem tkCells_blocks : ∀ ts : List Tv, blocksL (tkCells ts) = insB ts
  | [] => rfl
  | p :: ts => by
    rw [tkCells, blocksL, blocksL, blocksL, blocksL, tkCells_blocks ts, Rw.blocks, Rw.blocks, Rw.blocks, rwA_blocks, insB, insB, List.flatMap_cons]
    rfl
theorem insB_append (ts us : List Tv) : insB (ts ++ us) = insB ts ++ insB us := by unfold insB; rw [List.flatMap_append]
theorem insB_mem {ts : List Tv} {b : Nat} : b ∈ insB ts ↔ ∃ p ∈ ts, (sv p.2).ownBlock = some b := by
  unfold insB
  rw [List.mem_flatMap]
  constructor
  · rintro ⟨p, hp, hb⟩
    exact ⟨p, hp, by simpa using hb⟩
  · rintro ⟨p, hp, hb⟩
    exact ⟨p, hp, by simpa using hb⟩
theorem rwT_is (v : Value) (ts : List Tv) : IsTokenS (rwT v ts) :=
  ⟨v, ts.length, _, tkCells ts, rfl, fun j hj => by
    obtain ⟨p, h⟩ : ∃ p, ts[j]? = some p := ⟨_, List.getElem?_eq_getElem hj⟩
    obtain ⟨h1, h2, h3, h4⟩ := tkCells_at h
    exact ⟨_, _, _, _, h1, h2, h3, rwA_is _ _, h4⟩⟩
theorem tkCells_data : ∀ {ts us : List Tv}, ts.map Prod.fst = us.map Prod.fst → dataL (tkCells ts) = dataL (tkCells us)
  | [], [], _ => rfl
  | [], u :: us, h => by simp at h
  | t :: ts, [], h => by simp at h
  | t :: ts, u :: us, h => by
    rw [List.map_cons, List.map_cons] at h
    obtain ⟨h1, h2⟩ := List.cons.inj h
    rw [tkCells, tkCells, dataL, dataL, dataL, dataL, dataL, dataL, dataL, dataL, tkCells_data h2, h1, rwA_data]
theorem rwT_data (v u : Value) {ts us : List Tv} (h : ts.map Prod.fst = us.map Prod.fst) : (rwT v ts).data = (rwT u us).data := by
  rw [rwT, rwT, Rw.data, Rw.data, tkCells_data h]
theorem rwT_count {ts us : List Tv} (h : ts.map Prod.fst = us.map Prod.fst) : ts.length = us.length := by
  have := congrArg List.length h
  simpa using this
theorem rows_ne {w : World} {B B' k k' n n' : Nat} {e e' : TypeId} {v v' : Value} {xs xs' : List Value} (h : w.ownsRow B e k v n xs) (h' : w.ownsRow B' e' k' v' n' xs') (hne : e ≠ e') {g : Nat} (hv : v.ownBlock = some g) : v'.ownBlock ≠ some g := by
  intro hv'
  rcases h.2 with ⟨rfl, _⟩ | ⟨a, cap, cur, rfl, _, h1, _⟩
  · cases hv
  · rcases h'.2 with ⟨rfl, _⟩ | ⟨b, cap', cur', rfl, _, h2, _⟩
    · cases hv'
    · have e1 : a = g := Option.some.inj hv
      have e2 : b = g := Option.some.inj hv'
      subst e1; subst e2
      rw [h1] at h2
      injection h2 with h3
      injection h3 with _ h4 _
      exact hne h4
theorem tk_ne_at : 154 ≠ 178 := by decide

/-- A slice of tokens of the call's own, with all that they hold, in blocks from B on, while of what lay below B nothing was written. -/
structure MineT (B : Nat) (w0 w : World) (v : Value) (ts : List Tv) : Prop where
  row : MineK encT 4 154 B w0 w v ts
  inn : ∀ p ∈ ts, OwnK encA 2 178 B w.heap.size w (sv p.2) p.1.attrs
  nod : (insB ts).Nodup
theorem MineT.own {B : Nat} {w0 w : World} {v : Value} {ts : List Tv} (h : MineT B w0 w v ts) : (rwT v ts).OwnR B w.heap.size w := by
  rw [rwT, Rw.OwnR]
  refine ⟨⟨by rw [tkCells_map]; exact h.row.row, fun g hg => (h.row.row.lt g hg).2⟩, ownRL_iff.2 fun c hc => ?_⟩
  rcases tkCells_mem c hc with ⟨u, rfl, hu⟩ | ⟨p, hp, rfl⟩
  · rw [Rw.OwnR]; exact hu
  · exact rwA_own (h.inn p hp)
theorem MineT.nodup {B : Nat} {w0 w : World} {v : Value} {ts : List Tv} (h : MineT B w0 w v ts) : (rwT v ts).blocks.Nodup := by
  rw [rwT, Rw.blocks, tkCells_blocks]
  cases hv : v.ownBlock with
  | none => exact h.nod
  | some g =>
    refine List.nodup_cons.2 ⟨fun hg => ?_, h.nod⟩
    obtain ⟨p, hp, hb⟩ := insB_mem.1 hg
    exact rows_ne h.row.row (h.inn p hp).1 tk_ne_at hv hb
theorem MineT.later {B : Nat} {w0 w w' : World} {v : Value} {ts : List Tv} (h : MineT B w0 w v ts) (hb : Below w.heap.size w w') : MineT B w0 w' v ts :=
  ⟨h.row.later hb, fun p hp => ((h.inn p hp).later hb).mono (Nat.le_refl _) hb.size, h.nod⟩
theorem MineT.empty (w0 w : World) (B : Nat) (hb : Below B w0 w) (hB : B ≤ w.heap.size) : MineT B w0 (w.alloc (.cells #[] 154)) (.slice (some ⟨w.heap.size, 0, none⟩) 0 0) [] :=
  ⟨MineK.empty _ _ _ _ _ _ hb hB, fun p hp => (by cases hp), List.nodup_nil⟩
theorem MineT.lt {B : Nat} {w0 w : World} {v : Value} {ts : List Tv} (h : MineT B w0 w v ts) : ∀ b ∈ insB ts, B ≤ b ∧ b < w.heap.size := by
  intro b hb
  obtain ⟨p, hp, e⟩ := insB_mem.1 hb
  exact ⟨((h.inn p hp).1.lt b e).1, ((h.inn p hp).1.lt b e).2⟩
/-- One token in a new block: what append takes. -/
theorem readsT_one (w : World) (p : Tv) {k : Int} {nm tx : ByteArray} {u : Value} (h1 : p.1.kind = k) (h2 : p.1.name = nm) (h3 : sv p.2 = u) (h4 : p.1.text = tx) :
    ReadsK encT 4 (w.heap.size + 1) (w.alloc (.cells #[.int .i64 k, .string nm, u, .string tx] 154)) (.slice (some ⟨w.heap.size, 0, none⟩) 1 1) [p] := by
  subst h1; subst h2; subst h3; subst h4
  refine ⟨_, 1, rfl, by simp, by omega, (fun h => by cases h), Or.inr ⟨_, 0, rfl, by omega, fun j y hy i hi' => ?_⟩⟩
  have hj : j = 0 := by have := (List.getElem?_eq_some_iff.1 hy).1; simp at this; omega
  subst hj
  simp only [List.getElem?_cons_zero, Option.some.injEq] at hy
  subst hy
  rcases (show i = 0 ∨ i = 1 ∨ i = 2 ∨ i = 3 by omega) with rfl | rfl | rfl | rfl <;> simp [encT]
/-- append to such a slice, of whatever reads as tokens whose attributes the call owns. -/
theorem wpList_appT {w : World} {ops : Array Oper} {rest : List Oper} {o : Oper} {a : Act} {Q : Exit → Act → World → Prop} (hgd : o.guard = none) (s x : Operand)
    (ho : o.op = .call { callee := .builtin .append, args := #[s, x], argTypes := #[200, 200] })
    (B : Nat) (w0 : World) (v : Value) (ts : List Tv) (hs : a.eval s = v) (hM : MineT B w0 w v ts) (vx : Value) (top : Nat) (us : List Tv) (hx : a.eval x = vx) (hr : ReadsK encT 4 top w vx us)
    (hin : ∀ p ∈ us, OwnK encA 2 178 B w.heap.size w (sv p.2) p.1.attrs) (hnd : (insB ts ++ insB us).Nodup)
    (hlen : ts.length + us.length ≤ 137438953472)
    (h : ∀ v' w', MineT B w0 w' v' (ts ++ us) → wpList Tryz.prog ops Q rest (a.put o.dst v') w') : wpList Tryz.prog ops Q (o :: rest) a w := by
  obtain ⟨i, hi, hz, hsize, hby⟩ := info_parts infoTk
  obtain ⟨ad, cap, rfl, h1, h2, h3, h4⟩ := id hr
  cases ad with
  | none =>
    obtain ⟨rfl, _, rfl⟩ := hr.nil
    refine wpList_append_own_none hgd s x _ ho B _ i 4 Tryz.underlying200 hi v ts.length _ hs hM.row.row hx ?_
    exact h v w (by simpa using hM)
  | some ad =>
    refine wpList_append_own _ hgd s x _ ho B _ i _ 4 64 Tryz.underlying200 hi hz hsize hby (by rfl) (by decide) v ts.length _ hs hM.row.row ad us.length cap (us.flatMap encT) hx (flat_len encT_len us) (hr.news encT_len) ?_ ?_ ?_ hM.row.size ?_
    · intro u hu
      obtain ⟨y, _, hy⟩ := List.mem_flatMap.1 hu
      exact encT_one y u hy
    · unfold maxLen; omega
    · have : (ts.length + us.length) * 64 ≤ (ts.length + us.length) * 1024 := Nat.mul_le_mul_left _ (by omega)
      omega
    · intro v' w' hown hgr hn
      refine h v' w' ⟨hM.row.grow hown hgr, fun p hp => ?_, by rw [insB_append]; exact hnd⟩
      have hall : OwnK encA 2 178 B w.heap.size w (sv p.2) p.1.attrs := by
        rcases List.mem_append.1 hp with h | h
        · exact hM.inn p h
        · exact hin p h
      refine ⟨hall.1.kept hgr ?_, fun g hg => Nat.lt_of_lt_of_le (hall.2 g hg) hgr.size⟩
      cases hv : (sv p.2).ownBlock with
      | none => exact Or.inl rfl
      | some g =>
        right
        intro e
        exact rows_ne hM.row.row hall.1 tk_ne_at e.symm hv
theorem readsT_of {hi : Nat} {w : World} {v : Value} {B : Nat} {w0 : World} {ts : List Tv} (h : MineT B w0 w v ts) (hh : w.heap.size ≤ hi) : ReadsK encT 4 hi w v ts := (h.row.own.reads encT_len).mono hh

end Go.Proofs.YtpkicliimhflgaaGreatDoor
namespace Go.Proofs.YtpkicliimhflgaaGreatDoor
/-- A node: name, text, the number of its parent, attributes. -/
structure Nd where
  name : ByteArray
  text : ByteArray
  parent : Int
  attrs : List (ByteArray × ByteArray)
deriving DecidableEq
structure Bd where
  nodes : List Nd
  opn : List Int
deriving DecidableEq
def sPage : ByteArray := ⟨#[112, 97, 103, 101]⟩
def isVoid (s : ByteArray) : Bool := (s.toList == [105, 109, 103]) || (s.toList == [108, 105, 110, 107])
def bdNew : Bd := ⟨[⟨sPage, ⟨#[]⟩, -1, []⟩], [0]⟩
/-- The node of this number has this name. -/
def hasName (ns : List Nd) (z : Int) (s : ByteArray) : Bool := decide (0 ≤ z) && match ns[z.toNat]? with
  | some x => x.name.toList == s.toList
  | none => false
/-- How many elements stay open: all, or those ahead of the last one of this name (the first one always stays). -/
def closeN (b : Bd) (s : ByteArray) : Nat → Nat
  | 0 => b.opn.length
  | k + 1 => if hasName b.nodes (b.opn.getD (k + 1) 0) s then k + 1 else closeN b s k
def closeB (b : Bd) (s : ByteArray) : Bd := ⟨b.nodes, b.opn.take (closeN b s (b.opn.length - 1))⟩
def lastOpen (b : Bd) : Int := b.opn.getD (b.opn.length - 1) 0
def pushN (b : Bd) (x : Nd) : Bd := ⟨b.nodes ++ [x], b.opn⟩
/-- A node is appended below the last open one, where there is room. -/
def roomB (b : Bd) : Bool := decide (b.nodes.length < 40) && decide (0 < b.opn.length)
def openB (b : Bd) (n : ByteArray) (ats : List (ByteArray × ByteArray)) : Bd × Int :=
  if isVoid n = false ∧ 8 ≤ b.opn.length then (b, -1)
  else if roomB b = false then (b, -1)
  else (⟨b.nodes ++ [⟨n, ⟨#[]⟩, lastOpen b, ats⟩], if isVoid n = false then b.opn ++ [(b.nodes.length : Int)] else b.opn⟩, (b.nodes.length : Int))
def textB (b : Bd) (t : ByteArray) : Bd × Int :=
  if t.size = 0 ∨ roomB b = false then (b, -1)
  else (⟨b.nodes ++ [⟨⟨#[]⟩, t, lastOpen b, []⟩], b.opn⟩, (b.nodes.length : Int))
def addTok (b : Bd) (t : Tok) : Bd × Int :=
  if t.kind = 1 then openB b t.name t.attrs
  else if t.kind = 2 then (closeB b t.name, -1)
  else if t.kind = 3 then textB b t.text
  else (b, -1)
def addToks (b : Bd) : List Tok → Bd
  | [] => b
  | t :: ts => addToks (addTok b t).1 ts
theorem addToks_append (b : Bd) : ∀ (ts : List Tok) (t : Tok), addToks b (ts ++ [t]) = (addTok (addToks b ts) t).1
  | [], t => rfl
  | u :: ts, t => by
    rw [List.cons_append, addToks, addToks]
    exact addToks_append _ ts t
def textsOf (ns : List Nd) (k : Int) : List ByteArray := match ns with
  | [] => []
  | x :: ns => if x.parent = k ∧ x.name.size = 0 then x.text :: textsOf ns k else textsOf ns k
def joinE : List ByteArray → ByteArray
  | [] => ⟨#[]⟩
  | x :: xs => x ++ joinE xs
def textOf (b : Bd) (k : Int) : ByteArray := joinE (textsOf b.nodes k)
def countName (ns : List Nd) (s : ByteArray) : Nat := match ns with
  | [] => 0
  | x :: ns => (if (x.name.toList == s.toList) = true then 1 else 0) + countName ns s
/-- A node that can have children. -/
def canOpen (ns : List Nd) (z : Int) : Bool := decide (0 ≤ z) && match ns[z.toNat]? with
  | some x => decide (x.name.size ≠ 0) && !isVoid x.name
  | none => false
def okNode (ns : List Nd) (i : Nat) : Bool := match ns[i]? with
  | some x => decide (x.parent < (i : Int)) && canOpen ns x.parent && (if x.name.size = 0 then decide (x.text.size ≠ 0) && decide (x.attrs = []) else isNm x.name && decide (x.text.size = 0))
  | none => false
def okRoot (ns : List Nd) : Bool := match ns[0]? with
  | some x => (x.name.toList == [112, 97, 103, 101]) && decide (x.text.size = 0) && decide (x.parent = -1) && decide (x.attrs = [])
  | none => false
def parentOf (ns : List Nd) (z : Int) : Int := (ns[z.toNat]?.map Nd.parent).getD 0
def okOpen (b : Bd) (i : Nat) : Bool := canOpen b.nodes (b.opn.getD i 0) && decide (1 ≤ b.opn.getD i 0) && decide (parentOf b.nodes (b.opn.getD i 0) = b.opn.getD (i - 1) 0)
/-- The numbers from 1 to below n all satisfy it. -/
def allFrom (f : Nat → Bool) : Nat → Bool
  | 0 => true
  | 1 => true
  | n + 2 => allFrom f (n + 1) && f (n + 1)
theorem allFrom_iff (f : Nat → Bool) : ∀ n, allFrom f n = true ↔ ∀ i, 1 ≤ i → i < n → f i = true
  | 0 => by simp [allFrom]
  | 1 => by
    simp [allFrom]; intro i h1 h2; omega
  | n + 2 => by
    rw [allFrom, Bool.and_eq_true, allFrom_iff f (n + 1)]
    constructor
    · rintro ⟨h1, h2⟩ i hi1 hi2
      by_cases e : i = n + 1
      · rw [e]; exact h2
      · exact h1 i hi1 (by omega)
    · intro h
      exact ⟨fun i h1 h2 => h i h1 (by omega), h (n + 1) (by omega) (by omega)⟩
def isBd (b : Bd) : Bool :=
  decide (1 ≤ b.nodes.length ∧ b.nodes.length ≤ 40) && okRoot b.nodes && allFrom (okNode b.nodes) b.nodes.length && decide (1 ≤ b.opn.length ∧ b.opn.length ≤ 8) && decide (b.opn.getD 0 0 = 0) && allFrom (okOpen b) b.opn.length

end Go.Proofs.YtpkicliimhflgaaGreatDoor

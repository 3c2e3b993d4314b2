/- Pure facts of chapter 8: the words of a script's lines, what a line's form says, a script's form. No program. -/
import Derived.Test.YtiginllbfjekeaaDoorStr
import Derived.Test.YtiginllbfjekeaaDoorName
import Derived.Test.YtiginllbfjekeaaDoorLn
import Derived.Test.YtiginllbfjekeaaDoorSpl
import Derived.Lib.Join
namespace Go.Proofs.YtiginllbfjekeaaDoor
open Go.ChangeShapes Go.WideShapes Go.ChangeAt Go.RowKit

/-- The word of an Op. -/
def wd : Nat → ByteArray
  | 1 => ⟨#[119, 114, 105, 116, 101]⟩
  | 2 => ⟨#[97, 100, 100]⟩
  | 3 => ⟨#[99, 111, 117, 110, 116]⟩
  | 4 => ⟨#[108, 111, 111, 107]⟩
  | 5 => ⟨#[115, 97, 121]⟩
  | _ => ⟨#[]⟩
abbrev sp : ByteArray := ⟨#[32]⟩
theorem wd_sp : ∀ m, ∀ b ∈ (wd m).data.toList, b ≠ 32
  | 0 => by decide
  | 1 => by decide
  | 2 => by decide
  | 3 => by decide
  | 4 => by decide
  | 5 => by decide
  | _ + 6 => fun b hb => absurd (show b ∈ ([] : List UInt8) from hb) (by simp)
/-- The Op of a word; 0 if it is none. -/
def wdN (w : ByteArray) : Nat := if w = wd 1 then 1 else if w = wd 2 then 2 else if w = wd 3 then 3 else if w = wd 4 then 4 else if w = wd 5 then 5 else 0
theorem wdN_of : ∀ m, 1 ≤ m → m ≤ 5 → wdN (wd m) = m
  | 1, _, _ => by decide
  | 2, _, _ => by decide
  | 3, _, _ => by decide
  | 4, _, _ => by decide
  | 5, _, _ => by decide
  | 0, h, _ => absurd h (by decide)
  | _ + 6, _, h => absurd h (by omega)
theorem wdN_le (w : ByteArray) : wdN w ≤ 5 := by unfold wdN; repeat' split <;> try omega
theorem wdN_zero {w : ByteArray} (h : ∀ m, 1 ≤ m → m ≤ 5 → w ≠ wd m) : wdN w = 0 := by
  unfold wdN
  rw [if_neg (h 1 (by decide) (by decide)), if_neg (h 2 (by decide) (by decide)), if_neg (h 3 (by decide) (by decide)), if_neg (h 4 (by decide) (by decide)), if_neg (h 5 (by decide) (by decide))]
theorem wdN_is {w : ByteArray} {m : Nat} (h : wdN w = m) (h1 : 1 ≤ m) : w = wd m := by
  unfold wdN at h
  split at h
  · subst h; assumption
  split at h
  · subst h; assumption
  split at h
  · subst h; assumption
  split at h
  · subst h; assumption
  split at h
  · subst h; assumption
  · omega
/-- Whether a line with this Op takes this text. -/
def takesB (m : Nat) (t : ByteArray) : Bool := if m = 1 ∨ m = 5 then decide (t.size ≤ 60) else isNm t
def lnW (a b : ByteArray) : Option Lnv := if 0 < wdN a ∧ takesB (wdN a) b = true then some ((wdN a : Int), b) else none
/-- A line out of its form. -/
def lnOf (s : ByteArray) : Option Lnv :=
  if idxB 32 s.data.toList < s.size then lnW (s.extract 0 (idxB 32 s.data.toList)) (s.extract (idxB 32 s.data.toList + 1) s.size) else none
/-- The form begins with the word of this Op and a space. -/
def preS (m : Nat) (s : ByteArray) : Prop := (wd m).size + 1 ≤ s.size ∧ s.extract 0 ((wd m).size + 1) = wd m ++ sp
theorem pre_of {W s : ByteArray} (h : ∀ b ∈ W.data.toList, b ≠ 32) (h2 : s.extract 0 (W.size + 1) = W ++ sp) :
    idxB 32 s.data.toList = W.size := by
  have h3 : s.data.toList.take (W.size + 1) = W.data.toList ++ [32] := by
    rw [extract_pre] at h2
    have := congrArg (fun x : ByteArray => x.data.toList) h2
    rw [show (ofL (s.data.toList.take (W.size + 1))).data.toList = s.data.toList.take (W.size + 1) from rfl, append_list] at this
    exact this
  have h4 : s.data.toList = W.data.toList ++ 32 :: s.data.toList.drop (W.size + 1) := by
    conv => lhs; rw [← List.take_append_drop (W.size + 1) s.data.toList, h3]
    rw [List.append_assoc]; rfl
  rw [h4, idxB_free_append _ h, size_list]
theorem pre_cut {W s : ByteArray} (h1 : idxB 32 s.data.toList < s.size) (h2 : s.extract 0 (idxB 32 s.data.toList) = W) :
    W.size + 1 ≤ s.size ∧ s.extract 0 (W.size + 1) = W ++ sp := by
  have h0 := h2
  rw [extract_pre] at h2
  have h3 : W.size = idxB 32 s.data.toList := by
    rw [← h2, ofL_size, List.length_take, size_list]; omega
  rw [h3]
  refine ⟨h1, bytesEq ?_⟩
  rw [extract_pre, append_list, ← h2]
  show s.data.toList.take (idxB 32 s.data.toList + 1) = s.data.toList.take (idxB 32 s.data.toList) ++ [32]
  rw [List.take_add_one, idxB_at (by rw [size_list]; exact h1)]; rfl
theorem lnOf_hit {m : Nat} {s : ByteArray} (h1 : 1 ≤ m) (h5 : m ≤ 5) (h : preS m s) :
    lnOf s = if takesB m (s.extract ((wd m).size + 1) s.size) = true then some ((m : Int), s.extract ((wd m).size + 1) s.size) else none := by
  obtain ⟨ha, hb⟩ := h
  have hi := pre_of (wd_sp m) hb
  have hw : s.extract 0 (idxB 32 s.data.toList) = wd m := by
    rw [hi, extract_pre]
    rw [extract_pre] at hb
    refine bytesEq ?_
    have := congrArg (fun x : ByteArray => x.data.toList) hb
    rw [show (ofL (s.data.toList.take ((wd m).size + 1))).data.toList = s.data.toList.take ((wd m).size + 1) from rfl, append_list] at this
    have h2 := congrArg (List.take (wd m).size) this
    rw [List.take_take, Nat.min_eq_left (Nat.le_succ _), List.take_append_of_le_length (by rw [size_list]; exact Nat.le_refl _), List.take_of_length_le (l := (wd m).data.toList) (by rw [size_list]; exact Nat.le_refl _)] at h2
    exact h2
  rw [lnOf, if_pos (by omega), hw, lnW, wdN_of m h1 h5, hi]
  by_cases ht : takesB m (s.extract ((wd m).size + 1) s.size) = true
  · rw [if_pos ht, if_pos ⟨by omega, ht⟩]
  · rw [if_neg ht, if_neg (fun h => ht h.2)]
theorem lnOf_none {s : ByteArray} (h : ∀ m, 1 ≤ m → m ≤ 5 → ¬ preS m s) : lnOf s = none := by
  unfold lnOf
  split
  · rename_i hi
    rw [lnW, wdN_zero fun m h1 h5 e => h m h1 h5 (pre_cut hi e)]
    rfl
  · rfl
theorem lnOf_text {s : ByteArray} {x : Lnv} (h : lnOf s = some x) : x.2.size ≤ s.size ∧ 1 ≤ x.1 ∧ x.1 ≤ 5 := by
  unfold lnOf at h
  split at h
  · unfold lnW at h
    split at h
    · rename_i h1
      obtain rfl := (Option.some.inj h).symm
      have := wdN_le (s.extract 0 (idxB 32 s.data.toList))
      refine ⟨?_, ?_, ?_⟩
      · show (s.extract _ _).size ≤ _; rw [ByteArray.size_extract]; omega
      · show (1 : Int) ≤ ((wdN _ : Nat) : Int); omega
      · show ((wdN _ : Nat) : Int) ≤ 5; omega
    · cases h
  · cases h

/-- Lines out of their forms. -/
def prsLs : List ByteArray → Option (List Lnv)
  | [] => some []
  | p :: ps => match lnOf p, prsLs ps with
    | some x, some xs => some (x :: xs)
    | _, _ => none
theorem prsLs_snoc : ∀ {ps : List ByteArray} {p : ByteArray} {xs : List Lnv} {x : Lnv}, prsLs ps = some xs → lnOf p = some x → prsLs (ps ++ [p]) = some (xs ++ [x])
  | [], p, xs, x, h, h2 => by
    obtain rfl : [] = xs := Option.some.inj h
    rw [List.nil_append, prsLs, h2]; rfl
  | q :: ps, p, xs, x, h, h2 => by
    rw [prsLs] at h
    cases hq : lnOf q with
    | none => rw [hq] at h; cases h
    | some y =>
      cases hp : prsLs ps with
      | none => rw [hq, hp] at h; cases h
      | some ys =>
        rw [hq, hp] at h
        obtain rfl : y :: ys = xs := Option.some.inj h
        rw [List.cons_append, prsLs, hq, prsLs_snoc hp h2]; rfl
theorem prsLs_bad : ∀ {ps : List ByteArray} {p : ByteArray}, p ∈ ps → lnOf p = none → prsLs ps = none
  | [], _, h, _ => by cases h
  | q :: ps, p, h, h2 => by
    rw [prsLs]
    rcases List.mem_cons.1 h with e | h
    · rw [← e, h2]
    · rw [prsLs_bad h h2]; cases lnOf q <;> rfl
theorem prsLs_mem : ∀ {ps : List ByteArray} {xs : List Lnv}, prsLs ps = some xs → xs.length = ps.length ∧ ∀ x ∈ xs, ∃ p ∈ ps, lnOf p = some x
  | [], xs, h => by
    obtain rfl : [] = xs := Option.some.inj h
    exact ⟨rfl, fun x hx => by cases hx⟩
  | q :: ps, xs, h => by
    rw [prsLs] at h
    cases hq : lnOf q with
    | none => rw [hq] at h; cases h
    | some y =>
      cases hp : prsLs ps with
      | none => rw [hq, hp] at h; cases h
      | some ys =>
        rw [hq, hp] at h
        obtain rfl : y :: ys = xs := Option.some.inj h
        obtain ⟨h1, h2⟩ := prsLs_mem hp
        refine ⟨by rw [List.length_cons, List.length_cons, h1], fun x hx => ?_⟩
        rcases List.mem_cons.1 hx with e | hx
        · exact ⟨q, List.mem_cons_self, by rw [hq, e]⟩
        · obtain ⟨p, hp1, hp2⟩ := h2 x hx
          exact ⟨p, List.mem_cons_of_mem _ hp1, hp2⟩
/-- A script out of its form. -/
def prsSc (s : ByteArray) : Option (List Lnv) :=
  if s.size = 0 then some [] else if 6 < (splS 59 s.data.toList).length then none else prsLs (splS 59 s.data.toList)
theorem prsSc_zero {s : ByteArray} (h : s.size = 0) : prsSc s = some [] := by unfold prsSc; rw [if_pos h]
theorem prsSc_long {s : ByteArray} (h : s.size ≠ 0) (h6 : 6 < (splS 59 s.data.toList).length) : prsSc s = none := by unfold prsSc; rw [if_neg h, if_pos h6]
theorem prsSc_else {s : ByteArray} (h : s.size ≠ 0) (h6 : ¬ 6 < (splS 59 s.data.toList).length) : prsSc s = prsLs (splS 59 s.data.toList) := by unfold prsSc; rw [if_neg h, if_neg h6]
theorem prsSc_len {s : ByteArray} {xs : List Lnv} (h : prsSc s = some xs) : xs.length ≤ 6 := by
  unfold prsSc at h
  split at h
  · obtain rfl := (Option.some.inj h).symm; exact Nat.zero_le _
  split at h
  · cases h
  · rw [(prsLs_mem h).1]; omega
def scL (o : Option (List Lnv)) : List Lnv := match o with | some xs => xs | none => []
def scB (o : Option (List Lnv)) : Bool := match o with | some _ => true | none => false
theorem scL_len (s : ByteArray) : (scL (prsSc s)).length ≤ 6 := by
  cases h : prsSc s with
  | none => exact Nat.zero_le _
  | some xs => exact prsSc_len h

/-- A line's form, if its Op is one. -/
def frm (x : Lnv) : Option ByteArray := if 1 ≤ x.1 ∧ x.1 ≤ 5 then some (wd x.1.toNat ++ sp ++ x.2) else none
theorem frm_no {x : Lnv} (h : ¬ (1 ≤ x.1 ∧ x.1 ≤ 5)) : frm x = none := by unfold frm; rw [if_neg h]
theorem frm_yes {x : Lnv} (h : 1 ≤ x.1 ∧ x.1 ≤ 5) : frm x = some (wd x.1.toNat ++ sp ++ x.2) := by unfold frm; rw [if_pos h]
theorem wd_size (m : Nat) : (wd m).size ≤ 5 := by
  unfold wd; split <;> decide
theorem sp_size : sp.size = 1 := rfl
theorem frm_size {x : Lnv} {f : ByteArray} (h : frm x = some f) : 1 ≤ f.size ∧ f.size ≤ x.2.size + 6 := by
  unfold frm at h
  split at h
  · obtain rfl := (Option.some.inj h).symm
    have := wd_size x.1.toNat
    rw [ByteArray.size_append, ByteArray.size_append, sp_size]; omega
  · cases h
def frms (l : List Lnv) : List ByteArray := l.filterMap frm
theorem frms_snoc {l : List Lnv} {x : Lnv} : frms (l ++ [x]) = frms l ++ (frm x).toList := by
  unfold frms
  rw [List.filterMap_append]
  cases h : frm x <;> simp [h]
/-- A script's form. -/
def fmtSc (l : List Lnv) : ByteArray := ofL (Lib.join ((frms l).map fun f => f.data.toList) [59])
theorem fmtSc_list (l : List Lnv) : (fmtSc l).data.toList = Lib.join ((frms l).map fun f => f.data.toList) [59] := ofL_list _
theorem fmtSc_none {l : List Lnv} {x : Lnv} (h : frm x = none) : fmtSc (l ++ [x]) = fmtSc l := by
  unfold fmtSc; rw [frms_snoc, h, Option.toList_none, List.append_nil]
theorem joinT_snoc (sep : List UInt8) (xs : List (List UInt8)) (y : List UInt8) : Lib.joinTail sep (xs ++ [y]) = Lib.joinTail sep xs ++ (sep ++ y) := by
  unfold Lib.joinTail; simp
theorem fmtSc_first {l : List Lnv} {x : Lnv} {f : ByteArray} (h : frm x = some f) (h0 : frms l = []) : fmtSc (l ++ [x]) = f := by
  refine bytesEq ?_
  rw [fmtSc_list, frms_snoc, h, h0, Option.toList_some, List.nil_append, List.map_cons, List.map_nil, Lib.join_one]
theorem fmtSc_more {l : List Lnv} {x : Lnv} {f : ByteArray} (h : frm x = some f) (h0 : frms l ≠ []) : fmtSc (l ++ [x]) = fmtSc l ++ ⟨#[59]⟩ ++ f := by
  refine bytesEq ?_
  rw [fmtSc_list, append_list, append_list, fmtSc_list, frms_snoc, h, Option.toList_some]
  cases hf : frms l with
  | nil => exact absurd hf h0
  | cons y ys =>
    rw [List.cons_append, List.map_cons, List.map_cons, Lib.join_cons, Lib.join_cons, List.map_append, List.map_cons, List.map_nil, joinT_snoc, List.append_assoc, List.append_assoc]
theorem frms_pos {l : List Lnv} {f : ByteArray} (h : f ∈ frms l) : 1 ≤ f.size := by
  unfold frms at h
  obtain ⟨x, _, hx⟩ := List.mem_filterMap.1 h
  exact (frm_size hx).1
theorem fmtSc_empty {l : List Lnv} : (fmtSc l).size = 0 ↔ frms l = [] := by
  have hz : (fmtSc l).size = (Lib.join ((frms l).map fun f => f.data.toList) [59]).length := ofL_size _
  constructor
  · intro h
    cases hf : frms l with
    | nil => rfl
    | cons y ys =>
      rw [hf, List.map_cons, Lib.join_cons, List.length_append, size_list] at hz
      have := frms_pos (l := l) (f := y) (by rw [hf]; exact List.mem_cons_self)
      omega
  · intro h
    rw [hz, h]; rfl
theorem frms_len (l : List Lnv) : (frms l).length ≤ l.length := List.length_filterMap_le _ _
theorem joinT_len : ∀ {fs : List ByteArray}, (Lib.joinTail [59] (fs.map fun f => f.data.toList)).length = (fs.map fun f => f.size + 1).sum
  | [] => rfl
  | f :: fs => by
    have ih := joinT_len (fs := fs)
    have h2 : (Lib.joinTail [59] ((f :: fs).map fun r => r.data.toList)) = (59 :: f.data.toList) ++ Lib.joinTail [59] (fs.map fun r => r.data.toList) := by
      unfold Lib.joinTail; simp
    rw [h2, List.length_append, List.length_cons, size_list, ih, List.map_cons, List.sum_cons]
theorem frms_sum : ∀ l : List Lnv, ((frms l).map fun f => f.size + 1).sum ≤ sumL l + 7 * l.length
  | [] => Nat.zero_le _
  | x :: l => by
    have ih := frms_sum l
    have hl : sumL (x :: l) = x.2.size + sumL l := by unfold sumL; rw [List.map_cons, List.sum_cons]
    unfold frms at ih ⊢
    rw [hl, List.length_cons]
    cases h : frm x with
    | none => rw [List.filterMap_cons_none h]; omega
    | some f =>
      have := frm_size h
      rw [List.filterMap_cons_some h, List.map_cons, List.sum_cons]; omega
theorem fmtSc_size (l : List Lnv) : (fmtSc l).size ≤ sumL l + 7 * l.length := by
  have hz : (fmtSc l).size = (Lib.join ((frms l).map fun f => f.data.toList) [59]).length := ofL_size _
  have hs := frms_sum l
  rw [hz]
  cases hf : frms l with
  | nil => exact Nat.zero_le _
  | cons y ys =>
    rw [hf, List.map_cons, List.sum_cons] at hs
    rw [List.map_cons, Lib.join_cons, List.length_append, size_list, joinT_len]
    omega
end Go.Proofs.YtiginllbfjekeaaDoor

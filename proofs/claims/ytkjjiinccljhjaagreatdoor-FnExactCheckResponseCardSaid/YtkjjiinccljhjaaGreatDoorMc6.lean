/- Policies as plain values: what is valid, what is allowed, the form, its reading back, the narrowed one. Pure facts, no claim of their own. Copies, comparisons, marks of policies in the laws. Helper facts, no claim of its own. What a request that came in is; a struct by value, opened field by field (fields of any number of cells). Helper facts, no claim of its own. Helper contracts: IsAddr, FormatAddr of the program and of the model answer alike. Asked: the strings are shorter than 2^62 bytes. Helper contracts: CompareAddrs of the program and of the model answer alike, and what its order is. No conditions beyond the types. Helper contracts: strings.Cut at the separator "/": the first slash parts the string. Asked: the string is shorter than 2^62 bytes. Helper contracts: ParseAddr of the program and of the model answer alike. Asked: the strings are shorter than 2^62 bytes. Helper contracts over the functions with which the laws copy, measure and compare one address. No conditions beyond the types. -/
import Derived.Test.YtkjjiinccljhjaaGreatDoorMc4
import Derived.Test.YtkjjiinccljhjaaGreatDoorMc5
import Derived.Lib.IndexMore
import Derived.Deep.Slices
import Derived.Lib.SmallJoins
import Derived.ShutString
import Derived.ChangeOld
import Derived.Carry
import Derived.Deep.Fields
import Derived.Test.YtkjjiinccljhjaaGreatDoorMc1
import Derived.Below
import Derived.Test.YtkjjiinccljhjaaGreatDoorMc2
import Derived.Lib.Bytealg
import Derived.Lib.Walk
import Derived.Laws.StructEq
import Derived.Sort.Grow
import Derived.Sort.Statements
import Derived.Lib.Slices
namespace Go.Proofs.YtkjjiinccljhjaaGreatDoor

open Go.ChangeShapes Go.WideShapes Go.ChangeAt Go.RowKit

def hasS (xs : List ByteArray) (s : ByteArray) : Bool := xs.any fun x => decide (x = s)
theorem hasS_iff {xs : List ByteArray} {a : ByteArray} : hasS xs a = true ↔ a ∈ xs := by
  unfold hasS
  rw [List.any_eq_true]
  constructor
  · rintro ⟨x, hx, he⟩
    rw [← of_decide_eq_true he]; exact hx
  · exact fun h => ⟨a, h, decide_eq_true rfl⟩
def hostsP (p : Pol) (k : Int) : List ByteArray := if k = 2 ∨ k = 5 then p.scr else if k = 3 then p.sty else if k = 4 then p.img else []
/-- Allows. -/
def alB (p : Pol) (k : Int) (h : ByteArray) : Bool := !p.set || hasS (hostsP p k) h
/-- AllowsInline. -/
def inlB (p : Pol) (n : ByteArray) : Bool := !p.set || (decide (p.non.size ≠ 0) && decide (p.non = n))
def okHosts (l : List ByteArray) : Bool := decide (l.length ≤ 4) && l.all isNm
/-- IsPolicy. -/
def isPol (p : Pol) : Bool :=
  if p.set = true then okHosts p.scr && okHosts p.sty && okHosts p.img && (decide (p.non.size = 0) || isVal p.non)
  else decide (p.scr.length = 0) && decide (p.sty.length = 0) && decide (p.img.length = 0) && decide (p.non.size = 0)
def eqP (a b : Pol) : Bool := (a.set == b.set) && decide (a.scr = b.scr) && decide (a.sty = b.sty) && decide (a.img = b.img) && decide (a.non = b.non)
def polZ : Pol := ⟨false, [], [], [], ⟨#[]⟩⟩
def bothS (xs ys : List ByteArray) : List ByteArray := xs.filter (hasS ys)
/-- NarrowPolicy. -/
def nrP (a b : Pol) : Pol := if a.set = false then b else if b.set = false then a else ⟨true, bothS a.scr b.scr, bothS a.sty b.sty, bothS a.img b.img, if a.non = b.non then a.non else ⟨#[]⟩⟩
theorem hasS_both (xs ys : List ByteArray) (h : ByteArray) : hasS (bothS xs ys) h = (hasS xs h && hasS ys h) := by
  rw [Bool.eq_iff_iff, Bool.and_eq_true, hasS_iff, hasS_iff]
  unfold bothS
  rw [List.mem_filter]
theorem alB_nr (a b : Pol) (k : Int) (h : ByteArray) : alB (nrP a b) k h = (alB a k h && alB b k h) := by
  unfold nrP
  by_cases ha : a.set = false
  · rw [if_pos ha]; simp [alB, ha]
  by_cases hb : b.set = false
  · rw [if_neg ha, if_pos hb]; simp [alB, hb]
  rw [if_neg ha, if_neg hb]
  have ha' : a.set = true := by cases h0 : a.set <;> simp_all
  have hb' : b.set = true := by cases h0 : b.set <;> simp_all
  simp only [alB, ha', hb', Bool.not_true, Bool.false_or]
  unfold hostsP
  by_cases k1 : k = 2 ∨ k = 5
  · rw [if_pos k1, if_pos k1, if_pos k1, hasS_both]
  by_cases k2 : k = 3
  · rw [if_neg k1, if_neg k1, if_neg k1, if_pos k2, if_pos k2, if_pos k2, hasS_both]
  by_cases k3 : k = 4
  · rw [if_neg k1, if_neg k1, if_neg k1, if_neg k2, if_neg k2, if_neg k2, if_pos k3, if_pos k3, if_pos k3, hasS_both]
  rw [if_neg k1, if_neg k1, if_neg k1, if_neg k2, if_neg k2, if_neg k2, if_neg k3, if_neg k3, if_neg k3]
  rfl
theorem inlB_nr (a b : Pol) (n : ByteArray) : inlB (nrP a b) n = (inlB a n && inlB b n) := by
  unfold nrP
  by_cases ha : a.set = false
  · rw [if_pos ha]; simp [inlB, ha]
  by_cases hb : b.set = false
  · rw [if_neg ha, if_pos hb]; simp [inlB, hb]
  rw [if_neg ha, if_neg hb]
  have ha' : a.set = true := by cases h0 : a.set <;> simp_all
  have hb' : b.set = true := by cases h0 : b.set <;> simp_all
  simp only [inlB, ha', hb', Bool.not_true, Bool.false_or]
  by_cases e : a.non = b.non
  · rw [if_pos e, e]; cases (decide (b.non.size ≠ 0) && decide (b.non = n)) <;> rfl
  · rw [if_neg e]
    by_cases e1 : a.non = n
    · have e2 : ¬ b.non = n := fun h => e (e1.trans h.symm)
      have e3 : decide (b.non = n) = false := decide_eq_false e2
      rw [e3, Bool.and_false, Bool.and_false]; rfl
    · have e3 : decide (a.non = n) = false := decide_eq_false e1
      rw [e3, Bool.and_false, Bool.false_and]; rfl

def spS : ByteArray := ⟨#[32]⟩
def scS : ByteArray := ⟨#[59]⟩
def kScr : ByteArray := ⟨#[115, 99, 114, 105, 112, 116]⟩
def kSty : ByteArray := ⟨#[115, 116, 121, 108, 101]⟩
def kImg : ByteArray := ⟨#[105, 109, 103]⟩
def kNon : ByteArray := ⟨#[59, 110, 111, 110, 99, 101, 32]⟩
/-- Words with a space ahead of each. -/
def wordsS (w : ByteArray) (xs : List ByteArray) : ByteArray := xs.foldl (fun a x => a ++ spS ++ x) w
def hostsL (xs : List ByteArray) : List UInt8 := xs.flatMap fun x => 32 :: x.data.toList
theorem wordsS_list (xs : List ByteArray) : ∀ w, (wordsS w xs).data.toList = w.data.toList ++ hostsL xs := by
  induction xs with
  | nil => intro w; simp [wordsS, hostsL]
  | cons x xs ih =>
    intro w
    show (wordsS (w ++ spS ++ x) xs).data.toList = _
    rw [ih, append_list, append_list]
    simp [hostsL, spS]
theorem wordsS_snoc (w : ByteArray) (xs : List ByteArray) (x : ByteArray) : wordsS w (xs ++ [x]) = wordsS w xs ++ spS ++ x := by
  unfold wordsS; rw [List.foldl_append]; rfl
theorem hostsL_len (xs : List ByteArray) : (hostsL xs).length = xs.length + sumSt xs := by
  induction xs with
  | nil => rfl
  | cons x xs ih =>
    have : hostsL (x :: xs) = (32 :: x.data.toList) ++ hostsL xs := rfl
    rw [this, List.length_append, ih, List.length_cons, size_list, List.length_cons, sumSt, sumSt, List.map_cons, List.sum_cons]; omega
theorem wordsS_size (w : ByteArray) (xs : List ByteArray) : (wordsS w xs).size = w.size + xs.length + sumSt xs := by
  rw [← size_list, wordsS_list, List.length_append, size_list, hostsL_len]; omega
def nonS (n : ByteArray) : ByteArray := if n.size = 0 then ⟨#[]⟩ else kNon ++ n
def nonL (n : ByteArray) : List UInt8 := if n.size = 0 then [] else kNon.data.toList ++ n.data.toList
/-- FormatPolicy. -/
def fmtP (p : Pol) : ByteArray := if p.set = true ∧ isPol p = true then wordsS kScr p.scr ++ scS ++ wordsS kSty p.sty ++ scS ++ wordsS kImg p.img ++ nonS p.non else ⟨#[]⟩
theorem fmtP_list {p : Pol} (h1 : p.set = true) (h2 : isPol p = true) : (fmtP p).data.toList = kScr.data.toList ++ hostsL p.scr ++ 59 :: (kSty.data.toList ++ hostsL p.sty ++ 59 :: (kImg.data.toList ++ hostsL p.img ++ nonL p.non)) := by
  unfold fmtP
  rw [if_pos ⟨h1, h2⟩]
  have hn : (nonS p.non).data.toList = nonL p.non := by
    unfold nonS nonL
    by_cases e : p.non.size = 0
    · rw [if_pos e, if_pos e]
    · rw [if_neg e, if_neg e, append_list]
  rw [append_list, append_list, append_list, append_list, append_list, wordsS_list, wordsS_list, wordsS_list, hn]
  simp [scS, List.append_assoc]
theorem fmtP_no {p : Pol} (h : ¬ (p.set = true ∧ isPol p = true)) : fmtP p = ⟨#[]⟩ := by unfold fmtP; rw [if_neg h]
theorem okHosts_low {l : List ByteArray} (h : okHosts l = true) : ∀ x ∈ l, ∀ b ∈ x.data.toList, 97 ≤ b.toNat ∧ b.toNat ≤ 122 := by
  intro x hx b hb
  unfold okHosts at h
  rw [Bool.and_eq_true] at h
  have h1 := List.all_eq_true.1 h.2 x hx
  unfold isNm at h1
  rw [Bool.and_eq_true] at h1
  exact of_decide_eq_true (List.all_eq_true.1 h1.2 b hb)
theorem okHosts_ne {l : List ByteArray} (h : okHosts l = true) {c : UInt8} (hc : c.toNat < 97) : ∀ x ∈ l, ∀ b ∈ x.data.toList, b ≠ c := by
  intro x hx b hb e
  have := okHosts_low h x hx b hb
  rw [e] at this; omega
theorem hostsL_ne {l : List ByteArray} (h : okHosts l = true) : ∀ b ∈ hostsL l, b ≠ 59 := by
  intro b hb
  unfold hostsL at hb
  obtain ⟨x, hx, hbx⟩ := List.mem_flatMap.1 hb
  rcases List.mem_cons.1 hbx with e | hb2
  · rw [e]; decide
  · exact okHosts_ne h (by decide) x hx b hb2
theorem split_words {c : UInt8} (hc : c = 32) : ∀ (xs : List ByteArray) (w : List UInt8), (∀ b ∈ w, b ≠ c) → (∀ x ∈ xs, ∀ b ∈ x.data.toList, b ≠ c) → splitB c (w ++ hostsL xs) = w :: xs.map (·.data.toList)
  | [], w, hw, _ => by
    show splitB c (w ++ []) = _
    rw [List.append_nil, splitB_free hw]; rfl
  | x :: xs, w, hw, hx => by
    have e : w ++ hostsL (x :: xs) = w ++ c :: (x.data.toList ++ hostsL xs) := by subst hc; rfl
    rw [e, splitB_at _ hw, split_words hc xs x.data.toList (hx x List.mem_cons_self) fun y hy => hx y (List.mem_cons_of_mem _ hy), List.map_cons]
theorem map_ofL (xs : List ByteArray) : (xs.map (·.data.toList)).map ofL = xs := by
  rw [List.map_map]
  conv => rhs; rw [← List.map_id xs]
  exact List.map_congr_left fun x _ => ofL_of x
theorem words_back {l : List ByteArray} (h : okHosts l = true) {w : List UInt8} (hw : ∀ b ∈ w, b ≠ 32) : (splS 32 (w ++ hostsL l)).tail = l := by
  unfold splS
  rw [split_words rfl l w hw (okHosts_ne h (by decide)), List.map_cons, List.tail_cons, map_ofL]
/-- What the model reads. -/
def rdM (s : ByteArray) : Option Pol := match splS 59 s.data.toList with
  | a :: b :: c :: ds => some ⟨true, (splS 32 a.data.toList).tail, (splS 32 b.data.toList).tail, (splS 32 c.data.toList).tail, match ds with
    | [] => ⟨#[]⟩
    | d :: _ => if 6 < d.size then d.extract 6 d.size else ⟨#[]⟩⟩
  | _ => none
/-- What the program reads. -/
def rdI (s : ByteArray) : Pol := match splS 59 (Lib.cut s.data.toList kNon.data.toList).1 with
  | [a, b, c] => ⟨true, (splS 32 a.data.toList).tail, (splS 32 b.data.toList).tail, (splS 32 c.data.toList).tail, ofL (Lib.cut s.data.toList kNon.data.toList).2.1⟩
  | _ => polZ
theorem val_ne {n : ByteArray} (h : isVal n = true) : ∀ b ∈ n.data.toList, b ≠ 59 := by
  intro b hb e
  unfold isVal at h
  rw [Bool.and_eq_true] at h
  have h1 := List.all_eq_true.1 h.2 b hb
  rw [e] at h1
  revert h1; decide
theorem isPol_parts {p : Pol} (h1 : p.set = true) (h2 : isPol p = true) : okHosts p.scr = true ∧ okHosts p.sty = true ∧ okHosts p.img = true ∧ (p.non.size = 0 ∨ isVal p.non = true) := by
  unfold isPol at h2
  rw [if_pos h1, Bool.and_eq_true, Bool.and_eq_true, Bool.and_eq_true, Bool.or_eq_true] at h2
  exact ⟨h2.1.1.1, h2.1.1.2, h2.1.2, h2.2.imp of_decide_eq_true id⟩
theorem free_app {A B : List UInt8} {c : UInt8} (h1 : ∀ b ∈ A, b ≠ c) (h2 : ∀ b ∈ B, b ≠ c) : ∀ b ∈ A ++ B, b ≠ c := fun b hb => (List.mem_append.1 hb).elim (h1 b) (h2 b)
theorem emptyB {n : ByteArray} (h : n.size = 0) : n = ⟨#[]⟩ := bytesEq (List.eq_nil_of_length_eq_zero (by rw [size_list]; exact h))
theorem splS_three {A B C : List UInt8} (h1 : ∀ b ∈ A, b ≠ 59) (h2 : ∀ b ∈ B, b ≠ 59) (h3 : ∀ b ∈ C, b ≠ 59) : splS 59 (A ++ 59 :: (B ++ 59 :: C)) = [ofL A, ofL B, ofL C] := by
  unfold splS
  rw [splitB_at _ h1, splitB_at _ h2, splitB_free h3]; rfl
theorem rdM_fmt {p : Pol} (h1 : p.set = true) (h2 : isPol p = true) : rdM (fmtP p) = some p := by
  obtain ⟨o1, o2, o3, o4⟩ := isPol_parts h1 h2
  have f1 := free_app (c := 59) (A := kScr.data.toList) (by decide) (hostsL_ne o1)
  have f2 := free_app (c := 59) (A := kSty.data.toList) (by decide) (hostsL_ne o2)
  have f3 := free_app (c := 59) (A := kImg.data.toList) (by decide) (hostsL_ne o3)
  have w1 := words_back o1 (w := kScr.data.toList) (by decide)
  have w2 := words_back o2 (w := kSty.data.toList) (by decide)
  have w3 := words_back o3 (w := kImg.data.toList) (by decide)
  obtain ⟨set, scr, sty, img, non⟩ := p
  simp only at h1 o1 o2 o3 o4 f1 f2 f3 w1 w2 w3
  subst h1
  unfold rdM
  rw [fmtP_list rfl h2]
  simp only
  by_cases e : non.size = 0
  · have en := emptyB e
    subst en
    rw [show nonL ⟨#[]⟩ = [] from rfl, List.append_nil, splS_three f1 f2 f3]
    simp only [ofL_list]
    rw [w1, w2, w3]
  · have hv : isVal non = true := o4.resolve_left e
    have hN : nonL non = 59 :: ([110, 111, 110, 99, 101, 32] ++ non.data.toList) := by unfold nonL; rw [if_neg e]; rfl
    have f4 := free_app (c := 59) (A := [110, 111, 110, 99, 101, 32]) (by decide) (val_ne hv)
    have hs : splS 59 (kScr.data.toList ++ hostsL scr ++ 59 :: (kSty.data.toList ++ hostsL sty ++ 59 :: (kImg.data.toList ++ hostsL img ++ nonL non))) = [ofL (kScr.data.toList ++ hostsL scr), ofL (kSty.data.toList ++ hostsL sty), ofL (kImg.data.toList ++ hostsL img), ofL ([110, 111, 110, 99, 101, 32] ++ non.data.toList)] := by
      unfold splS
      rw [hN, splitB_at _ f1, splitB_at _ f2, splitB_at _ f3, splitB_free f4]; rfl
    rw [hs]
    simp only [ofL_list]
    have hsz : (ofL ([110, 111, 110, 99, 101, 32] ++ non.data.toList)).size = 6 + non.size := by rw [ofL_size, List.length_append, size_list]; rfl
    rw [w1, w2, w3, if_pos (by omega), extract_suf, ofL_list]
    congr 1
theorem index_free {c : UInt8} (m : List UInt8) : ∀ (A l : List UInt8), (∀ b ∈ A, b ≠ c) → Lib.index (A ++ l) (c :: m) = if Lib.index l (c :: m) = -1 then -1 else Lib.index l (c :: m) + (A.length : Int)
  | [], l, _ => by
    rw [List.nil_append]
    split
    · assumption
    · simp
  | a :: A, l, h => by
    have ih := index_free m A l fun b hb => h b (List.mem_cons_of_mem _ hb)
    have ha : a ≠ c := h a List.mem_cons_self
    have hp : (c :: m).isPrefixOf (a :: (A ++ l)) = false := by
      show ((c == a) && _) = false
      rw [beq_eq_false_iff_ne.2 (Ne.symm ha), Bool.false_and]
    rw [List.cons_append]
    conv => lhs; unfold Lib.index
    rw [if_neg (by rw [hp]; decide), ih]
    have hge := Lib.index_ge l (c :: m)
    by_cases e : Lib.index l (c :: m) = -1
    · rw [if_pos e, if_pos e]; rfl
    · rw [if_neg e, if_neg e, if_neg (by intro hq; have := beq_iff_eq.1 hq; omega)]
      rw [List.length_cons]; push_cast; omega
theorem index_past1 {c d b : UInt8} (t l : List UInt8) (hb : b ≠ d) : Lib.index (c :: b :: l) (c :: d :: t) = if Lib.index (b :: l) (c :: d :: t) = -1 then -1 else Lib.index (b :: l) (c :: d :: t) + 1 := by
  have hp : (c :: d :: t).isPrefixOf (c :: b :: l) = false := by
    show ((c == c) && ((d == b) && _)) = false
    rw [beq_eq_false_iff_ne.2 (Ne.symm hb), Bool.false_and, Bool.and_false]
  conv => lhs; unfold Lib.index
  rw [if_neg (by rw [hp]; decide)]
  by_cases e : Lib.index (b :: l) (c :: d :: t) = -1
  · rw [if_pos e, e]; rfl
  · rw [if_neg e, if_neg (fun hq => e (beq_iff_eq.1 hq))]
theorem index_here (s m : List UInt8) : Lib.index (s ++ m) s = 0 := by
  refine Lib.index_first (i := 0) (Nat.zero_le _) ?_ fun j hj => absurd hj (Nat.not_lt_zero _)
  unfold Lib.occAt
  rw [List.drop_zero, List.isPrefixOf_iff_prefix]
  exact List.prefix_append _ _
theorem index_three {A B C R : List UInt8} (h1 : ∀ b ∈ A, b ≠ 59) (h2 : ∀ b ∈ B, b ≠ 59) (h3 : ∀ b ∈ C, b ≠ 59) {b0 c0 : UInt8} {B' C' : List UInt8} (eb : B = b0 :: B') (ec : C = c0 :: C') (nb : b0 ≠ 110) (nc : c0 ≠ 110) (t : List UInt8) :
    Lib.index (A ++ 59 :: (B ++ 59 :: (C ++ R))) (59 :: 110 :: t) = if Lib.index R (59 :: 110 :: t) = -1 then -1 else Lib.index R (59 :: 110 :: t) + (A.length + 1 + B.length + 1 + C.length : Nat) := by
  have g := Lib.index_ge R (59 :: 110 :: t)
  have e3 := index_free (110 :: t) C R h3
  have e2' : Lib.index (59 :: (C ++ R)) (59 :: 110 :: t) = if Lib.index (C ++ R) (59 :: 110 :: t) = -1 then -1 else Lib.index (C ++ R) (59 :: 110 :: t) + 1 := by
    rw [ec]; exact index_past1 t _ nc
  have e2 := index_free (110 :: t) B (59 :: (C ++ R)) h2
  have e1' : Lib.index (59 :: (B ++ 59 :: (C ++ R))) (59 :: 110 :: t) = if Lib.index (B ++ 59 :: (C ++ R)) (59 :: 110 :: t) = -1 then -1 else Lib.index (B ++ 59 :: (C ++ R)) (59 :: 110 :: t) + 1 := by
    rw [eb]; exact index_past1 t _ nb
  rw [index_free (110 :: t) A _ h1, e1', e2, e2', e3]
  by_cases e : Lib.index R (59 :: 110 :: t) = -1
  · simp [e]
  · have k1 : ¬ (Lib.index R (59 :: 110 :: t) + (C.length : Int) = -1) := by omega
    have k2 : ¬ (Lib.index R (59 :: 110 :: t) + (C.length : Int) + 1 = -1) := by omega
    have k3 : ¬ (Lib.index R (59 :: 110 :: t) + (C.length : Int) + 1 + (B.length : Int) = -1) := by omega
    have k4 : ¬ (Lib.index R (59 :: 110 :: t) + (C.length : Int) + 1 + (B.length : Int) + 1 = -1) := by omega
    rw [if_neg e, if_neg e, if_neg k1, if_neg k2, if_neg k3, if_neg k4]
    push_cast; omega
theorem rdI_fmt {p : Pol} (h1 : p.set = true) (h2 : isPol p = true) : rdI (fmtP p) = p := by
  obtain ⟨o1, o2, o3, o4⟩ := isPol_parts h1 h2
  have f1 := free_app (c := 59) (A := kScr.data.toList) (by decide) (hostsL_ne o1)
  have f2 := free_app (c := 59) (A := kSty.data.toList) (by decide) (hostsL_ne o2)
  have f3 := free_app (c := 59) (A := kImg.data.toList) (by decide) (hostsL_ne o3)
  have w1 := words_back o1 (w := kScr.data.toList) (by decide)
  have w2 := words_back o2 (w := kSty.data.toList) (by decide)
  have w3 := words_back o3 (w := kImg.data.toList) (by decide)
  obtain ⟨set, scr, sty, img, non⟩ := p
  simp only at h1 o1 o2 o3 o4 f1 f2 f3 w1 w2 w3
  subst h1
  have hix := index_three (R := nonL non) f1 f2 f3 (b0 := 115) (c0 := 105) rfl rfl (by decide) (by decide) [111, 110, 99, 101, 32]
  have hl := fmtP_list rfl h2
  simp only at hl
  have hc : Lib.cut (fmtP ⟨true, scr, sty, img, non⟩).data.toList kNon.data.toList = (kScr.data.toList ++ hostsL scr ++ 59 :: (kSty.data.toList ++ hostsL sty ++ 59 :: (kImg.data.toList ++ hostsL img)), non.data.toList, decide (non.size ≠ 0)) := by
    rw [hl]
    unfold Lib.cut
    by_cases e : non.size = 0
    · have en := emptyB e
      subst en
      rw [show nonL ⟨#[]⟩ = [] from rfl] at hix ⊢
      have hx : Lib.index ([] : List UInt8) (59 :: 110 :: [111, 110, 99, 101, 32]) = -1 := rfl
      rw [if_pos hx] at hix
      rw [show kNon.data.toList = 59 :: 110 :: [111, 110, 99, 101, 32] from rfl, if_neg (by rw [hix]; decide), List.append_nil]
      rfl
    · have hN : nonL non = kNon.data.toList ++ non.data.toList := by unfold nonL; rw [if_neg e]
      have hx : Lib.index (nonL non) (59 :: 110 :: [111, 110, 99, 101, 32]) = 0 := by rw [hN]; exact index_here _ _
      rw [if_neg (by rw [hx]; decide), hx, Int.zero_add] at hix
      rw [show kNon.data.toList = 59 :: 110 :: [111, 110, 99, 101, 32] from rfl, if_pos (by rw [hix]; omega), hix, Int.toNat_natCast, hN]
      have hd : decide (non.size ≠ 0) = true := decide_eq_true e
      rw [hd]
      have ha : kScr.data.toList ++ hostsL scr ++ 59 :: (kSty.data.toList ++ hostsL sty ++ 59 :: (kImg.data.toList ++ hostsL img ++ (kNon.data.toList ++ non.data.toList))) = (kScr.data.toList ++ hostsL scr ++ 59 :: (kSty.data.toList ++ hostsL sty ++ 59 :: (kImg.data.toList ++ hostsL img))) ++ (kNon.data.toList ++ non.data.toList) := by simp [List.append_assoc]
      have hlen : (kScr.data.toList ++ hostsL scr).length + 1 + (kSty.data.toList ++ hostsL sty).length + 1 + (kImg.data.toList ++ hostsL img).length = (kScr.data.toList ++ hostsL scr ++ 59 :: (kSty.data.toList ++ hostsL sty ++ 59 :: (kImg.data.toList ++ hostsL img))).length := by
        simp only [List.length_append, List.length_cons]; omega
      rw [ha, hlen, List.take_left', Prod.mk.injEq, Prod.mk.injEq]
      · refine ⟨rfl, ?_, rfl⟩
        rw [← List.drop_drop, List.drop_left' rfl]
        exact List.drop_left' rfl
      · rfl
  unfold rdI
  rw [hc]
  simp only
  rw [splS_three f1 f2 f3]
  simp only [ofL_list]
  rw [w1, w2, w3, ofL_of]
theorem fmtP_ne {q : Pol} {s : ByteArray} (h : fmtP q = s) (hs : s.size ≠ 0) : q.set = true ∧ isPol q = true := by
  by_cases e : q.set = true ∧ isPol q = true
  · exact e
  · rw [fmtP_no e] at h; subst h; exact absurd rfl hs
/-- ParsePolicy. -/
def prsP (s : ByteArray) : Pol × Bool := if s.size = 0 then (polZ, true) else if fmtP (rdI s) = s then (rdI s, true) else (polZ, false)
theorem prsP_model {s : ByteArray} (hs : s.size ≠ 0) : (match rdM s with | none => (polZ, false) | some q => if fmtP q = s then (q, true) else (polZ, false)) = prsP s := by
  unfold prsP
  rw [if_neg hs]
  by_cases e : fmtP (rdI s) = s
  · obtain ⟨k1, k2⟩ := fmtP_ne e hs
    have hm := rdM_fmt k1 k2
    rw [e] at hm
    rw [hm, if_pos e]
    simp only
    rw [if_pos e]
  · rw [if_neg e]
    cases hq : rdM s with
    | none => rfl
    | some q =>
      simp only
      by_cases e2 : fmtP q = s
      · obtain ⟨k1, k2⟩ := fmtP_ne e2 hs
        have hi := rdI_fmt k1 k2
        rw [e2] at hi
        rw [hi] at e
        exact absurd e2 e
      · rw [if_neg e2]
theorem prsP_fmt {p : Pol} (h1 : p.set = true) (h2 : isPol p = true) : prsP (fmtP p) = (p, true) := by
  have hs : (fmtP p).size ≠ 0 := by rw [← size_list, fmtP_list h1 h2]; simp [kScr]
  unfold prsP
  rw [if_neg hs, rdI_fmt h1 h2, if_pos rfl]
theorem fmtP_polZ : fmtP polZ = ⟨#[]⟩ := fmtP_no (by rintro ⟨h, _⟩; cases h)
theorem prsP_yes {s : ByteArray} (h : (prsP s).2 = true) : fmtP (prsP s).1 = s := by
  unfold prsP at h ⊢
  by_cases e : s.size = 0
  · rw [if_pos e, emptyB e]; exact fmtP_polZ
  · rw [if_neg e] at h ⊢
    by_cases e2 : fmtP (rdI s) = s
    · rw [if_pos e2]; exact e2
    · rw [if_neg e2] at h; cases h
theorem isPol_zero {p : Pol} (h1 : p.set = false) (h2 : isPol p = true) : p = polZ := by
  obtain ⟨set, scr, sty, img, non⟩ := p
  simp only at h1
  subst h1
  unfold isPol at h2
  rw [if_neg Bool.false_ne_true, Bool.and_eq_true, Bool.and_eq_true, Bool.and_eq_true] at h2
  obtain ⟨⟨⟨a, b⟩, c⟩, d⟩ := h2
  obtain rfl : scr = [] := List.eq_nil_of_length_eq_zero (of_decide_eq_true a)
  obtain rfl : sty = [] := List.eq_nil_of_length_eq_zero (of_decide_eq_true b)
  obtain rfl : img = [] := List.eq_nil_of_length_eq_zero (of_decide_eq_true c)
  obtain rfl : non = ⟨#[]⟩ := emptyB (of_decide_eq_true d)
  rfl
/-- A valid policy is read back from its form. -/
theorem prsP_valid {p : Pol} (h : isPol p = true) : prsP (fmtP p) = (p, true) := by
  cases hs : p.set with
  | true => exact prsP_fmt hs h
  | false =>
    rw [isPol_zero hs h, fmtP_polZ]; rfl

end Go.Proofs.YtkjjiinccljhjaaGreatDoor
namespace Go.Proofs.YtkjjiinccljhjaaGreatDoor
open Go.ChangeShapes Go.WideShapes Go.ChangeAt Go.RowKit

theorem ownL_three {lo hi : Nat} {w : World} {a b c : Rw} : OwnRL lo hi w [a, b, c] ↔ a.OwnR lo hi w ∧ b.OwnR lo hi w ∧ c.OwnR lo hi w := by rw [ownRL_iff]; simp
/-- Three slices of strings in data form, their values in letters. -/
structure PoF (y1 y2 y3 : Rw) (u1 u2 u3 : Value) (xs ys zs : List ByteArray) : Prop where
  i1 : IsStringS y1
  i2 : IsStringS y2
  i3 : IsStringS y3
  d1 : y1.data = (rwSs (.slice none 0 0) xs).data
  d2 : y2.data = (rwSs (.slice none 0 0) ys).data
  d3 : y3.data = (rwSs (.slice none 0 0) zs).data
  e1 : y1.cell = u1
  e2 : y2.cell = u2
  e3 : y3.cell = u3
theorem PoF.reads {y1 y2 y3 : Rw} {u1 u2 u3 : Value} {xs ys zs : List ByteArray} (h : PoF y1 y2 y3 u1 u2 u3 xs ys zs) {lo hi : Nat} {w : World} (ho : OwnRL lo hi w [y1, y2, y3]) (b : Bool) (t : ByteArray) : ReadP w.heap.size w u1 u2 u3 ⟨b, xs, ys, zs, t⟩ := by
  obtain ⟨o1, o2, o3⟩ := ownL_three.1 ho
  have r1 := strs_of_data h.d1 (rd_of o1)
  have r2 := strs_of_data h.d2 (rd_of o2)
  have r3 := strs_of_data h.d3 (rd_of o3)
  rw [h.e1] at r1; rw [h.e2] at r2; rw [h.e3] at r3
  exact ⟨r1, r2, r3⟩
theorem poF_of {v1 v2 v3 : Value} {xs ys zs : List ByteArray} : PoF (rwSs v1 xs) (rwSs v2 ys) (rwSs v3 zs) v1 v2 v3 xs ys zs :=
  ⟨rwSs_is _ _, rwSs_is _ _, rwSs_is _ _, rwSs_data _ _ _, rwSs_data _ _ _, rwSs_data _ _ _, rfl, rfl, rfl⟩

theorem toP_any (b : Bool) (t : ByteArray) {v1 v2 v3 : Value} {xs ys zs : List ByteArray} {w : World} (r1 : ReadsK encS 1 w.heap.size w v1 xs) (r2 : ReadsK encS 1 w.heap.size w v2 ys) (r3 : ReadsK encS 1 w.heap.size w v3 zs) (h1 : (rwSs v1 xs).weight ≤ 1048576) (h2 : (rwSs v2 ys).weight ≤ 1048576) (h3 : (rwSs v3 zs).weight ≤ 1048576) :
    Calls Tryz.prog 29 #[.agg #[.bool b, v1, v2, v3, .string t]] w fun e w' => ∃ (y1 y2 y3 : Rw) (a1 : Option Addr) (n1 c1 : Nat) (a2 : Option Addr) (n2 c2 : Nat) (a3 : Option Addr) (n3 c3 : Nat),
      e = .returned (.agg #[.bool b, .slice a1 n1 c1, .slice a2 n2 c2, .slice a3 n3 c3, .string t]) ∧ PoF y1 y2 y3 (.slice a1 n1 c1) (.slice a2 n2 c2) (.slice a3 n3 c3) xs ys zs ∧ OwnRL w.heap.size w'.heap.size w' [y1, y2, y3] ∧ (blocksL [y1, y2, y3]).Nodup ∧ Below w.heap.size w w' := by
  refine (toL_Policy b (rwSs v1 xs) (rwSs v2 ys) (rwSs v3 zs) t w (rwSs_is _ _) (rwSs_reads r1) (Nat.le_trans h1 (by decide)) (rwSs_is _ _) (rwSs_reads r2) (Nat.le_trans h2 (by decide)) (rwSs_is _ _) (rwSs_reads r3) (Nat.le_trans h3 (by decide))).mono ?_
  rintro e w' ⟨y1, y2, y3, rfl, i1, d1, i2, d2, i3, d3, ho, hn, hb⟩
  obtain ⟨o1, o2, o3⟩ := ownL_three.1 ho
  obtain ⟨a1, n1, c1, e1⟩ := sl_form (is_sl_StringS i1) (Rw.OwnR.reads _ o1)
  obtain ⟨a2, n2, c2, e2⟩ := sl_form (is_sl_StringS i2) (Rw.OwnR.reads _ o2)
  obtain ⟨a3, n3, c3, e3⟩ := sl_form (is_sl_StringS i3) (Rw.OwnR.reads _ o3)
  exact ⟨y1, y2, y3, a1, n1, c1, a2, n2, c2, a3, n3, c3, by rw [e1, e2, e3], ⟨i1, i2, i3, d1.trans (rwSs_data _ _ _), d2.trans (rwSs_data _ _ _), d3.trans (rwSs_data _ _ _), e1, e2, e3⟩, ho, hn, hb⟩

theorem ReadP.up {w w' : World} {v1 v2 v3 : Value} {p : Pol} (h : ReadP w.heap.size w v1 v2 v3 p) (hb : Below w.heap.size w w') : ReadP w'.heap.size w' v1 v2 v3 p := (h.below hb (Nat.le_refl _)).mono hb.size
theorem toPr_any (b : Bool) (t : ByteArray) {v1 v2 v3 : Value} {xs ys zs : List ByteArray} {w0 w : World} (r1 : ReadsK encS 1 w0.heap.size w0 v1 xs) (r2 : ReadsK encS 1 w0.heap.size w0 v2 ys) (r3 : ReadsK encS 1 w0.heap.size w0 v3 zs) (h1 : (rwSs v1 xs).weight ≤ 1048576) (h2 : (rwSs v2 ys).weight ≤ 1048576) (h3 : (rwSs v3 zs).weight ≤ 1048576) (hb : Below w0.heap.size w0 w) :
    Calls Tryz.prog 29 #[.agg #[.bool b, v1, v2, v3, .string t]] w fun e w' => ∃ (a1 : Option Addr) (n1 c1 : Nat) (a2 : Option Addr) (n2 c2 : Nat) (a3 : Option Addr) (n3 c3 : Nat),
      e = .returned (.agg #[.bool b, .slice a1 n1 c1, .slice a2 n2 c2, .slice a3 n3 c3, .string t]) ∧ ReadP w'.heap.size w' (.slice a1 n1 c1) (.slice a2 n2 c2) (.slice a3 n3 c3) ⟨b, xs, ys, zs, t⟩ ∧ Below w.heap.size w w' := by
  refine (toP_any b t ((r1.below hb (Nat.le_refl _)).mono hb.size) ((r2.below hb (Nat.le_refl _)).mono hb.size) ((r3.below hb (Nat.le_refl _)).mono hb.size) h1 h2 h3).mono ?_
  rintro e w' ⟨y1, y2, y3, a1, n1, c1, a2, n2, c2, a3, n3, c3, rfl, hf, ho, _, hbb⟩
  exact ⟨a1, n1, c1, a2, n2, c2, a3, n3, c3, rfl, hf.reads ho b t, hbb⟩

theorem eqPo (b : Bool) (t : ByteArray) {y1 y2 y3 z1 z2 z3 : Rw} {u1 u2 u3 v1 v2 v3 : Value} {xs ys zs : List ByteArray} (h : PoF y1 y2 y3 u1 u2 u3 xs ys zs) (k : PoF z1 z2 z3 v1 v2 v3 xs ys zs) {lo hi lo' hi' : Nat} {w : World} (ho : OwnRL lo hi w [y1, y2, y3]) (ho' : OwnRL lo' hi' w [z1, z2, z3]) :
    Calls Tryz.prog 32 #[.agg #[.bool b, u1, u2, u3, .string t], .agg #[.bool b, v1, v2, v3, .string t]] w fun e w' => e = .returned (.bool true) ∧ Grw w w' := by
  obtain ⟨o1, o2, o3⟩ := ownL_three.1 ho
  obtain ⟨p1, p2, p3⟩ := ownL_three.1 ho'
  exact eqV_Policy b y1 z1 y2 z2 y3 z3 t u1 u2 u3 v1 v2 v3 h.e1 k.e1 h.e2 k.e2 h.e3 k.e3 w h.i1 k.i1 (h.d1.trans k.d1.symm) (rd_of o1) (rd_of p1) h.i2 k.i2 (h.d2.trans k.d2.symm) (rd_of o2) (rd_of p2) h.i3 k.i3 (h.d3.trans k.d3.symm) (rd_of o3) (rd_of p3)

end Go.Proofs.YtkjjiinccljhjaaGreatDoor
namespace Go.Proofs.YtkjjiinccljhjaaGreatDoor
open Go.ChangeShapes Go.WideShapes Go.ChangeAt Go.RowKit Go.Joins Go.Deep

theorem fields_at {P : Program} {H : Type} {enc : TypeId × Value → H} {w : World} {base : Nat} {spare : Nat → Bool} {held : Bool} {t : TypeId} {fs : Array Field} {fuel : Nat} {cs : List Value} {x : DataW H × List MemPlace} (hs : P.underlying t = some (.struct fs)) (h : DataW.trod enc P w base spare held fuel t cs = some x) :
    ∃ n, ∀ (i : Nat) (f : Field), fs[i]? = some f → ∃ y, DataW.trod enc P w base spare held n f.type ((cs.drop f.offset).take (P.cellsOf f.type)) = some y := by
  obtain ⟨ys, n, _, _, _, hlen, hat⟩ := DataW.trod_struct hs h
  refine ⟨n, fun i f hi => ?_⟩
  have hil : i < fs.size := (Array.getElem?_eq_some_iff.1 hi).1
  obtain ⟨y, hy⟩ : ∃ y, ys[i]? = some y := ⟨_, List.getElem?_eq_getElem (by omega)⟩
  exact ⟨y, (hat i f hi).trans hy⟩
theorem array5 {α : Type} {a : Array α} (h : a.size = 5) : ∃ x0 x1 x2 x3 x4, a = #[x0, x1, x2, x3, x4] := by
  obtain ⟨l⟩ := a
  match l, h with
  | [x0, x1, x2, x3, x4], _ => exact ⟨x0, x1, x2, x3, x4, rfl⟩
def RqOk (h p f g : ByteArray) : Prop := h.size ≤ 9223372036854775807 ∧ p.size ≤ 9223372036854775807 ∧ f.size ≤ 9223372036854775807 ∧ g.size ≤ 9223372036854775807

set_option maxRecDepth 100000 in
theorem request_of {H : Type} {enc : TypeId × Value → H} {W : World} {base : Nat} {v : Value} {d : DataW H} {p : List MemPlace} (hv : Value.okWide Tryz.prog W .any base 51 v) (h : DataW.Trod enc Tryz.prog W 0 (fun _ => true) true 51 v d p) :
    ∃ (kd : Int) (h p f g : ByteArray), v = .agg #[.int .i64 kd, .string h, .string p, .string f, .string g] ∧ RqOk h p f g := by
  have ei : Tryz.prog.cellsOf 3 = 1 := by kernel_rfl
  have es : Tryz.prog.cellsOf 9 = 1 := by kernel_rfl
  have ea : Tryz.prog.cellsOf 49 = 2 := by kernel_rfl
  have eq : Tryz.prog.cellsOf 51 = 5 := by kernel_rfl
  obtain ⟨cs, rfl, hsz⟩ := okWide_struct Tryz.underlying51 hv
  rw [eq] at hsz
  obtain ⟨c0, c1, c2, c3, c4, rfl⟩ := array5 hsz
  obtain ⟨fuel, hf⟩ := h
  obtain ⟨n, hat⟩ := fields_at Tryz.underlying51 hf
  obtain ⟨y0, t0⟩ := hat 0 _ rfl
  obtain ⟨y1, t1⟩ := hat 1 _ rfl
  obtain ⟨y2, t2⟩ := hat 2 _ rfl
  obtain ⟨y3, t3⟩ := hat 3 _ rfl
  replace t0 : DataW.trod enc Tryz.prog W 0 (fun _ => true) true n 3 [c0] = some y0 := by
    have h := t0; change DataW.trod _ _ _ _ _ _ _ 3 (List.take (Tryz.prog.cellsOf 3) _) = _ at h; rw [ei] at h; exact h
  replace t1 : DataW.trod enc Tryz.prog W 0 (fun _ => true) true n 49 [c1, c2] = some y1 := by
    have h := t1; change DataW.trod _ _ _ _ _ _ _ 49 (List.take (Tryz.prog.cellsOf 49) _) = _ at h; rw [ea] at h; exact h
  replace t2 : DataW.trod enc Tryz.prog W 0 (fun _ => true) true n 9 [c3] = some y2 := by
    have h := t2; change DataW.trod _ _ _ _ _ _ _ 9 (List.take (Tryz.prog.cellsOf 9) _) = _ at h; rw [es] at h; exact h
  replace t3 : DataW.trod enc Tryz.prog W 0 (fun _ => true) true n 9 [c4] = some y3 := by
    have h := t3; change DataW.trod _ _ _ _ _ _ _ 9 (List.take (Tryz.prog.cellsOf 9) _) = _ at h; rw [es] at h; exact h
  obtain ⟨m, hau⟩ := fields_at Tryz.underlying49 t1
  obtain ⟨y4, t4⟩ := hau 0 _ rfl
  obtain ⟨y5, t5⟩ := hau 1 _ rfl
  replace t4 : DataW.trod enc Tryz.prog W 0 (fun _ => true) true m 9 [c1] = some y4 := by
    have h := t4; change DataW.trod _ _ _ _ _ _ _ 9 (List.take (Tryz.prog.cellsOf 9) _) = _ at h; rw [es] at h; exact h
  replace t5 : DataW.trod enc Tryz.prog W 0 (fun _ => true) true m 9 [c2] = some y5 := by
    have h := t5; change DataW.trod _ _ _ _ _ _ _ 9 (List.take (Tryz.prog.cellsOf 9) _) = _ at h; rw [es] at h; exact h
  obtain ⟨kd, k0, _, w0⟩ := DataW.trod_int Tryz.underlying3 t0
  obtain ⟨h, k1, _, w1⟩ := DataW.trod_string Tryz.underlying9 t4
  obtain ⟨p, k2, _, w2⟩ := DataW.trod_string Tryz.underlying9 t5
  obtain ⟨f, k3, _, w3⟩ := DataW.trod_string Tryz.underlying9 t2
  obtain ⟨g, k4, _, w4⟩ := DataW.trod_string Tryz.underlying9 t3
  cases k0; cases k1; cases k2; cases k3; cases k4
  exact ⟨kd, h, p, f, g, rfl, w1, w2, w3, w4⟩

end Go.Proofs.YtkjjiinccljhjaaGreatDoor
namespace Go.Proofs.YtkjjiinccljhjaaGreatDoor
open Go.ChangeShapes Go.WideShapes Go.ChangeAt Go.RowKit

abbrev Ad := ByteArray × ByteArray
def isAd (a : Ad) : Bool := isNm a.1 && isNm a.2
def slash : ByteArray := ⟨#[47]⟩
def fmtA (a : Ad) : ByteArray := if isAd a = true then a.1 ++ slash ++ a.2 else ⟨#[]⟩
theorem isAd_no1 {a : Ad} (h : isNm a.1 = false) : isAd a = false := by unfold isAd; rw [h, Bool.false_and]
theorem isAd_1 {a : Ad} (h : isNm a.1 = true) : isAd a = isNm a.2 := by unfold isAd; rw [h, Bool.true_and]
theorem isNm_size {s : ByteArray} (h : isNm s = true) : 1 ≤ s.size ∧ s.size ≤ 8 := by
  unfold isNm at h
  exact of_decide_eq_true (Bool.and_eq_true_iff.1 h).1
theorem isAd_size {a : Ad} (h : isAd a = true) : (1 ≤ a.1.size ∧ a.1.size ≤ 8) ∧ 1 ≤ a.2.size ∧ a.2.size ≤ 8 := by
  unfold isAd at h
  have := Bool.and_eq_true_iff.1 h
  exact ⟨isNm_size this.1, isNm_size this.2⟩

set_option maxHeartbeats 1000000 in
theorem isAd_impl (h p : ByteArray) (h1 : h.size ≤ 9223372036854775807) (h2 : p.size ≤ 9223372036854775807) (w : World) :
    Calls Tryz.prog 141 #[.agg #[.string h, .string p]] w fun e w' => e = .returned (.bool (isAd (h, p))) ∧ Below w.heap.size w w' := by
  have HB := Lib.hid ((Below.refl w.heap.size w).alloc (Nat.le_refl _) (.cells #[.string h, .string p] 28))
  by_cases e1 : isNm h = true
  · have HI := Lib.hid (isAd_1 (a := (h, p)) e1)
    go_enter Tryz.func141, Tryz.ntmps141
    go_wp2_with fail
    refine (nm_impl h h1 _).mono ?_
    rintro e w' ⟨rfl, rfl⟩
    go_wp2_with fail
    refine (nm_impl p h2 _).mono ?_
    rintro e w' ⟨rfl, rfl⟩
    go_wp2_with fail
    go_ret
    exact ⟨ret_b HI.out.symm, HB.out⟩
  · have e1 : isNm h = false := Bool.eq_false_iff.2 e1
    have HI := Lib.hid (isAd_no1 (a := (h, p)) e1)
    go_enter Tryz.func141, Tryz.ntmps141
    go_wp2_with fail
    refine (nm_impl h h1 _).mono ?_
    rintro e w' ⟨rfl, rfl⟩
    go_wp2_with fail
    go_ret
    exact ⟨ret_b HI.out.symm, HB.out⟩

set_option maxHeartbeats 1000000 in
theorem isAd_spec (h p : ByteArray) (h1 : h.size ≤ 9223372036854775807) (h2 : p.size ≤ 9223372036854775807) (w : World) :
    Calls Tryz.prog 146 #[.agg #[.string h, .string p]] w fun e w' => e = .returned (.bool (isAd (h, p))) ∧ Below w.heap.size w w' := by
  have HB := Lib.hid ((Below.refl w.heap.size w).alloc (Nat.le_refl _) (.cells #[.string h, .string p] 28))
  by_cases e1 : isNm h = true
  · have HI := Lib.hid (isAd_1 (a := (h, p)) e1)
    go_enter Tryz.func146, Tryz.ntmps146
    go_wp2_with fail
    refine (nm_spec h h1 _).mono ?_
    rintro e w' ⟨rfl, rfl⟩
    go_wp2_with fail
    refine (nm_spec p h2 _).mono ?_
    rintro e w' ⟨rfl, rfl⟩
    go_wp2_with fail
    go_ret
    exact ⟨ret_b HI.out.symm, HB.out⟩
  · have e1 : isNm h = false := Bool.eq_false_iff.2 e1
    have HI := Lib.hid (isAd_no1 (a := (h, p)) e1)
    go_enter Tryz.func146, Tryz.ntmps146
    go_wp2_with fail
    refine (nm_spec h h1 _).mono ?_
    rintro e w' ⟨rfl, rfl⟩
    go_wp2_with fail
    go_ret
    exact ⟨ret_b HI.out.symm, HB.out⟩

theorem fmtA_yes {a : Ad} (h : isAd a = true) : fmtA a = a.1 ++ slash ++ a.2 := by unfold fmtA; rw [if_pos h]
theorem fmtA_no {a : Ad} (h : isAd a = false) : fmtA a = ⟨#[]⟩ := by unfold fmtA; rw [if_neg (by rw [h]; exact Bool.false_ne_true)]
theorem ret_s {a b : ByteArray} (h : a = b) : Ending.returned (.string a) = .returned (.string b) := by rw [h]

end Go.Proofs.YtkjjiinccljhjaaGreatDoor
namespace Go.Proofs.YtkjjiinccljhjaaGreatDoor
open Go.ChangeShapes Go.WideShapes Go.ChangeAt Go.RowKit

abbrev cmpB (a b : List UInt8) : Int := Lib.compareBytes a b
theorem cmpB_self : ∀ l, cmpB l l = 0
  | [] => rfl
  | b :: l => by
    have h : ¬ b < b := UInt8.lt_irrefl b
    unfold cmpB Lib.compareBytes
    rw [if_neg h, if_neg h]
    exact cmpB_self l
theorem cmpB_eq : ∀ {a b}, cmpB a b = 0 → a = b
  | [], [], _ => rfl
  | [], _ :: _, h => by unfold cmpB Lib.compareBytes at h; cases h
  | _ :: _, [], h => by unfold cmpB Lib.compareBytes at h; cases h
  | x :: a, y :: b, h => by
    unfold cmpB Lib.compareBytes at h
    split at h
    · cases h
    · split at h
      · cases h
      · rename_i h1 h2
        have e : x = y := UInt8.le_antisymm (UInt8.not_lt.1 h2) (UInt8.not_lt.1 h1)
        rw [e, cmpB_eq h]
theorem cmpB_neg : ∀ a b, cmpB b a = - cmpB a b
  | [], [] => rfl
  | [], _ :: _ => rfl
  | _ :: _, [] => rfl
  | x :: a, y :: b => by
    have ih := cmpB_neg a b
    unfold cmpB Lib.compareBytes
    by_cases h1 : x < y
    · have h2 : ¬ y < x := UInt8.not_lt.2 (UInt8.le_of_lt h1)
      rw [if_pos h1, if_neg h2, if_pos h1]; rfl
    · by_cases h2 : y < x
      · rw [if_pos h2, if_neg h1, if_pos h2]
      · rw [if_neg h1, if_neg h2, if_neg h2, if_neg h1]; exact ih
theorem cmpB_vals : ∀ a b, cmpB a b = -1 ∨ cmpB a b = 0 ∨ cmpB a b = 1
  | [], [] => Or.inr (Or.inl rfl)
  | [], _ :: _ => Or.inl rfl
  | _ :: _, [] => Or.inr (Or.inr rfl)
  | x :: a, y :: b => by
    have ih := cmpB_vals a b
    unfold cmpB Lib.compareBytes
    split
    · exact Or.inl rfl
    · split
      · exact Or.inr (Or.inr rfl)
      · exact ih
theorem cmpB_less : ∀ a b, Op.bytesLess a b = decide (cmpB a b < 0)
  | [], [] => rfl
  | [], _ :: _ => rfl
  | _ :: _, [] => rfl
  | x :: a, y :: b => by
    have ih := cmpB_less a b
    unfold cmpB Lib.compareBytes Op.bytesLess
    by_cases h1 : x < y
    · rw [if_pos h1, decide_eq_true h1]; rfl
    · by_cases h2 : y < x
      · have h3 : (x == y) = false := beq_eq_false_iff_ne.2 fun e => by subst e; exact h1 h2
        rw [if_neg h1, if_pos h2, decide_eq_false h1, h3]; rfl
      · have e : x = y := UInt8.le_antisymm (UInt8.not_lt.1 h2) (UInt8.not_lt.1 h1)
        subst e
        rw [if_neg h1, decide_eq_false h1]
        simp [ih]
theorem cmpB_trans : ∀ {a b c}, cmpB a b < 0 → cmpB b c < 0 → cmpB a c < 0
  | [], [], _, h, _ => by unfold cmpB Lib.compareBytes at h; omega
  | [], _ :: _, [], _, h => by unfold cmpB Lib.compareBytes at h; omega
  | [], _ :: _, _ :: _, _, _ => by unfold cmpB Lib.compareBytes; omega
  | _ :: _, [], _, h, _ => by unfold cmpB Lib.compareBytes at h; omega
  | _ :: _, _ :: _, [], _, h => by unfold cmpB Lib.compareBytes at h; omega
  | x :: a, y :: b, z :: c, h1, h2 => by
    have ih := @cmpB_trans a b c
    unfold cmpB Lib.compareBytes at h1 h2 ⊢
    by_cases e1 : x < y
    · by_cases e2 : y < z
      · rw [if_pos (UInt8.lt_trans e1 e2)]; omega
      · by_cases e3 : z < y
        · rw [if_neg e2, if_pos e3] at h2; omega
        · have e : y = z := UInt8.le_antisymm (UInt8.not_lt.1 e3) (UInt8.not_lt.1 e2)
          subst e; rw [if_pos e1]; omega
    · by_cases e2 : y < x
      · rw [if_neg e1, if_pos e2] at h1; omega
      · have e : x = y := UInt8.le_antisymm (UInt8.not_lt.1 e2) (UInt8.not_lt.1 e1)
        subst e
        rw [if_neg e1, if_neg e1] at h1
        by_cases e3 : x < z
        · rw [if_pos e3]; omega
        · rw [if_neg e3] at h2 ⊢
          by_cases e4 : z < x
          · rw [if_pos e4] at h2; omega
          · rw [if_neg e4] at h2 ⊢
            exact ih h1 h2

def cmpA (a b : Ad) : Int := if a.1 = b.1 then cmpB a.2.data.toList b.2.data.toList else cmpB a.1.data.toList b.1.data.toList
theorem bytes_inj {a b : ByteArray} (h : a.data.toList = b.data.toList) : a = b := by
  cases a with | mk x => cases b with | mk y => rw [show x = y from Array.toList_inj.1 h]
theorem cmpA_self (a : Ad) : cmpA a a = 0 := by unfold cmpA; rw [if_pos rfl]; exact cmpB_self _
theorem cmpA_eq {a b : Ad} (h : cmpA a b = 0) : a = b := by
  unfold cmpA at h
  split at h
  · rename_i e
    exact Prod.ext e (bytes_inj (cmpB_eq h))
  · rename_i e
    exact absurd (bytes_inj (cmpB_eq h)) e
theorem cmpA_neg (a b : Ad) : cmpA b a = - cmpA a b := by
  unfold cmpA
  by_cases e : a.1 = b.1
  · rw [if_pos e, if_pos e.symm]; exact cmpB_neg _ _
  · rw [if_neg e, if_neg (Ne.symm e)]; exact cmpB_neg _ _
theorem cmpA_vals (a b : Ad) : cmpA a b = -1 ∨ cmpA a b = 0 ∨ cmpA a b = 1 := by
  unfold cmpA; split <;> exact cmpB_vals _ _
theorem cmpA_trans {a b c : Ad} (h1 : cmpA a b < 0) (h2 : cmpA b c < 0) : cmpA a c < 0 := by
  unfold cmpA at h1 h2 ⊢
  by_cases e1 : a.1 = b.1
  · rw [if_pos e1] at h1
    by_cases e2 : b.1 = c.1
    · rw [if_pos e2] at h2
      rw [if_pos (e1.trans e2)]; exact cmpB_trans h1 h2
    · rw [if_neg e2] at h2
      rw [if_neg (by rw [e1]; exact e2), e1]; exact h2
  · rw [if_neg e1] at h1
    by_cases e2 : b.1 = c.1
    · rw [if_neg (by rw [← e2]; exact e1), ← e2]; exact h1
    · rw [if_neg e2] at h2
      have h3 := cmpB_trans h1 h2
      by_cases e3 : a.1 = c.1
      · rw [e3, cmpB_self] at h3; omega
      · rw [if_neg e3]; exact h3

def encAd (a : Ad) : List Value := [.string a.1, .string a.2]
theorem cmpA_hosts {h p h' p' : ByteArray} (e : h ≠ h') : cmpA (h, p) (h', p') = cmpB h.data.toList h'.data.toList := by unfold cmpA; rw [if_neg e]
theorem cmpA_paths {h p p' : ByteArray} : cmpA (h, p) (h, p') = cmpB p.data.toList p'.data.toList := by unfold cmpA; rw [if_pos rfl]

theorem less_yes {a b : ByteArray} (h : Op.bytesLess a.toList b.toList = true) : cmpB a.data.toList b.data.toList = -1 := by
  rw [ByteArray.toList_eq, ByteArray.toList_eq, cmpB_less] at h
  have := of_decide_eq_true h
  have := cmpB_vals a.data.toList b.data.toList
  omega
theorem less_no {a b : ByteArray} (h : Op.bytesLess a.toList b.toList = false) (hne : a ≠ b) : cmpB a.data.toList b.data.toList = 1 := by
  rw [ByteArray.toList_eq, ByteArray.toList_eq, cmpB_less] at h
  have h1 := of_decide_eq_false h
  have h2 := cmpB_vals a.data.toList b.data.toList
  have h0 : cmpB a.data.toList b.data.toList ≠ 0 := fun h => hne (bytes_inj (cmpB_eq h))
  omega
theorem less_self (a : ByteArray) : Op.bytesLess a.toList a.toList = false := by rw [cmpB_less, cmpB_self]; rfl

end Go.Proofs.YtkjjiinccljhjaaGreatDoor
namespace Go.Proofs.YtkjjiinccljhjaaGreatDoor
open Go.ChangeShapes Go.WideShapes Go.ChangeAt Go.RowKit

/-- Where the first slash stands. -/
def slashAt : List UInt8 → Option Nat
  | [] => none
  | b :: l => if b = 47 then some 0 else (slashAt l).map (· + 1)
theorem index_slash_eq (l : List UInt8) : Lib.indexByte l 47 = match slashAt l with | none => -1 | some i => (i : Int) := by
  induction l with
  | nil => rfl
  | cons b l ih =>
    unfold Lib.indexByte slashAt
    by_cases h : b = 47
    · rw [if_pos (by simpa using h), if_pos h]; rfl
    · rw [if_neg (by simpa using h), if_neg h, ih]
      cases slashAt l with
      | none => rfl
      | some i =>
        simp only [Option.map_some]
        rw [if_neg (by simp)]
        rfl
theorem slashAt_some {l : List UInt8} {i : Nat} (h : slashAt l = some i) : i < l.length ∧ l[i]? = some 47 ∧ ∀ j, j < i → l[j]? ≠ some 47 := by
  induction l generalizing i with
  | nil => cases h
  | cons b l ih =>
    unfold slashAt at h
    by_cases e : b = 47
    · rw [if_pos e] at h; cases h
      exact ⟨by simp, by simp [e], fun j hj => absurd hj (Nat.not_lt_zero _)⟩
    · rw [if_neg e] at h
      cases hs : slashAt l with
      | none => rw [hs] at h; cases h
      | some k =>
        rw [hs] at h
        simp only [Option.map_some, Option.some.injEq] at h
        subst h
        obtain ⟨h1, h2, h3⟩ := ih hs
        refine ⟨by simp; omega, by simpa using h2, fun j hj => ?_⟩
        cases j with
        | zero => simp [e]
        | succ j => simpa using h3 j (by omega)
theorem slashAt_none {l : List UInt8} (h : slashAt l = none) : ∀ j : Nat, l[j]? ≠ some 47 := by
  induction l with
  | nil => simp
  | cons b l ih =>
    unfold slashAt at h
    by_cases e : b = 47
    · rw [if_pos e] at h; cases h
    · rw [if_neg e] at h
      intro j
      cases j with
      | zero => simp [e]
      | succ j => simpa using ih (by simpa using h) j
theorem slashAt_of_first {l : List UInt8} {i : Nat} (h1 : l[i]? = some 47) (h2 : ∀ j, j < i → l[j]? ≠ some 47) : slashAt l = some i := by
  cases h : slashAt l with
  | none => exact absurd h1 (slashAt_none h i)
  | some k =>
    obtain ⟨h3, h4, h5⟩ := slashAt_some h
    rcases Nat.lt_trichotomy i k with c | c | c
    · exact absurd h1 (h5 i c)
    · rw [c]
    · exact absurd h4 (h2 k c)
theorem slashAt_of_none {l : List UInt8} (h : ∀ j : Nat, l[j]? ≠ some 47) : slashAt l = none := by
  cases hs : slashAt l with
  | none => rfl
  | some k => exact absurd (slashAt_some hs).2.1 (h k)

set_option maxRecDepth 100000 in
theorem idxByte_any (s : ByteArray) (c : Int) (w : World) :
    Calls Tryz.prog 243 #[.string s, .int .u8 c] w fun e w' => e = .returned (.int .i64 (Lib.indexByte s.data.toList c.toNat.toUInt8)) ∧ w = w' := by
  go_enter Tryz.func243, Tryz.ntmps243
  go_wp2
  rw [run_callFunc_extern Tryz.func257 (by kernel_rfl) (by kernel_rfl) (by kernel_rfl) (e := Extern.BytealgIndexByte.indexByte) (by kernel_rfl), Lib.run_indexByteString]
  simp only [Result.andThen]
  rw [Oper.upon_value]
  go_wp2
  go_ret
  exact ⟨rfl, rfl⟩

set_option maxRecDepth 100000 in
theorem index_slash (s : ByteArray) (w : World) :
    Calls Tryz.prog 225 #[.string s, .string ⟨#[47]⟩] w fun e w' => e = .returned (.int .i64 (Lib.indexByte s.data.toList 47)) ∧ w = w' := by
  by_cases hs : ([47] == s.toList) = true
  · have e1 : s.data.toList = [47] := by
      rw [ByteArray.toList_eq] at hs
      exact (eq_of_beq hs).symm
    rw [e1]
    go_enter Tryz.func225, Tryz.ntmps225
    go_wp2_with fail
    go_ret
    exact ⟨rfl, rfl⟩
  · have hs : ([47] == s.toList) = false := Bool.eq_false_iff.2 hs
    go_enter Tryz.func225, Tryz.ntmps225
    go_wp2_with fail
    refine (idxByte_any s _ _).mono ?_
    rintro e w' ⟨rfl, rfl⟩
    go_wp2_with fail
    go_ret
    exact ⟨rfl, rfl⟩

/-- What Cut returns at "/". -/
def cutV (s : ByteArray) : Value := match slashAt s.data.toList with
  | none => .tuple #[.string s, .string ⟨#[]⟩, .bool false]
  | some i => .tuple #[.string (s.extract 0 i), .string (s.extract (i + 1) s.size), .bool true]

set_option maxRecDepth 100000 in
set_option maxHeartbeats 1000000 in
theorem lcut_any (s : ByteArray) (hs : s.size ≤ 4611686018427387904) (w : World) :
    Calls Tryz.prog 208 #[.string s, .string ⟨#[47]⟩] w fun e w' => e = .returned (cutV s) ∧ ∃ n, w' = w.drewN n := by
  have hix := index_slash_eq s.data.toList
  cases hsl : slashAt s.data.toList with
  | none =>
    have HV := Lib.hid (show cutV s = _ from by unfold cutV; rw [hsl])
    rw [hsl] at hix
    simp only at hix
    have HI := Lib.hid hix
    clear hix hsl
    go_enter Tryz.func208, Tryz.ntmps208
    go_wp2_with fail
    refine (index_slash s _).mono ?_
    rintro e w' ⟨rfl, rfl⟩
    rw [HI.out]
    go_wp2_with fail
    go_ret3
    exact ⟨by rw [HV.out]; rfl, 0, rfl⟩
  | some i =>
    have HV := Lib.hid (show cutV s = _ from by unfold cutV; rw [hsl])
    obtain ⟨h1, _, _⟩ := slashAt_some hsl
    rw [Array.length_toList] at h1
    have h1 : i < s.size := h1
    rw [hsl] at hix
    simp only at hix
    have HI := Lib.hid hix
    clear hix hsl
    have c1 : (0 : Int) ≤ ↑i := by omega
    have c2 : (↑i : Int) ≤ ↑s.size := by omega
    have c3 : (0 : Int) ≤ ↑i + 1 := by omega
    have c4 : (↑i + 1 : Int) ≤ ↑s.size := by omega
    go_enter Tryz.func208, Tryz.ntmps208
    go_wp2_with fail
    refine (index_slash s _).mono ?_
    rintro e w' ⟨rfl, rfl⟩
    rw [HI.out]
    go_wp2_with fail
    go_quiet (fail)
    go_wp2
    go_ret3
    exact ⟨by rw [HV.out]; rfl, _, rfl⟩

set_option maxRecDepth 100000 in
set_option maxHeartbeats 1000000 in
theorem cut_any (s : ByteArray) (hs : s.size ≤ 4611686018427387904) (w : World) :
    Calls Tryz.prog 183 #[.string s, .string ⟨#[47]⟩] w fun e w' => e = .returned (cutV s) ∧ ∃ n, w' = w.drewN n := by
  have hcon := lcut_any s hs
  have HV := Lib.hid (show cutV s = cutV s from rfl)
  have : ∃ a b c, cutV s = .tuple #[.string a, .string b, .bool c] := by
    unfold cutV; split <;> exact ⟨_, _, _, rfl⟩
  obtain ⟨a, b, c, hv⟩ := this
  rw [hv] at hcon ⊢
  clear hv HV
  have HC := Lib.hid hcon; clear hcon
  go_enter Tryz.func183, Tryz.ntmps183
  go_wp2_with fail
  refine (HC.out _).mono ?_
  rintro e w' ⟨rfl, n, rfl⟩
  go_wp2_with fail
  go_ret3
  exact ⟨rfl, n, rfl⟩

end Go.Proofs.YtkjjiinccljhjaaGreatDoor
namespace Go.Proofs.YtkjjiinccljhjaaGreatDoor
open Go.ChangeShapes Go.WideShapes Go.ChangeAt Go.RowKit

/-- The two parts of a text: by the first slash, or the base and the whole. -/
def parts (s base : ByteArray) : Ad := match slashAt s.data.toList with
  | none => (base, s)
  | some i => (s.extract 0 i, s.extract (i + 1) s.size)
def prsA (s base : ByteArray) : Ad × Bool := if isAd (parts s base) = true then (parts s base, true) else ((⟨#[]⟩, ⟨#[]⟩), false)
def prsV (r : Ad × Bool) : Value := .tuple #[.agg #[.string r.1.1, .string r.1.2], .bool r.2]
theorem prsA_yes {s base : ByteArray} {h p : ByteArray} (hp : parts s base = (h, p)) (h1 : isAd (h, p) = true) : prsV (prsA s base) = .tuple #[.agg #[.string h, .string p], .bool true] := by
  unfold prsA; rw [hp, if_pos h1]; rfl
theorem prsA_no {s base : ByteArray} {h p : ByteArray} (hp : parts s base = (h, p)) (h1 : isAd (h, p) = false) : prsV (prsA s base) = .tuple #[.agg #[.string ⟨#[]⟩, .string ⟨#[]⟩], .bool false] := by
  unfold prsA; rw [hp, if_neg (by rw [h1]; exact Bool.false_ne_true)]; rfl
theorem parts_none {s base : ByteArray} (h : slashAt s.data.toList = none) : parts s base = (base, s) := by unfold parts; rw [h]
theorem parts_some {s base : ByteArray} {i : Nat} (h : slashAt s.data.toList = some i) : parts s base = (s.extract 0 i, s.extract (i + 1) s.size) := by unfold parts; rw [h]
theorem extract_le (s : ByteArray) (a b : Nat) : (s.extract a b).size ≤ s.size := by
  rw [ByteArray.size_extract]; omega
theorem parts_size {s base h p : ByteArray} (hp : parts s base = (h, p)) (hs : s.size ≤ 4611686018427387904) (hb : base.size ≤ 4611686018427387904) : h.size ≤ 4611686018427387904 ∧ p.size ≤ 4611686018427387904 := by
  unfold parts at hp
  split at hp <;> cases hp
  · exact ⟨hb, hs⟩
  · have h1 := extract_le s 0 ‹_›
    have h2 := extract_le s (‹_› + 1) s.size
    omega
theorem cutV_none {s : ByteArray} (h : slashAt s.data.toList = none) : cutV s = .tuple #[.string s, .string ⟨#[]⟩, .bool false] := by unfold cutV; rw [h]
theorem cutV_some {s : ByteArray} {i : Nat} (h : slashAt s.data.toList = some i) : cutV s = .tuple #[.string (s.extract 0 i), .string (s.extract (i + 1) s.size), .bool true] := by unfold cutV; rw [h]

/-- Two cells of one block, both stored. -/
theorem heap_two {w : World} {b : Nat} {x y u v : Value} {T : TypeId} (h : w.heap[b]? = some (.cells #[x, y] T (0, 0))) : ((w.setCell ⟨b, 0, none⟩ u).setCell ⟨b, 1, none⟩ v).heap[b]? = some (.cells #[u, v] T (0, 0)) := by
  have h1 : (w.setCell ⟨b, 0, none⟩ u).heap[b]? = some (.cells #[u, y] T (0, 0)) := by rw [heap_setCell_same w b 0 _ T u h]; rfl
  rw [heap_setCell_same _ b 1 _ T v h1]; rfl
theorem cells_two {w : World} {b : Nat} {u v : Value} {T : TypeId} (h : w.heap[b]? = some (.cells #[u, v] T (0, 0))) : w.cell? ⟨b, 0, none⟩ = some u ∧ w.cell? ⟨b, 1, none⟩ = some v ∧ w.frozen? ⟨b, 0, none⟩ = false ∧ w.frozen? ⟨b, 1, none⟩ = false := by
  refine ⟨?_, ?_, ?_, ?_⟩
  · unfold World.cell?; rw [h]; rfl
  · unfold World.cell?; rw [h]; rfl
  · unfold World.frozen?; rw [h]; rfl
  · unfold World.frozen?; rw [h]; rfl

/-- Two new blocks, and draws between: what lies behind a call that writes nothing old. -/
theorem two_new (w : World) (o1 o2 : Obj) (n : Nat) {w2 : World} (hb : Below (((w.alloc o1).drewN n).alloc o2).heap.size (((w.alloc o1).drewN n).alloc o2) w2) :
    w2.heap[w.heap.size]? = some o1 ∧ w2.heap[w.heap.size + 1]? = some o2 ∧ Below w.heap.size w w2 ∧ w.heap.size + 2 ≤ w2.heap.size := by
  have s1 : (w.alloc o1).heap.size = w.heap.size + 1 := by show (w.heap.push _).size = _; simp
  have s2 : (((w.alloc o1).drewN n).alloc o2).heap.size = w.heap.size + 2 := by
    show (((w.alloc o1).heap.push o2)).size = _
    rw [Array.size_push, s1]
  have k0 : (((w.alloc o1).drewN n).alloc o2).heap[w.heap.size]? = some o1 := by
    rw [Below.heap_alloc ((w.alloc o1).drewN n) o2 w.heap.size (by show _ < (w.alloc o1).heap.size; omega)]
    exact heap_alloc_new w o1
  have k1 : (((w.alloc o1).drewN n).alloc o2).heap[w.heap.size + 1]? = some o2 := by
    have h := heap_alloc_new ((w.alloc o1).drewN n) o2
    rw [show ((w.alloc o1).drewN n).heap.size = w.heap.size + 1 from s1] at h
    exact h
  rw [s2] at hb
  refine ⟨by rw [hb.block _ (by omega)]; exact k0, by rw [hb.block _ (by omega)]; exact k1, ?_, by have := hb.size; omega⟩
  have h1 : Below w.heap.size w (((w.alloc o1).drewN n).alloc o2) :=
    (Below.trans ((Below.refl w.heap.size w).alloc (Nat.le_refl _) o1) (⟨rfl, rfl, rfl, Nat.le_refl _, fun _ _ => rfl⟩ : Below w.heap.size (w.alloc o1) ((w.alloc o1).drewN n))).alloc (by show _ ≤ (w.alloc o1).heap.size; omega) o2
  exact h1.trans (hb.mono (by omega))
/-- A block from B on is written. -/
theorem below_two {B : Nat} {w w2 : World} (h : Below B w w2) {b : Nat} (hb : B ≤ b) (u v : Value) : Below B w ((w2.setCell ⟨b, 0, none⟩ u).setCell ⟨b, 1, none⟩ v) :=
  (h.setCell hb _).setCell hb _

def noSl (s : ByteArray) (k : Nat) : Prop := ∀ j : Nat, j < k → s.data.toList[j]? ≠ some 47
theorem noSl.succ {s : ByteArray} {k : Nat} (h : noSl s k) (hk : k < s.size) (h1 : s[k] ≠ 47) : noSl s (k + 1) := by
  intro j hj
  by_cases e : j = k
  · subst e; rw [get_at hk]; simpa using h1
  · exact h j (by omega)
theorem noSl.none {s : ByteArray} {k : Nat} (h : noSl s k) (hk : k = s.size) : slashAt s.data.toList = .none := by
  refine slashAt_of_none fun j => ?_
  by_cases e : j < k
  · exact h j e
  · rw [List.getElem?_eq_none (by rw [Array.length_toList]; show s.size ≤ j; omega)]; simp
theorem noSl.some {s : ByteArray} {k : Nat} (h : noSl s k) (hk : k < s.size) (h1 : s[k] = 47) : slashAt s.data.toList = .some k :=
  slashAt_of_first (by rw [get_at hk, h1]) h
theorem byte47 {b : UInt8} : (b.toNat : Int) = 47 ↔ b = 47 := by
  constructor
  · intro h
    apply UInt8.toNat_inj.1
    have e : (47 : UInt8).toNat = 47 := rfl
    omega
  · intro h; subst h; rfl

theorem two_newD (w : World) (o1 o2 : Obj) (n : Nat) {w2 : World} (hb : Below (((w.alloc o1).alloc o2).drewN n).heap.size (((w.alloc o1).alloc o2).drewN n) w2) :
    w2.heap[w.heap.size]? = some o1 ∧ w2.heap[w.heap.size + 1]? = some o2 ∧ Below w.heap.size w w2 ∧ w.heap.size + 2 ≤ w2.heap.size := by
  have h0 : Below (((w.alloc o1).alloc o2).drewN n).heap.size (((w.alloc o1).drewN 0).alloc o2) (((w.alloc o1).alloc o2).drewN n) := ⟨rfl, rfl, rfl, Nat.le_refl _, fun _ _ => rfl⟩
  exact two_new w o1 o2 0 (h0.trans hb)

end Go.Proofs.YtkjjiinccljhjaaGreatDoor
namespace Go.Proofs.YtkjjiinccljhjaaGreatDoor
open Go.ChangeShapes Go.WideShapes Go.ChangeAt Go.RowKit

theorem dec_self {α : Type} [DecidableEq α] (a : α) : decide (a = a) = true := decide_eq_true rfl
abbrev aggA (a : Ad) : Value := .agg #[.string a.1, .string a.2]

set_option maxHeartbeats 1000000 in
theorem toA_any (h p : ByteArray) (w : World) :
    Calls Tryz.prog 91 #[.agg #[.string h, .string p]] w fun e w' => e = .returned (.agg #[.string h, .string p]) ∧ Grw w w' := by
  go_enter Tryz.func91, Tryz.ntmps91
  go_wp2_with fail
  refine bodyPost_ret (v := .agg #[.string h, .string p]) (by simp [results, Tryz.results91, go_sem]) rfl ⟨rfl, ?_⟩
  exact (((Grw.refl _).alloc _).alloc _).alloc _

def SzOut (h p : ByteArray) (left : Int) (w : World) (e : Ending) (w' : World) : Prop :=
  ∃ r : Int, e = .returned (.int .i64 r) ∧ -1 ≤ r ∧ (0 ≤ r → r + h.size + p.size = left) ∧ Below w.heap.size w w'
set_option maxHeartbeats 1000000 in
theorem szA_any (h p : ByteArray) (left : Int) (h1 : h.size ≤ 9223372036854775807) (h2 : p.size ≤ 9223372036854775807) (l1 : -1 ≤ left) (l2 : left ≤ 1099511627776) (w : World) :
    Calls Tryz.prog 89 #[.agg #[.string h, .string p], .int .i64 left] w (SzOut h p left w) := by
  have HB := Lib.hid ((Below.refl w.heap.size w).alloc (Nat.le_refl _) (.cells #[.string h, .string p] 49))
  by_cases c1 : left - h.size < 0
  · go_enter Tryz.func89, Tryz.ntmps89
    go_wp2_with fail
    go_ret
    exact ⟨-1, rfl, by omega, by omega, HB.out⟩
  · by_cases c2 : left - h.size - p.size < 0
    · go_enter Tryz.func89, Tryz.ntmps89
      go_wp2_with fail
      go_ret
      exact ⟨-1, rfl, by omega, by omega, HB.out⟩
    · go_enter Tryz.func89, Tryz.ntmps89
      go_wp2_with fail
      go_ret
      exact ⟨left - h.size - p.size, rfl, by omega, by omega, HB.out⟩

theorem eqA_pair {h p h' p' : ByteArray} : decide ((h, p) = (h', p')) = (decide (h = h') && decide (p = p')) := by
  rw [← Bool.decide_and]
  apply decide_eq_decide.2
  exact Prod.mk.injEq _ _ _ _ ▸ Iff.rfl

end Go.Proofs.YtkjjiinccljhjaaGreatDoor

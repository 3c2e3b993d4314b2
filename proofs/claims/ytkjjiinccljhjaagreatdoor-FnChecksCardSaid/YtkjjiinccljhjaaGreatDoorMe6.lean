/- Policies as plain values: what is valid, what is allowed, the form, its reading back, the narrowed one. Pure facts, no claim of their own. Helper contracts: whether a slice of strings holds a string; whether two slices of strings are equal: of the model, and of Go's library at this type. Asked: the slices read as the lists named. Helper contracts: Allows, AllowsInline, KindName of the program and of the model. Asked: the policy's slices read as named. -/
import Derived.Test.YtkjjiinccljhjaaGreatDoorMe4
import Derived.Test.YtkjjiinccljhjaaGreatDoorMe5
import Derived.Lib.IndexMore
namespace Go.Proofs.YtkjjiinccljhjaaGreatDoor

open Go.ChangeShapes Go.WideShapes Go.ChangeAt Go.RowKit

def hasS (xs : List ByteArray) (s : ByteArray) : Bool := xs.any fun x => decide (x = s)
theorem hasS_iff {xs : List ByteArray} {a : ByteArray} : hasS xs a = true ↔ a ∈ xs := by
  unfold hasS
  rw [List.any_eq_true]
  constructor
  · rintro ⟨x, hx, he⟩
    rw [← of_decide_eq_true he]; exact hx
  · exact fun h => ⟨a, h, decide_eq_true rfl⟩
def hostsP (p : Pol) (k : Int) : List ByteArray := if k = 2 ∨ k = 5 then p.scr else if k = 3 then p.sty else if k = 4 then p.img else []
/-- Allows. -/
def alB (p : Pol) (k : Int) (h : ByteArray) : Bool := !p.set || hasS (hostsP p k) h
/-- AllowsInline. -/
def inlB (p : Pol) (n : ByteArray) : Bool := !p.set || (decide (p.non.size ≠ 0) && decide (p.non = n))
def okHosts (l : List ByteArray) : Bool := decide (l.length ≤ 4) && l.all isNm
/-- IsPolicy. -/
def isPol (p : Pol) : Bool :=
  if p.set = true then okHosts p.scr && okHosts p.sty && okHosts p.img && (decide (p.non.size = 0) || isVal p.non)
  else decide (p.scr.length = 0) && decide (p.sty.length = 0) && decide (p.img.length = 0) && decide (p.non.size = 0)
def eqP (a b : Pol) : Bool := (a.set == b.set) && decide (a.scr = b.scr) && decide (a.sty = b.sty) && decide (a.img = b.img) && decide (a.non = b.non)
def polZ : Pol := ⟨false, [], [], [], ⟨#[]⟩⟩
def bothS (xs ys : List ByteArray) : List ByteArray := xs.filter (hasS ys)
/-- NarrowPolicy. -/
def nrP (a b : Pol) : Pol := if a.set = false then b else if b.set = false then a else ⟨true, bothS a.scr b.scr, bothS a.sty b.sty, bothS a.img b.img, if a.non = b.non then a.non else ⟨#[]⟩⟩
theorem hasS_both (xs ys : List ByteArray) (h : ByteArray) : hasS (bothS xs ys) h = (hasS xs h && hasS ys h) := by
  rw [Bool.eq_iff_iff, Bool.and_eq_true, hasS_iff, hasS_iff]
  unfold bothS
  rw [List.mem_filter]
theorem alB_nr (a b : Pol) (k : Int) (h : ByteArray) : alB (nrP a b) k h = (alB a k h && alB b k h) := by
  unfold nrP
  by_cases ha : a.set = false
  · rw [if_pos ha]; simp [alB, ha]
  by_cases hb : b.set = false
  · rw [if_neg ha, if_pos hb]; simp [alB, hb]
  rw [if_neg ha, if_neg hb]
  have ha' : a.set = true := by cases h0 : a.set <;> simp_all
  have hb' : b.set = true := by cases h0 : b.set <;> simp_all
  simp only [alB, ha', hb', Bool.not_true, Bool.false_or]
  unfold hostsP
  by_cases k1 : k = 2 ∨ k = 5
  · rw [if_pos k1, if_pos k1, if_pos k1, hasS_both]
  by_cases k2 : k = 3
  · rw [if_neg k1, if_neg k1, if_neg k1, if_pos k2, if_pos k2, if_pos k2, hasS_both]
  by_cases k3 : k = 4
  · rw [if_neg k1, if_neg k1, if_neg k1, if_neg k2, if_neg k2, if_neg k2, if_pos k3, if_pos k3, if_pos k3, hasS_both]
  rw [if_neg k1, if_neg k1, if_neg k1, if_neg k2, if_neg k2, if_neg k2, if_neg k3, if_neg k3, if_neg k3]
  rfl
theorem inlB_nr (a b : Pol) (n : ByteArray) : inlB (nrP a b) n = (inlB a n && inlB b n) := by
  unfold nrP
  by_cases ha : a.set = false
  · rw [if_pos ha]; simp [inlB, ha]
  by_cases hb : b.set = false
  · rw [if_neg ha, if_pos hb]; simp [inlB, hb]
  rw [if_neg ha, if_neg hb]
  have ha' : a.set = true := by cases h0 : a.set <;> simp_all
  have hb' : b.set = true := by cases h0 : b.set <;> simp_all
  simp only [inlB, ha', hb', Bool.not_true, Bool.false_or]
  by_cases e : a.non = b.non
  · rw [if_pos e, e]; cases (decide (b.non.size ≠ 0) && decide (b.non = n)) <;> rfl
  · rw [if_neg e]
    by_cases e1 : a.non = n
    · have e2 : ¬ b.non = n := fun h => e (e1.trans h.symm)
      have e3 : decide (b.non = n) = false := decide_eq_false e2
      rw [e3, Bool.and_false, Bool.and_false]; rfl
    · have e3 : decide (a.non = n) = false := decide_eq_false e1
      rw [e3, Bool.and_false, Bool.false_and]; rfl

def spS : ByteArray := ⟨#[32]⟩
def scS : ByteArray := ⟨#[59]⟩
def kScr : ByteArray := ⟨#[115, 99, 114, 105, 112, 116]⟩
def kSty : ByteArray := ⟨#[115, 116, 121, 108, 101]⟩
def kImg : ByteArray := ⟨#[105, 109, 103]⟩
def kNon : ByteArray := ⟨#[59, 110, 111, 110, 99, 101, 32]⟩
/-- Words with a space ahead of each. -/
def wordsS (w : ByteArray) (xs : List ByteArray) : ByteArray := xs.foldl (fun a x => a ++ spS ++ x) w
def hostsL (xs : List ByteArray) : List UInt8 := xs.flatMap fun x => 32 :: x.data.toList
theorem wordsS_list (xs : List ByteArray) : ∀ w, (wordsS w xs).data.toList = w.data.toList ++ hostsL xs := by
  induction xs with
  | nil => intro w; simp [wordsS, hostsL]
  | cons x xs ih =>
    intro w
    show (wordsS (w ++ spS ++ x) xs).data.toList = _
    rw [ih, append_list, append_list]
    simp [hostsL, spS]
theorem wordsS_snoc (w : ByteArray) (xs : List ByteArray) (x : ByteArray) : wordsS w (xs ++ [x]) = wordsS w xs ++ spS ++ x := by
  unfold wordsS; rw [List.foldl_append]; rfl
theorem hostsL_len (xs : List ByteArray) : (hostsL xs).length = xs.length + sumSt xs := by
  induction xs with
  | nil => rfl
  | cons x xs ih =>
    have : hostsL (x :: xs) = (32 :: x.data.toList) ++ hostsL xs := rfl
    rw [this, List.length_append, ih, List.length_cons, size_list, List.length_cons, sumSt, sumSt, List.map_cons, List.sum_cons]; omega
theorem wordsS_size (w : ByteArray) (xs : List ByteArray) : (wordsS w xs).size = w.size + xs.length + sumSt xs := by
  rw [← size_list, wordsS_list, List.length_append, size_list, hostsL_len]; omega
def nonS (n : ByteArray) : ByteArray := if n.size = 0 then ⟨#[]⟩ else kNon ++ n
def nonL (n : ByteArray) : List UInt8 := if n.size = 0 then [] else kNon.data.toList ++ n.data.toList
/-- FormatPolicy. -/
def fmtP (p : Pol) : ByteArray := if p.set = true ∧ isPol p = true then wordsS kScr p.scr ++ scS ++ wordsS kSty p.sty ++ scS ++ wordsS kImg p.img ++ nonS p.non else ⟨#[]⟩
theorem fmtP_list {p : Pol} (h1 : p.set = true) (h2 : isPol p = true) : (fmtP p).data.toList = kScr.data.toList ++ hostsL p.scr ++ 59 :: (kSty.data.toList ++ hostsL p.sty ++ 59 :: (kImg.data.toList ++ hostsL p.img ++ nonL p.non)) := by
  unfold fmtP
  rw [if_pos ⟨h1, h2⟩]
  have hn : (nonS p.non).data.toList = nonL p.non := by
    unfold nonS nonL
    by_cases e : p.non.size = 0
    · rw [if_pos e, if_pos e]
    · rw [if_neg e, if_neg e, append_list]
  rw [append_list, append_list, append_list, append_list, append_list, wordsS_list, wordsS_list, wordsS_list, hn]
  simp [scS, List.append_assoc]
theorem fmtP_no {p : Pol} (h : ¬ (p.set = true ∧ isPol p = true)) : fmtP p = ⟨#[]⟩ := by unfold fmtP; rw [if_neg h]
theorem okHosts_low {l : List ByteArray} (h : okHosts l = true) : ∀ x ∈ l, ∀ b ∈ x.data.toList, 97 ≤ b.toNat ∧ b.toNat ≤ 122 := by
  intro x hx b hb
  unfold okHosts at h
  rw [Bool.and_eq_true] at h
  have h1 := List.all_eq_true.1 h.2 x hx
  unfold isNm at h1
  rw [Bool.and_eq_true] at h1
  exact of_decide_eq_true (List.all_eq_true.1 h1.2 b hb)
theorem okHosts_ne {l : List ByteArray} (h : okHosts l = true) {c : UInt8} (hc : c.toNat < 97) : ∀ x ∈ l, ∀ b ∈ x.data.toList, b ≠ c := by
  intro x hx b hb e
  have := okHosts_low h x hx b hb
  rw [e] at this; omega
theorem hostsL_ne {l : List ByteArray} (h : okHosts l = true) : ∀ b ∈ hostsL l, b ≠ 59 := by
  intro b hb
  unfold hostsL at hb
  obtain ⟨x, hx, hbx⟩ := List.mem_flatMap.1 hb
  rcases List.mem_cons.1 hbx with e | hb2
  · rw [e]; decide
  · exact okHosts_ne h (by decide) x hx b hb2
theorem split_words {c : UInt8} (hc : c = 32) : ∀ (xs : List ByteArray) (w : List UInt8), (∀ b ∈ w, b ≠ c) → (∀ x ∈ xs, ∀ b ∈ x.data.toList, b ≠ c) → splitB c (w ++ hostsL xs) = w :: xs.map (·.data.toList)
  | [], w, hw, _ => by
    show splitB c (w ++ []) = _
    rw [List.append_nil, splitB_free hw]; rfl
  | x :: xs, w, hw, hx => by
    have e : w ++ hostsL (x :: xs) = w ++ c :: (x.data.toList ++ hostsL xs) := by subst hc; rfl
    rw [e, splitB_at _ hw, split_words hc xs x.data.toList (hx x List.mem_cons_self) fun y hy => hx y (List.mem_cons_of_mem _ hy), List.map_cons]
theorem map_ofL (xs : List ByteArray) : (xs.map (·.data.toList)).map ofL = xs := by
  rw [List.map_map]
  conv => rhs; rw [← List.map_id xs]
  exact List.map_congr_left fun x _ => ofL_of x
theorem words_back {l : List ByteArray} (h : okHosts l = true) {w : List UInt8} (hw : ∀ b ∈ w, b ≠ 32) : (splS 32 (w ++ hostsL l)).tail = l := by
  unfold splS
  rw [split_words rfl l w hw (okHosts_ne h (by decide)), List.map_cons, List.tail_cons, map_ofL]
/-- What the model reads. -/
def rdM (s : ByteArray) : Option Pol := match splS 59 s.data.toList with
  | a :: b :: c :: ds => some ⟨true, (splS 32 a.data.toList).tail, (splS 32 b.data.toList).tail, (splS 32 c.data.toList).tail, match ds with
    | [] => ⟨#[]⟩
    | d :: _ => if 6 < d.size then d.extract 6 d.size else ⟨#[]⟩⟩
  | _ => none
/-- What the program reads. -/
def rdI (s : ByteArray) : Pol := match splS 59 (Lib.cut s.data.toList kNon.data.toList).1 with
  | [a, b, c] => ⟨true, (splS 32 a.data.toList).tail, (splS 32 b.data.toList).tail, (splS 32 c.data.toList).tail, ofL (Lib.cut s.data.toList kNon.data.toList).2.1⟩
  | _ => polZ
theorem val_ne {n : ByteArray} (h : isVal n = true) : ∀ b ∈ n.data.toList, b ≠ 59 := by
  intro b hb e
  unfold isVal at h
  rw [Bool.and_eq_true] at h
  have h1 := List.all_eq_true.1 h.2 b hb
  rw [e] at h1
  revert h1; decide
theorem isPol_parts {p : Pol} (h1 : p.set = true) (h2 : isPol p = true) : okHosts p.scr = true ∧ okHosts p.sty = true ∧ okHosts p.img = true ∧ (p.non.size = 0 ∨ isVal p.non = true) := by
  unfold isPol at h2
  rw [if_pos h1, Bool.and_eq_true, Bool.and_eq_true, Bool.and_eq_true, Bool.or_eq_true] at h2
  exact ⟨h2.1.1.1, h2.1.1.2, h2.1.2, h2.2.imp of_decide_eq_true id⟩
theorem free_app {A B : List UInt8} {c : UInt8} (h1 : ∀ b ∈ A, b ≠ c) (h2 : ∀ b ∈ B, b ≠ c) : ∀ b ∈ A ++ B, b ≠ c := fun b hb => (List.mem_append.1 hb).elim (h1 b) (h2 b)
theorem emptyB {n : ByteArray} (h : n.size = 0) : n = ⟨#[]⟩ := bytesEq (List.eq_nil_of_length_eq_zero (by rw [size_list]; exact h))
theorem splS_three {A B C : List UInt8} (h1 : ∀ b ∈ A, b ≠ 59) (h2 : ∀ b ∈ B, b ≠ 59) (h3 : ∀ b ∈ C, b ≠ 59) : splS 59 (A ++ 59 :: (B ++ 59 :: C)) = [ofL A, ofL B, ofL C] := by
  unfold splS
  rw [splitB_at _ h1, splitB_at _ h2, splitB_free h3]; rfl
theorem rdM_fmt {p : Pol} (h1 : p.set = true) (h2 : isPol p = true) : rdM (fmtP p) = some p := by
  obtain ⟨o1, o2, o3, o4⟩ := isPol_parts h1 h2
  have f1 := free_app (c := 59) (A := kScr.data.toList) (by decide) (hostsL_ne o1)
  have f2 := free_app (c := 59) (A := kSty.data.toList) (by decide) (hostsL_ne o2)
  have f3 := free_app (c := 59) (A := kImg.data.toList) (by decide) (hostsL_ne o3)
  have w1 := words_back o1 (w := kScr.data.toList) (by decide)
  have w2 := words_back o2 (w := kSty.data.toList) (by decide)
  have w3 := words_back o3 (w := kImg.data.toList) (by decide)
  obtain ⟨set, scr, sty, img, non⟩ := p
  simp only at h1 o1 o2 o3 o4 f1 f2 f3 w1 w2 w3
  subst h1
  unfold rdM
  rw [fmtP_list rfl h2]
  simp only
  by_cases e : non.size = 0
  · have en := emptyB e
    subst en
    rw [show nonL ⟨#[]⟩ = [] from rfl, List.append_nil, splS_three f1 f2 f3]
    simp only [ofL_list]
    rw [w1, w2, w3]
  · have hv : isVal non = true := o4.resolve_left e
    have hN : nonL non = 59 :: ([110, 111, 110, 99, 101, 32] ++ non.data.toList) := by unfold nonL; rw [if_neg e]; rfl
    have f4 := free_app (c := 59) (A := [110, 111, 110, 99, 101, 32]) (by decide) (val_ne hv)
    have hs : splS 59 (kScr.data.toList ++ hostsL scr ++ 59 :: (kSty.data.toList ++ hostsL sty ++ 59 :: (kImg.data.toList ++ hostsL img ++ nonL non))) = [ofL (kScr.data.toList ++ hostsL scr), ofL (kSty.data.toList ++ hostsL sty), ofL (kImg.data.toList ++ hostsL img), ofL ([110, 111, 110, 99, 101, 32] ++ non.data.toList)] := by
      unfold splS
      rw [hN, splitB_at _ f1, splitB_at _ f2, splitB_at _ f3, splitB_free f4]; rfl
    rw [hs]
    simp only [ofL_list]
    have hsz : (ofL ([110, 111, 110, 99, 101, 32] ++ non.data.toList)).size = 6 + non.size := by rw [ofL_size, List.length_append, size_list]; rfl
    rw [w1, w2, w3, if_pos (by omega), extract_suf, ofL_list]
    congr 1
theorem index_free {c : UInt8} (m : List UInt8) : ∀ (A l : List UInt8), (∀ b ∈ A, b ≠ c) → Lib.index (A ++ l) (c :: m) = if Lib.index l (c :: m) = -1 then -1 else Lib.index l (c :: m) + (A.length : Int)
  | [], l, _ => by
    rw [List.nil_append]
    split
    · assumption
    · simp
  | a :: A, l, h => by
    have ih := index_free m A l fun b hb => h b (List.mem_cons_of_mem _ hb)
    have ha : a ≠ c := h a List.mem_cons_self
    have hp : (c :: m).isPrefixOf (a :: (A ++ l)) = false := by
      show ((c == a) && _) = false
      rw [beq_eq_false_iff_ne.2 (Ne.symm ha), Bool.false_and]
    rw [List.cons_append]
    conv => lhs; unfold Lib.index
    rw [if_neg (by rw [hp]; decide), ih]
    have hge := Lib.index_ge l (c :: m)
    by_cases e : Lib.index l (c :: m) = -1
    · rw [if_pos e, if_pos e]; rfl
    · rw [if_neg e, if_neg e, if_neg (by intro hq; have := beq_iff_eq.1 hq; omega)]
      rw [List.length_cons]; push_cast; omega
theorem index_past1 {c d b : UInt8} (t l : List UInt8) (hb : b ≠ d) : Lib.index (c :: b :: l) (c :: d :: t) = if Lib.index (b :: l) (c :: d :: t) = -1 then -1 else Lib.index (b :: l) (c :: d :: t) + 1 := by
  have hp : (c :: d :: t).isPrefixOf (c :: b :: l) = false := by
    show ((c == c) && ((d == b) && _)) = false
    rw [beq_eq_false_iff_ne.2 (Ne.symm hb), Bool.false_and, Bool.and_false]
  conv => lhs; unfold Lib.index
  rw [if_neg (by rw [hp]; decide)]
  by_cases e : Lib.index (b :: l) (c :: d :: t) = -1
  · rw [if_pos e, e]; rfl
  · rw [if_neg e, if_neg (fun hq => e (beq_iff_eq.1 hq))]
theorem index_here (s m : List UInt8) : Lib.index (s ++ m) s = 0 := by
  refine Lib.index_first (i := 0) (Nat.zero_le _) ?_ fun j hj => absurd hj (Nat.not_lt_zero _)
  unfold Lib.occAt
  rw [List.drop_zero, List.isPrefixOf_iff_prefix]
  exact List.prefix_append _ _
theorem index_three {A B C R : List UInt8} (h1 : ∀ b ∈ A, b ≠ 59) (h2 : ∀ b ∈ B, b ≠ 59) (h3 : ∀ b ∈ C, b ≠ 59) {b0 c0 : UInt8} {B' C' : List UInt8} (eb : B = b0 :: B') (ec : C = c0 :: C') (nb : b0 ≠ 110) (nc : c0 ≠ 110) (t : List UInt8) :
    Lib.index (A ++ 59 :: (B ++ 59 :: (C ++ R))) (59 :: 110 :: t) = if Lib.index R (59 :: 110 :: t) = -1 then -1 else Lib.index R (59 :: 110 :: t) + (A.length + 1 + B.length + 1 + C.length : Nat) := by
  have g := Lib.index_ge R (59 :: 110 :: t)
  have e3 := index_free (110 :: t) C R h3
  have e2' : Lib.index (59 :: (C ++ R)) (59 :: 110 :: t) = if Lib.index (C ++ R) (59 :: 110 :: t) = -1 then -1 else Lib.index (C ++ R) (59 :: 110 :: t) + 1 := by
    rw [ec]; exact index_past1 t _ nc
  have e2 := index_free (110 :: t) B (59 :: (C ++ R)) h2
  have e1' : Lib.index (59 :: (B ++ 59 :: (C ++ R))) (59 :: 110 :: t) = if Lib.index (B ++ 59 :: (C ++ R)) (59 :: 110 :: t) = -1 then -1 else Lib.index (B ++ 59 :: (C ++ R)) (59 :: 110 :: t) + 1 := by
    rw [eb]; exact index_past1 t _ nb
  rw [index_free (110 :: t) A _ h1, e1', e2, e2', e3]
  by_cases e : Lib.index R (59 :: 110 :: t) = -1
  · simp [e]
  · have k1 : ¬ (Lib.index R (59 :: 110 :: t) + (C.length : Int) = -1) := by omega
    have k2 : ¬ (Lib.index R (59 :: 110 :: t) + (C.length : Int) + 1 = -1) := by omega
    have k3 : ¬ (Lib.index R (59 :: 110 :: t) + (C.length : Int) + 1 + (B.length : Int) = -1) := by omega
    have k4 : ¬ (Lib.index R (59 :: 110 :: t) + (C.length : Int) + 1 + (B.length : Int) + 1 = -1) := by omega
    rw [if_neg e, if_neg e, if_neg k1, if_neg k2, if_neg k3, if_neg k4]
    push_cast; omega
theorem rdI_fmt {p : Pol} (h1 : p.set = true) (h2 : isPol p = true) : rdI (fmtP p) = p := by
  obtain ⟨o1, o2, o3, o4⟩ := isPol_parts h1 h2
  have f1 := free_app (c := 59) (A := kScr.data.toList) (by decide) (hostsL_ne o1)
  have f2 := free_app (c := 59) (A := kSty.data.toList) (by decide) (hostsL_ne o2)
  have f3 := free_app (c := 59) (A := kImg.data.toList) (by decide) (hostsL_ne o3)
  have w1 := words_back o1 (w := kScr.data.toList) (by decide)
  have w2 := words_back o2 (w := kSty.data.toList) (by decide)
  have w3 := words_back o3 (w := kImg.data.toList) (by decide)
  obtain ⟨set, scr, sty, img, non⟩ := p
  simp only at h1 o1 o2 o3 o4 f1 f2 f3 w1 w2 w3
  subst h1
  have hix := index_three (R := nonL non) f1 f2 f3 (b0 := 115) (c0 := 105) rfl rfl (by decide) (by decide) [111, 110, 99, 101, 32]
  have hl := fmtP_list rfl h2
  simp only at hl
  have hc : Lib.cut (fmtP ⟨true, scr, sty, img, non⟩).data.toList kNon.data.toList = (kScr.data.toList ++ hostsL scr ++ 59 :: (kSty.data.toList ++ hostsL sty ++ 59 :: (kImg.data.toList ++ hostsL img)), non.data.toList, decide (non.size ≠ 0)) := by
    rw [hl]
    unfold Lib.cut
    by_cases e : non.size = 0
    · have en := emptyB e
      subst en
      rw [show nonL ⟨#[]⟩ = [] from rfl] at hix ⊢
      have hx : Lib.index ([] : List UInt8) (59 :: 110 :: [111, 110, 99, 101, 32]) = -1 := rfl
      rw [if_pos hx] at hix
      rw [show kNon.data.toList = 59 :: 110 :: [111, 110, 99, 101, 32] from rfl, if_neg (by rw [hix]; decide), List.append_nil]
      rfl
    · have hN : nonL non = kNon.data.toList ++ non.data.toList := by unfold nonL; rw [if_neg e]
      have hx : Lib.index (nonL non) (59 :: 110 :: [111, 110, 99, 101, 32]) = 0 := by rw [hN]; exact index_here _ _
      rw [if_neg (by rw [hx]; decide), hx, Int.zero_add] at hix
      rw [show kNon.data.toList = 59 :: 110 :: [111, 110, 99, 101, 32] from rfl, if_pos (by rw [hix]; omega), hix, Int.toNat_natCast, hN]
      have hd : decide (non.size ≠ 0) = true := decide_eq_true e
      rw [hd]
      have ha : kScr.data.toList ++ hostsL scr ++ 59 :: (kSty.data.toList ++ hostsL sty ++ 59 :: (kImg.data.toList ++ hostsL img ++ (kNon.data.toList ++ non.data.toList))) = (kScr.data.toList ++ hostsL scr ++ 59 :: (kSty.data.toList ++ hostsL sty ++ 59 :: (kImg.data.toList ++ hostsL img))) ++ (kNon.data.toList ++ non.data.toList) := by simp [List.append_assoc]
      have hlen : (kScr.data.toList ++ hostsL scr).length + 1 + (kSty.data.toList ++ hostsL sty).length + 1 + (kImg.data.toList ++ hostsL img).length = (kScr.data.toList ++ hostsL scr ++ 59 :: (kSty.data.toList ++ hostsL sty ++ 59 :: (kImg.data.toList ++ hostsL img))).length := by
        simp only [List.length_append, List.length_cons]; omega
      rw [ha, hlen, List.take_left', Prod.mk.injEq, Prod.mk.injEq]
      · refine ⟨rfl, ?_, rfl⟩
        rw [← List.drop_drop, List.drop_left' rfl]
        exact List.drop_left' rfl
      · rfl
  unfold rdI
  rw [hc]
  simp only
  rw [splS_three f1 f2 f3]
  simp only [ofL_list]
  rw [w1, w2, w3, ofL_of]
theorem fmtP_ne {q : Pol} {s : ByteArray} (h : fmtP q = s) (hs : s.size ≠ 0) : q.set = true ∧ isPol q = true := by
  by_cases e : q.set = true ∧ isPol q = true
  · exact e
  · rw [fmtP_no e] at h; subst h; exact absurd rfl hs
/-- ParsePolicy. -/
def prsP (s : ByteArray) : Pol × Bool := if s.size = 0 then (polZ, true) else if fmtP (rdI s) = s then (rdI s, true) else (polZ, false)
theorem prsP_model {s : ByteArray} (hs : s.size ≠ 0) : (match rdM s with | none => (polZ, false) | some q => if fmtP q = s then (q, true) else (polZ, false)) = prsP s := by
  unfold prsP
  rw [if_neg hs]
  by_cases e : fmtP (rdI s) = s
  · obtain ⟨k1, k2⟩ := fmtP_ne e hs
    have hm := rdM_fmt k1 k2
    rw [e] at hm
    rw [hm, if_pos e]
    simp only
    rw [if_pos e]
  · rw [if_neg e]
    cases hq : rdM s with
    | none => rfl
    | some q =>
      simp only
      by_cases e2 : fmtP q = s
      · obtain ⟨k1, k2⟩ := fmtP_ne e2 hs
        have hi := rdI_fmt k1 k2
        rw [e2] at hi
        rw [hi] at e
        exact absurd e2 e
      · rw [if_neg e2]
theorem prsP_fmt {p : Pol} (h1 : p.set = true) (h2 : isPol p = true) : prsP (fmtP p) = (p, true) := by
  have hs : (fmtP p).size ≠ 0 := by rw [← size_list, fmtP_list h1 h2]; simp [kScr]
  unfold prsP
  rw [if_neg hs, rdI_fmt h1 h2, if_pos rfl]
theorem fmtP_polZ : fmtP polZ = ⟨#[]⟩ := fmtP_no (by rintro ⟨h, _⟩; cases h)
theorem prsP_yes {s : ByteArray} (h : (prsP s).2 = true) : fmtP (prsP s).1 = s := by
  unfold prsP at h ⊢
  by_cases e : s.size = 0
  · rw [if_pos e, emptyB e]; exact fmtP_polZ
  · rw [if_neg e] at h ⊢
    by_cases e2 : fmtP (rdI s) = s
    · rw [if_pos e2]; exact e2
    · rw [if_neg e2] at h; cases h
theorem isPol_zero {p : Pol} (h1 : p.set = false) (h2 : isPol p = true) : p = polZ := by
  obtain ⟨set, scr, sty, img, non⟩ := p
  simp only at h1
  subst h1
  unfold isPol at h2
  rw [if_neg Bool.false_ne_true, Bool.and_eq_true, Bool.and_eq_true, Bool.and_eq_true] at h2
  obtain ⟨⟨⟨a, b⟩, c⟩, d⟩ := h2
  obtain rfl : scr = [] := List.eq_nil_of_length_eq_zero (of_decide_eq_true a)
  obtain rfl : sty = [] := List.eq_nil_of_length_eq_zero (of_decide_eq_true b)
  obtain rfl : img = [] := List.eq_nil_of_length_eq_zero (of_decide_eq_true c)
  obtain rfl : non = ⟨#[]⟩ := emptyB (of_decide_eq_true d)
  rfl
/-- A valid policy is read back from its form. -/
theorem prsP_valid {p : Pol} (h : isPol p = true) : prsP (fmtP p) = (p, true) := by
  cases hs : p.set with
  | true => exact prsP_fmt hs h
  | false =>
    rw [isPol_zero hs h, fmtP_polZ]; rfl

end Go.Proofs.YtkjjiinccljhjaaGreatDoor
namespace Go.Proofs.YtkjjiinccljhjaaGreatDoor
open Go.ChangeShapes Go.WideShapes Go.ChangeAt Go.RowKit

def notInS (xs : List ByteArray) (a : ByteArray) (k : Nat) : Prop := ∀ j : Nat, j < k → xs[j]? ≠ some a
theorem notInS.zero (xs : List ByteArray) (a : ByteArray) : notInS xs a 0 := fun _ h => absurd h (Nat.not_lt_zero _)
theorem notInS.succ {xs : List ByteArray} {a x : ByteArray} {k : Nat} (h : notInS xs a k) (hx : xs[k]? = some x) (hne : x ≠ a) : notInS xs a (k + 1) := by
  intro j hj
  by_cases e : j = k
  · subst e; rw [hx]; simpa using hne
  · exact h j (by omega)
theorem hasS_yes {xs : List ByteArray} {a : ByteArray} {k : Nat} (h : xs[k]? = some a) : hasS xs a = true := hasS_iff.2 (List.mem_of_getElem? h)
theorem hasS_no {xs : List ByteArray} {a : ByteArray} {k : Nat} (h : notInS xs a k) (hk : k = xs.length) : hasS xs a = false := by
  refine Bool.eq_false_iff.2 fun hm => ?_
  obtain ⟨j, hj⟩ := List.mem_iff_getElem?.1 (hasS_iff.1 hm)
  exact h j (by have := (List.getElem?_eq_some_iff.1 hj).1; omega) hj
/-- A string in a slice of strings. -/
theorem str_cell {hi n cap k : Nat} {w : World} {a : Option Addr} {xs : List ByteArray} {s : ByteArray} (h : ReadsK encS 1 hi w (.slice a n cap) xs) (hk : xs[k]? = some s) : ∃ g off, a = some ⟨g, off, none⟩ ∧ g < hi ∧ w.cell? ⟨g, off + k, none⟩ = some (.string s) := by
  obtain ⟨a', c', e, _, _, _, hc⟩ := h
  injection e with e1 e2 e3; subst e1
  rcases hc with h0 | ⟨g, off, rfl, hg, hc⟩
  · have := (List.getElem?_eq_some_iff.1 hk).1; omega
  · refine ⟨g, off, rfl, hg, ?_⟩
    have := hc k s hk 0 (by omega)
    rwa [Nat.mul_one] at this
theorem ssAt {xs : List ByteArray} {j : Nat} (h : j < xs.length) : ∃ x, xs[j]? = some x := ⟨_, List.getElem?_eq_getElem h⟩

set_option maxHeartbeats 1000000 in
theorem has9_spec (v : Value) (hi : Nat) (xs : List ByteArray) (s : ByteArray) (w : World) (hr : ReadsK encS 1 hi w v xs) :
    Calls Tryz.prog 180 #[v, .string s] w fun e w' => e = .returned (.bool (hasS xs s)) ∧ w = w' := by
  obtain ⟨a, cap, rfl, hc1, hc2, _⟩ := id hr
  obtain ⟨n, hn⟩ : ∃ n, xs.length = n := ⟨_, rfl⟩
  rw [hn] at hr hc1 ⊢
  have HN := Lib.hid hn; have HR := Lib.hid hr; clear hn hr
  go_enter Tryz.func180, Tryz.ntmps180
  go_wp2
  go_loop [5] (fun i => ∃ (k : Nat), k ≤ n ∧ i = .int .i64 k ∧ notInS xs s k) (fun i => n - (intOf i).toNat)
  case atStart => exact ⟨0, Nat.zero_le _, rfl, notInS.zero _ _⟩
  case round =>
    obtain ⟨k, hk, rfl, hnot⟩ := hrel
    have HNI := Lib.hid hnot; clear hnot
    by_cases hlt : (k : Int) < (n : Int)
    · obtain ⟨x, hx⟩ := ssAt (xs := xs) (j := k) (by have := HN.out; omega)
      obtain ⟨g, off, rfl, _, c0⟩ := str_cell HR.out hx
      have HX := Lib.hid hx; clear hx
      by_cases e1 : x = s
      · have e2 : (x.toList == s.toList) = true := beqL_yes e1
        have HV := Lib.hid (show hasS xs s = true from hasS_yes (by rw [HX.out, e1]))
        clear e1
        go_wp2
        go_ret
        exact ⟨by rw [HV.out]; rfl, rfl⟩
      · have e2 : (x.toList == s.toList) = false := beqL_no e1
        have HS := Lib.hid (HNI.out.succ HX.out e1)
        clear e1
        go_wp2
        go_round
        case rel => exact ⟨k + 1, by omega, by go_num, HS.out⟩
        case measure => simp [intOf]; omega
    · have hlf : decide ((k : Int) < (n : Int)) = false := decide_eq_false hlt
      have HV := Lib.hid (hasS_no HNI.out (by have := HN.out; omega))
      go_wp2
      go_ret
      exact ⟨by rw [HV.out]; rfl, rfl⟩

set_option maxHeartbeats 1000000 in
theorem idxS_lib (v : Value) (hi : Nat) (xs : List ByteArray) (s : ByteArray) (w : World) (hr : ReadsK encS 1 hi w v xs) :
    Calls Tryz.prog 144 #[v, .string s] w fun e w' => (∃ r : Int, e = .returned (.int .i64 r) ∧ decide (0 ≤ r) = hasS xs s) ∧ w = w' := by
  obtain ⟨a, cap, rfl, hc1, hc2, _⟩ := id hr
  obtain ⟨n, hn⟩ : ∃ n, xs.length = n := ⟨_, rfl⟩
  rw [hn] at hr hc1 ⊢
  have HN := Lib.hid hn; have HR := Lib.hid hr; clear hn hr
  go_enter Tryz.func144, Tryz.ntmps144
  go_wp2
  go_loop [8] (fun i => ∃ (k : Nat), k ≤ n ∧ i = .int .i64 k ∧ notInS xs s k) (fun i => n - (intOf i).toNat)
  case atStart => exact ⟨0, Nat.zero_le _, rfl, notInS.zero _ _⟩
  case round =>
    obtain ⟨k, hk, rfl, hnot⟩ := hrel
    have HNI := Lib.hid hnot; clear hnot
    by_cases hlt : (k : Int) < (n : Int)
    · obtain ⟨x, hx⟩ := ssAt (xs := xs) (j := k) (by have := HN.out; omega)
      obtain ⟨g, off, rfl, _, c0⟩ := str_cell HR.out hx
      have HX := Lib.hid hx; clear hx
      by_cases e1 : x = s
      · have e2 : (x.toList == s.toList) = true := beqL_yes e1
        have e3 : (s.toList == x.toList) = true := beqL_yes e1.symm
        have HV := Lib.hid (show hasS xs s = true from hasS_yes (by rw [HX.out, e1]))
        clear e1
        go_wp2
        go_ret
        exact ⟨⟨_, rfl, by rw [HV.out]; exact decide_eq_true (by omega)⟩, rfl⟩
      · have e2 : (x.toList == s.toList) = false := beqL_no e1
        have e3 : (s.toList == x.toList) = false := beqL_no (Ne.symm e1)
        have HS := Lib.hid (HNI.out.succ HX.out e1)
        clear e1
        go_wp2
        go_round
        case rel => exact ⟨k + 1, by omega, by go_num, HS.out⟩
        case measure => simp [intOf]; omega
    · have hlf : decide ((k : Int) < (n : Int)) = false := decide_eq_false hlt
      have HV := Lib.hid (hasS_no HNI.out (by have := HN.out; omega))
      go_wp2
      go_ret
      exact ⟨⟨-1, rfl, by rw [HV.out]; rfl⟩, rfl⟩

theorem contS_lib (v : Value) (hi : Nat) (xs : List ByteArray) (s : ByteArray) (w : World) (hr : ReadsK encS 1 hi w v xs) :
    Calls Tryz.prog 81 #[v, .string s] w fun e w' => e = .returned (.bool (hasS xs s)) ∧ w = w' := by
  obtain ⟨a, cap, rfl, _⟩ := id hr
  have HI := Lib.hid (idxS_lib _ hi xs s w hr); clear hr
  go_enter Tryz.func81, Tryz.ntmps81
  go_wp2_with fail
  refine HI.out.mono ?_
  rintro e w' ⟨⟨r, rfl, hd⟩, rfl⟩
  have HD := Lib.hid hd; clear hd
  go_wp2_with fail
  go_ret
  exact ⟨by rw [← HD.out]; rfl, rfl⟩

def sameTo (xs ys : List ByteArray) (k : Nat) : Prop := ∀ j : Nat, j < k → xs[j]? = ys[j]?
theorem sameTo.zero (xs ys : List ByteArray) : sameTo xs ys 0 := fun _ h => absurd h (Nat.not_lt_zero _)
theorem sameTo.succ {xs ys : List ByteArray} {x : ByteArray} {k : Nat} (h : sameTo xs ys k) (hx : xs[k]? = some x) (hy : ys[k]? = some x) : sameTo xs ys (k + 1) := by
  intro j hj
  by_cases e : j = k
  · subst e; rw [hx, hy]
  · exact h j (by omega)
theorem same_all {xs ys : List ByteArray} {k : Nat} (h : sameTo xs ys k) (hx : xs.length = k) (hy : ys.length = k) : decide (xs = ys) = true := by
  refine decide_eq_true (List.ext_getElem? fun j => ?_)
  by_cases hj : j < k
  · exact h j hj
  · rw [List.getElem?_eq_none (by omega), List.getElem?_eq_none (by omega)]
theorem same_not {xs ys : List ByteArray} {x y : ByteArray} {k : Nat} (hx : xs[k]? = some x) (hy : ys[k]? = some y) (h : x ≠ y) : decide (xs = ys) = false := by
  refine decide_eq_false fun e => h ?_
  rw [e, hy] at hx
  exact (Option.some.inj hx).symm
theorem same_len {xs ys : List ByteArray} (h : xs.length ≠ ys.length) : decide (xs = ys) = false := decide_eq_false fun e => h (by rw [e])

set_option maxHeartbeats 1000000 in
theorem equalS_lib (v u : Value) (hi hi' : Nat) (xs ys : List ByteArray) (w : World) (hr : ReadsK encS 1 hi w v xs) (hr' : ReadsK encS 1 hi' w u ys) :
    Calls Tryz.prog 229 #[v, u] w fun e w' => e = .returned (.bool (decide (xs = ys))) ∧ Grw w w' := by
  obtain ⟨a, cap, rfl, hc1, hc2, _⟩ := id hr
  obtain ⟨a', cap', rfl, hc1', hc2', _⟩ := id hr'
  by_cases hl : xs.length = ys.length
  · obtain ⟨n, hn⟩ : ∃ n, ys.length = n := ⟨_, rfl⟩
    have hx := hl.trans hn
    rw [hx] at hr hc1; rw [hx, hn]; rw [hn] at hr' hc1'
    have HX := Lib.hid hx; have HY := Lib.hid hn; have HR := Lib.hid hr; have HR' := Lib.hid hr'; clear hx hn hr hr' hl
    have hnn : ((n : Int) == (n : Int)) = true := beq_self_eq_true _
    have hnb : ((n : Int) != (n : Int)) = false := by rw [bne, hnn]; rfl
    go_enter Tryz.func229, Tryz.ntmps229
    go_wp2
    go_loopw [13] (fun i wr => ∃ (k : Nat), k ≤ n ∧ i = .int .i64 k ∧ sameTo xs ys k ∧ Grw w wr) (fun i _ => n - (intOf i).toNat)
    case atStart => exact ⟨0, Nat.zero_le _, rfl, sameTo.zero _ _, Grw.refl _⟩
    case round =>
      obtain ⟨k, hk, rfl, hs, hg⟩ := hrel
      have HS := Lib.hid hs; have HG := Lib.hid hg; clear hs hg
      by_cases hlt : (k : Int) < (n : Int)
      · obtain ⟨x, hx⟩ := ssAt (xs := xs) (j := k) (by have := HX.out; omega)
        obtain ⟨y, hy⟩ := ssAt (xs := ys) (j := k) (by have := HY.out; omega)
        obtain ⟨g, off, rfl, hg, c0⟩ := str_cell HR.out hx
        obtain ⟨g', off', rfl, hg', c1⟩ := str_cell HR'.out hy
        replace c0 := (HG.out.below.cell (show (⟨g, off + k, none⟩ : Addr).block < _ from World.block_lt_of_cell? _ _ c0)).trans c0
        replace c1 := (HG.out.below.cell (show (⟨g', off' + k, none⟩ : Addr).block < _ from World.block_lt_of_cell? _ _ c1)).trans c1
        clear hg hg'
        have HXA := Lib.hid hx; have HYA := Lib.hid hy; clear hx hy
        by_cases e1 : x = y
        · have e2 : (x.toList == y.toList) = true := beqL_yes e1
          have e3 : (x.toList != y.toList) = false := by rw [bne, e2]; rfl
          have HN := Lib.hid (HS.out.succ HXA.out (by rw [HYA.out, e1]))
          clear e1
          go_wp2
          go_quiet (fail)
          go_wp2
          go_roundw
          case rel => exact ⟨k + 1, by omega, by go_num, HN.out, HG.out.drewN _⟩
          case measure => simp [intOf]; omega
        · have e2 : (x.toList == y.toList) = false := beqL_no e1
          have e3 : (x.toList != y.toList) = true := by rw [bne, e2]; rfl
          have HV := Lib.hid (same_not HXA.out HYA.out e1)
          clear e1
          go_wp2
          go_quiet (fail)
          go_wp2
          go_ret
          exact ⟨by rw [HV.out]; rfl, HG.out.drewN _⟩
      · have hlf : decide ((k : Int) < (n : Int)) = false := decide_eq_false hlt
        have HV := Lib.hid (same_all (k := n) (by rw [show n = k by omega]; exact HS.out) HX.out HY.out)
        go_wp2
        go_ret
        exact ⟨by rw [HV.out]; rfl, HG.out⟩
  · have HV := Lib.hid (same_len hl)
    obtain ⟨n, hn⟩ : ∃ n, xs.length = n := ⟨_, rfl⟩
    obtain ⟨n', hn'⟩ : ∃ n, ys.length = n := ⟨_, rfl⟩
    rw [hn] at hc1 hl; rw [hn, hn']; rw [hn'] at hc1' hl
    have hnn : ((n : Int) == (n' : Int)) = false := beq_eq_false_iff_ne.2 (by omega)
    have hnb : ((n : Int) != (n' : Int)) = true := by rw [bne, hnn]; rfl
    clear hr hr' hn hn' hl
    go_enter Tryz.func229, Tryz.ntmps229
    go_wp2
    go_ret
    exact ⟨by rw [HV.out]; rfl, Grw.refl _⟩

end Go.Proofs.YtkjjiinccljhjaaGreatDoor
namespace Go.Proofs.YtkjjiinccljhjaaGreatDoor
open Go.ChangeShapes Go.WideShapes Go.ChangeAt Go.RowKit

theorem empP_size (s : ByteArray) : (s.toList == []) = decide (s.size = 0) := by
  by_cases h : s.size = 0
  · obtain rfl := emptyB h; rw [ByteArray.toList_eq]; rfl
  · rw [decide_eq_false h]
    refine beq_eq_false_iff_ne.2 fun e => h ?_
    rw [ByteArray.toList_eq] at e
    rw [← size_list, e]; rfl

/-- KindName. -/
def knB (k : Int) : ByteArray := if k = 1 then ⟨#[112, 97, 103, 101]⟩ else if k = 2 then ⟨#[115, 99, 114, 105, 112, 116]⟩ else if k = 3 then ⟨#[115, 116, 121, 108, 101]⟩ else if k = 4 then ⟨#[105, 109, 97, 103, 101]⟩ else if k = 5 then ⟨#[109, 111, 100, 117, 108, 101]⟩ else ⟨#[]⟩
set_option maxRecDepth 100000 in
set_option maxHeartbeats 2000000 in
theorem hostsFor_any (set : Bool) (scr sty img : List ByteArray) (non : ByteArray) (a1 : Option Addr) (n1 c1 : Nat) (a2 : Option Addr) (n2 c2 : Nat) (a3 : Option Addr) (n3 c3 : Nat) (k : Int) (w : World) (hr : ReadP w.heap.size w (.slice a1 n1 c1) (.slice a2 n2 c2) (.slice a3 n3 c3) ⟨set, scr, sty, img, non⟩) :
    Calls Tryz.prog 82 #[.agg #[.bool set, .slice a1 n1 c1, .slice a2 n2 c2, .slice a3 n3 c3, .string non], .int .i64 k] w fun e w' => ∃ (a : Option Addr) (n c : Nat), e = .returned (.slice a n c) ∧ ReadsK encS 1 w'.heap.size w' (.slice a n c) (hostsP ⟨set, scr, sty, img, non⟩ k) ∧ Grw w w' := by
  obtain ⟨W, hW⟩ : ∃ W, w.alloc (.cells #[.bool set, .slice a1 n1 c1, .slice a2 n2 c2, .slice a3 n3 c3, .string non] 26) = W := ⟨_, rfl⟩
  have HG := Lib.hid (show Grw w W by rw [← hW]; exact (Grw.refl w).alloc _)
  have q0 : W.cell? ⟨w.heap.size, 0, none⟩ = some (.bool set) := by rw [← hW]; simp
  have q1 : W.cell? ⟨w.heap.size, 1, none⟩ = some (.slice a1 n1 c1) := by rw [← hW]; simp
  have q2 : W.cell? ⟨w.heap.size, 2, none⟩ = some (.slice a2 n2 c2) := by rw [← hW]; simp
  have q3 : W.cell? ⟨w.heap.size, 3, none⟩ = some (.slice a3 n3 c3) := by rw [← hW]; simp
  have q4 : W.cell? ⟨w.heap.size, 4, none⟩ = some (.string non) := by rw [← hW]; simp
  obtain ⟨hr1, hr2, hr3⟩ := (hr.below HG.out.below (Nat.le_refl _)).mono HG.out.below.size
  have HR1 := Lib.hid hr1; have HR2 := Lib.hid hr2; have HR3 := Lib.hid hr3; clear hr hr1 hr2 hr3
  rcases (show k = 2 ∨ k = 5 ∨ k = 3 ∨ k = 4 ∨ (k ≠ 2 ∧ k ≠ 5 ∧ k ≠ 3 ∧ k ≠ 4) by omega) with rfl | rfl | rfl | rfl | ⟨k2, k5, k3, k4⟩
  · go_enter Tryz.func82, Tryz.ntmps82
    go_wp2_with fail
    go_ret
    exact ⟨_, _, _, rfl, HR1.out, HG.out⟩
  · go_enter Tryz.func82, Tryz.ntmps82
    go_wp2_with fail
    go_ret
    exact ⟨_, _, _, rfl, HR1.out, HG.out⟩
  · go_enter Tryz.func82, Tryz.ntmps82
    go_wp2_with fail
    go_ret
    exact ⟨_, _, _, rfl, HR2.out, HG.out⟩
  · go_enter Tryz.func82, Tryz.ntmps82
    go_wp2_with fail
    go_ret
    exact ⟨_, _, _, rfl, HR3.out, HG.out⟩
  · have e2 : (k == 2) = false := beq_eq_false_iff_ne.2 k2; have e5 : (k == 5) = false := beq_eq_false_iff_ne.2 k5; have e3 : (k == 3) = false := beq_eq_false_iff_ne.2 k3; have e4 : (k == 4) = false := beq_eq_false_iff_ne.2 k4
    have HN := Lib.hid (show hostsP ⟨set, scr, sty, img, non⟩ k = [] by unfold hostsP; rw [if_neg (by omega), if_neg k3, if_neg k4])
    clear k2 k5 k3 k4
    go_enter Tryz.func82, Tryz.ntmps82
    go_wp2_with fail
    go_ret
    exact ⟨none, 0, 0, rfl, by rw [HN.out]; exact ⟨none, 0, rfl, Nat.le_refl _, by omega, (fun _ => rfl), Or.inl rfl⟩, HG.out⟩


set_option maxRecDepth 100000 in
set_option maxHeartbeats 2000000 in
theorem allows_spec (set : Bool) (scr sty img : List ByteArray) (non : ByteArray) (a1 : Option Addr) (n1 c1 : Nat) (a2 : Option Addr) (n2 c2 : Nat) (a3 : Option Addr) (n3 c3 : Nat) (k : Int) (h : ByteArray) (w : World) (hr : ReadP w.heap.size w (.slice a1 n1 c1) (.slice a2 n2 c2) (.slice a3 n3 c3) ⟨set, scr, sty, img, non⟩) :
    Calls Tryz.prog 140 #[.agg #[.bool set, .slice a1 n1 c1, .slice a2 n2 c2, .slice a3 n3 c3, .string non], .int .i64 k, .string h] w fun e w' => e = .returned (.bool (alB ⟨set, scr, sty, img, non⟩ k h)) ∧ Grw w w' := by
  cases set with
  | false =>
    obtain ⟨W, hW⟩ : ∃ W, w.alloc (.cells #[.bool false, .slice a1 n1 c1, .slice a2 n2 c2, .slice a3 n3 c3, .string non] 26) = W := ⟨_, rfl⟩
    have HG := Lib.hid (show Grw w W by rw [← hW]; exact (Grw.refl w).alloc _)
    have q0 : W.cell? ⟨w.heap.size, 0, none⟩ = some (.bool false) := by rw [← hW]; simp
    have q1 : W.cell? ⟨w.heap.size, 1, none⟩ = some (.slice a1 n1 c1) := by rw [← hW]; simp
    have q2 : W.cell? ⟨w.heap.size, 2, none⟩ = some (.slice a2 n2 c2) := by rw [← hW]; simp
    have q3 : W.cell? ⟨w.heap.size, 3, none⟩ = some (.slice a3 n3 c3) := by rw [← hW]; simp
    have q4 : W.cell? ⟨w.heap.size, 4, none⟩ = some (.string non) := by rw [← hW]; simp
    obtain ⟨hr1, hr2, hr3⟩ := (hr.below HG.out.below (Nat.le_refl _)).mono HG.out.below.size
    have HR1 := Lib.hid hr1; have HR2 := Lib.hid hr2; have HR3 := Lib.hid hr3; clear hr hr1 hr2 hr3
    go_enter Tryz.func140, Tryz.ntmps140
    go_wp2_with fail
    go_ret
    exact ⟨rfl, HG.out⟩
  | true =>
    obtain ⟨W, hW⟩ : ∃ W, w.alloc (.cells #[.bool true, .slice a1 n1 c1, .slice a2 n2 c2, .slice a3 n3 c3, .string non] 26) = W := ⟨_, rfl⟩
    have HG := Lib.hid (show Grw w W by rw [← hW]; exact (Grw.refl w).alloc _)
    have q0 : W.cell? ⟨w.heap.size, 0, none⟩ = some (.bool true) := by rw [← hW]; simp
    have q1 : W.cell? ⟨w.heap.size, 1, none⟩ = some (.slice a1 n1 c1) := by rw [← hW]; simp
    have q2 : W.cell? ⟨w.heap.size, 2, none⟩ = some (.slice a2 n2 c2) := by rw [← hW]; simp
    have q3 : W.cell? ⟨w.heap.size, 3, none⟩ = some (.slice a3 n3 c3) := by rw [← hW]; simp
    have q4 : W.cell? ⟨w.heap.size, 4, none⟩ = some (.string non) := by rw [← hW]; simp
    obtain ⟨hr1, hr2, hr3⟩ := (hr.below HG.out.below (Nat.le_refl _)).mono HG.out.below.size
    have HR1 := Lib.hid hr1; have HR2 := Lib.hid hr2; have HR3 := Lib.hid hr3; clear hr hr1 hr2 hr3
    have HAL := Lib.hid (show alB ⟨true, scr, sty, img, non⟩ k h = hasS (hostsP ⟨true, scr, sty, img, non⟩ k) h from rfl)
    rcases (show k = 2 ∨ k = 5 ∨ k = 3 ∨ k = 4 ∨ (k ≠ 2 ∧ k ≠ 5 ∧ k ≠ 3 ∧ k ≠ 4) by omega) with rfl | rfl | rfl | rfl | ⟨k2, k5, k3, k4⟩
    · have HX := Lib.hid (has9_spec _ _ _ h _ HR1.out)
      go_enter Tryz.func140, Tryz.ntmps140
      go_wp2_with fail
      refine HX.out.mono ?_
      rintro e w1 ⟨rfl, rfl⟩
      go_wp2_with fail
      go_ret
      exact ⟨by rw [HAL.out]; rfl, HG.out⟩
    · have HX := Lib.hid (has9_spec _ _ _ h _ HR1.out)
      go_enter Tryz.func140, Tryz.ntmps140
      go_wp2_with fail
      refine HX.out.mono ?_
      rintro e w1 ⟨rfl, rfl⟩
      go_wp2_with fail
      go_ret
      exact ⟨by rw [HAL.out]; rfl, HG.out⟩
    · have HX := Lib.hid (has9_spec _ _ _ h _ HR2.out)
      go_enter Tryz.func140, Tryz.ntmps140
      go_wp2_with fail
      refine HX.out.mono ?_
      rintro e w1 ⟨rfl, rfl⟩
      go_wp2_with fail
      go_ret
      exact ⟨by rw [HAL.out]; rfl, HG.out⟩
    · have HX := Lib.hid (has9_spec _ _ _ h _ HR3.out)
      go_enter Tryz.func140, Tryz.ntmps140
      go_wp2_with fail
      refine HX.out.mono ?_
      rintro e w1 ⟨rfl, rfl⟩
      go_wp2_with fail
      go_ret
      exact ⟨by rw [HAL.out]; rfl, HG.out⟩
    · have e2 : (k == 2) = false := beq_eq_false_iff_ne.2 k2; have e5 : (k == 5) = false := beq_eq_false_iff_ne.2 k5; have e3 : (k == 3) = false := beq_eq_false_iff_ne.2 k3; have e4 : (k == 4) = false := beq_eq_false_iff_ne.2 k4
      have HN := Lib.hid (show hostsP ⟨true, scr, sty, img, non⟩ k = [] by unfold hostsP; rw [if_neg (by omega), if_neg k3, if_neg k4])
      clear k2 k5 k3 k4
      go_enter Tryz.func140, Tryz.ntmps140
      go_wp2_with fail
      go_ret
      exact ⟨by rw [HAL.out, HN.out]; rfl, HG.out⟩

set_option maxRecDepth 100000 in
set_option maxHeartbeats 2000000 in
theorem allows_impl (set : Bool) (scr sty img : List ByteArray) (non : ByteArray) (a1 : Option Addr) (n1 c1 : Nat) (a2 : Option Addr) (n2 c2 : Nat) (a3 : Option Addr) (n3 c3 : Nat) (k : Int) (h : ByteArray) (w : World) (hr : ReadP w.heap.size w (.slice a1 n1 c1) (.slice a2 n2 c2) (.slice a3 n3 c3) ⟨set, scr, sty, img, non⟩) :
    Calls Tryz.prog 17 #[.agg #[.bool set, .slice a1 n1 c1, .slice a2 n2 c2, .slice a3 n3 c3, .string non], .int .i64 k, .string h] w fun e w' => e = .returned (.bool (alB ⟨set, scr, sty, img, non⟩ k h)) ∧ Grw w w' := by
  cases set with
  | false =>
    obtain ⟨W, hW⟩ : ∃ W, w.alloc (.cells #[.bool false, .slice a1 n1 c1, .slice a2 n2 c2, .slice a3 n3 c3, .string non] 26) = W := ⟨_, rfl⟩
    have HG := Lib.hid (show Grw w W by rw [← hW]; exact (Grw.refl w).alloc _)
    have q0 : W.cell? ⟨w.heap.size, 0, none⟩ = some (.bool false) := by rw [← hW]; simp
    have q1 : W.cell? ⟨w.heap.size, 1, none⟩ = some (.slice a1 n1 c1) := by rw [← hW]; simp
    have q2 : W.cell? ⟨w.heap.size, 2, none⟩ = some (.slice a2 n2 c2) := by rw [← hW]; simp
    have q3 : W.cell? ⟨w.heap.size, 3, none⟩ = some (.slice a3 n3 c3) := by rw [← hW]; simp
    have q4 : W.cell? ⟨w.heap.size, 4, none⟩ = some (.string non) := by rw [← hW]; simp
    obtain ⟨hr1, hr2, hr3⟩ := (hr.below HG.out.below (Nat.le_refl _)).mono HG.out.below.size
    have HR1 := Lib.hid hr1; have HR2 := Lib.hid hr2; have HR3 := Lib.hid hr3; clear hr hr1 hr2 hr3
    go_enter Tryz.func17, Tryz.ntmps17
    go_wp2_with fail
    go_ret
    exact ⟨rfl, HG.out⟩
  | true =>
    obtain ⟨W, hW⟩ : ∃ W, w.alloc (.cells #[.bool true, .slice a1 n1 c1, .slice a2 n2 c2, .slice a3 n3 c3, .string non] 26) = W := ⟨_, rfl⟩
    have HG := Lib.hid (show Grw w W by rw [← hW]; exact (Grw.refl w).alloc _)
    have q0 : W.cell? ⟨w.heap.size, 0, none⟩ = some (.bool true) := by rw [← hW]; simp
    have q1 : W.cell? ⟨w.heap.size, 1, none⟩ = some (.slice a1 n1 c1) := by rw [← hW]; simp
    have q2 : W.cell? ⟨w.heap.size, 2, none⟩ = some (.slice a2 n2 c2) := by rw [← hW]; simp
    have q3 : W.cell? ⟨w.heap.size, 3, none⟩ = some (.slice a3 n3 c3) := by rw [← hW]; simp
    have q4 : W.cell? ⟨w.heap.size, 4, none⟩ = some (.string non) := by rw [← hW]; simp
    obtain ⟨hr1, hr2, hr3⟩ := (hr.below HG.out.below (Nat.le_refl _)).mono HG.out.below.size
    have HR1 := Lib.hid hr1; have HR2 := Lib.hid hr2; have HR3 := Lib.hid hr3; clear hr hr1 hr2 hr3
    have HAL := Lib.hid (show alB ⟨true, scr, sty, img, non⟩ k h = hasS (hostsP ⟨true, scr, sty, img, non⟩ k) h from rfl)
    have HH := Lib.hid (fun X hx => hostsFor_any true scr sty img non a1 n1 c1 a2 n2 c2 a3 n3 c3 k X hx)
    go_enter Tryz.func17, Tryz.ntmps17
    go_wp2_with fail
    refine (HH.out _ ⟨HR1.out, HR2.out, HR3.out⟩).mono ?_
    rintro e w1 ⟨ax, nx, cx, rfl, hrx, hg1⟩
    have HG1 := Lib.hid (HG.out.trans hg1); clear hg1
    have HC := Lib.hid (contS_lib _ _ _ h _ hrx); clear hrx
    go_wp2_with fail
    refine HC.out.mono ?_
    rintro e w2 ⟨rfl, rfl⟩
    go_wp2_with fail
    go_ret
    exact ⟨by rw [HAL.out]; rfl, HG1.out⟩

end Go.Proofs.YtkjjiinccljhjaaGreatDoor

/- Helper contracts: the program's calls into Go's strings at one byte (IndexByte, CutPrefix at "/", Cut, Split), by the plain words of this development. Asked: the string is shorter than 2^32 bytes where it is divided. A bound on lengths out of the world's own shape: the library's MaxLen holds a number. Helper facts, no claim of their own. Helper contracts over the functions with which the laws copy, compare, measure and mark slices, by program (deep.py). Asked: what lies in memory is as named. Policies: as plain values, and what a policy that came in is. Helper facts, no claim of its own. Policies as plain values: what is valid, what is allowed, the form, its reading back, the narrowed one. Pure facts, no claim of their own. Helper contracts: strings.Cut at the word ahead of a nonce, the hosts behind a word. Asked: the text is no longer than 2^20 bytes; for Cut: the library's MaxLen holds a number. Helper contracts: whether a slice of strings holds a string; whether two slices of strings are equal: of the model, and of Go's library at this type. Asked: the slices read as the lists named. Helper contracts: Allows, AllowsInline, KindName of the program and of the model. Asked: the policy's slices read as named. Helper contracts: EqualPolicies of the program and of the model. Asked: the policies' slices read as named. Helper contracts: IsPolicy of the program and of the model. Asked: the policy's slices read as named, its strings are not too long. What stays below, in small steps. Helper facts, no claim of its own. -/
import Derived.Test.YtpkicliimhflgaaDoorShelf
import Derived.Test.YtpkicliimhflgaaDoorMg4
import Derived.Test.YtpkicliimhflgaaDoorMg1
import Derived.Test.YtpkicliimhflgaaDoorMg5
import Derived.Test.YtpkicliimhflgaaDoorMg2
import Derived.Shelf.SlSortCmp.QuietGrown
import Derived.Test.YtpkicliimhflgaaDoorMg3
import Derived.Lib.IndexMore
namespace Go.Proofs.YtpkicliimhflgaaDoor

open Go.ChangeShapes Go.WideShapes Go.ChangeAt Go.RowKit

theorem indexByte_idx (c : UInt8) : ∀ l : List UInt8, Lib.indexByte l c = if idxB c l < l.length then (idxB c l : Int) else -1
  | [] => rfl
  | b :: l => by
    have ih := indexByte_idx c l
    have hle := idxB_le c l
    unfold Lib.indexByte idxB
    by_cases h : b = c
    · rw [if_pos (by simpa using h), if_pos h, if_pos (by simp)]; rfl
    · rw [if_neg (by simpa using h), if_neg h, ih]
      by_cases h2 : idxB c l < l.length
      · rw [if_pos h2, if_neg (by simp <;> omega), if_pos (by simp <;> omega)]; omega
      · rw [if_neg h2, if_pos (by rfl), if_neg (by simp <;> omega)]
theorem index_idx (c : UInt8) : ∀ l : List UInt8, Lib.index l [c] = if idxB c l < l.length then (idxB c l : Int) else -1
  | [] => rfl
  | b :: l => by
    have ih := index_idx c l
    have hle := idxB_le c l
    unfold idxB
    by_cases h : b = c
    · subst h
      rw [if_pos rfl, if_pos (by simp), Lib.index]; simp [List.isPrefixOf]
    · have hp : ([c] : List UInt8).isPrefixOf (b :: l) = false := by simp [List.isPrefixOf, Ne.symm h]
      have hix : Lib.index (b :: l) [c] = if Lib.index l [c] == -1 then -1 else Lib.index l [c] + 1 := by rw [Lib.index, hp]; simp
      rw [if_neg h, hix, ih]
      by_cases h2 : idxB c l < l.length
      · rw [if_pos h2, if_neg (by simp <;> omega), if_pos (by simp <;> omega)]; omega
      · rw [if_neg h2, if_pos (by rfl), if_neg (by simp <;> omega)]
theorem indexByte_index (c : UInt8) (l : List UInt8) : Lib.indexByte l c = Lib.index l [c] := by rw [indexByte_idx, index_idx]
theorem idx_split {c : UInt8} {l : List UInt8} (h : idxB c l < l.length) : splitB c l = l.take (idxB c l) :: splitB c (l.drop (idxB c l + 1)) := by
  have := split_round (c := c) (l := l) (a := 0) (Nat.zero_le _) (idxB_at h) fun j _ hj => idxB_before hj
  rwa [List.drop_zero, Nat.sub_zero] at this
theorem idx_split_none {c : UInt8} {l : List UInt8} (h : ¬ idxB c l < l.length) : splitB c l = [l] := by
  have := split_last (c := c) (l := l) (a := 0) fun j _ hj => by
    have hjl := (List.getElem?_eq_some_iff.1 hj).1
    exact idxB_before (by omega) hj
  rwa [List.drop_zero] at this
theorem splitK_mine (c : UInt8) (l : List UInt8) : Lib.splitK [c] 0 (Lib.count l [c]) l = splitB c l := by
  generalize hn : l.length = n
  induction n using Nat.strongRecOn generalizing l with
  | _ n ih =>
    by_cases h : idxB c l < l.length
    · have hix : Lib.index l [c] = ((idxB c l : Nat) : Int) := by rw [index_idx, if_pos h]
      rw [Lib.count_hit (by simp) hix, Nat.add_comm, Lib.splitK, if_neg (by rw [hix]; simp <;> omega), hix, idx_split h]
      rw [show ((idxB c l : Nat) : Int).toNat = idxB c l from rfl, Nat.add_zero, show ([c] : List UInt8).length = 1 from rfl]
      rw [ih (l.drop (idxB c l + 1)).length (by rw [List.length_drop]; omega) _ rfl]
    · have hix : Lib.index l [c] = -1 := by rw [index_idx, if_neg h]
      rw [Lib.count_miss hix, Lib.splitK, idx_split_none h]
theorem splitB_mine (c : UInt8) (s : ByteArray) : Lib.splitB ⟨#[c]⟩ 0 (Lib.countB s ⟨#[c]⟩) s = splS c s.data.toList := by
  have h := Lib.splitB_data ⟨#[c]⟩ 0 (Lib.countB s ⟨#[c]⟩) s
  have e : Lib.countB s ⟨#[c]⟩ = Lib.count s.data.toList [c] := rfl
  rw [e] at h ⊢
  rw [show (⟨#[c]⟩ : ByteArray).data.toList = [c] from rfl, splitK_mine] at h
  unfold splS
  rw [← h, List.map_map]
  conv => lhs; rw [← List.map_id (Lib.splitB _ _ _ _)]
  exact List.map_congr_left fun x _ => (ofL_of x).symm

/-- What Cut returns at one byte. -/
def cutC (c : UInt8) (s : ByteArray) : Value :=
  if idxB c s.data.toList < s.size then .tuple #[.string (s.extract 0 (idxB c s.data.toList)), .string (s.extract (idxB c s.data.toList + 1) s.size), .bool true]
  else .tuple #[.string s, .string ⟨#[]⟩, .bool false]

set_option maxHeartbeats 1000000 in
theorem lcutC_any (c : UInt8) (s : ByteArray) (hs : s.size ≤ 4611686018427387904) (w : World) :
    Calls Tryd.prog 68 #[.string s, .string ⟨#[c]⟩] w fun e w' => e = .returned (cutC c s) ∧ ∃ n, w' = w.drewN n := by
  have hix := indexByte_idx c s.data.toList
  rw [size_list] at hix
  by_cases h1 : idxB c s.data.toList < s.size
  · have HV := Lib.hid (show cutC c s = _ from by unfold cutC; rw [if_pos h1])
    rw [if_pos h1] at hix
    obtain ⟨i, hi⟩ : ∃ i, idxB c s.data.toList = i := ⟨_, rfl⟩
    rw [hi] at hix h1 HV
    have HI := Lib.hid hix
    clear hix hi
    have c1 : (0 : Int) ≤ ↑i := by omega
    have c2 : (↑i : Int) ≤ ↑s.size := by omega
    have c3 : (0 : Int) ≤ ↑i + 1 := by omega
    have c4 : (↑i + 1 : Int) ≤ ↑s.size := by omega
    go_enter Tryd.func68, Tryd.ntmps68
    go_wp2_with fail
    refine (Tryd.stringslite_Index_one s c _).mono ?_
    rintro e w' ⟨rfl, rfl⟩
    rw [HI.out]
    go_wp2_with fail
    go_quiet (fail)
    go_wp2
    go_ret3
    exact ⟨by rw [HV.out]; rfl, _, rfl⟩
  · have HV := Lib.hid (show cutC c s = _ from by unfold cutC; rw [if_neg h1])
    rw [if_neg h1] at hix
    have HI := Lib.hid hix
    clear hix h1
    go_enter Tryd.func68, Tryd.ntmps68
    go_wp2_with fail
    refine (Tryd.stringslite_Index_one s c _).mono ?_
    rintro e w' ⟨rfl, rfl⟩
    rw [HI.out]
    go_wp2_with fail
    go_ret3
    exact ⟨by rw [HV.out]; rfl, 0, rfl⟩

set_option maxHeartbeats 1000000 in
theorem cutC_any (c : UInt8) (s : ByteArray) (hs : s.size ≤ 4611686018427387904) (w : World) :
    Calls Tryd.prog 63 #[.string s, .string ⟨#[c]⟩] w fun e w' => e = .returned (cutC c s) ∧ ∃ n, w' = w.drewN n := by
  have hcon := lcutC_any c s hs
  have : ∃ a b d, cutC c s = .tuple #[.string a, .string b, .bool d] := by
    unfold cutC; split <;> exact ⟨_, _, _, rfl⟩
  obtain ⟨a, b, d, hv⟩ := this
  rw [hv] at hcon ⊢
  clear hv
  have HC := Lib.hid hcon; clear hcon
  go_enter Tryd.func63, Tryd.ntmps63
  go_wp2_with fail
  refine (HC.out _).mono ?_
  rintro e w' ⟨rfl, n, rfl⟩
  go_wp2_with fail
  go_ret3
  exact ⟨rfl, n, rfl⟩

theorem splS_flat (l : List ByteArray) : l.flatMap encS = l.map Value.string := by
  induction l with
  | nil => rfl
  | cons x l ih => rw [List.flatMap_cons, ih]; rfl

set_option maxHeartbeats 1000000 in
theorem gsplit_any (s : ByteArray) (c : UInt8) (hs : s.size < 4294967281) (w : World) :
    Calls Tryd.prog 69 #[.string s, .string ⟨#[c]⟩, .int .i64 0, .int .i64 (-1)] w (NewK encS 1 9 (splS c s.data.toList) w) := by
  have hC : Calls Tryd.prog 76 #[.string s, .string ⟨#[c]⟩] w fun e w' => e = .returned (.int .i64 (Lib.countB s ⟨#[c]⟩)) ∧ w' = w := by
    refine (Tryd.strings_Count_one s c w).mono ?_
    rintro e w' ⟨rfl, rfl⟩
    refine ⟨?_, rfl⟩
    show Ending.returned (.int .i64 (Lib.countByte s.data.toList c)) = Ending.returned (Value.int .i64 ((Lib.count s.data.toList [c] : Nat) : Int))
    rw [Lib.count_one]; rfl
  have h1 : 1 ≤ (⟨#[c]⟩ : ByteArray).size := Nat.le_refl 1
  have hle := Lib.countB_le ⟨#[c]⟩ h1 s.size s (Nat.le_refl _)
  have hlen := Lib.splitB_all ⟨#[c]⟩ h1 0 _ s rfl
  have core := Any.strings_genSplit_core Tryd.lays221 (by kernel_rfl) s ⟨#[c]⟩ 0 (-1) (Lib.countB s ⟨#[c]⟩ + 1) w hs h1 (Nat.zero_le _)
    (fun x cc hx => by
      refine (Tryd.strings_Index_one x c _).mono ?_
      rintro e w' ⟨rfl, rfl⟩
      refine ⟨?_, rfl⟩
      rw [indexByte_index]) hC (by decide) (by decide) (by rw [if_pos (by decide)]; omega)
  refine core.mono ?_
  rintro e w' ⟨rfl, rfl⟩
  rw [Nat.add_sub_cancel, splitB_mine]
  rw [splitB_mine] at hlen
  refine ⟨_, rfl, ?_, (Below.refl _ _).alloc (Nat.le_refl _) _⟩
  rw [← hlen]
  refine ⟨?_, fun g hg => ?_⟩
  · have := World.ownsRow_lit (base := w.heap.size) (e := 9) (size := 1) w ((splS c s.data.toList).map Value.string).toArray (splS c s.data.toList).length (Nat.le_refl _) (by unfold maxLen; omega) (by simp)
    rw [splS_flat, Lib.cellsOf_full]
    rw [List.toList_toArray] at this
    exact this
  · have : g = w.heap.size := (Option.some.inj hg).symm
    subst this; simp

set_option maxHeartbeats 1000000 in
theorem split_any (s : ByteArray) (c : UInt8) (hs : s.size < 4294967281) (w : World) :
    Calls Tryd.prog 64 #[.string s, .string ⟨#[c]⟩] w (NewK encS 1 9 (splS c s.data.toList) w) := by
  go_enter Tryd.func64, Tryd.ntmps64
  go_wp2_with fail
  refine (gsplit_any s c hs _).mono ?_
  rintro e w' ⟨v, rfl, ho, hb⟩
  have HO := Lib.hid ho; have HB := Lib.hid hb; clear ho hb
  go_wp2_with fail
  go_ret
  exact ⟨_, rfl, HO.out, HB.out⟩

end Go.Proofs.YtpkicliimhflgaaDoor
namespace Go.Proofs.YtpkicliimhflgaaDoor
open Go.ChangeShapes Go.WideShapes Go.ChangeAt Go.RowKit

/-- The library's MaxLen holds a number. -/
def Max0 (w : World) : Prop := ∃ m, w.cell? ⟨0, 0, none⟩ = some (.int .i64 m)
theorem Max0.on {w w' : World} (h : Max0 w) (hb : Below w.heap.size w w') : Max0 w' := by
  obtain ⟨m, hm⟩ := h
  exact ⟨m, (hb.cell (World.block_lt_of_cell? _ _ hm)).trans hm⟩

end Go.Proofs.YtpkicliimhflgaaDoor
namespace Go.Proofs.YtpkicliimhflgaaDoor
open Go.ChangeShapes Go.WideShapes Go.ChangeAt Go.RowKit

def SzPolicy (a1 : Rw) (a2 : Rw) (a3 : Rw) (a4 : ByteArray) (left : Int) (w : World) (e : Ending) (w' : World) : Prop :=
  ∃ r : Int, e = .returned (.int .i64 r) ∧ -1 ≤ r ∧ (0 ≤ r → r + (a1.weight : Nat) + (a2.weight : Nat) + (a3.weight : Nat) + (a4.size : Nat) = left) ∧ Grw w w'

end Go.Proofs.YtpkicliimhflgaaDoor
namespace Go.Proofs.YtpkicliimhflgaaDoor
open Go.ChangeShapes Go.WideShapes Go.ChangeAt Go.RowKit Go.Joins Go.Deep

/-- A policy as a plain value. -/
structure Pol where
  set : Bool
  scr : List ByteArray
  sty : List ByteArray
  img : List ByteArray
  non : ByteArray
/-- A policy in memory: its three slices read so. -/
def ReadP (hi : Nat) (w : World) (v1 v2 v3 : Value) (p : Pol) : Prop := ReadsK encS 1 hi w v1 p.scr ∧ ReadsK encS 1 hi w v2 p.sty ∧ ReadsK encS 1 hi w v3 p.img
/-- A policy that came in. -/
def IsPo (w : World) (v1 v2 v3 : Value) (p : Pol) : Prop := IsSts w v1 p.scr ∧ IsSts w v2 p.sty ∧ IsSts w v3 p.img ∧ p.non.size ≤ 9223372036854775807
theorem ReadP.below {hi B : Nat} {w w' : World} {v1 v2 v3 : Value} {p : Pol} (h : ReadP hi w v1 v2 v3 p) (hb : Below B w w') (hB : hi ≤ B) : ReadP hi w' v1 v2 v3 p := ⟨h.1.below hb hB, h.2.1.below hb hB, h.2.2.below hb hB⟩
theorem ReadP.mono {hi hi' : Nat} {w : World} {v1 v2 v3 : Value} {p : Pol} (h : ReadP hi w v1 v2 v3 p) (hh : hi ≤ hi') : ReadP hi' w v1 v2 v3 p := ⟨h.1.mono hh, h.2.1.mono hh, h.2.2.mono hh⟩

end Go.Proofs.YtpkicliimhflgaaDoor
namespace Go.Proofs.YtpkicliimhflgaaDoor
open Go.ChangeShapes Go.WideShapes Go.ChangeAt Go.RowKit

def hasS (xs : List ByteArray) (s : ByteArray) : Bool := xs.any fun x => decide (x = s)
theorem hasS_iff {xs : List ByteArray} {a : ByteArray} : hasS xs a = true ↔ a ∈ xs := by
  unfold hasS
  rw [List.any_eq_true]
  constructor
  · rintro ⟨x, hx, he⟩
    rw [← of_decide_eq_true he]; exact hx
  · exact fun h => ⟨a, h, decide_eq_true rfl⟩
def hostsP (p : Pol) (k : Int) : List ByteArray := if k = 2 ∨ k = 5 then p.scr else if k = 3 then p.sty else if k = 4 then p.img else []
/-- Allows. -/
def alB (p : Pol) (k : Int) (h : ByteArray) : Bool := !p.set || hasS (hostsP p k) h
/-- AllowsInline. -/
def inlB (p : Pol) (n : ByteArray) : Bool := !p.set || (decide (p.non.size ≠ 0) && decide (p.non = n))
def okHosts (l : List ByteArray) : Bool := decide (l.length ≤ 4) && l.all isNm
/-- IsPolicy. -/
def isPol (p : Pol) : Bool :=
  if p.set = true then okHosts p.scr && okHosts p.sty && okHosts p.img && (decide (p.non.size = 0) || isVal p.non)
  else decide (p.scr.length = 0) && decide (p.sty.length = 0) && decide (p.img.length = 0) && decide (p.non.size = 0)
def eqP (a b : Pol) : Bool := (a.set == b.set) && decide (a.scr = b.scr) && decide (a.sty = b.sty) && decide (a.img = b.img) && decide (a.non = b.non)
def polZ : Pol := ⟨false, [], [], [], ⟨#[]⟩⟩
def bothS (xs ys : List ByteArray) : List ByteArray := xs.filter (hasS ys)
/-- NarrowPolicy. -/
def nrP (a b : Pol) : Pol := if a.set = false then b else if b.set = false then a else ⟨true, bothS a.scr b.scr, bothS a.sty b.sty, bothS a.img b.img, if a.non = b.non then a.non else ⟨#[]⟩⟩
theorem hasS_both (xs ys : List ByteArray) (h : ByteArray) : hasS (bothS xs ys) h = (hasS xs h && hasS ys h) := by
  rw [Bool.eq_iff_iff, Bool.and_eq_true, hasS_iff, hasS_iff]
  unfold bothS
  rw [List.mem_filter]
theorem alB_nr (a b : Pol) (k : Int) (h : ByteArray) : alB (nrP a b) k h = (alB a k h && alB b k h) := by
  unfold nrP
  by_cases ha : a.set = false
  · rw [if_pos ha]; simp [alB, ha]
  by_cases hb : b.set = false
  · rw [if_neg ha, if_pos hb]; simp [alB, hb]
  rw [if_neg ha, if_neg hb]
  have ha' : a.set = true := by cases h0 : a.set <;> simp_all
  have hb' : b.set = true := by cases h0 : b.set <;> simp_all
  simp only [alB, ha', hb', Bool.not_true, Bool.false_or]
  unfold hostsP
  by_cases k1 : k = 2 ∨ k = 5
  · rw [if_pos k1, if_pos k1, if_pos k1, hasS_both]
  by_cases k2 : k = 3
  · rw [if_neg k1, if_neg k1, if_neg k1, if_pos k2, if_pos k2, if_pos k2, hasS_both]
  by_cases k3 : k = 4
  · rw [if_neg k1, if_neg k1, if_neg k1, if_neg k2, if_neg k2, if_neg k2, if_pos k3, if_pos k3, if_pos k3, hasS_both]
  rw [if_neg k1, if_neg k1, if_neg k1, if_neg k2, if_neg k2, if_neg k2, if_neg k3, if_neg k3, if_neg k3]
  rfl
theorem inlB_nr (a b : Pol) (n : ByteArray) : inlB (nrP a b) n = (inlB a n && inlB b n) := by
  unfold nrP
  by_cases ha : a.set = false
  · rw [if_pos ha]; simp [inlB, ha]
  by_cases hb : b.set = false
  · rw [if_neg ha, if_pos hb]; simp [inlB, hb]
  rw [if_neg ha, if_neg hb]
  have ha' : a.set = true := by cases h0 : a.set <;> simp_all
  have hb' : b.set = true := by cases h0 : b.set <;> simp_all
  simp only [inlB, ha', hb', Bool.not_true, Bool.false_or]
  by_cases e : a.non = b.non
  · rw [if_pos e, e]; cases (decide (b.non.size ≠ 0) && decide (b.non = n)) <;> rfl
  · rw [if_neg e]
    by_cases e1 : a.non = n
    · have e2 : ¬ b.non = n := fun h => e (e1.trans h.symm)
      have e3 : decide (b.non = n) = false := decide_eq_false e2
      rw [e3, Bool.and_false, Bool.and_false]; rfl
    · have e3 : decide (a.non = n) = false := decide_eq_false e1
      rw [e3, Bool.and_false, Bool.false_and]; rfl

def spS : ByteArray := ⟨#[32]⟩
def scS : ByteArray := ⟨#[59]⟩
def kScr : ByteArray := ⟨#[115, 99, 114, 105, 112, 116]⟩
def kSty : ByteArray := ⟨#[115, 116, 121, 108, 101]⟩
def kImg : ByteArray := ⟨#[105, 109, 103]⟩
def kNon : ByteArray := ⟨#[59, 110, 111, 110, 99, 101, 32]⟩
/-- Words with a space ahead of each. -/
def wordsS (w : ByteArray) (xs : List ByteArray) : ByteArray := xs.foldl (fun a x => a ++ spS ++ x) w
def hostsL (xs : List ByteArray) : List UInt8 := xs.flatMap fun x => 32 :: x.data.toList
theorem wordsS_list (xs : List ByteArray) : ∀ w, (wordsS w xs).data.toList = w.data.toList ++ hostsL xs := by
  induction xs with
  | nil => intro w; simp [wordsS, hostsL]
  | cons x xs ih =>
    intro w
    show (wordsS (w ++ spS ++ x) xs).data.toList = _
    rw [ih, append_list, append_list]
    simp [hostsL, spS]
theorem wordsS_snoc (w : ByteArray) (xs : List ByteArray) (x : ByteArray) : wordsS w (xs ++ [x]) = wordsS w xs ++ spS ++ x := by
  unfold wordsS; rw [List.foldl_append]; rfl
theorem hostsL_len (xs : List ByteArray) : (hostsL xs).length = xs.length + sumSt xs := by
  induction xs with
  | nil => rfl
  | cons x xs ih =>
    have : hostsL (x :: xs) = (32 :: x.data.toList) ++ hostsL xs := rfl
    rw [this, List.length_append, ih, List.length_cons, size_list, List.length_cons, sumSt, sumSt, List.map_cons, List.sum_cons]; omega
theorem wordsS_size (w : ByteArray) (xs : List ByteArray) : (wordsS w xs).size = w.size + xs.length + sumSt xs := by
  rw [← size_list, wordsS_list, List.length_append, size_list, hostsL_len]; omega
def nonS (n : ByteArray) : ByteArray := if n.size = 0 then ⟨#[]⟩ else kNon ++ n
def nonL (n : ByteArray) : List UInt8 := if n.size = 0 then [] else kNon.data.toList ++ n.data.toList
/-- FormatPolicy. -/
def fmtP (p : Pol) : ByteArray := if p.set = true ∧ isPol p = true then wordsS kScr p.scr ++ scS ++ wordsS kSty p.sty ++ scS ++ wordsS kImg p.img ++ nonS p.non else ⟨#[]⟩
theorem fmtP_list {p : Pol} (h1 : p.set = true) (h2 : isPol p = true) : (fmtP p).data.toList = kScr.data.toList ++ hostsL p.scr ++ 59 :: (kSty.data.toList ++ hostsL p.sty ++ 59 :: (kImg.data.toList ++ hostsL p.img ++ nonL p.non)) := by
  unfold fmtP
  rw [if_pos ⟨h1, h2⟩]
  have hn : (nonS p.non).data.toList = nonL p.non := by
    unfold nonS nonL
    by_cases e : p.non.size = 0
    · rw [if_pos e, if_pos e]
    · rw [if_neg e, if_neg e, append_list]
  rw [append_list, append_list, append_list, append_list, append_list, wordsS_list, wordsS_list, wordsS_list, hn]
  simp [scS, List.append_assoc]
theorem fmtP_no {p : Pol} (h : ¬ (p.set = true ∧ isPol p = true)) : fmtP p = ⟨#[]⟩ := by unfold fmtP; rw [if_neg h]
theorem okHosts_low {l : List ByteArray} (h : okHosts l = true) : ∀ x ∈ l, ∀ b ∈ x.data.toList, 97 ≤ b.toNat ∧ b.toNat ≤ 122 := by
  intro x hx b hb
  unfold okHosts at h
  rw [Bool.and_eq_true] at h
  have h1 := List.all_eq_true.1 h.2 x hx
  unfold isNm at h1
  rw [Bool.and_eq_true] at h1
  exact of_decide_eq_true (List.all_eq_true.1 h1.2 b hb)
theorem okHosts_ne {l : List ByteArray} (h : okHosts l = true) {c : UInt8} (hc : c.toNat < 97) : ∀ x ∈ l, ∀ b ∈ x.data.toList, b ≠ c := by
  intro x hx b hb e
  have := okHosts_low h x hx b hb
  rw [e] at this; omega
theorem hostsL_ne {l : List ByteArray} (h : okHosts l = true) : ∀ b ∈ hostsL l, b ≠ 59 := by
  intro b hb
  unfold hostsL at hb
  obtain ⟨x, hx, hbx⟩ := List.mem_flatMap.1 hb
  rcases List.mem_cons.1 hbx with e | hb2
  · rw [e]; decide
  · exact okHosts_ne h (by decide) x hx b hb2
theorem split_words {c : UInt8} (hc : c = 32) : ∀ (xs : List ByteArray) (w : List UInt8), (∀ b ∈ w, b ≠ c) → (∀ x ∈ xs, ∀ b ∈ x.data.toList, b ≠ c) → splitB c (w ++ hostsL xs) = w :: xs.map (·.data.toList)
  | [], w, hw, _ => by
    show splitB c (w ++ []) = _
    rw [List.append_nil, splitB_free hw]; rfl
  | x :: xs, w, hw, hx => by
    have e : w ++ hostsL (x :: xs) = w ++ c :: (x.data.toList ++ hostsL xs) := by subst hc; rfl
    rw [e, splitB_at _ hw, split_words hc xs x.data.toList (hx x List.mem_cons_self) fun y hy => hx y (List.mem_cons_of_mem _ hy), List.map_cons]
theorem map_ofL (xs : List ByteArray) : (xs.map (·.data.toList)).map ofL = xs := by
  rw [List.map_map]
  conv => rhs; rw [← List.map_id xs]
  exact List.map_congr_left fun x _ => ofL_of x
theorem words_back {l : List ByteArray} (h : okHosts l = true) {w : List UInt8} (hw : ∀ b ∈ w, b ≠ 32) : (splS 32 (w ++ hostsL l)).tail = l := by
  unfold splS
  rw [split_words rfl l w hw (okHosts_ne h (by decide)), List.map_cons, List.tail_cons, map_ofL]
/-- What the model reads. -/
def rdM (s : ByteArray) : Option Pol := match splS 59 s.data.toList with
  | a :: b :: c :: ds => some ⟨true, (splS 32 a.data.toList).tail, (splS 32 b.data.toList).tail, (splS 32 c.data.toList).tail, match ds with
    | [] => ⟨#[]⟩
    | d :: _ => if 6 < d.size then d.extract 6 d.size else ⟨#[]⟩⟩
  | _ => none
/-- What the program reads. -/
def rdI (s : ByteArray) : Pol := match splS 59 (Lib.cut s.data.toList kNon.data.toList).1 with
  | [a, b, c] => ⟨true, (splS 32 a.data.toList).tail, (splS 32 b.data.toList).tail, (splS 32 c.data.toList).tail, ofL (Lib.cut s.data.toList kNon.data.toList).2.1⟩
  | _ => polZ
theorem val_ne {n : ByteArray} (h : isVal n = true) : ∀ b ∈ n.data.toList, b ≠ 59 := by
  intro b hb e
  unfold isVal at h
  rw [Bool.and_eq_true] at h
  have h1 := List.all_eq_true.1 h.2 b hb
  rw [e] at h1
  revert h1; decide
theorem isPol_parts {p : Pol} (h1 : p.set = true) (h2 : isPol p = true) : okHosts p.scr = true ∧ okHosts p.sty = true ∧ okHosts p.img = true ∧ (p.non.size = 0 ∨ isVal p.non = true) := by
  unfold isPol at h2
  rw [if_pos h1, Bool.and_eq_true, Bool.and_eq_true, Bool.and_eq_true, Bool.or_eq_true] at h2
  exact ⟨h2.1.1.1, h2.1.1.2, h2.1.2, h2.2.imp of_decide_eq_true id⟩
theorem free_app {A B : List UInt8} {c : UInt8} (h1 : ∀ b ∈ A, b ≠ c) (h2 : ∀ b ∈ B, b ≠ c) : ∀ b ∈ A ++ B, b ≠ c := fun b hb => (List.mem_append.1 hb).elim (h1 b) (h2 b)
theorem emptyB {n : ByteArray} (h : n.size = 0) : n = ⟨#[]⟩ := bytesEq (List.eq_nil_of_length_eq_zero (by rw [size_list]; exact h))
theorem splS_three {A B C : List UInt8} (h1 : ∀ b ∈ A, b ≠ 59) (h2 : ∀ b ∈ B, b ≠ 59) (h3 : ∀ b ∈ C, b ≠ 59) : splS 59 (A ++ 59 :: (B ++ 59 :: C)) = [ofL A, ofL B, ofL C] := by
  unfold splS
  rw [splitB_at _ h1, splitB_at _ h2, splitB_free h3]; rfl
theorem rdM_fmt {p : Pol} (h1 : p.set = true) (h2 : isPol p = true) : rdM (fmtP p) = some p := by
  obtain ⟨o1, o2, o3, o4⟩ := isPol_parts h1 h2
  have f1 := free_app (c := 59) (A := kScr.data.toList) (by decide) (hostsL_ne o1)
  have f2 := free_app (c := 59) (A := kSty.data.toList) (by decide) (hostsL_ne o2)
  have f3 := free_app (c := 59) (A := kImg.data.toList) (by decide) (hostsL_ne o3)
  have w1 := words_back o1 (w := kScr.data.toList) (by decide)
  have w2 := words_back o2 (w := kSty.data.toList) (by decide)
  have w3 := words_back o3 (w := kImg.data.toList) (by decide)
  obtain ⟨set, scr, sty, img, non⟩ := p
  simp only at h1 o1 o2 o3 o4 f1 f2 f3 w1 w2 w3
  subst h1
  unfold rdM
  rw [fmtP_list rfl h2]
  simp only
  by_cases e : non.size = 0
  · have en := emptyB e
    subst en
    rw [show nonL ⟨#[]⟩ = [] from rfl, List.append_nil, splS_three f1 f2 f3]
    simp only [ofL_list]
    rw [w1, w2, w3]
  · have hv : isVal non = true := o4.resolve_left e
    have hN : nonL non = 59 :: ([110, 111, 110, 99, 101, 32] ++ non.data.toList) := by unfold nonL; rw [if_neg e]; rfl
    have f4 := free_app (c := 59) (A := [110, 111, 110, 99, 101, 32]) (by decide) (val_ne hv)
    have hs : splS 59 (kScr.data.toList ++ hostsL scr ++ 59 :: (kSty.data.toList ++ hostsL sty ++ 59 :: (kImg.data.toList ++ hostsL img ++ nonL non))) = [ofL (kScr.data.toList ++ hostsL scr), ofL (kSty.data.toList ++ hostsL sty), ofL (kImg.data.toList ++ hostsL img), ofL ([110, 111, 110, 99, 101, 32] ++ non.data.toList)] := by
      unfold splS
      rw [hN, splitB_at _ f1, splitB_at _ f2, splitB_at _ f3, splitB_free f4]; rfl
    rw [hs]
    simp only [ofL_list]
    have hsz : (ofL ([110, 111, 110, 99, 101, 32] ++ non.data.toList)).size = 6 + non.size := by rw [ofL_size, List.length_append, size_list]; rfl
    rw [w1, w2, w3, if_pos (by omega), extract_suf, ofL_list]
    congr 1
theorem index_free {c : UInt8} (m : List UInt8) : ∀ (A l : List UInt8), (∀ b ∈ A, b ≠ c) → Lib.index (A ++ l) (c :: m) = if Lib.index l (c :: m) = -1 then -1 else Lib.index l (c :: m) + (A.length : Int)
  | [], l, _ => by
    rw [List.nil_append]
    split
    · assumption
    · simp
  | a :: A, l, h => by
    have ih := index_free m A l fun b hb => h b (List.mem_cons_of_mem _ hb)
    have ha : a ≠ c := h a List.mem_cons_self
    have hp : (c :: m).isPrefixOf (a :: (A ++ l)) = false := by
      show ((c == a) && _) = false
      rw [beq_eq_false_iff_ne.2 (Ne.symm ha), Bool.false_and]
    rw [List.cons_append]
    conv => lhs; unfold Lib.index
    rw [if_neg (by rw [hp]; decide), ih]
    have hge := Lib.index_ge l (c :: m)
    by_cases e : Lib.index l (c :: m) = -1
    · rw [if_pos e, if_pos e]; rfl
    · rw [if_neg e, if_neg e, if_neg (by intro hq; have := beq_iff_eq.1 hq; omega)]
      rw [List.length_cons]; push_cast; omega
theorem index_past1 {c d b : UInt8} (t l : List UInt8) (hb : b ≠ d) : Lib.index (c :: b :: l) (c :: d :: t) = if Lib.index (b :: l) (c :: d :: t) = -1 then -1 else Lib.index (b :: l) (c :: d :: t) + 1 := by
  have hp : (c :: d :: t).isPrefixOf (c :: b :: l) = false := by
    show ((c == c) && ((d == b) && _)) = false
    rw [beq_eq_false_iff_ne.2 (Ne.symm hb), Bool.false_and, Bool.and_false]
  conv => lhs; unfold Lib.index
  rw [if_neg (by rw [hp]; decide)]
  by_cases e : Lib.index (b :: l) (c :: d :: t) = -1
  · rw [if_pos e, e]; rfl
  · rw [if_neg e, if_neg (fun hq => e (beq_iff_eq.1 hq))]
theorem index_here (s m : List UInt8) : Lib.index (s ++ m) s = 0 := by
  refine Lib.index_first (i := 0) (Nat.zero_le _) ?_ fun j hj => absurd hj (Nat.not_lt_zero _)
  unfold Lib.occAt
  rw [List.drop_zero, List.isPrefixOf_iff_prefix]
  exact List.prefix_append _ _
theorem index_three {A B C R : List UInt8} (h1 : ∀ b ∈ A, b ≠ 59) (h2 : ∀ b ∈ B, b ≠ 59) (h3 : ∀ b ∈ C, b ≠ 59) {b0 c0 : UInt8} {B' C' : List UInt8} (eb : B = b0 :: B') (ec : C = c0 :: C') (nb : b0 ≠ 110) (nc : c0 ≠ 110) (t : List UInt8) :
    Lib.index (A ++ 59 :: (B ++ 59 :: (C ++ R))) (59 :: 110 :: t) = if Lib.index R (59 :: 110 :: t) = -1 then -1 else Lib.index R (59 :: 110 :: t) + (A.length + 1 + B.length + 1 + C.length : Nat) := by
  have g := Lib.index_ge R (59 :: 110 :: t)
  have e3 := index_free (110 :: t) C R h3
  have e2' : Lib.index (59 :: (C ++ R)) (59 :: 110 :: t) = if Lib.index (C ++ R) (59 :: 110 :: t) = -1 then -1 else Lib.index (C ++ R) (59 :: 110 :: t) + 1 := by
    rw [ec]; exact index_past1 t _ nc
  have e2 := index_free (110 :: t) B (59 :: (C ++ R)) h2
  have e1' : Lib.index (59 :: (B ++ 59 :: (C ++ R))) (59 :: 110 :: t) = if Lib.index (B ++ 59 :: (C ++ R)) (59 :: 110 :: t) = -1 then -1 else Lib.index (B ++ 59 :: (C ++ R)) (59 :: 110 :: t) + 1 := by
    rw [eb]; exact index_past1 t _ nb
  rw [index_free (110 :: t) A _ h1, e1', e2, e2', e3]
  by_cases e : Lib.index R (59 :: 110 :: t) = -1
  · simp [e]
  · have k1 : ¬ (Lib.index R (59 :: 110 :: t) + (C.length : Int) = -1) := by omega
    have k2 : ¬ (Lib.index R (59 :: 110 :: t) + (C.length : Int) + 1 = -1) := by omega
    have k3 : ¬ (Lib.index R (59 :: 110 :: t) + (C.length : Int) + 1 + (B.length : Int) = -1) := by omega
    have k4 : ¬ (Lib.index R (59 :: 110 :: t) + (C.length : Int) + 1 + (B.length : Int) + 1 = -1) := by omega
    rw [if_neg e, if_neg e, if_neg k1, if_neg k2, if_neg k3, if_neg k4]
    push_cast; omega
theorem rdI_fmt {p : Pol} (h1 : p.set = true) (h2 : isPol p = true) : rdI (fmtP p) = p := by
  obtain ⟨o1, o2, o3, o4⟩ := isPol_parts h1 h2
  have f1 := free_app (c := 59) (A := kScr.data.toList) (by decide) (hostsL_ne o1)
  have f2 := free_app (c := 59) (A := kSty.data.toList) (by decide) (hostsL_ne o2)
  have f3 := free_app (c := 59) (A := kImg.data.toList) (by decide) (hostsL_ne o3)
  have w1 := words_back o1 (w := kScr.data.toList) (by decide)
  have w2 := words_back o2 (w := kSty.data.toList) (by decide)
  have w3 := words_back o3 (w := kImg.data.toList) (by decide)
  obtain ⟨set, scr, sty, img, non⟩ := p
  simp only at h1 o1 o2 o3 o4 f1 f2 f3 w1 w2 w3
  subst h1
  have hix := index_three (R := nonL non) f1 f2 f3 (b0 := 115) (c0 := 105) rfl rfl (by decide) (by decide) [111, 110, 99, 101, 32]
  have hl := fmtP_list rfl h2
  simp only at hl
  have hc : Lib.cut (fmtP ⟨true, scr, sty, img, non⟩).data.toList kNon.data.toList = (kScr.data.toList ++ hostsL scr ++ 59 :: (kSty.data.toList ++ hostsL sty ++ 59 :: (kImg.data.toList ++ hostsL img)), non.data.toList, decide (non.size ≠ 0)) := by
    rw [hl]
    unfold Lib.cut
    by_cases e : non.size = 0
    · have en := emptyB e
      subst en
      rw [show nonL ⟨#[]⟩ = [] from rfl] at hix ⊢
      have hx : Lib.index ([] : List UInt8) (59 :: 110 :: [111, 110, 99, 101, 32]) = -1 := rfl
      rw [if_pos hx] at hix
      rw [show kNon.data.toList = 59 :: 110 :: [111, 110, 99, 101, 32] from rfl, if_neg (by rw [hix]; decide), List.append_nil]
      rfl
    · have hN : nonL non = kNon.data.toList ++ non.data.toList := by unfold nonL; rw [if_neg e]
      have hx : Lib.index (nonL non) (59 :: 110 :: [111, 110, 99, 101, 32]) = 0 := by rw [hN]; exact index_here _ _
      rw [if_neg (by rw [hx]; decide), hx, Int.zero_add] at hix
      rw [show kNon.data.toList = 59 :: 110 :: [111, 110, 99, 101, 32] from rfl, if_pos (by rw [hix]; omega), hix, Int.toNat_natCast, hN]
      have hd : decide (non.size ≠ 0) = true := decide_eq_true e
      rw [hd]
      have ha : kScr.data.toList ++ hostsL scr ++ 59 :: (kSty.data.toList ++ hostsL sty ++ 59 :: (kImg.data.toList ++ hostsL img ++ (kNon.data.toList ++ non.data.toList))) = (kScr.data.toList ++ hostsL scr ++ 59 :: (kSty.data.toList ++ hostsL sty ++ 59 :: (kImg.data.toList ++ hostsL img))) ++ (kNon.data.toList ++ non.data.toList) := by simp [List.append_assoc]
      have hlen : (kScr.data.toList ++ hostsL scr).length + 1 + (kSty.data.toList ++ hostsL sty).length + 1 + (kImg.data.toList ++ hostsL img).length = (kScr.data.toList ++ hostsL scr ++ 59 :: (kSty.data.toList ++ hostsL sty ++ 59 :: (kImg.data.toList ++ hostsL img))).length := by
        simp only [List.length_append, List.length_cons]; omega
      rw [ha, hlen, List.take_left', Prod.mk.injEq, Prod.mk.injEq]
      · refine ⟨rfl, ?_, rfl⟩
        rw [← List.drop_drop, List.drop_left' rfl]
        exact List.drop_left' rfl
      · rfl
  unfold rdI
  rw [hc]
  simp only
  rw [splS_three f1 f2 f3]
  simp only [ofL_list]
  rw [w1, w2, w3, ofL_of]
theorem fmtP_ne {q : Pol} {s : ByteArray} (h : fmtP q = s) (hs : s.size ≠ 0) : q.set = true ∧ isPol q = true := by
  by_cases e : q.set = true ∧ isPol q = true
  · exact e
  · rw [fmtP_no e] at h; subst h; exact absurd rfl hs
/-- ParsePolicy. -/
def prsP (s : ByteArray) : Pol × Bool := if s.size = 0 then (polZ, true) else if fmtP (rdI s) = s then (rdI s, true) else (polZ, false)
theorem prsP_model {s : ByteArray} (hs : s.size ≠ 0) : (match rdM s with | none => (polZ, false) | some q => if fmtP q = s then (q, true) else (polZ, false)) = prsP s := by
  unfold prsP
  rw [if_neg hs]
  by_cases e : fmtP (rdI s) = s
  · obtain ⟨k1, k2⟩ := fmtP_ne e hs
    have hm := rdM_fmt k1 k2
    rw [e] at hm
    rw [hm, if_pos e]
    simp only
    rw [if_pos e]
  · rw [if_neg e]
    cases hq : rdM s with
    | none => rfl
    | some q =>
      simp only
      by_cases e2 : fmtP q = s
      · obtain ⟨k1, k2⟩ := fmtP_ne e2 hs
        have hi := rdI_fmt k1 k2
        rw [e2] at hi
        rw [hi] at e
        exact absurd e2 e
      · rw [if_neg e2]
theorem prsP_fmt {p : Pol} (h1 : p.set = true) (h2 : isPol p = true) : prsP (fmtP p) = (p, true) := by
  have hs : (fmtP p).size ≠ 0 := by rw [← size_list, fmtP_list h1 h2]; simp [kScr]
  unfold prsP
  rw [if_neg hs, rdI_fmt h1 h2, if_pos rfl]
theorem fmtP_polZ : fmtP polZ = ⟨#[]⟩ := fmtP_no (by rintro ⟨h, _⟩; cases h)
theorem prsP_yes {s : ByteArray} (h : (prsP s).2 = true) : fmtP (prsP s).1 = s := by
  unfold prsP at h ⊢
  by_cases e : s.size = 0
  · rw [if_pos e, emptyB e]; exact fmtP_polZ
  · rw [if_neg e] at h ⊢
    by_cases e2 : fmtP (rdI s) = s
    · rw [if_pos e2]; exact e2
    · rw [if_neg e2] at h; cases h
theorem isPol_zero {p : Pol} (h1 : p.set = false) (h2 : isPol p = true) : p = polZ := by
  obtain ⟨set, scr, sty, img, non⟩ := p
  simp only at h1
  subst h1
  unfold isPol at h2
  rw [if_neg Bool.false_ne_true, Bool.and_eq_true, Bool.and_eq_true, Bool.and_eq_true] at h2
  obtain ⟨⟨⟨a, b⟩, c⟩, d⟩ := h2
  obtain rfl : scr = [] := List.eq_nil_of_length_eq_zero (of_decide_eq_true a)
  obtain rfl : sty = [] := List.eq_nil_of_length_eq_zero (of_decide_eq_true b)
  obtain rfl : img = [] := List.eq_nil_of_length_eq_zero (of_decide_eq_true c)
  obtain rfl : non = ⟨#[]⟩ := emptyB (of_decide_eq_true d)
  rfl
/-- A valid policy is read back from its form. -/
theorem prsP_valid {p : Pol} (h : isPol p = true) : prsP (fmtP p) = (p, true) := by
  cases hs : p.set with
  | true => exact prsP_fmt hs h
  | false =>
    rw [isPol_zero hs h, fmtP_polZ]; rfl

end Go.Proofs.YtpkicliimhflgaaDoor
namespace Go.Proofs.YtpkicliimhflgaaDoor
open Go.ChangeShapes Go.WideShapes Go.ChangeAt Go.RowKit

theorem max0C_of {w : World} (h : w.ShapedOpen Tryd.prog) : Max0 w := Tryd.laysM145.s1_3 w h
theorem cutN_any (s : ByteArray) (hs : s.size ≤ 1048576) (w : World) (hm : Max0 w) :
    Calls Tryd.prog 63 #[.string s, .string ⟨#[59, 110, 111, 110, 99, 101, 32]⟩] w fun e w' => e = .returned (.tuple #[.string (ofL (Lib.cut s.data.toList kNon.data.toList).1), .string (ofL (Lib.cut s.data.toList kNon.data.toList).2.1), .bool (Lib.cut s.data.toList kNon.data.toList).2.2]) ∧ ∃ n, w' = w.drewN n := by
  obtain ⟨m, hm⟩ := hm
  exact Tryd.strings_Cut s ⟨#[59, 110, 111, 110, 99, 101, 32]⟩ m w (by omega) hm
theorem splS_cons (c : UInt8) (l : List UInt8) : ∃ x xs, splS c l = x :: xs := by
  have h : splS c l ≠ [] := by
    unfold splS
    intro e
    have h2 : splitB c l = [] := List.map_eq_nil_iff.1 e
    have := splitB_ne c l
    exact this h2
  cases hs : splS c l with
  | nil => exact absurd hs h
  | cons x xs => exact ⟨x, xs, rfl⟩
theorem own_first {lo hi : Nat} {w : World} {v : Value} {x : ByteArray} {xs : List ByteArray} (h : OwnK encS 1 9 lo hi w v (x :: xs)) : ∃ g n c, v = .slice (some ⟨g, 0, none⟩) n c ∧ 1 ≤ n ∧ n ≤ c ∧ c ≤ 9223372036854775807 := by
  rcases h.1.2 with ⟨_, h0⟩ | ⟨g, cap, cur, e, _, _, hc, hm, _⟩
  · rw [List.length_cons] at h0; omega
  · unfold maxLen at hm
    exact ⟨g, _, cap, e, by rw [List.length_cons]; omega, hc, by omega⟩

set_option maxHeartbeats 1000000 in
theorem readHosts_any (p : ByteArray) (hz : p.size ≤ 1048576) (w : World) :
    Calls Tryd.prog 65 #[.string p] w (NewO ((splS 32 p.data.toList).tail) w) := by
  obtain ⟨x, xs, hx⟩ := splS_cons 32 p.data.toList
  rw [hx, List.tail_cons]
  have HX := Lib.hid hx; clear hx
  go_enter Tryd.func65, Tryd.ntmps65
  go_wp2_with fail
  refine (split_any p 32 (by omega) _).mono ?_
  rintro e w1 ⟨v, rfl, ho, hb⟩
  rw [HX.out] at ho
  obtain ⟨g, n, c, rfl, hn, hc, hcm⟩ := own_first ho
  have HT := Lib.hid (OwnO.tail ho); have HB := Lib.hid hb; clear ho hb
  by_cases h1 : c = 1
  · subst h1
    obtain rfl : n = 1 := by omega
    rw [if_pos rfl] at HT
    go_wp2_with fail
    go_ret
    exact ⟨_, _, _, rfl, HT.out, HB.out⟩
  · rw [if_neg h1] at HT
    have hn1 : (1 : Int) ≤ (n : Int) := by omega
    have hc1 : (n : Int) ≤ (c : Int) := by omega
    go_wp2_with fail
    go_ret
    exact ⟨_, _, _, rfl, HT.out, HB.out⟩

end Go.Proofs.YtpkicliimhflgaaDoor
namespace Go.Proofs.YtpkicliimhflgaaDoor
open Go.ChangeShapes Go.WideShapes Go.ChangeAt Go.RowKit

def notInS (xs : List ByteArray) (a : ByteArray) (k : Nat) : Prop := ∀ j : Nat, j < k → xs[j]? ≠ some a
theorem notInS.zero (xs : List ByteArray) (a : ByteArray) : notInS xs a 0 := fun _ h => absurd h (Nat.not_lt_zero _)
theorem notInS.succ {xs : List ByteArray} {a x : ByteArray} {k : Nat} (h : notInS xs a k) (hx : xs[k]? = some x) (hne : x ≠ a) : notInS xs a (k + 1) := by
  intro j hj
  by_cases e : j = k
  · subst e; rw [hx]; simpa using hne
  · exact h j (by omega)
theorem hasS_yes {xs : List ByteArray} {a : ByteArray} {k : Nat} (h : xs[k]? = some a) : hasS xs a = true := hasS_iff.2 (List.mem_of_getElem? h)
theorem hasS_no {xs : List ByteArray} {a : ByteArray} {k : Nat} (h : notInS xs a k) (hk : k = xs.length) : hasS xs a = false := by
  refine Bool.eq_false_iff.2 fun hm => ?_
  obtain ⟨j, hj⟩ := List.mem_iff_getElem?.1 (hasS_iff.1 hm)
  exact h j (by have := (List.getElem?_eq_some_iff.1 hj).1; omega) hj
/-- A string in a slice of strings. -/
theorem str_cell {hi n cap k : Nat} {w : World} {a : Option Addr} {xs : List ByteArray} {s : ByteArray} (h : ReadsK encS 1 hi w (.slice a n cap) xs) (hk : xs[k]? = some s) : ∃ g off, a = some ⟨g, off, none⟩ ∧ g < hi ∧ w.cell? ⟨g, off + k, none⟩ = some (.string s) := by
  obtain ⟨a', c', e, _, _, _, hc⟩ := h
  injection e with e1 e2 e3; subst e1
  rcases hc with h0 | ⟨g, off, rfl, hg, hc⟩
  · have := (List.getElem?_eq_some_iff.1 hk).1; omega
  · refine ⟨g, off, rfl, hg, ?_⟩
    have := hc k s hk 0 (by omega)
    rwa [Nat.mul_one] at this
theorem ssAt {xs : List ByteArray} {j : Nat} (h : j < xs.length) : ∃ x, xs[j]? = some x := ⟨_, List.getElem?_eq_getElem h⟩

def sameTo (xs ys : List ByteArray) (k : Nat) : Prop := ∀ j : Nat, j < k → xs[j]? = ys[j]?
theorem sameTo.zero (xs ys : List ByteArray) : sameTo xs ys 0 := fun _ h => absurd h (Nat.not_lt_zero _)
theorem sameTo.succ {xs ys : List ByteArray} {x : ByteArray} {k : Nat} (h : sameTo xs ys k) (hx : xs[k]? = some x) (hy : ys[k]? = some x) : sameTo xs ys (k + 1) := by
  intro j hj
  by_cases e : j = k
  · subst e; rw [hx, hy]
  · exact h j (by omega)
theorem same_all {xs ys : List ByteArray} {k : Nat} (h : sameTo xs ys k) (hx : xs.length = k) (hy : ys.length = k) : decide (xs = ys) = true := by
  refine decide_eq_true (List.ext_getElem? fun j => ?_)
  by_cases hj : j < k
  · exact h j hj
  · rw [List.getElem?_eq_none (by omega), List.getElem?_eq_none (by omega)]
theorem same_not {xs ys : List ByteArray} {x y : ByteArray} {k : Nat} (hx : xs[k]? = some x) (hy : ys[k]? = some y) (h : x ≠ y) : decide (xs = ys) = false := by
  refine decide_eq_false fun e => h ?_
  rw [e, hy] at hx
  exact (Option.some.inj hx).symm
theorem same_len {xs ys : List ByteArray} (h : xs.length ≠ ys.length) : decide (xs = ys) = false := decide_eq_false fun e => h (by rw [e])

set_option maxHeartbeats 1000000 in
theorem equalS_lib (v u : Value) (hi hi' : Nat) (xs ys : List ByteArray) (w : World) (hr : ReadsK encS 1 hi w v xs) (hr' : ReadsK encS 1 hi' w u ys) :
    Calls Tryd.prog 78 #[v, u] w fun e w' => e = .returned (.bool (decide (xs = ys))) ∧ Grw w w' := by
  obtain ⟨a, cap, rfl, hc1, hc2, _⟩ := id hr
  obtain ⟨a', cap', rfl, hc1', hc2', _⟩ := id hr'
  by_cases hl : xs.length = ys.length
  · obtain ⟨n, hn⟩ : ∃ n, ys.length = n := ⟨_, rfl⟩
    have hx := hl.trans hn
    rw [hx] at hr hc1; rw [hx, hn]; rw [hn] at hr' hc1'
    have HX := Lib.hid hx; have HY := Lib.hid hn; have HR := Lib.hid hr; have HR' := Lib.hid hr'; clear hx hn hr hr' hl
    have hnn : ((n : Int) == (n : Int)) = true := beq_self_eq_true _
    have hnb : ((n : Int) != (n : Int)) = false := by rw [bne, hnn]; rfl
    go_enter Tryd.func78, Tryd.ntmps78
    go_wp2
    go_loopw [13] (fun i wr => ∃ (k : Nat), k ≤ n ∧ i = .int .i64 k ∧ sameTo xs ys k ∧ Grw w wr) (fun i _ => n - (intOf i).toNat)
    case atStart => exact ⟨0, Nat.zero_le _, rfl, sameTo.zero _ _, Grw.refl _⟩
    case round =>
      obtain ⟨k, hk, rfl, hs, hg⟩ := hrel
      have HS := Lib.hid hs; have HG := Lib.hid hg; clear hs hg
      by_cases hlt : (k : Int) < (n : Int)
      · obtain ⟨x, hx⟩ := ssAt (xs := xs) (j := k) (by have := HX.out; omega)
        obtain ⟨y, hy⟩ := ssAt (xs := ys) (j := k) (by have := HY.out; omega)
        obtain ⟨g, off, rfl, hg, c0⟩ := str_cell HR.out hx
        obtain ⟨g', off', rfl, hg', c1⟩ := str_cell HR'.out hy
        replace c0 := (HG.out.below.cell (show (⟨g, off + k, none⟩ : Addr).block < _ from World.block_lt_of_cell? _ _ c0)).trans c0
        replace c1 := (HG.out.below.cell (show (⟨g', off' + k, none⟩ : Addr).block < _ from World.block_lt_of_cell? _ _ c1)).trans c1
        clear hg hg'
        have HXA := Lib.hid hx; have HYA := Lib.hid hy; clear hx hy
        by_cases e1 : x = y
        · have e2 : (x.toList == y.toList) = true := beqL_yes e1
          have e3 : (x.toList != y.toList) = false := by rw [bne, e2]; rfl
          have HN := Lib.hid (HS.out.succ HXA.out (by rw [HYA.out, e1]))
          clear e1
          go_wp2
          go_quiet (fail)
          go_wp2
          go_roundw
          case rel => exact ⟨k + 1, by omega, by go_num, HN.out, HG.out.drewN _⟩
          case measure => simp [intOf]; omega
        · have e2 : (x.toList == y.toList) = false := beqL_no e1
          have e3 : (x.toList != y.toList) = true := by rw [bne, e2]; rfl
          have HV := Lib.hid (same_not HXA.out HYA.out e1)
          clear e1
          go_wp2
          go_quiet (fail)
          go_wp2
          go_ret
          exact ⟨by rw [HV.out]; rfl, HG.out.drewN _⟩
      · have hlf : decide ((k : Int) < (n : Int)) = false := decide_eq_false hlt
        have HV := Lib.hid (same_all (k := n) (by rw [show n = k by omega]; exact HS.out) HX.out HY.out)
        go_wp2
        go_ret
        exact ⟨by rw [HV.out]; rfl, HG.out⟩
  · have HV := Lib.hid (same_len hl)
    obtain ⟨n, hn⟩ : ∃ n, xs.length = n := ⟨_, rfl⟩
    obtain ⟨n', hn'⟩ : ∃ n, ys.length = n := ⟨_, rfl⟩
    rw [hn] at hc1 hl; rw [hn, hn']; rw [hn'] at hc1' hl
    have hnn : ((n : Int) == (n' : Int)) = false := beq_eq_false_iff_ne.2 (by omega)
    have hnb : ((n : Int) != (n' : Int)) = true := by rw [bne, hnn]; rfl
    clear hr hr' hn hn' hl
    go_enter Tryd.func78, Tryd.ntmps78
    go_wp2
    go_ret
    exact ⟨by rw [HV.out]; rfl, Grw.refl _⟩

end Go.Proofs.YtpkicliimhflgaaDoor
namespace Go.Proofs.YtpkicliimhflgaaDoor
open Go.ChangeShapes Go.WideShapes Go.ChangeAt Go.RowKit

theorem empP_size (s : ByteArray) : (s.toList == []) = decide (s.size = 0) := by
  by_cases h : s.size = 0
  · obtain rfl := emptyB h; rw [ByteArray.toList_eq]; rfl
  · rw [decide_eq_false h]
    refine beq_eq_false_iff_ne.2 fun e => h ?_
    rw [ByteArray.toList_eq] at e
    rw [← size_list, e]; rfl

/-- KindName. -/
def knB (k : Int) : ByteArray := if k = 1 then ⟨#[112, 97, 103, 101]⟩ else if k = 2 then ⟨#[115, 99, 114, 105, 112, 116]⟩ else if k = 3 then ⟨#[115, 116, 121, 108, 101]⟩ else if k = 4 then ⟨#[105, 109, 97, 103, 101]⟩ else if k = 5 then ⟨#[109, 111, 100, 117, 108, 101]⟩ else ⟨#[]⟩

end Go.Proofs.YtpkicliimhflgaaDoor
namespace Go.Proofs.YtpkicliimhflgaaDoor
open Go.ChangeShapes Go.WideShapes Go.ChangeAt Go.RowKit

set_option maxRecDepth 100000 in
set_option maxHeartbeats 4000000 in
theorem eqPol_impl (set : Bool) (scr sty img : List ByteArray) (non : ByteArray) (a1 : Option Addr) (n1 c1 : Nat) (a2 : Option Addr) (n2 c2 : Nat) (a3 : Option Addr) (n3 c3 : Nat) (set' : Bool) (scr' sty' img' : List ByteArray) (non' : ByteArray) (a1' : Option Addr) (n1' c1' : Nat) (a2' : Option Addr) (n2' c2' : Nat) (a3' : Option Addr) (n3' c3' : Nat) (w : World) (hr : ReadP w.heap.size w (.slice a1 n1 c1) (.slice a2 n2 c2) (.slice a3 n3 c3) ⟨set, scr, sty, img, non⟩) (hr' : ReadP w.heap.size w (.slice a1' n1' c1') (.slice a2' n2' c2') (.slice a3' n3' c3') ⟨set', scr', sty', img', non'⟩) :
    Calls Tryd.prog 70 #[.agg #[.bool set, .slice a1 n1 c1, .slice a2 n2 c2, .slice a3 n3 c3, .string non], .agg #[.bool set', .slice a1' n1' c1', .slice a2' n2' c2', .slice a3' n3' c3', .string non']] w fun e w' => e = .returned (.bool (eqP ⟨set, scr, sty, img, non⟩ ⟨set', scr', sty', img', non'⟩)) ∧ Grw w w' := by
  obtain ⟨W, hW⟩ : ∃ W, (w.alloc (.cells #[.bool set, .slice a1 n1 c1, .slice a2 n2 c2, .slice a3 n3 c3, .string non] 75)).alloc (.cells #[.bool set', .slice a1' n1' c1', .slice a2' n2' c2', .slice a3' n3' c3', .string non'] 75) = W := ⟨_, rfl⟩
  have HG := Lib.hid (show Grw w W by rw [← hW]; exact ((Grw.refl w).alloc _).alloc _)
  have q0 : W.cell? ⟨w.heap.size, 0, none⟩ = some (.bool set) := by rw [← hW]; simp
  have p0 : W.cell? ⟨w.heap.size + 1, 0, none⟩ = some (.bool set') := by rw [← hW]; simp
  have q1 : W.cell? ⟨w.heap.size, 1, none⟩ = some (.slice a1 n1 c1) := by rw [← hW]; simp
  have p1 : W.cell? ⟨w.heap.size + 1, 1, none⟩ = some (.slice a1' n1' c1') := by rw [← hW]; simp
  have q2 : W.cell? ⟨w.heap.size, 2, none⟩ = some (.slice a2 n2 c2) := by rw [← hW]; simp
  have p2 : W.cell? ⟨w.heap.size + 1, 2, none⟩ = some (.slice a2' n2' c2') := by rw [← hW]; simp
  have q3 : W.cell? ⟨w.heap.size, 3, none⟩ = some (.slice a3 n3 c3) := by rw [← hW]; simp
  have p3 : W.cell? ⟨w.heap.size + 1, 3, none⟩ = some (.slice a3' n3' c3') := by rw [← hW]; simp
  have q4 : W.cell? ⟨w.heap.size, 4, none⟩ = some (.string non) := by rw [← hW]; simp
  have p4 : W.cell? ⟨w.heap.size + 1, 4, none⟩ = some (.string non') := by rw [← hW]; simp
  obtain ⟨hr1, hr2, hr3⟩ := (hr.below HG.out.below (Nat.le_refl _)).mono HG.out.below.size
  obtain ⟨hs1, hs2, hs3⟩ := (hr'.below HG.out.below (Nat.le_refl _)).mono HG.out.below.size
  have HC1 := Lib.hid (fun (X : World) (hg : Grw W X) => equalS_lib _ _ _ _ _ _ X (hr1.grw (Nat.le_refl _) hg) (hs1.grw (Nat.le_refl _) hg))
  have HC2 := Lib.hid (fun (X : World) (hg : Grw W X) => equalS_lib _ _ _ _ _ _ X (hr2.grw (Nat.le_refl _) hg) (hs2.grw (Nat.le_refl _) hg))
  have HC3 := Lib.hid (fun (X : World) (hg : Grw W X) => equalS_lib _ _ _ _ _ _ X (hr3.grw (Nat.le_refl _) hg) (hs3.grw (Nat.le_refl _) hg))
  clear hr hr' hr1 hr2 hr3 hs1 hs2 hs3
  have HIP := Lib.hid (show eqP ⟨set, scr, sty, img, non⟩ ⟨set', scr', sty', img', non'⟩ = ((set == set') && decide (scr = scr') && decide (sty = sty') && decide (img = img') && decide (non = non')) from rfl)
  by_cases h0 : set = set'
  · have e0 : (set == set') = true := beq_iff_eq.2 h0
    rw [e0] at HIP; clear h0
    by_cases h1 : non = non'
    · have e1 : (non.toList == non'.toList) = true := beqL_yes h1
      rw [show decide (non = non') = true from decide_eq_true h1] at HIP; clear h1
      cases h2 : decide (scr = scr') with
      | false =>
        rw [h2] at HIP; simp only [h2] at HC1; clear h2
        have HV := Lib.hid (show eqP ⟨set, scr, sty, img, non⟩ ⟨set', scr', sty', img', non'⟩ = false by rw [HIP.out]; simp)
        go_enter Tryd.func70, Tryd.ntmps70
        go_wp2_with fail
        have HGW := Lib.hid (Grw.refl W)
        refine (HC1.out _ HGW.out).mono ?_
        rintro e x0 ⟨rfl, hg0⟩
        replace q0 := (hg0.below.cell (show (⟨w.heap.size, 0, none⟩ : Addr).block < _ from World.block_lt_of_cell? _ _ q0)).trans q0
        replace p0 := (hg0.below.cell (show (⟨w.heap.size + 1, 0, none⟩ : Addr).block < _ from World.block_lt_of_cell? _ _ p0)).trans p0
        replace q1 := (hg0.below.cell (show (⟨w.heap.size, 1, none⟩ : Addr).block < _ from World.block_lt_of_cell? _ _ q1)).trans q1
        replace p1 := (hg0.below.cell (show (⟨w.heap.size + 1, 1, none⟩ : Addr).block < _ from World.block_lt_of_cell? _ _ p1)).trans p1
        replace q2 := (hg0.below.cell (show (⟨w.heap.size, 2, none⟩ : Addr).block < _ from World.block_lt_of_cell? _ _ q2)).trans q2
        replace p2 := (hg0.below.cell (show (⟨w.heap.size + 1, 2, none⟩ : Addr).block < _ from World.block_lt_of_cell? _ _ p2)).trans p2
        replace q3 := (hg0.below.cell (show (⟨w.heap.size, 3, none⟩ : Addr).block < _ from World.block_lt_of_cell? _ _ q3)).trans q3
        replace p3 := (hg0.below.cell (show (⟨w.heap.size + 1, 3, none⟩ : Addr).block < _ from World.block_lt_of_cell? _ _ p3)).trans p3
        replace q4 := (hg0.below.cell (show (⟨w.heap.size, 4, none⟩ : Addr).block < _ from World.block_lt_of_cell? _ _ q4)).trans q4
        replace p4 := (hg0.below.cell (show (⟨w.heap.size + 1, 4, none⟩ : Addr).block < _ from World.block_lt_of_cell? _ _ p4)).trans p4
        replace HGW := Lib.hid (HGW.out.trans hg0); clear hg0
        go_wp2_with fail
        go_ret
        exact ⟨by rw [HV.out]; rfl, HG.out.trans HGW.out⟩
      | true =>
        rw [h2] at HIP; simp only [h2] at HC1; clear h2
        cases h3 : decide (sty = sty') with
        | false =>
          rw [h3] at HIP; simp only [h3] at HC2; clear h3
          have HV := Lib.hid (show eqP ⟨set, scr, sty, img, non⟩ ⟨set', scr', sty', img', non'⟩ = false by rw [HIP.out]; simp)
          go_enter Tryd.func70, Tryd.ntmps70
          go_wp2_with fail
          have HGW := Lib.hid (Grw.refl W)
          refine (HC1.out _ HGW.out).mono ?_
          rintro e x0 ⟨rfl, hg0⟩
          replace q0 := (hg0.below.cell (show (⟨w.heap.size, 0, none⟩ : Addr).block < _ from World.block_lt_of_cell? _ _ q0)).trans q0
          replace p0 := (hg0.below.cell (show (⟨w.heap.size + 1, 0, none⟩ : Addr).block < _ from World.block_lt_of_cell? _ _ p0)).trans p0
          replace q1 := (hg0.below.cell (show (⟨w.heap.size, 1, none⟩ : Addr).block < _ from World.block_lt_of_cell? _ _ q1)).trans q1
          replace p1 := (hg0.below.cell (show (⟨w.heap.size + 1, 1, none⟩ : Addr).block < _ from World.block_lt_of_cell? _ _ p1)).trans p1
          replace q2 := (hg0.below.cell (show (⟨w.heap.size, 2, none⟩ : Addr).block < _ from World.block_lt_of_cell? _ _ q2)).trans q2
          replace p2 := (hg0.below.cell (show (⟨w.heap.size + 1, 2, none⟩ : Addr).block < _ from World.block_lt_of_cell? _ _ p2)).trans p2
          replace q3 := (hg0.below.cell (show (⟨w.heap.size, 3, none⟩ : Addr).block < _ from World.block_lt_of_cell? _ _ q3)).trans q3
          replace p3 := (hg0.below.cell (show (⟨w.heap.size + 1, 3, none⟩ : Addr).block < _ from World.block_lt_of_cell? _ _ p3)).trans p3
          replace q4 := (hg0.below.cell (show (⟨w.heap.size, 4, none⟩ : Addr).block < _ from World.block_lt_of_cell? _ _ q4)).trans q4
          replace p4 := (hg0.below.cell (show (⟨w.heap.size + 1, 4, none⟩ : Addr).block < _ from World.block_lt_of_cell? _ _ p4)).trans p4
          replace HGW := Lib.hid (HGW.out.trans hg0); clear hg0
          go_wp2_with fail
          refine (HC2.out _ HGW.out).mono ?_
          rintro e x1 ⟨rfl, hg1⟩
          replace q0 := (hg1.below.cell (show (⟨w.heap.size, 0, none⟩ : Addr).block < _ from World.block_lt_of_cell? _ _ q0)).trans q0
          replace p0 := (hg1.below.cell (show (⟨w.heap.size + 1, 0, none⟩ : Addr).block < _ from World.block_lt_of_cell? _ _ p0)).trans p0
          replace q1 := (hg1.below.cell (show (⟨w.heap.size, 1, none⟩ : Addr).block < _ from World.block_lt_of_cell? _ _ q1)).trans q1
          replace p1 := (hg1.below.cell (show (⟨w.heap.size + 1, 1, none⟩ : Addr).block < _ from World.block_lt_of_cell? _ _ p1)).trans p1
          replace q2 := (hg1.below.cell (show (⟨w.heap.size, 2, none⟩ : Addr).block < _ from World.block_lt_of_cell? _ _ q2)).trans q2
          replace p2 := (hg1.below.cell (show (⟨w.heap.size + 1, 2, none⟩ : Addr).block < _ from World.block_lt_of_cell? _ _ p2)).trans p2
          replace q3 := (hg1.below.cell (show (⟨w.heap.size, 3, none⟩ : Addr).block < _ from World.block_lt_of_cell? _ _ q3)).trans q3
          replace p3 := (hg1.below.cell (show (⟨w.heap.size + 1, 3, none⟩ : Addr).block < _ from World.block_lt_of_cell? _ _ p3)).trans p3
          replace q4 := (hg1.below.cell (show (⟨w.heap.size, 4, none⟩ : Addr).block < _ from World.block_lt_of_cell? _ _ q4)).trans q4
          replace p4 := (hg1.below.cell (show (⟨w.heap.size + 1, 4, none⟩ : Addr).block < _ from World.block_lt_of_cell? _ _ p4)).trans p4
          replace HGW := Lib.hid (HGW.out.trans hg1); clear hg1
          go_wp2_with fail
          go_ret
          exact ⟨by rw [HV.out]; rfl, HG.out.trans HGW.out⟩
        | true =>
          rw [h3] at HIP; simp only [h3] at HC2; clear h3
          cases h4 : decide (img = img') with
          | false =>
            rw [h4] at HIP; simp only [h4] at HC3; clear h4
            have HV := Lib.hid (show eqP ⟨set, scr, sty, img, non⟩ ⟨set', scr', sty', img', non'⟩ = false by rw [HIP.out]; simp)
            go_enter Tryd.func70, Tryd.ntmps70
            go_wp2_with fail
            have HGW := Lib.hid (Grw.refl W)
            refine (HC1.out _ HGW.out).mono ?_
            rintro e x0 ⟨rfl, hg0⟩
            replace q0 := (hg0.below.cell (show (⟨w.heap.size, 0, none⟩ : Addr).block < _ from World.block_lt_of_cell? _ _ q0)).trans q0
            replace p0 := (hg0.below.cell (show (⟨w.heap.size + 1, 0, none⟩ : Addr).block < _ from World.block_lt_of_cell? _ _ p0)).trans p0
            replace q1 := (hg0.below.cell (show (⟨w.heap.size, 1, none⟩ : Addr).block < _ from World.block_lt_of_cell? _ _ q1)).trans q1
            replace p1 := (hg0.below.cell (show (⟨w.heap.size + 1, 1, none⟩ : Addr).block < _ from World.block_lt_of_cell? _ _ p1)).trans p1
            replace q2 := (hg0.below.cell (show (⟨w.heap.size, 2, none⟩ : Addr).block < _ from World.block_lt_of_cell? _ _ q2)).trans q2
            replace p2 := (hg0.below.cell (show (⟨w.heap.size + 1, 2, none⟩ : Addr).block < _ from World.block_lt_of_cell? _ _ p2)).trans p2
            replace q3 := (hg0.below.cell (show (⟨w.heap.size, 3, none⟩ : Addr).block < _ from World.block_lt_of_cell? _ _ q3)).trans q3
            replace p3 := (hg0.below.cell (show (⟨w.heap.size + 1, 3, none⟩ : Addr).block < _ from World.block_lt_of_cell? _ _ p3)).trans p3
            replace q4 := (hg0.below.cell (show (⟨w.heap.size, 4, none⟩ : Addr).block < _ from World.block_lt_of_cell? _ _ q4)).trans q4
            replace p4 := (hg0.below.cell (show (⟨w.heap.size + 1, 4, none⟩ : Addr).block < _ from World.block_lt_of_cell? _ _ p4)).trans p4
            replace HGW := Lib.hid (HGW.out.trans hg0); clear hg0
            go_wp2_with fail
            refine (HC2.out _ HGW.out).mono ?_
            rintro e x1 ⟨rfl, hg1⟩
            replace q0 := (hg1.below.cell (show (⟨w.heap.size, 0, none⟩ : Addr).block < _ from World.block_lt_of_cell? _ _ q0)).trans q0
            replace p0 := (hg1.below.cell (show (⟨w.heap.size + 1, 0, none⟩ : Addr).block < _ from World.block_lt_of_cell? _ _ p0)).trans p0
            replace q1 := (hg1.below.cell (show (⟨w.heap.size, 1, none⟩ : Addr).block < _ from World.block_lt_of_cell? _ _ q1)).trans q1
            replace p1 := (hg1.below.cell (show (⟨w.heap.size + 1, 1, none⟩ : Addr).block < _ from World.block_lt_of_cell? _ _ p1)).trans p1
            replace q2 := (hg1.below.cell (show (⟨w.heap.size, 2, none⟩ : Addr).block < _ from World.block_lt_of_cell? _ _ q2)).trans q2
            replace p2 := (hg1.below.cell (show (⟨w.heap.size + 1, 2, none⟩ : Addr).block < _ from World.block_lt_of_cell? _ _ p2)).trans p2
            replace q3 := (hg1.below.cell (show (⟨w.heap.size, 3, none⟩ : Addr).block < _ from World.block_lt_of_cell? _ _ q3)).trans q3
            replace p3 := (hg1.below.cell (show (⟨w.heap.size + 1, 3, none⟩ : Addr).block < _ from World.block_lt_of_cell? _ _ p3)).trans p3
            replace q4 := (hg1.below.cell (show (⟨w.heap.size, 4, none⟩ : Addr).block < _ from World.block_lt_of_cell? _ _ q4)).trans q4
            replace p4 := (hg1.below.cell (show (⟨w.heap.size + 1, 4, none⟩ : Addr).block < _ from World.block_lt_of_cell? _ _ p4)).trans p4
            replace HGW := Lib.hid (HGW.out.trans hg1); clear hg1
            go_wp2_with fail
            refine (HC3.out _ HGW.out).mono ?_
            rintro e x2 ⟨rfl, hg2⟩
            replace q0 := (hg2.below.cell (show (⟨w.heap.size, 0, none⟩ : Addr).block < _ from World.block_lt_of_cell? _ _ q0)).trans q0
            replace p0 := (hg2.below.cell (show (⟨w.heap.size + 1, 0, none⟩ : Addr).block < _ from World.block_lt_of_cell? _ _ p0)).trans p0
            replace q1 := (hg2.below.cell (show (⟨w.heap.size, 1, none⟩ : Addr).block < _ from World.block_lt_of_cell? _ _ q1)).trans q1
            replace p1 := (hg2.below.cell (show (⟨w.heap.size + 1, 1, none⟩ : Addr).block < _ from World.block_lt_of_cell? _ _ p1)).trans p1
            replace q2 := (hg2.below.cell (show (⟨w.heap.size, 2, none⟩ : Addr).block < _ from World.block_lt_of_cell? _ _ q2)).trans q2
            replace p2 := (hg2.below.cell (show (⟨w.heap.size + 1, 2, none⟩ : Addr).block < _ from World.block_lt_of_cell? _ _ p2)).trans p2
            replace q3 := (hg2.below.cell (show (⟨w.heap.size, 3, none⟩ : Addr).block < _ from World.block_lt_of_cell? _ _ q3)).trans q3
            replace p3 := (hg2.below.cell (show (⟨w.heap.size + 1, 3, none⟩ : Addr).block < _ from World.block_lt_of_cell? _ _ p3)).trans p3
            replace q4 := (hg2.below.cell (show (⟨w.heap.size, 4, none⟩ : Addr).block < _ from World.block_lt_of_cell? _ _ q4)).trans q4
            replace p4 := (hg2.below.cell (show (⟨w.heap.size + 1, 4, none⟩ : Addr).block < _ from World.block_lt_of_cell? _ _ p4)).trans p4
            replace HGW := Lib.hid (HGW.out.trans hg2); clear hg2
            go_wp2_with fail
            go_ret
            exact ⟨by rw [HV.out]; rfl, HG.out.trans HGW.out⟩
          | true =>
            rw [h4] at HIP; simp only [h4] at HC3; clear h4
            have HV := Lib.hid (show eqP ⟨set, scr, sty, img, non⟩ ⟨set', scr', sty', img', non'⟩ = true by rw [HIP.out]; rfl)
            go_enter Tryd.func70, Tryd.ntmps70
            go_wp2_with fail
            have HGW := Lib.hid (Grw.refl W)
            refine (HC1.out _ HGW.out).mono ?_
            rintro e x0 ⟨rfl, hg0⟩
            replace q0 := (hg0.below.cell (show (⟨w.heap.size, 0, none⟩ : Addr).block < _ from World.block_lt_of_cell? _ _ q0)).trans q0
            replace p0 := (hg0.below.cell (show (⟨w.heap.size + 1, 0, none⟩ : Addr).block < _ from World.block_lt_of_cell? _ _ p0)).trans p0
            replace q1 := (hg0.below.cell (show (⟨w.heap.size, 1, none⟩ : Addr).block < _ from World.block_lt_of_cell? _ _ q1)).trans q1
            replace p1 := (hg0.below.cell (show (⟨w.heap.size + 1, 1, none⟩ : Addr).block < _ from World.block_lt_of_cell? _ _ p1)).trans p1
            replace q2 := (hg0.below.cell (show (⟨w.heap.size, 2, none⟩ : Addr).block < _ from World.block_lt_of_cell? _ _ q2)).trans q2
            replace p2 := (hg0.below.cell (show (⟨w.heap.size + 1, 2, none⟩ : Addr).block < _ from World.block_lt_of_cell? _ _ p2)).trans p2
            replace q3 := (hg0.below.cell (show (⟨w.heap.size, 3, none⟩ : Addr).block < _ from World.block_lt_of_cell? _ _ q3)).trans q3
            replace p3 := (hg0.below.cell (show (⟨w.heap.size + 1, 3, none⟩ : Addr).block < _ from World.block_lt_of_cell? _ _ p3)).trans p3
            replace q4 := (hg0.below.cell (show (⟨w.heap.size, 4, none⟩ : Addr).block < _ from World.block_lt_of_cell? _ _ q4)).trans q4
            replace p4 := (hg0.below.cell (show (⟨w.heap.size + 1, 4, none⟩ : Addr).block < _ from World.block_lt_of_cell? _ _ p4)).trans p4
            replace HGW := Lib.hid (HGW.out.trans hg0); clear hg0
            go_wp2_with fail
            refine (HC2.out _ HGW.out).mono ?_
            rintro e x1 ⟨rfl, hg1⟩
            replace q0 := (hg1.below.cell (show (⟨w.heap.size, 0, none⟩ : Addr).block < _ from World.block_lt_of_cell? _ _ q0)).trans q0
            replace p0 := (hg1.below.cell (show (⟨w.heap.size + 1, 0, none⟩ : Addr).block < _ from World.block_lt_of_cell? _ _ p0)).trans p0
            replace q1 := (hg1.below.cell (show (⟨w.heap.size, 1, none⟩ : Addr).block < _ from World.block_lt_of_cell? _ _ q1)).trans q1
            replace p1 := (hg1.below.cell (show (⟨w.heap.size + 1, 1, none⟩ : Addr).block < _ from World.block_lt_of_cell? _ _ p1)).trans p1
            replace q2 := (hg1.below.cell (show (⟨w.heap.size, 2, none⟩ : Addr).block < _ from World.block_lt_of_cell? _ _ q2)).trans q2
            replace p2 := (hg1.below.cell (show (⟨w.heap.size + 1, 2, none⟩ : Addr).block < _ from World.block_lt_of_cell? _ _ p2)).trans p2
            replace q3 := (hg1.below.cell (show (⟨w.heap.size, 3, none⟩ : Addr).block < _ from World.block_lt_of_cell? _ _ q3)).trans q3
            replace p3 := (hg1.below.cell (show (⟨w.heap.size + 1, 3, none⟩ : Addr).block < _ from World.block_lt_of_cell? _ _ p3)).trans p3
            replace q4 := (hg1.below.cell (show (⟨w.heap.size, 4, none⟩ : Addr).block < _ from World.block_lt_of_cell? _ _ q4)).trans q4
            replace p4 := (hg1.below.cell (show (⟨w.heap.size + 1, 4, none⟩ : Addr).block < _ from World.block_lt_of_cell? _ _ p4)).trans p4
            replace HGW := Lib.hid (HGW.out.trans hg1); clear hg1
            go_wp2_with fail
            refine (HC3.out _ HGW.out).mono ?_
            rintro e x2 ⟨rfl, hg2⟩
            replace q0 := (hg2.below.cell (show (⟨w.heap.size, 0, none⟩ : Addr).block < _ from World.block_lt_of_cell? _ _ q0)).trans q0
            replace p0 := (hg2.below.cell (show (⟨w.heap.size + 1, 0, none⟩ : Addr).block < _ from World.block_lt_of_cell? _ _ p0)).trans p0
            replace q1 := (hg2.below.cell (show (⟨w.heap.size, 1, none⟩ : Addr).block < _ from World.block_lt_of_cell? _ _ q1)).trans q1
            replace p1 := (hg2.below.cell (show (⟨w.heap.size + 1, 1, none⟩ : Addr).block < _ from World.block_lt_of_cell? _ _ p1)).trans p1
            replace q2 := (hg2.below.cell (show (⟨w.heap.size, 2, none⟩ : Addr).block < _ from World.block_lt_of_cell? _ _ q2)).trans q2
            replace p2 := (hg2.below.cell (show (⟨w.heap.size + 1, 2, none⟩ : Addr).block < _ from World.block_lt_of_cell? _ _ p2)).trans p2
            replace q3 := (hg2.below.cell (show (⟨w.heap.size, 3, none⟩ : Addr).block < _ from World.block_lt_of_cell? _ _ q3)).trans q3
            replace p3 := (hg2.below.cell (show (⟨w.heap.size + 1, 3, none⟩ : Addr).block < _ from World.block_lt_of_cell? _ _ p3)).trans p3
            replace q4 := (hg2.below.cell (show (⟨w.heap.size, 4, none⟩ : Addr).block < _ from World.block_lt_of_cell? _ _ q4)).trans q4
            replace p4 := (hg2.below.cell (show (⟨w.heap.size + 1, 4, none⟩ : Addr).block < _ from World.block_lt_of_cell? _ _ p4)).trans p4
            replace HGW := Lib.hid (HGW.out.trans hg2); clear hg2
            go_wp2_with fail
            go_ret
            exact ⟨by rw [HV.out]; rfl, HG.out.trans HGW.out⟩
    · have e1 : (non.toList == non'.toList) = false := beqL_no h1
      rw [show decide (non = non') = false from decide_eq_false h1] at HIP; clear h1
      have HV := Lib.hid (show eqP ⟨set, scr, sty, img, non⟩ ⟨set', scr', sty', img', non'⟩ = false by rw [HIP.out]; simp)
      go_enter Tryd.func70, Tryd.ntmps70
      go_wp2_with fail
      have HGW := Lib.hid (Grw.refl W)
      go_ret
      exact ⟨by rw [HV.out]; rfl, HG.out.trans HGW.out⟩
  · have e0 : (set == set') = false := beq_eq_false_iff_ne.2 h0
    rw [e0] at HIP; clear h0
    have HV := Lib.hid (show eqP ⟨set, scr, sty, img, non⟩ ⟨set', scr', sty', img', non'⟩ = false by rw [HIP.out]; simp)
    go_enter Tryd.func70, Tryd.ntmps70
    go_wp2_with fail
    have HGW := Lib.hid (Grw.refl W)
    go_ret
    exact ⟨by rw [HV.out]; rfl, HG.out.trans HGW.out⟩

end Go.Proofs.YtpkicliimhflgaaDoor
namespace Go.Proofs.YtpkicliimhflgaaDoor
open Go.ChangeShapes Go.WideShapes Go.ChangeAt Go.RowKit

/-- The first k are names. -/
def nmTo (xs : List ByteArray) (k : Nat) : Prop := ∀ (j : Nat) (x : ByteArray), j < k → xs[j]? = some x → isNm x = true
theorem nmTo.zero (xs : List ByteArray) : nmTo xs 0 := fun _ _ h => absurd h (Nat.not_lt_zero _)
theorem nmTo.succ {xs : List ByteArray} {x : ByteArray} {k : Nat} (h : nmTo xs k) (hx : xs[k]? = some x) (hn : isNm x = true) : nmTo xs (k + 1) := by
  intro j y hj hy
  by_cases e : j = k
  · subst e; rw [hx] at hy; cases hy; exact hn
  · exact h j y (by omega) hy
theorem okHosts_full {xs : List ByteArray} {k : Nat} (h : nmTo xs k) (hk : xs.length = k) : okHosts xs = decide (xs.length ≤ 4) := by
  unfold okHosts
  have : xs.all isNm = true := List.all_eq_true.2 fun x hx => by
    obtain ⟨j, hj⟩ := List.mem_iff_getElem?.1 hx
    exact h j x (by have := (List.getElem?_eq_some_iff.1 hj).1; omega) hj
  rw [this, Bool.and_true]
theorem okHosts_bad {xs : List ByteArray} {x : ByteArray} {k : Nat} (hx : xs[k]? = some x) (h : isNm x = false) : okHosts xs = false := by
  unfold okHosts
  have : xs.all isNm = false := by
    rw [Bool.eq_false_iff]
    intro ha
    have := List.all_eq_true.1 ha x (List.mem_of_getElem? hx)
    rw [h] at this; cases this
  rw [this, Bool.and_false]
theorem okHosts_long {xs : List ByteArray} (h : ¬ xs.length ≤ 4) : okHosts xs = false := by
  unfold okHosts; rw [decide_eq_false h, Bool.false_and]

theorem nilReads (hi : Nat) (w : World) : ReadsK encS 1 hi w (.slice none 0 0) [] := ⟨none, 0, rfl, Nat.le_refl _, by omega, (fun _ => rfl), Or.inl rfl⟩
theorem ReadsK.len {hi n c : Nat} {w : World} {a : Option Addr} {xs : List ByteArray} (h : ReadsK encS 1 hi w (.slice a n c) xs) : n = xs.length := by
  obtain ⟨_, _, e, _⟩ := h
  injection e

/-- The strings of a policy are not too long. -/
def PolSm (p : Pol) : Prop := (p.scr.length + sumSt p.scr ≤ 1048576) ∧ (p.sty.length + sumSt p.sty ≤ 1048576) ∧ (p.img.length + sumSt p.img ≤ 1048576) ∧ p.non.size ≤ 1048576
theorem small_of {xs : List ByteArray} (h : xs.length + sumSt xs ≤ 1048576) : ∀ s ∈ xs, s.size ≤ 9223372036854775807 := fun s hs => by
  have := sum_le_at hs; unfold sumSt at h; omega
theorem isPol_off_no {scr sty img : List ByteArray} {non : ByteArray} (h : ¬ (scr.length = 0 ∧ sty.length = 0 ∧ img.length = 0 ∧ non.size = 0)) : isPol ⟨false, scr, sty, img, non⟩ = false := by
  rw [Bool.eq_false_iff]
  intro he
  unfold isPol at he
  rw [if_neg Bool.false_ne_true, Bool.and_eq_true, Bool.and_eq_true, Bool.and_eq_true] at he
  obtain ⟨⟨⟨a, b⟩, c⟩, d⟩ := he
  exact h ⟨of_decide_eq_true a, of_decide_eq_true b, of_decide_eq_true c, of_decide_eq_true d⟩
theorem isPol_off_yes {scr sty img : List ByteArray} {non : ByteArray} (h : scr.length = 0 ∧ sty.length = 0 ∧ img.length = 0 ∧ non.size = 0) : isPol ⟨false, scr, sty, img, non⟩ = true := by
  unfold isPol
  rw [if_neg Bool.false_ne_true, Bool.and_eq_true, Bool.and_eq_true, Bool.and_eq_true]
  exact ⟨⟨⟨decide_eq_true h.1, decide_eq_true h.2.1⟩, decide_eq_true h.2.2.1⟩, decide_eq_true h.2.2.2⟩
theorem isPol_eqZ (scr sty img : List ByteArray) (non : ByteArray) : eqP ⟨false, scr, sty, img, non⟩ polZ = isPol ⟨false, scr, sty, img, non⟩ := by
  have e : ∀ l : List ByteArray, decide (l = []) = decide (l.length = 0) := fun l => decide_eq_decide.2 List.length_eq_zero_iff.symm
  have e2 : decide (non = ⟨#[]⟩) = decide (non.size = 0) := decide_eq_decide.2 ⟨fun h => by rw [h]; rfl, emptyB⟩
  unfold eqP isPol polZ
  rw [if_neg Bool.false_ne_true]
  show ((false == false) && decide (scr = []) && decide (sty = []) && decide (img = []) && decide (non = ⟨#[]⟩)) = _
  rw [e, e, e, e2]; rfl

set_option maxRecDepth 100000 in
set_option maxHeartbeats 2000000 in
theorem names_spec (v : Value) (hi : Nat) (xs : List ByteArray) (w : World) (hr : ReadsK encS 1 hi w v xs) (hz : ∀ s ∈ xs, s.size ≤ 9223372036854775807) :
    Calls Tryd.prog 61 #[v] w fun e w' => e = .returned (.bool (okHosts xs)) ∧ w = w' := by
  obtain ⟨a, cap, rfl, hc1, hc2, _⟩ := id hr
  obtain ⟨n, hn⟩ : ∃ n, xs.length = n := ⟨_, rfl⟩
  rw [hn] at hr hc1 ⊢
  have HN := Lib.hid hn; have HR := Lib.hid hr; have HZ := Lib.hid hz; clear hn hr hz
  go_enter Tryd.func61, Tryd.ntmps61
  go_wp2
  go_loop [3] (fun i => ∃ (k : Nat), k ≤ n ∧ i = .int .i64 k ∧ nmTo xs k) (fun i => n - (intOf i).toNat)
  case atStart => exact ⟨0, Nat.zero_le _, rfl, nmTo.zero _⟩
  case round =>
    obtain ⟨k, hk, rfl, hnot⟩ := hrel
    have HNI := Lib.hid hnot; clear hnot
    by_cases hlt : (k : Int) < (n : Int)
    · obtain ⟨x, hx⟩ := ssAt (xs := xs) (j := k) (by have := HN.out; omega)
      obtain ⟨g, off, rfl, _, c0⟩ := str_cell HR.out hx
      have HX := Lib.hid hx; have hxz := HZ.out x (List.mem_of_getElem? hx); clear hx
      have HC := Lib.hid (fun W => nm_spec x hxz W)
      cases h1 : isNm x with
      | false =>
        have HV := Lib.hid (okHosts_bad HX.out h1)
        rw [h1] at HC; clear h1
        go_wp2_with (go_at_call 25; refine (HC.out _).mono ?_; rintro e w' ⟨rfl, rfl⟩)
        go_ret
        exact ⟨by rw [HV.out]; rfl, rfl⟩
      | true =>
        have HS := Lib.hid (HNI.out.succ HX.out h1)
        rw [h1] at HC; clear h1
        go_wp2_with (go_at_call 25; refine (HC.out _).mono ?_; rintro e w' ⟨rfl, rfl⟩)
        go_round
        case rel => exact ⟨k + 1, by omega, by go_num, HS.out⟩
        case measure => simp [intOf]; omega
    · have hlf : decide ((k : Int) < (n : Int)) = false := decide_eq_false hlt
      have HV := Lib.hid (okHosts_full (k := n) (by rw [show n = k by omega]; exact HNI.out) HN.out)
      by_cases h4 : (n : Int) ≤ 4
      · have h4d : decide ((n : Int) ≤ 4) = true := decide_eq_true h4
        have HW := Lib.hid (show okHosts xs = true by rw [HV.out, HN.out]; exact decide_eq_true (by omega))
        go_wp2
        go_ret
        exact ⟨by rw [HW.out]; rfl, rfl⟩
      · have h4d : decide ((n : Int) ≤ 4) = false := decide_eq_false h4
        have HW := Lib.hid (show okHosts xs = false by rw [HV.out, HN.out]; exact decide_eq_false (by omega))
        go_wp2
        go_ret
        exact ⟨by rw [HW.out]; rfl, rfl⟩

set_option maxRecDepth 100000 in
set_option maxHeartbeats 2000000 in
theorem names_impl (v : Value) (hi : Nat) (xs : List ByteArray) (w : World) (hr : ReadsK encS 1 hi w v xs) (hz : ∀ s ∈ xs, s.size ≤ 9223372036854775807) :
    Calls Tryd.prog 71 #[v] w fun e w' => e = .returned (.bool (okHosts xs)) ∧ w = w' := by
  obtain ⟨a, cap, rfl, hc1, hc2, _⟩ := id hr
  obtain ⟨n, hn⟩ : ∃ n, xs.length = n := ⟨_, rfl⟩
  rw [hn] at hr hc1 ⊢
  have HN := Lib.hid hn; have HR := Lib.hid hr; have HZ := Lib.hid hz; clear hn hr hz
  by_cases h4 : (4 : Int) < (n : Int)
  · have HV := Lib.hid (okHosts_long (xs := xs) (by have := HN.out; omega))
    go_enter Tryd.func71, Tryd.ntmps71
    go_wp2
    go_ret
    exact ⟨by rw [HV.out]; rfl, rfl⟩
  have h4d : decide ((4 : Int) < (n : Int)) = false := decide_eq_false h4
  go_enter Tryd.func71, Tryd.ntmps71
  go_wp2
  go_loop [10] (fun i => ∃ (k : Nat), k ≤ n ∧ i = .int .i64 k ∧ nmTo xs k) (fun i => n - (intOf i).toNat)
  case atStart => exact ⟨0, Nat.zero_le _, rfl, nmTo.zero _⟩
  case round =>
    obtain ⟨k, hk, rfl, hnot⟩ := hrel
    have HNI := Lib.hid hnot; clear hnot
    by_cases hlt : (k : Int) < (n : Int)
    · obtain ⟨x, hx⟩ := ssAt (xs := xs) (j := k) (by have := HN.out; omega)
      obtain ⟨g, off, rfl, _, c0⟩ := str_cell HR.out hx
      have HX := Lib.hid hx; have hxz := HZ.out x (List.mem_of_getElem? hx); clear hx
      have HC := Lib.hid (fun W => nm_impl x hxz W)
      cases h1 : isNm x with
      | false =>
        have HV := Lib.hid (okHosts_bad HX.out h1)
        rw [h1] at HC; clear h1
        go_wp2_with (go_at_call 28; refine (HC.out _).mono ?_; rintro e w' ⟨rfl, rfl⟩)
        go_ret
        exact ⟨by rw [HV.out]; rfl, rfl⟩
      | true =>
        have HS := Lib.hid (HNI.out.succ HX.out h1)
        rw [h1] at HC; clear h1
        go_wp2_with (go_at_call 28; refine (HC.out _).mono ?_; rintro e w' ⟨rfl, rfl⟩)
        go_round
        case rel => exact ⟨k + 1, by omega, by go_num, HS.out⟩
        case measure => simp [intOf]; omega
    · have hlf : decide ((k : Int) < (n : Int)) = false := decide_eq_false hlt
      have HV := Lib.hid (okHosts_full (k := n) (by rw [show n = k by omega]; exact HNI.out) HN.out)
      have HW := Lib.hid (show okHosts xs = true by rw [HV.out, HN.out]; exact decide_eq_true (by omega))
      go_wp2
      go_ret
      exact ⟨by rw [HW.out]; rfl, rfl⟩

set_option maxRecDepth 100000 in
set_option maxHeartbeats 4000000 in
theorem isPol_spec (set : Bool) (scr sty img : List ByteArray) (non : ByteArray) (a1 : Option Addr) (n1 c1 : Nat) (a2 : Option Addr) (n2 c2 : Nat) (a3 : Option Addr) (n3 c3 : Nat) (hz : PolSm ⟨set, scr, sty, img, non⟩) (w : World) (hr : ReadP w.heap.size w (.slice a1 n1 c1) (.slice a2 n2 c2) (.slice a3 n3 c3) ⟨set, scr, sty, img, non⟩) :
    Calls Tryd.prog 57 #[.agg #[.bool set, .slice a1 n1 c1, .slice a2 n2 c2, .slice a3 n3 c3, .string non]] w fun e w' => e = .returned (.bool (isPol ⟨set, scr, sty, img, non⟩)) ∧ Grw w w' := by
  obtain ⟨z1, z2, z3, z4⟩ := hz
  cases set with
  | false =>
    have k1 : n1 = scr.length := hr.1.len; have k2 : n2 = sty.length := hr.2.1.len; have k3 : n3 = img.length := hr.2.2.len
    obtain ⟨W, hW⟩ : ∃ W, w.alloc (.cells #[.bool false, .slice a1 n1 c1, .slice a2 n2 c2, .slice a3 n3 c3, .string non] 75) = W := ⟨_, rfl⟩
    have HG := Lib.hid (show Grw w W by rw [← hW]; exact (Grw.refl w).alloc _)
    have q0 : W.cell? ⟨w.heap.size, 0, none⟩ = some (.bool false) := by rw [← hW]; simp
    have q1 : W.cell? ⟨w.heap.size, 1, none⟩ = some (.slice a1 n1 c1) := by rw [← hW]; simp
    have q2 : W.cell? ⟨w.heap.size, 2, none⟩ = some (.slice a2 n2 c2) := by rw [← hW]; simp
    have q3 : W.cell? ⟨w.heap.size, 3, none⟩ = some (.slice a3 n3 c3) := by rw [← hW]; simp
    have q4 : W.cell? ⟨w.heap.size, 4, none⟩ = some (.string non) := by rw [← hW]; simp
    obtain ⟨hr1, hr2, hr3⟩ := (hr.below HG.out.below (Nat.le_refl _)).mono HG.out.below.size
    have HR1 := Lib.hid hr1; have HR2 := Lib.hid hr2; have HR3 := Lib.hid hr3; clear hr hr1 hr2 hr3
    clear z1 z2 z3 z4
    by_cases m1 : n1 = 0
    · have b1 : ((n1 : Int) == 0) = true := beq_iff_eq.2 (by omega)
      by_cases m2 : n2 = 0
      · have b2 : ((n2 : Int) == 0) = true := beq_iff_eq.2 (by omega)
        by_cases m3 : n3 = 0
        · have b3 : ((n3 : Int) == 0) = true := beq_iff_eq.2 (by omega)
          by_cases m4 : non.size = 0
          · have b4 : (non.toList == []) = true := by rw [empP_size, decide_eq_true m4]
            have HV := Lib.hid (isPol_off_yes (scr := scr) (sty := sty) (img := img) (non := non) (by omega))
            clear m1 m2 m3 m4 k1 k2 k3
            go_enter Tryd.func57, Tryd.ntmps57
            go_wp2_with fail
            go_ret
            exact ⟨by rw [HV.out]; rfl, HG.out⟩
          · have b4 : (non.toList == []) = false := by rw [empP_size, decide_eq_false m4]
            have HV := Lib.hid (isPol_off_no (scr := scr) (sty := sty) (img := img) (non := non) (by omega))
            clear m1 m2 m3 m4 k1 k2 k3
            go_enter Tryd.func57, Tryd.ntmps57
            go_wp2_with fail
            go_ret
            exact ⟨by rw [HV.out]; rfl, HG.out⟩
        · have b3 : ((n3 : Int) == 0) = false := beq_eq_false_iff_ne.2 (by omega)
          have HV := Lib.hid (isPol_off_no (scr := scr) (sty := sty) (img := img) (non := non) (by omega))
          clear m1 m2 m3 k1 k2 k3
          go_enter Tryd.func57, Tryd.ntmps57
          go_wp2_with fail
          go_ret
          exact ⟨by rw [HV.out]; rfl, HG.out⟩
      · have b2 : ((n2 : Int) == 0) = false := beq_eq_false_iff_ne.2 (by omega)
        have HV := Lib.hid (isPol_off_no (scr := scr) (sty := sty) (img := img) (non := non) (by omega))
        clear m1 m2 k1 k2 k3
        go_enter Tryd.func57, Tryd.ntmps57
        go_wp2_with fail
        go_ret
        exact ⟨by rw [HV.out]; rfl, HG.out⟩
    · have b1 : ((n1 : Int) == 0) = false := beq_eq_false_iff_ne.2 (by omega)
      have HV := Lib.hid (isPol_off_no (scr := scr) (sty := sty) (img := img) (non := non) (by omega))
      clear m1 k1 k2 k3
      go_enter Tryd.func57, Tryd.ntmps57
      go_wp2_with fail
      go_ret
      exact ⟨by rw [HV.out]; rfl, HG.out⟩
  | true =>
    obtain ⟨W, hW⟩ : ∃ W, w.alloc (.cells #[.bool true, .slice a1 n1 c1, .slice a2 n2 c2, .slice a3 n3 c3, .string non] 75) = W := ⟨_, rfl⟩
    have HG := Lib.hid (show Grw w W by rw [← hW]; exact (Grw.refl w).alloc _)
    have q0 : W.cell? ⟨w.heap.size, 0, none⟩ = some (.bool true) := by rw [← hW]; simp
    have q1 : W.cell? ⟨w.heap.size, 1, none⟩ = some (.slice a1 n1 c1) := by rw [← hW]; simp
    have q2 : W.cell? ⟨w.heap.size, 2, none⟩ = some (.slice a2 n2 c2) := by rw [← hW]; simp
    have q3 : W.cell? ⟨w.heap.size, 3, none⟩ = some (.slice a3 n3 c3) := by rw [← hW]; simp
    have q4 : W.cell? ⟨w.heap.size, 4, none⟩ = some (.string non) := by rw [← hW]; simp
    obtain ⟨hr1, hr2, hr3⟩ := (hr.below HG.out.below (Nat.le_refl _)).mono HG.out.below.size
    have HR1 := Lib.hid hr1; have HR2 := Lib.hid hr2; have HR3 := Lib.hid hr3; clear hr hr1 hr2 hr3
    have HC1 := Lib.hid (names_spec _ _ _ _ HR1.out (small_of z1))
    have HC2 := Lib.hid (names_spec _ _ _ _ HR2.out (small_of z2))
    have HC3 := Lib.hid (names_spec _ _ _ _ HR3.out (small_of z3))
    have HC4 := Lib.hid (fun X => val_spec non (by have := z4; simp only at this; omega) X)
    have HIP := Lib.hid (show isPol ⟨true, scr, sty, img, non⟩ = (okHosts scr && okHosts sty && okHosts img && (decide (non.size = 0) || isVal non)) from if_pos rfl)
    clear z1 z2 z3 z4
    cases h1 : okHosts scr with
    | false =>
      rw [h1] at HC1 HIP
      have HV := Lib.hid (show isPol ⟨true, scr, sty, img, non⟩ = false by rw [HIP.out]; simp); clear h1
      go_enter Tryd.func57, Tryd.ntmps57
      go_wp2_with fail
      refine HC1.out.mono ?_
      rintro e w1 ⟨rfl, rfl⟩
      go_wp2_with fail
      go_ret
      exact ⟨by rw [HV.out]; rfl, HG.out⟩
    | true =>
      rw [h1] at HC1 HIP; clear h1
      cases h2 : okHosts sty with
      | false =>
        rw [h2] at HC2 HIP
        have HV := Lib.hid (show isPol ⟨true, scr, sty, img, non⟩ = false by rw [HIP.out]; simp); clear h2
        go_enter Tryd.func57, Tryd.ntmps57
        go_wp2_with fail
        refine HC1.out.mono ?_
        rintro e w1 ⟨rfl, rfl⟩
        go_wp2_with fail
        refine HC2.out.mono ?_
        rintro e w2 ⟨rfl, rfl⟩
        go_wp2_with fail
        go_ret
        exact ⟨by rw [HV.out]; rfl, HG.out⟩
      | true =>
        rw [h2] at HC2 HIP; clear h2
        cases h3 : okHosts img with
        | false =>
          rw [h3] at HC3 HIP
          have HV := Lib.hid (show isPol ⟨true, scr, sty, img, non⟩ = false by rw [HIP.out]; simp); clear h3
          go_enter Tryd.func57, Tryd.ntmps57
          go_wp2_with fail
          refine HC1.out.mono ?_
          rintro e w1 ⟨rfl, rfl⟩
          go_wp2_with fail
          refine HC2.out.mono ?_
          rintro e w2 ⟨rfl, rfl⟩
          go_wp2_with fail
          refine HC3.out.mono ?_
          rintro e w3 ⟨rfl, rfl⟩
          go_wp2_with fail
          go_ret
          exact ⟨by rw [HV.out]; rfl, HG.out⟩
        | true =>
          rw [h3] at HC3 HIP; clear h3
          by_cases m4 : non.size = 0
          · have b4 : (non.toList == []) = true := by rw [empP_size, decide_eq_true m4]
            have HV := Lib.hid (show isPol ⟨true, scr, sty, img, non⟩ = true by rw [HIP.out, decide_eq_true m4]; rfl); clear m4
            go_enter Tryd.func57, Tryd.ntmps57
            go_wp2_with fail
            refine HC1.out.mono ?_
            rintro e w1 ⟨rfl, rfl⟩
            go_wp2_with fail
            refine HC2.out.mono ?_
            rintro e w2 ⟨rfl, rfl⟩
            go_wp2_with fail
            refine HC3.out.mono ?_
            rintro e w3 ⟨rfl, rfl⟩
            go_wp2_with fail
            go_ret
            exact ⟨by rw [HV.out]; rfl, HG.out⟩
          · have b4 : (non.toList == []) = false := by rw [empP_size, decide_eq_false m4]
            have HV := Lib.hid (show isPol ⟨true, scr, sty, img, non⟩ = isVal non by rw [HIP.out, decide_eq_false m4]; rfl); clear m4
            go_enter Tryd.func57, Tryd.ntmps57
            go_wp2_with fail
            refine HC1.out.mono ?_
            rintro e w1 ⟨rfl, rfl⟩
            go_wp2_with fail
            refine HC2.out.mono ?_
            rintro e w2 ⟨rfl, rfl⟩
            go_wp2_with fail
            refine HC3.out.mono ?_
            rintro e w3 ⟨rfl, rfl⟩
            go_wp2_with fail
            refine (HC4.out _).mono ?_
            rintro e w4 ⟨rfl, rfl⟩
            go_wp2_with fail
            go_ret
            exact ⟨by rw [HV.out]; rfl, HG.out⟩

set_option maxRecDepth 100000 in
set_option maxHeartbeats 4000000 in
theorem isPol_impl (set : Bool) (scr sty img : List ByteArray) (non : ByteArray) (a1 : Option Addr) (n1 c1 : Nat) (a2 : Option Addr) (n2 c2 : Nat) (a3 : Option Addr) (n3 c3 : Nat) (hz : PolSm ⟨set, scr, sty, img, non⟩) (w : World) (hr : ReadP w.heap.size w (.slice a1 n1 c1) (.slice a2 n2 c2) (.slice a3 n3 c3) ⟨set, scr, sty, img, non⟩) :
    Calls Tryd.prog 66 #[.agg #[.bool set, .slice a1 n1 c1, .slice a2 n2 c2, .slice a3 n3 c3, .string non]] w fun e w' => e = .returned (.bool (isPol ⟨set, scr, sty, img, non⟩)) ∧ Grw w w' := by
  obtain ⟨z1, z2, z3, z4⟩ := hz
  cases set with
  | false =>
    obtain ⟨W, hW⟩ : ∃ W, w.alloc (.cells #[.bool false, .slice a1 n1 c1, .slice a2 n2 c2, .slice a3 n3 c3, .string non] 75) = W := ⟨_, rfl⟩
    have HG := Lib.hid (show Grw w W by rw [← hW]; exact (Grw.refl w).alloc _)
    have q0 : W.cell? ⟨w.heap.size, 0, none⟩ = some (.bool false) := by rw [← hW]; simp
    have q1 : W.cell? ⟨w.heap.size, 1, none⟩ = some (.slice a1 n1 c1) := by rw [← hW]; simp
    have q2 : W.cell? ⟨w.heap.size, 2, none⟩ = some (.slice a2 n2 c2) := by rw [← hW]; simp
    have q3 : W.cell? ⟨w.heap.size, 3, none⟩ = some (.slice a3 n3 c3) := by rw [← hW]; simp
    have q4 : W.cell? ⟨w.heap.size, 4, none⟩ = some (.string non) := by rw [← hW]; simp
    obtain ⟨hr1, hr2, hr3⟩ := (hr.below HG.out.below (Nat.le_refl _)).mono HG.out.below.size
    have HR1 := Lib.hid hr1; have HR2 := Lib.hid hr2; have HR3 := Lib.hid hr3; clear hr hr1 hr2 hr3
    have HE := Lib.hid (show Calls Tryd.prog 70 #[.agg #[.bool false, .slice a1 n1 c1, .slice a2 n2 c2, .slice a3 n3 c3, .string non], .agg #[.bool false, .slice none 0 0, .slice none 0 0, .slice none 0 0, .string ⟨#[]⟩]] W fun e w' => e = .returned (.bool (isPol ⟨false, scr, sty, img, non⟩)) ∧ Grw W w' from by rw [← isPol_eqZ]; exact eqPol_impl false scr sty img non _ _ _ _ _ _ _ _ _ false [] [] [] ⟨#[]⟩ none 0 0 none 0 0 none 0 0 W ⟨HR1.out, HR2.out, HR3.out⟩ ⟨nilReads _ _, nilReads _ _, nilReads _ _⟩)
    clear z1 z2 z3 z4
    go_enter Tryd.func66, Tryd.ntmps66
    go_wp2_with fail
    refine HE.out.mono ?_
    rintro e w1 ⟨rfl, hg⟩
    have HG1 := Lib.hid (HG.out.trans hg); clear hg
    go_wp2_with fail
    go_ret
    exact ⟨rfl, HG1.out⟩
  | true =>
    obtain ⟨W, hW⟩ : ∃ W, w.alloc (.cells #[.bool true, .slice a1 n1 c1, .slice a2 n2 c2, .slice a3 n3 c3, .string non] 75) = W := ⟨_, rfl⟩
    have HG := Lib.hid (show Grw w W by rw [← hW]; exact (Grw.refl w).alloc _)
    have q0 : W.cell? ⟨w.heap.size, 0, none⟩ = some (.bool true) := by rw [← hW]; simp
    have q1 : W.cell? ⟨w.heap.size, 1, none⟩ = some (.slice a1 n1 c1) := by rw [← hW]; simp
    have q2 : W.cell? ⟨w.heap.size, 2, none⟩ = some (.slice a2 n2 c2) := by rw [← hW]; simp
    have q3 : W.cell? ⟨w.heap.size, 3, none⟩ = some (.slice a3 n3 c3) := by rw [← hW]; simp
    have q4 : W.cell? ⟨w.heap.size, 4, none⟩ = some (.string non) := by rw [← hW]; simp
    obtain ⟨hr1, hr2, hr3⟩ := (hr.below HG.out.below (Nat.le_refl _)).mono HG.out.below.size
    have HR1 := Lib.hid hr1; have HR2 := Lib.hid hr2; have HR3 := Lib.hid hr3; clear hr hr1 hr2 hr3
    have HC1 := Lib.hid (names_impl _ _ _ _ HR1.out (small_of z1))
    have HC2 := Lib.hid (names_impl _ _ _ _ HR2.out (small_of z2))
    have HC3 := Lib.hid (names_impl _ _ _ _ HR3.out (small_of z3))
    have HC4 := Lib.hid (fun X => val_impl non (by have := z4; simp only at this; omega) X)
    have HIP := Lib.hid (show isPol ⟨true, scr, sty, img, non⟩ = (okHosts scr && okHosts sty && okHosts img && (decide (non.size = 0) || isVal non)) from if_pos rfl)
    clear z1 z2 z3 z4
    cases h1 : okHosts scr with
    | false =>
      rw [h1] at HC1 HIP
      have HV := Lib.hid (show isPol ⟨true, scr, sty, img, non⟩ = false by rw [HIP.out]; simp); clear h1
      go_enter Tryd.func66, Tryd.ntmps66
      go_wp2_with fail
      refine HC1.out.mono ?_
      rintro e w1 ⟨rfl, rfl⟩
      go_wp2_with fail
      go_ret
      exact ⟨by rw [HV.out]; rfl, HG.out⟩
    | true =>
      rw [h1] at HC1 HIP; clear h1
      cases h2 : okHosts sty with
      | false =>
        rw [h2] at HC2 HIP
        have HV := Lib.hid (show isPol ⟨true, scr, sty, img, non⟩ = false by rw [HIP.out]; simp); clear h2
        go_enter Tryd.func66, Tryd.ntmps66
        go_wp2_with fail
        refine HC1.out.mono ?_
        rintro e w1 ⟨rfl, rfl⟩
        go_wp2_with fail
        refine HC2.out.mono ?_
        rintro e w2 ⟨rfl, rfl⟩
        go_wp2_with fail
        go_ret
        exact ⟨by rw [HV.out]; rfl, HG.out⟩
      | true =>
        rw [h2] at HC2 HIP; clear h2
        cases h3 : okHosts img with
        | false =>
          rw [h3] at HC3 HIP
          have HV := Lib.hid (show isPol ⟨true, scr, sty, img, non⟩ = false by rw [HIP.out]; simp); clear h3
          go_enter Tryd.func66, Tryd.ntmps66
          go_wp2_with fail
          refine HC1.out.mono ?_
          rintro e w1 ⟨rfl, rfl⟩
          go_wp2_with fail
          refine HC2.out.mono ?_
          rintro e w2 ⟨rfl, rfl⟩
          go_wp2_with fail
          refine HC3.out.mono ?_
          rintro e w3 ⟨rfl, rfl⟩
          go_wp2_with fail
          go_ret
          exact ⟨by rw [HV.out]; rfl, HG.out⟩
        | true =>
          rw [h3] at HC3 HIP; clear h3
          by_cases m4 : non.size = 0
          · have b4 : (non.toList == []) = true := by rw [empP_size, decide_eq_true m4]
            have HV := Lib.hid (show isPol ⟨true, scr, sty, img, non⟩ = true by rw [HIP.out, decide_eq_true m4]; rfl); clear m4
            go_enter Tryd.func66, Tryd.ntmps66
            go_wp2_with fail
            refine HC1.out.mono ?_
            rintro e w1 ⟨rfl, rfl⟩
            go_wp2_with fail
            refine HC2.out.mono ?_
            rintro e w2 ⟨rfl, rfl⟩
            go_wp2_with fail
            refine HC3.out.mono ?_
            rintro e w3 ⟨rfl, rfl⟩
            go_wp2_with fail
            go_ret
            exact ⟨by rw [HV.out]; rfl, HG.out⟩
          · have b4 : (non.toList == []) = false := by rw [empP_size, decide_eq_false m4]
            have HV := Lib.hid (show isPol ⟨true, scr, sty, img, non⟩ = isVal non by rw [HIP.out, decide_eq_false m4]; rfl); clear m4
            go_enter Tryd.func66, Tryd.ntmps66
            go_wp2_with fail
            refine HC1.out.mono ?_
            rintro e w1 ⟨rfl, rfl⟩
            go_wp2_with fail
            refine HC2.out.mono ?_
            rintro e w2 ⟨rfl, rfl⟩
            go_wp2_with fail
            refine HC3.out.mono ?_
            rintro e w3 ⟨rfl, rfl⟩
            go_wp2_with fail
            refine (HC4.out _).mono ?_
            rintro e w4 ⟨rfl, rfl⟩
            go_wp2_with fail
            go_ret
            exact ⟨by rw [HV.out]; rfl, HG.out⟩

end Go.Proofs.YtpkicliimhflgaaDoor
namespace Go.Proofs.YtpkicliimhflgaaDoor
open Go.ChangeShapes Go.WideShapes Go.ChangeAt Go.RowKit

theorem bl_tr {w X w' : World} (h : Below w.heap.size w X) (k : Below X.heap.size X w') : Below w.heap.size w w' := h.trans (k.mono h.size)
theorem bl_via {B : Nat} {w0 w X : World} (h : Below B w0 w) (hB : B ≤ w.heap.size) (k : Below w.heap.size w X) : Below B w0 X := h.trans (k.mono hB)
theorem bl_dw {B : Nat} {w w' : World} (h : Below B w w') : Below B w w'.drew := h.drew
theorem bl_aw {w w' : World} (h : Below w.heap.size w w') (o : Obj) : Below w.heap.size w (w'.alloc o) := h.alloc h.size o
theorem hq_dr {w : World} {g : Nat} {o : Obj} (h : w.heap[g]? = some o) : w.drew.heap[g]? = some o := h
theorem hq_nw {w : World} {g : Nat} {o : Obj} (h : w.heap.size = g) : (w.alloc o).heap[g]? = some o := by subst h; exact (MapKept.heap_alloc w o).1
theorem box_ca {w : World} {o o' : Obj} {g : Nat} (h : w.heap[g]? = some o) : (w.alloc o').heap[g]? = some o := by
  rw [Below.heap_alloc _ _ _ (heap_lt h)]; exact h
theorem box3_0 (w : World) (o1 o2 o3 : Obj) : (((w.alloc o1).alloc o2).alloc o3).heap[w.heap.size]? = some o1 := box_ca (box_ca (heap_alloc_new _ _))
theorem box3_1 (w : World) (o1 o2 o3 : Obj) : (((w.alloc o1).alloc o2).alloc o3).heap[w.heap.size + 1]? = some o2 := box_ca (by rw [← World.size_alloc]; exact heap_alloc_new _ _)
theorem box3_2 (w : World) (o1 o2 o3 : Obj) : (((w.alloc o1).alloc o2).alloc o3).heap[w.heap.size + 1 + 1]? = some o3 := by
  have h := heap_alloc_new ((w.alloc o1).alloc o2) o3
  rw [World.size_alloc, World.size_alloc] at h; exact h
/-- One cell of a box is stored. -/
theorem box_set {w : World} {b o : Nat} {cs : Array Value} {T : TypeId} (h : w.heap[b]? = some (.cells cs T (0, 0))) (u : Value) : (w.setCell ⟨b, o, none⟩ u).heap[b]? = some (.cells (cs.setIfInBounds o u) T (0, 0)) := by
  show (w.heap.modify b _)[b]? = _
  rw [Array.getElem?_modify, if_pos rfl, h]; rfl
theorem box_off {w : World} {b r o : Nat} {x : Obj} (h : w.heap[b]? = some x) (hne : b ≠ r) (u : Value) : (w.setCell ⟨r, o, none⟩ u).heap[b]? = some x := by
  rw [Below.heap_setCell _ _ _ _ hne]; exact h

end Go.Proofs.YtpkicliimhflgaaDoor

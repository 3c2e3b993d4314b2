/- 6 texts in one. -/
import Derived.Test.YtkjjiinccljhjaaDoorSs
import Derived.Test.YtkjjiinccljhjaaDoorRawL
import Derived.Test.YtkjjiinccljhjaaDoorDpAttr
import Derived.Shelf.SlSortCmp.QuietGrown
import Derived.Test.YtkjjiinccljhjaaDoorTok
import Derived.Test.YtkjjiinccljhjaaDoorEs
import Derived.Test.YtkjjiinccljhjaaDoorSplP
import Derived.Test.YtkjjiinccljhjaaDoorShelf
import Derived.Test.YtkjjiinccljhjaaDoorOwn
namespace Go.Proofs.YtkjjiinccljhjaaDoor
/- PrsO -/
open Go.ChangeShapes Go.WideShapes Go.ChangeAt Go.RowKit

/-- A slice of strings of the call's own, wherever it begins in its block. -/
def OwnO (lo hi : Nat) (w : World) (v : Value) (xs : List ByteArray) : Prop :=
  ∃ (a : Option Addr) (c : Nat), v = .slice a xs.length c ∧ xs.length ≤ c ∧ c ≤ 9223372036854775807 ∧ (a = none → c = 0) ∧ (xs.length = 0 ∨ ∃ (g off : Nat) (cs : Array Value), a = some ⟨g, off, none⟩ ∧ lo ≤ g ∧ g < hi ∧ w.heap[g]? = some (.cells cs 9 (0, 0)) ∧ ∀ (j : Nat) (x : ByteArray), xs[j]? = some x → cs[off + j]? = some (.string x))
theorem OwnO.reads {lo hi : Nat} {w : World} {v : Value} {xs : List ByteArray} (h : OwnO lo hi w v xs) : ReadsK encS 1 hi w v xs := by
  obtain ⟨a, c, rfl, h1, h2, h3, h4⟩ := h
  refine ⟨a, c, rfl, h1, h2, h3, ?_⟩
  rcases h4 with h4 | ⟨g, off, cs, rfl, _, hg, hh, hc⟩
  · exact Or.inl h4
  · refine Or.inr ⟨g, off, rfl, hg, fun j x hj i hi' => ?_⟩
    obtain rfl : i = 0 := by omega
    rw [Nat.mul_one, Nat.add_zero]
    exact box_cell hh (hc j x hj)
theorem OwnO.later {lo hi : Nat} {w w' : World} {v : Value} {xs : List ByteArray} (h : OwnO lo hi w v xs) (hb : Below w.heap.size w w') : OwnO lo hi w' v xs := by
  obtain ⟨a, c, e, h1, h2, h3, h4⟩ := h
  refine ⟨a, c, e, h1, h2, h3, ?_⟩
  rcases h4 with h4 | ⟨g, off, cs, e2, hl, hg, hh, hc⟩
  · exact Or.inl h4
  · exact Or.inr ⟨g, off, cs, e2, hl, hg, below_heap hb (heap_lt hh) hh, hc⟩
theorem OwnO.mono {lo hi lo' hi' : Nat} {w : World} {v : Value} {xs : List ByteArray} (h : OwnO lo hi w v xs) (hl' : lo' ≤ lo) (hh' : hi ≤ hi') : OwnO lo' hi' w v xs := by
  obtain ⟨a, c, e, h1, h2, h3, h4⟩ := h
  refine ⟨a, c, e, h1, h2, h3, ?_⟩
  rcases h4 with h4 | ⟨g, off, cs, e2, hl, hg, hh, hc⟩
  · exact Or.inl h4
  · exact Or.inr ⟨g, off, cs, e2, Nat.le_trans hl' hl, Nat.lt_of_lt_of_le hg hh', hh, hc⟩
theorem OwnO.top {lo hi : Nat} {w : World} {v : Value} {xs : List ByteArray} (h : OwnO lo hi w v xs) : OwnO lo w.heap.size w v xs := by
  obtain ⟨a, c, e, h1, h2, h3, h4⟩ := h
  refine ⟨a, c, e, h1, h2, h3, ?_⟩
  rcases h4 with h4 | ⟨g, off, cs, e2, hl, hg, hh, hc⟩
  · exact Or.inl h4
  · exact Or.inr ⟨g, off, cs, e2, hl, heap_lt hh, hh, hc⟩
theorem ownO_none (lo hi : Nat) (w : World) : OwnO lo hi w (.slice none 0 0) [] := ⟨_, 0, rfl, Nat.le_refl _, by omega, (fun _ => rfl), Or.inl rfl⟩
/-- The blocks in which something of it lies. -/
def blkO (v : Value) (xs : List ByteArray) : List Nat := if xs.length = 0 then [] else v.ownBlock.toList
theorem OwnO.blk {lo hi : Nat} {w : World} {v : Value} {xs : List ByteArray} (h : OwnO lo hi w v xs) : ∀ b ∈ blkO v xs, lo ≤ b ∧ b < hi ∧ b < w.heap.size := by
  obtain ⟨a, c, rfl, h1, h2, h3, h4⟩ := h
  intro b hb
  unfold blkO at hb
  rcases h4 with h4 | ⟨g, off, cs, rfl, hl, hg, hh, hc⟩
  · rw [if_pos h4] at hb; cases hb
  · split at hb
    · cases hb
    · have : b = g := by simpa [Value.ownBlock] using hb
      subst this
      exact ⟨hl, hg, heap_lt hh⟩
theorem OwnO.only {lo hi : Nat} {w w' : World} {v : Value} {xs : List ByteArray} {bs : List Nat} (h : OwnO lo hi w v xs) (hb : OnlyB bs w w') (hn : ∀ b ∈ blkO v xs, b ∉ bs) : OwnO lo hi w' v xs := by
  obtain ⟨a, c, rfl, h1, h2, h3, h4⟩ := h
  refine ⟨a, c, rfl, h1, h2, h3, ?_⟩
  rcases h4 with h4 | ⟨g, off, cs, rfl, hl, hg, hh, hc⟩
  · exact Or.inl h4
  · by_cases h0 : xs.length = 0
    · exact Or.inl h0
    · refine Or.inr ⟨g, off, cs, rfl, hl, hg, ?_, hc⟩
      rw [hb.block g (heap_lt hh) (hn g (by unfold blkO; rw [if_neg h0]; simp [Value.ownBlock]))]; exact hh
/-- What lies behind the first. -/
theorem OwnO.tail {lo hi n c g : Nat} {w : World} {x : ByteArray} {xs : List ByteArray} (h : OwnK encS 1 9 lo hi w (.slice (some ⟨g, 0, none⟩) n c) (x :: xs)) : OwnO lo hi w (if c = 1 then .slice (some ⟨g, 0, none⟩) (n - 1) (c - 1) else .slice (some ⟨g, 1, none⟩) (n - 1) (c - 1)) xs := by
  obtain ⟨hrow, hlt⟩ := h
  have hrl := hrow.1
  rcases hrow.2 with ⟨e, _⟩ | ⟨g', cap, cur, e, hg, hh, hcap, hm, hsz, htk⟩
  · cases e
  · unfold maxLen at hm
    injection e with e1 e2 e3
    injection e1 with e1
    injection e1 with e1
    subst e1; subst e3
    have hn : n = xs.length + 1 := by rw [e2]; rfl
    subst hn
    rw [Nat.add_sub_cancel]
    rw [flatS] at htk
    have hcl : ∀ (j : Nat) (y : ByteArray), xs[j]? = some y → cur[1 + j]? = some (.string y) := fun j y hj => by
      have h1 : ((x :: xs).map Value.string)[1 + j]? = some (.string y) := by rw [Nat.add_comm, List.map_cons, List.getElem?_cons_succ, List.getElem?_map, hj]; rfl
      rw [← htk, List.getElem?_take] at h1
      split at h1
      · rw [Array.getElem?_toList] at h1; exact h1
      · cases h1
    by_cases h1 : c = 1
    · subst h1
      rw [if_pos rfl]
      have : xs = [] := List.eq_nil_of_length_eq_zero (by omega)
      subst this
      exact ⟨_, 0, rfl, Nat.le_refl _, by omega, (fun h => by cases h), Or.inl rfl⟩
    · rw [if_neg h1]
      exact ⟨_, c - 1, rfl, by omega, by omega, (fun h => by cases h), Or.inr ⟨g, 1, cur, rfl, hg, hlt g rfl, hh, hcl⟩⟩
/-- A new slice of strings, wherever it begins in its block. -/
def NewO (xs : List ByteArray) (X : World) (e : Ending) (w' : World) : Prop := ∃ (a : Option Addr) (n c : Nat), e = .returned (.slice a n c) ∧ OwnO X.heap.size w'.heap.size w' (.slice a n c) xs ∧ Below X.heap.size X w'

/- DpTok -/
open Go.ChangeShapes Go.WideShapes Go.ChangeAt Go.RowKit

/-- What a slice of this type holds. -/
def IsTokenS (x : Rw) : Prop := ∃ v n e cs, x = .sl v n 4 e cs ∧ ∀ j, j < n → ∃ (a0 : Int) (a1 : ByteArray) (a2 : Rw) (a3 : ByteArray), cs[j * 4]? = some (.leaf (.int .i64 a0)) ∧ cs[j * 4 + 1]? = some (.leaf (.string a1)) ∧ cs[j * 4 + 2]? = some a2 ∧ IsAttrS a2 ∧ cs[j * 4 + 3]? = some (.leaf (.string a3))
theorem is_sl_TokenS {x : Rw} (h : IsTokenS x) : ∃ v n k e cs, x = .sl v n k e cs := by
  obtain ⟨v, n, e, cs, rfl, _⟩ := h
  exact ⟨v, n, _, e, cs, rfl⟩

/- Tk -/
open Go.ChangeShapes Go.WideShapes Go.ChangeAt Go.RowKit

abbrev At := ByteArray × ByteArray
def encA (a : At) : List Value := [.string a.1, .string a.2]
theorem encA_len (a : At) : (encA a).length = 2 := rfl
theorem encA_one (a : At) : ∀ u ∈ encA a, u.oneCell' = true := by
  intro u hu
  simp only [encA, List.mem_cons, List.mem_nil_iff, or_false] at hu
  rcases hu with rfl | rfl <;> rfl
theorem at_at {xs : List At} {j : Nat} (h : j < xs.length) : ∃ a b, xs[j]? = some (a, b) := ⟨xs[j].1, xs[j].2, List.getElem?_eq_getElem h⟩

def atCells : List At → List Rw
  | [] => []
  | a :: ats => .leaf (.string a.1) :: .leaf (.string a.2) :: atCells ats
theorem atCells_map : ∀ ats : List At, (atCells ats).map Rw.cell = ats.flatMap encA
  | [] => rfl
  | a :: ats => by
    rw [atCells, List.map_cons, List.map_cons, atCells_map ats, List.flatMap_cons]; rfl
theorem atCells_len : ∀ ats : List At, (atCells ats).length = ats.length * 2
  | [] => rfl
  | a :: ats => by rw [atCells, List.length_cons, List.length_cons, atCells_len ats, List.length_cons]; omega
theorem atCells_at : ∀ {ats : List At} {j : Nat} {a : At}, ats[j]? = some a → (atCells ats)[j * 2]? = some (.leaf (.string a.1)) ∧ (atCells ats)[j * 2 + 1]? = some (.leaf (.string a.2))
  | [], j, a, h => by simp at h
  | b :: ats, 0, a, h => by
    have : b = a := by simpa using h
    subst this; exact ⟨rfl, rfl⟩
  | b :: ats, j + 1, a, h => by
    have ih := atCells_at (ats := ats) (j := j) (by simpa using h)
    rw [show (j + 1) * 2 = j * 2 + 1 + 1 by omega, atCells]
    simpa using ih
theorem atCells_leaf : ∀ {ats : List At}, ∀ c ∈ atCells ats, ∃ s, c = .leaf (.string s)
  | [], c, h => by cases h
  | a :: ats, c, h => by
    rw [atCells] at h
    rcases List.mem_cons.1 h with h | h
    · exact ⟨_, h⟩
    · rcases List.mem_cons.1 h with h | h
      · exact ⟨_, h⟩
      · exact atCells_leaf c h
theorem atCells_blocks (ats : List At) : blocksL (atCells ats) = [] := blocksL_nil fun c hc => by
  obtain ⟨s, rfl⟩ := atCells_leaf c hc
  rw [Rw.blocks]
/-- Where a slice of attributes lies. -/
abbrev Sv := Option Addr × Nat × Nat
def sv (s : Sv) : Value := .slice s.1 s.2.1 s.2.2
def svNil : Sv := (none, 0, 0)
theorem OwnK.sv {α : Type} {enc : α → List Value} {k : Nat} {e : TypeId} {lo hi : Nat} {w : World} {v : Value} {xs : List α} (h : OwnK enc k e lo hi w v xs) : ∃ s, v = sv s := by
  rcases h.1.2 with ⟨rfl, _⟩ | ⟨g, cap, cur, rfl, _⟩
  · exact ⟨svNil, rfl⟩
  · exact ⟨(_, _, _), rfl⟩
theorem ownK_nil {α : Type} (enc : α → List Value) (k : Nat) (e : TypeId) (lo hi : Nat) (w : World) : OwnK enc k e lo hi w (.slice none 0 0) [] :=
  ⟨World.ownsRow_nil _ _ _ _, fun g hg => by cases hg⟩
/-- A token and where its attributes lie. -/
abbrev Tv := Tok × Sv
def tokV (p : Tv) : Value := .agg #[.int .i64 p.1.kind, .string p.1.name, sv p.2, .string p.1.text]
def encT (p : Tv) : List Value := [.int .i64 p.1.kind, .string p.1.name, sv p.2, .string p.1.text]
theorem encT_len (p : Tv) : (encT p).length = 4 := rfl
theorem encT_one (p : Tv) : ∀ u ∈ encT p, u.oneCell' = true := by
  intro u hu
  simp only [encT, List.mem_cons, List.mem_nil_iff, or_false] at hu
  rcases hu with rfl | rfl | rfl | rfl <;> rfl
def insB (ts : List Tv) : List Nat := ts.flatMap fun p => (sv p.2).ownBlock.toList
theorem insB_append (ts us : List Tv) : insB (ts ++ us) = insB ts ++ insB us := by unfold insB; rw [List.flatMap_append]
theorem insB_mem {ts : List Tv} {b : Nat} : b ∈ insB ts ↔ ∃ p ∈ ts, (sv p.2).ownBlock = some b := by
  unfold insB
  rw [List.mem_flatMap]
  constructor
  · rintro ⟨p, hp, hb⟩
    exact ⟨p, hp, by simpa using hb⟩
  · rintro ⟨p, hp, hb⟩
    exact ⟨p, hp, by simpa using hb⟩
theorem rwT_count {ts us : List Tv} (h : ts.map Prod.fst = us.map Prod.fst) : ts.length = us.length := by
  have := congrArg List.length h
  simpa using this
theorem rows_ne {w : World} {B B' k k' n n' : Nat} {e e' : TypeId} {v v' : Value} {xs xs' : List Value} (h : w.ownsRow B e k v n xs) (h' : w.ownsRow B' e' k' v' n' xs') (hne : e ≠ e') {g : Nat} (hv : v.ownBlock = some g) : v'.ownBlock ≠ some g := by
  intro hv'
  rcases h.2 with ⟨rfl, _⟩ | ⟨a, cap, cur, rfl, _, h1, _⟩
  · cases hv
  · rcases h'.2 with ⟨rfl, _⟩ | ⟨b, cap', cur', rfl, _, h2, _⟩
    · cases hv'
    · have e1 : a = g := Option.some.inj hv
      have e2 : b = g := Option.some.inj hv'
      subst e1; subst e2
      rw [h1] at h2
      injection h2 with h3
      injection h3 with _ h4 _
      exact hne h4

/- Spl -/
open Go.ChangeShapes Go.WideShapes Go.ChangeAt Go.RowKit

/- StrLib -/
open Go.ChangeShapes Go.WideShapes Go.ChangeAt Go.RowKit

theorem indexByte_idx (c : UInt8) : ∀ l : List UInt8, Lib.indexByte l c = if idxB c l < l.length then (idxB c l : Int) else -1
  | [] => rfl
  | b :: l => by
    have ih := indexByte_idx c l
    have hle := idxB_le c l
    unfold Lib.indexByte idxB
    by_cases h : b = c
    · rw [if_pos (by simpa using h), if_pos h, if_pos (by simp)]; rfl
    · rw [if_neg (by simpa using h), if_neg h, ih]
      by_cases h2 : idxB c l < l.length
      · rw [if_pos h2, if_neg (by simp <;> omega), if_pos (by simp <;> omega)]; omega
      · rw [if_neg h2, if_pos (by rfl), if_neg (by simp <;> omega)]
theorem index_idx (c : UInt8) : ∀ l : List UInt8, Lib.index l [c] = if idxB c l < l.length then (idxB c l : Int) else -1
  | [] => rfl
  | b :: l => by
    have ih := index_idx c l
    have hle := idxB_le c l
    unfold idxB
    by_cases h : b = c
    · subst h
      rw [if_pos rfl, if_pos (by simp), Lib.index]; simp [List.isPrefixOf]
    · have hp : ([c] : List UInt8).isPrefixOf (b :: l) = false := by simp [List.isPrefixOf, Ne.symm h]
      have hix : Lib.index (b :: l) [c] = if Lib.index l [c] == -1 then -1 else Lib.index l [c] + 1 := by rw [Lib.index, hp]; simp
      rw [if_neg h, hix, ih]
      by_cases h2 : idxB c l < l.length
      · rw [if_pos h2, if_neg (by simp <;> omega), if_pos (by simp <;> omega)]; omega
      · rw [if_neg h2, if_pos (by rfl), if_neg (by simp <;> omega)]
theorem indexByte_index (c : UInt8) (l : List UInt8) : Lib.indexByte l c = Lib.index l [c] := by rw [indexByte_idx, index_idx]
theorem idx_split {c : UInt8} {l : List UInt8} (h : idxB c l < l.length) : splitB c l = l.take (idxB c l) :: splitB c (l.drop (idxB c l + 1)) := by
  have := split_round (c := c) (l := l) (a := 0) (Nat.zero_le _) (idxB_at h) fun j _ hj => idxB_before hj
  rwa [List.drop_zero, Nat.sub_zero] at this
theorem idx_split_none {c : UInt8} {l : List UInt8} (h : ¬ idxB c l < l.length) : splitB c l = [l] := by
  have := split_last (c := c) (l := l) (a := 0) fun j _ hj => by
    have hjl := (List.getElem?_eq_some_iff.1 hj).1
    exact idxB_before (by omega) hj
  rwa [List.drop_zero] at this
theorem splitK_mine (c : UInt8) (l : List UInt8) : Lib.splitK [c] 0 (Lib.count l [c]) l = splitB c l := by
  generalize hn : l.length = n
  induction n using Nat.strongRecOn generalizing l with
  | _ n ih =>
    by_cases h : idxB c l < l.length
    · have hix : Lib.index l [c] = ((idxB c l : Nat) : Int) := by rw [index_idx, if_pos h]
      rw [Lib.count_hit (by simp) hix, Nat.add_comm, Lib.splitK, if_neg (by rw [hix]; simp <;> omega), hix, idx_split h]
      rw [show ((idxB c l : Nat) : Int).toNat = idxB c l from rfl, Nat.add_zero, show ([c] : List UInt8).length = 1 from rfl]
      rw [ih (l.drop (idxB c l + 1)).length (by rw [List.length_drop]; omega) _ rfl]
    · have hix : Lib.index l [c] = -1 := by rw [index_idx, if_neg h]
      rw [Lib.count_miss hix, Lib.splitK, idx_split_none h]
theorem splitB_mine (c : UInt8) (s : ByteArray) : Lib.splitB ⟨#[c]⟩ 0 (Lib.countB s ⟨#[c]⟩) s = splS c s.data.toList := by
  have h := Lib.splitB_data ⟨#[c]⟩ 0 (Lib.countB s ⟨#[c]⟩) s
  have e : Lib.countB s ⟨#[c]⟩ = Lib.count s.data.toList [c] := rfl
  rw [e] at h ⊢
  rw [show (⟨#[c]⟩ : ByteArray).data.toList = [c] from rfl, splitK_mine] at h
  unfold splS
  rw [← h, List.map_map]
  conv => lhs; rw [← List.map_id (Lib.splitB _ _ _ _)]
  exact List.map_congr_left fun x _ => (ofL_of x).symm

/-- What Cut returns at one byte. -/
def cutC (c : UInt8) (s : ByteArray) : Value :=
  if idxB c s.data.toList < s.size then .tuple #[.string (s.extract 0 (idxB c s.data.toList)), .string (s.extract (idxB c s.data.toList + 1) s.size), .bool true]
  else .tuple #[.string s, .string ⟨#[]⟩, .bool false]

set_option maxHeartbeats 1000000 in
theorem lcutC_any (c : UInt8) (s : ByteArray) (hs : s.size ≤ 4611686018427387904) (w : World) :
    Calls Tryd.prog 49 #[.string s, .string ⟨#[c]⟩] w fun e w' => e = .returned (cutC c s) ∧ ∃ n, w' = w.drewN n := by
  have hix := indexByte_idx c s.data.toList
  rw [size_list] at hix
  by_cases h1 : idxB c s.data.toList < s.size
  · have HV := Lib.hid (show cutC c s = _ from by unfold cutC; rw [if_pos h1])
    rw [if_pos h1] at hix
    obtain ⟨i, hi⟩ : ∃ i, idxB c s.data.toList = i := ⟨_, rfl⟩
    rw [hi] at hix h1 HV
    have HI := Lib.hid hix
    clear hix hi
    have c1 : (0 : Int) ≤ ↑i := by omega
    have c2 : (↑i : Int) ≤ ↑s.size := by omega
    have c3 : (0 : Int) ≤ ↑i + 1 := by omega
    have c4 : (↑i + 1 : Int) ≤ ↑s.size := by omega
    go_enter Tryd.func49, Tryd.ntmps49
    go_wp2_with fail
    refine (Tryd.stringslite_Index_one s c _).mono ?_
    rintro e w' ⟨rfl, rfl⟩
    rw [HI.out]
    go_wp2_with fail
    go_quiet (fail)
    go_wp2
    go_ret3
    exact ⟨by rw [HV.out]; rfl, _, rfl⟩
  · have HV := Lib.hid (show cutC c s = _ from by unfold cutC; rw [if_neg h1])
    rw [if_neg h1] at hix
    have HI := Lib.hid hix
    clear hix h1
    go_enter Tryd.func49, Tryd.ntmps49
    go_wp2_with fail
    refine (Tryd.stringslite_Index_one s c _).mono ?_
    rintro e w' ⟨rfl, rfl⟩
    rw [HI.out]
    go_wp2_with fail
    go_ret3
    exact ⟨by rw [HV.out]; rfl, 0, rfl⟩

set_option maxHeartbeats 1000000 in
theorem cutC_any (c : UInt8) (s : ByteArray) (hs : s.size ≤ 4611686018427387904) (w : World) :
    Calls Tryd.prog 35 #[.string s, .string ⟨#[c]⟩] w fun e w' => e = .returned (cutC c s) ∧ ∃ n, w' = w.drewN n := by
  have hcon := lcutC_any c s hs
  have : ∃ a b d, cutC c s = .tuple #[.string a, .string b, .bool d] := by
    unfold cutC; split <;> exact ⟨_, _, _, rfl⟩
  obtain ⟨a, b, d, hv⟩ := this
  rw [hv] at hcon ⊢
  clear hv
  have HC := Lib.hid hcon; clear hcon
  go_enter Tryd.func35, Tryd.ntmps35
  go_wp2_with fail
  refine (HC.out _).mono ?_
  rintro e w' ⟨rfl, n, rfl⟩
  go_wp2_with fail
  go_ret3
  exact ⟨rfl, n, rfl⟩

theorem splS_flat (l : List ByteArray) : l.flatMap encS = l.map Value.string := by
  induction l with
  | nil => rfl
  | cons x l ih => rw [List.flatMap_cons, ih]; rfl

set_option maxHeartbeats 1000000 in
theorem gsplit_any (s : ByteArray) (c : UInt8) (hs : s.size < 4294967281) (w : World) :
    Calls Tryd.prog 50 #[.string s, .string ⟨#[c]⟩, .int .i64 0, .int .i64 (-1)] w (NewK encS 1 9 (splS c s.data.toList) w) := by
  have hC : Calls Tryd.prog 58 #[.string s, .string ⟨#[c]⟩] w fun e w' => e = .returned (.int .i64 (Lib.countB s ⟨#[c]⟩)) ∧ w' = w := by
    refine (Tryd.strings_Count_one s c w).mono ?_
    rintro e w' ⟨rfl, rfl⟩
    refine ⟨?_, rfl⟩
    show Ending.returned (.int .i64 (Lib.countByte s.data.toList c)) = Ending.returned (Value.int .i64 ((Lib.count s.data.toList [c] : Nat) : Int))
    rw [Lib.count_one]; rfl
  have h1 : 1 ≤ (⟨#[c]⟩ : ByteArray).size := Nat.le_refl 1
  have hle := Lib.countB_le ⟨#[c]⟩ h1 s.size s (Nat.le_refl _)
  have hlen := Lib.splitB_all ⟨#[c]⟩ h1 0 _ s rfl
  have core := Any.strings_genSplit_core Tryd.lays221 (by kernel_rfl) s ⟨#[c]⟩ 0 (-1) (Lib.countB s ⟨#[c]⟩ + 1) w hs h1 (Nat.zero_le _)
    (fun x cc hx => by
      refine (Tryd.strings_Index_one x c _).mono ?_
      rintro e w' ⟨rfl, rfl⟩
      refine ⟨?_, rfl⟩
      rw [indexByte_index]) hC (by decide) (by decide) (by rw [if_pos (by decide)]; omega)
  refine core.mono ?_
  rintro e w' ⟨rfl, rfl⟩
  rw [Nat.add_sub_cancel, splitB_mine]
  rw [splitB_mine] at hlen
  refine ⟨_, rfl, ?_, (Below.refl _ _).alloc (Nat.le_refl _) _⟩
  rw [← hlen]
  refine ⟨?_, fun g hg => ?_⟩
  · have := World.ownsRow_lit (base := w.heap.size) (e := 9) (size := 1) w ((splS c s.data.toList).map Value.string).toArray (splS c s.data.toList).length (Nat.le_refl _) (by unfold maxLen; omega) (by simp)
    rw [splS_flat, Lib.cellsOf_full]
    rw [List.toList_toArray] at this
    exact this
  · have : g = w.heap.size := (Option.some.inj hg).symm
    subst this; simp

set_option maxHeartbeats 1000000 in
theorem split_any (s : ByteArray) (c : UInt8) (hs : s.size < 4294967281) (w : World) :
    Calls Tryd.prog 36 #[.string s, .string ⟨#[c]⟩] w (NewK encS 1 9 (splS c s.data.toList) w) := by
  go_enter Tryd.func36, Tryd.ntmps36
  go_wp2_with fail
  refine (gsplit_any s c hs _).mono ?_
  rintro e w' ⟨v, rfl, ho, hb⟩
  have HO := Lib.hid ho; have HB := Lib.hid hb; clear ho hb
  go_wp2_with fail
  go_ret
  exact ⟨_, rfl, HO.out, HB.out⟩

/- Max -/
open Go.ChangeShapes Go.WideShapes Go.ChangeAt Go.RowKit

/-- The library's MaxLen holds a number. -/
def Max0 (w : World) : Prop := ∃ m, w.cell? ⟨0, 0, none⟩ = some (.int .i64 m)
theorem Max0.on {w w' : World} (h : Max0 w) (hb : Below w.heap.size w w') : Max0 w' := by
  obtain ⟨m, hm⟩ := h
  exact ⟨m, (hb.cell (World.block_lt_of_cell? _ _ hm)).trans hm⟩
end Go.Proofs.YtkjjiinccljhjaaDoor

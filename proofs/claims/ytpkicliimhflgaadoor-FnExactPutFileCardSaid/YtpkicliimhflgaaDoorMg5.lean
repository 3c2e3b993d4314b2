/- What files and servers that came in are, for the walks. Helper facts, no claim of its own. Helper facts for the walks over the pieces of a page: a slice of tokens of the call's own over the changes of memory, what is answered, in plain words; the pieces that the program takes. No claim of its own. Helper facts for the walks of the exact laws over tokens: bounds on the marks, the call's own tokens over the changes of memory. No claim of its own. The helper contracts of chapter 12 over copies that a law makes of its servers. Helper facts, no claim of its own. Servers of the call's own in memory: that a call owns all of it, append, a cell stored. Helper facts, no claim of its own. The builtin copy over elements of k cells, from whatever reads as n of them into a row of n that the call itself made. Helper facts, no claim of its own. Helper contracts over the functions with which the laws copy, compare, measure and mark slices, by program (deep.py). Asked: what lies in memory is as named. Helper contracts over the functions with which the laws copy, compare, measure and mark slices, by program (deep.py). Asked: what lies in memory is as named. Helper contracts over the functions with which the laws copy, compare, measure and mark slices, by program (deep.py). Asked: what lies in memory is as named. Trees under construction as plain values: what a token adds, what is closed, the text of children, the count of a name, what a valid one is. No program. Nodes and their attributes in memory: what it means that a slice value reads as a list of them, that a call owns all of it, and append to such a slice. Helper facts, no claim of its own. Helper contracts on trees that only read: IsVoid, the nodes by pointer, what can be open, NewBuilder. Asked: what lies in memory is as named. Helper contracts: CountName and TextOf of the program and of the model. Asked: the builder lies in memory as named. A valid tree stays valid when a token of a name is added; how many nodes there are then. No program. Builders of the call's own in memory: append to their rows of nodes and of numbers, boxes of two cells. Helper facts, no claim of its own. Helper contracts: l6Copy, l6Close, AddToken and AddTokens of the model. Asked: the builder and the token lie in memory as named, and hold no more than 2^36 things. Helper contracts: copyFiles and copyServers of the program. Asked: what is copied lies in memory as named, and is fewer than 2^40. Helper contracts over the functions with which the laws copy, compare, measure and mark slices, by program (deep.py). Asked: what lies in memory is as named. Slices of strings in memory: what it means that a slice value reads as a list of strings, as data; what an argument of this type is. Helper facts, no claim of its own. Slices of strings of the call's own, wherever they begin in their block. Helper facts, no claim of its own. -/
import Derived.Test.YtpkicliimhflgaaDoorMg4
import Derived.Test.YtpkicliimhflgaaDoorMg2
import Derived.Test.YtpkicliimhflgaaDoorMg1
import Derived.Laws.CopyOwn
import Derived.Laws.CopyRow
import Derived.Shelf.SlSortCmp.QuietGrown
import Derived.Test.YtpkicliimhflgaaDoorMg3
import Derived.Deep.Slices
import Derived.Lib.SmallJoins
import Derived.ShutString
import Derived.ChangeOld
import Derived.Carry
import Derived.Deep.Fields
namespace Go.Proofs.YtpkicliimhflgaaDoor

open Go.ChangeShapes Go.WideShapes Go.ChangeAt Go.RowKit Go.Joins Go.Deep

instance : Inhabited Fl := ⟨⟨⟨#[]⟩, ⟨0, 0, ⟨#[]⟩, 0, false, ⟨#[]⟩⟩⟩⟩
instance : Inhabited Se := ⟨((⟨#[]⟩, []), svNil)⟩
theorem list7 {α : Type} {a : List α} (h : a.length = 7) : ∃ x0 x1 x2 x3 x4 x5 x6, a = [x0, x1, x2, x3, x4, x5, x6] := by
  match a, h with
  | [x0, x1, x2, x3, x4, x5, x6], _ => exact ⟨x0, x1, x2, x3, x4, x5, x6, rfl⟩
theorem list2 {α : Type} {a : List α} (h : a.length = 2) : ∃ x0 x1, a = [x0, x1] := by
  match a, h with
  | [x0, x1], _ => exact ⟨x0, x1, rfl⟩
/-- A slice of files that came in. -/
def IsFls (w : World) (v : Value) (fs : List Fl) : Prop := ReadsK encF 7 w.heap.size w v fs ∧ ∀ f ∈ fs, FlOk f

set_option maxRecDepth 100000 in
theorem files_of {H : Type} {enc : TypeId × Value → H} {W : World} {fuel : Nat} {v : Value} {d : DataW H × List MemPlace} (hf : DataW.trod enc Tryd.prog W 0 (fun _ => true) true fuel 22 [v] = some d) :
    ∃ fs, IsFls W v fs := by
  rcases open_slice Tryd.underlying22 hf with ⟨hcs, _⟩ | ⟨x, len, cap, m, n, D, Pl, hcs, _, hl, hc, hm, _, hel⟩
  · obtain rfl : v = .slice none 0 0 := by simpa using hcs
    exact ⟨[], ⟨none, 0, rfl, Nat.le_refl _, by omega, (fun _ => rfl), Or.inl rfl⟩, by simp⟩
  · obtain rfl : v = .slice (some x) len cap := by simpa using hcs
    simp only [if_true] at hm
    subst hm
    have hC : Tryd.prog.cellsOf 71 = 7 := by kernel_rfl
    rw [hC] at hel
    have es : Tryd.prog.cellsOf 9 = 1 := by kernel_rfl
    have ei : Tryd.prog.cellsOf 3 = 1 := by kernel_rfl
    have eb : Tryd.prog.cellsOf 4 = 1 := by kernel_rfl
    have er : Tryd.prog.cellsOf 37 = 6 := by kernel_rfl
    have hx : ∀ i, i < len → ∃ y : Fl, (∀ t, t < 7 → W.cell? (x.add (i * 7 + t)) = (encF y)[t]?) ∧ FlOk y := by
      intro i hi
      obtain ⟨cs, h1, h2⟩ := hel i (by omega)
      obtain ⟨hlen, hat⟩ := cells?_at h1
      obtain ⟨c0, c1, c2, c3, c4, c5, c6, rfl⟩ := list7 hlen
      obtain ⟨n0, hf0⟩ := fields_at Tryd.underlying71 h2
      obtain ⟨y0, t0⟩ := hf0 0 _ rfl
      obtain ⟨y1, t1⟩ := hf0 1 _ rfl
      replace t0 : DataW.trod enc Tryd.prog W 0 (fun _ => true) true n0 9 [c0] = some y0 := by
        have h := t0; change DataW.trod _ _ _ _ _ _ _ 9 (List.take (Tryd.prog.cellsOf 9) _) = _ at h; rw [es] at h; exact h
      replace t1 : DataW.trod enc Tryd.prog W 0 (fun _ => true) true n0 37 [c1, c2, c3, c4, c5, c6] = some y1 := by
        have h := t1; change DataW.trod _ _ _ _ _ _ _ 37 (List.take (Tryd.prog.cellsOf 37) _) = _ at h; rw [er] at h; exact h
      obtain ⟨n1, hf1⟩ := fields_at Tryd.underlying37 t1
      obtain ⟨z0, u0⟩ := hf1 0 _ rfl
      obtain ⟨z1, u1⟩ := hf1 1 _ rfl
      obtain ⟨z2, u2⟩ := hf1 2 _ rfl
      obtain ⟨z3, u3⟩ := hf1 3 _ rfl
      obtain ⟨z4, u4⟩ := hf1 4 _ rfl
      obtain ⟨z5, u5⟩ := hf1 5 _ rfl
      replace u0 : DataW.trod enc Tryd.prog W 0 (fun _ => true) true n1 3 [c1] = some z0 := by
        have h := u0; change DataW.trod _ _ _ _ _ _ _ 3 (List.take (Tryd.prog.cellsOf 3) _) = _ at h; rw [ei] at h; exact h
      replace u1 : DataW.trod enc Tryd.prog W 0 (fun _ => true) true n1 3 [c2] = some z1 := by
        have h := u1; change DataW.trod _ _ _ _ _ _ _ 3 (List.take (Tryd.prog.cellsOf 3) _) = _ at h; rw [ei] at h; exact h
      replace u2 : DataW.trod enc Tryd.prog W 0 (fun _ => true) true n1 9 [c3] = some z2 := by
        have h := u2; change DataW.trod _ _ _ _ _ _ _ 9 (List.take (Tryd.prog.cellsOf 9) _) = _ at h; rw [es] at h; exact h
      replace u3 : DataW.trod enc Tryd.prog W 0 (fun _ => true) true n1 3 [c4] = some z3 := by
        have h := u3; change DataW.trod _ _ _ _ _ _ _ 3 (List.take (Tryd.prog.cellsOf 3) _) = _ at h; rw [ei] at h; exact h
      replace u4 : DataW.trod enc Tryd.prog W 0 (fun _ => true) true n1 4 [c5] = some z4 := by
        have h := u4; change DataW.trod _ _ _ _ _ _ _ 4 (List.take (Tryd.prog.cellsOf 4) _) = _ at h; rw [eb] at h; exact h
      replace u5 : DataW.trod enc Tryd.prog W 0 (fun _ => true) true n1 9 [c6] = some z5 := by
        have h := u5; change DataW.trod _ _ _ _ _ _ _ 9 (List.take (Tryd.prog.cellsOf 9) _) = _ at h; rw [es] at h; exact h
      obtain ⟨pa, k0, _, w0⟩ := DataW.trod_string Tryd.underlying9 t0
      obtain ⟨st, k1, _, w1⟩ := DataW.trod_int Tryd.underlying3 u0
      obtain ⟨kd, k2, _, w2⟩ := DataW.trod_int Tryd.underlying3 u1
      obtain ⟨bo, k3, _, w3⟩ := DataW.trod_string Tryd.underlying9 u2
      obtain ⟨ag, k4, _, w4⟩ := DataW.trod_int Tryd.underlying3 u3
      obtain ⟨sh, k5, _⟩ := DataW.trod_bool Tryd.underlying4 u4
      obtain ⟨po, k6, _, w6⟩ := DataW.trod_string Tryd.underlying9 u5
      cases k0; cases k1; cases k2; cases k3; cases k4; cases k5; cases k6
      refine ⟨⟨pa, ⟨st, kd, bo, ag, sh, po⟩⟩, fun t ht => ?_, w0, w3, w6⟩
      have h := hat t ht
      rw [add_add] at h
      exact h
    obtain ⟨f, hf⟩ := choose_lt hx
    refine ⟨(List.range len).map f, ⟨some x, _, by rw [List.length_map, List.length_range], by simpa using hl, by unfold maxLen at hc; omega, (fun h => by cases h), ?_⟩, ?_⟩
    · by_cases h0 : len = 0
      · exact Or.inl (by simpa using h0)
      · obtain ⟨blk, off, spot⟩ := x
        have c0 := (hf 0 (by omega)).1 0 (by decide)
        have hspot : spot = none := by simpa [Addr.add] using World.cell?_spot (c0.trans (show _ = some (Value.string (f 0).pa) from rfl))
        subst hspot
        have hlt : blk < W.heap.size := by
          have := World.block_lt_of_cell? W _ (c0.trans (show _ = some (Value.string (f 0).pa) from rfl))
          rwa [add_lit] at this
        refine Or.inr ⟨blk, off, rfl, hlt, fun j y hj i hi' => ?_⟩
        have hjl : j < len := by have := (List.getElem?_eq_some_iff.1 hj).1; simpa using this
        simp [hjl] at hj
        subst hj
        have h := (hf j hjl).1 i hi'
        rw [add_lit] at h
        rw [Nat.add_assoc]; exact h
    · intro r hr
      obtain ⟨i, hi, rfl⟩ := List.mem_map.1 hr
      exact (hf i (List.mem_range.1 hi)).2

/-- A slice of servers that came in. -/
def IsSvs (w : World) (v : Value) (ss : List Se) : Prop := ReadV w.heap.size w v ss ∧ ∀ p ∈ ss, SvOk p
set_option maxRecDepth 100000 in
theorem servers_of {H : Type} {enc : TypeId × Value → H} {W : World} {fuel : Nat} {v : Value} {d : DataW H × List MemPlace} (hf : DataW.trod enc Tryd.prog W 0 (fun _ => true) true fuel 33 [v] = some d) :
    ∃ ss, IsSvs W v ss := by
  rcases open_slice Tryd.underlying33 hf with ⟨hcs, _⟩ | ⟨x, len, cap, m, n, D, Pl, hcs, _, hl, hc, hm, _, hel⟩
  · obtain rfl : v = .slice none 0 0 := by simpa using hcs
    exact ⟨[], ⟨⟨none, 0, rfl, Nat.le_refl _, by omega, (fun _ => rfl), Or.inl rfl⟩, by simp⟩, by simp⟩
  · obtain rfl : v = .slice (some x) len cap := by simpa using hcs
    simp only [if_true] at hm
    subst hm
    have hC : Tryd.prog.cellsOf 24 = 2 := by kernel_rfl
    rw [hC] at hel
    have es : Tryd.prog.cellsOf 9 = 1 := by kernel_rfl
    have el : Tryd.prog.cellsOf 22 = 1 := by kernel_rfl
    have hx : ∀ i, i < len → ∃ p : Se, (∀ t, t < 2 → W.cell? (x.add (i * 2 + t)) = (encG p)[t]?) ∧ p.1.1.size ≤ 9223372036854775807 ∧ IsFls W (sv p.2) p.1.2 := by
      intro i hi
      obtain ⟨cs, h1, h2⟩ := hel i (by omega)
      obtain ⟨hlen, hat⟩ := cells?_at h1
      obtain ⟨c0, c1, rfl⟩ := list2 hlen
      obtain ⟨n0, hf0⟩ := fields_at Tryd.underlying24 h2
      obtain ⟨y0, t0⟩ := hf0 0 _ rfl
      obtain ⟨y1, t1⟩ := hf0 1 _ rfl
      replace t0 : DataW.trod enc Tryd.prog W 0 (fun _ => true) true n0 9 [c0] = some y0 := by
        have h := t0; change DataW.trod _ _ _ _ _ _ _ 9 (List.take (Tryd.prog.cellsOf 9) _) = _ at h; rw [es] at h; exact h
      replace t1 : DataW.trod enc Tryd.prog W 0 (fun _ => true) true n0 22 [c1] = some y1 := by
        have h := t1; change DataW.trod _ _ _ _ _ _ _ 22 (List.take (Tryd.prog.cellsOf 22) _) = _ at h; rw [el] at h; exact h
      obtain ⟨ho, k0, _, w0⟩ := DataW.trod_string Tryd.underlying9 t0
      cases k0
      obtain ⟨aa, al, ac, rfl⟩ := slice_in Tryd.underlying22 t1
      obtain ⟨fs, hfs⟩ := files_of (enc := enc) (W := W) t1
      refine ⟨((ho, fs), (aa, al, ac)), fun t ht => ?_, w0, hfs⟩
      have h := hat t ht
      rw [add_add] at h
      exact h
    obtain ⟨f, hf⟩ := choose_lt hx
    refine ⟨(List.range len).map f, ⟨⟨some x, _, by rw [List.length_map, List.length_range], by simpa using hl, by unfold maxLen at hc; omega, (fun h => by cases h), ?_⟩, fun p hp => ?_⟩, fun p hp => ?_⟩
    · by_cases h0 : len = 0
      · exact Or.inl (by simpa using h0)
      · obtain ⟨blk, off, spot⟩ := x
        have c0 := (hf 0 (by omega)).1 0 (by decide)
        have hspot : spot = none := by simpa [Addr.add] using World.cell?_spot (c0.trans (show _ = some (Value.string (f 0).1.1) from rfl))
        subst hspot
        have hlt : blk < W.heap.size := by
          have := World.block_lt_of_cell? W _ (c0.trans (show _ = some (Value.string (f 0).1.1) from rfl))
          rwa [add_lit] at this
        refine Or.inr ⟨blk, off, rfl, hlt, fun j y hj i hi' => ?_⟩
        have hjl : j < len := by have := (List.getElem?_eq_some_iff.1 hj).1; simpa using this
        simp [hjl] at hj
        subst hj
        have h := (hf j hjl).1 i hi'
        rw [add_lit] at h
        rw [Nat.add_assoc]; exact h
    · obtain ⟨i, hi, rfl⟩ := List.mem_map.1 hp
      exact (hf i (List.mem_range.1 hi)).2.2.1
    · obtain ⟨i, hi, rfl⟩ := List.mem_map.1 hp
      exact ⟨(hf i (List.mem_range.1 hi)).2.1, (hf i (List.mem_range.1 hi)).2.2.2⟩
theorem servers_arg {H : Type} {enc : TypeId × Value → H} {W : World} {v : Value} {d : DataW H} {p : List MemPlace} (hv : ∃ a n c, v = .slice a n c) (h : DataW.Trod enc Tryd.prog W 0 (fun _ => true) true 33 v d p) : ∃ ss, IsSvs W v ss := by
  obtain ⟨a, n, c, rfl⟩ := hv
  obtain ⟨fuel, hf⟩ := h
  exact servers_of hf

set_option maxRecDepth 100000 in
theorem server_of {H : Type} {enc : TypeId × Value → H} {W : World} {base : Nat} {v : Value} {d : DataW H} {p : List MemPlace} (hv : Value.okWide Tryd.prog W .any base 24 v) (h : DataW.Trod enc Tryd.prog W 0 (fun _ => true) true 24 v d p) :
    ∃ (ho : ByteArray) (a : Option Addr) (n c : Nat) (fs : List Fl), v = .agg #[.string ho, .slice a n c] ∧ ho.size ≤ 9223372036854775807 ∧ IsFls W (.slice a n c) fs := by
  obtain ⟨v0, v1, y0, y1, n, rfl, _, _, h0, h1⟩ := open_agg2 Tryd.underlying24 (by kernel_rfl) (by kernel_rfl) hv h
  obtain ⟨s, e0, _, w0⟩ := DataW.trod_string Tryd.underlying9 h0
  cases e0
  obtain ⟨a, l, c, rfl⟩ := slice_in Tryd.underlying22 h1
  obtain ⟨fs, hfs⟩ := files_of (enc := enc) (W := W) h1
  exact ⟨s, a, l, c, fs, rfl, w0, hfs⟩

end Go.Proofs.YtpkicliimhflgaaDoor
namespace Go.Proofs.YtpkicliimhflgaaDoor
open Go.ChangeShapes Go.WideShapes Go.ChangeAt Go.RowKit

theorem heap_one1 {w : World} {b : Nat} {x u : Value} {T : TypeId} (h : w.heap[b]? = some (.cells #[x] T (0, 0))) : (w.setCell ⟨b, 0, none⟩ u).heap[b]? = some (.cells #[u] T (0, 0)) := by
  rw [heap_one (o := 0) h u]; rfl
theorem cells_one {w : World} {b : Nat} {x : Value} {T : TypeId} (h : w.heap[b]? = some (.cells #[x] T (0, 0))) : w.cell? ⟨b, 0, none⟩ = some x ∧ w.frozen? ⟨b, 0, none⟩ = false := by
  refine ⟨?_, ?_⟩
  · unfold World.cell?; rw [h]; rfl
  · unfold World.frozen?; rw [h]; rfl

/-- One token more. -/
theorem toks_more {x y z : List UInt8} {ts : List Tv} {p : Tv} (h : feedB x = (ts.map Prod.fst ++ (feedB y).1, (feedB y).2)) (hy : feedB y = (p.1 :: (feedB z).1, (feedB z).2)) : feedB x = ((ts ++ [p]).map Prod.fst ++ (feedB z).1, (feedB z).2) := by
  rw [h, hy]; simp
theorem toks_none {x y z : List UInt8} {ts : List Tv} (h : feedB x = (ts.map Prod.fst ++ (feedB y).1, (feedB y).2)) (hy : feedB y = ((feedB z).1, (feedB z).2)) : feedB x = (ts.map Prod.fst ++ (feedB z).1, (feedB z).2) := by
  rw [h, hy]
theorem toks_end {x y : List UInt8} {ts : List Tv} (h : feedB x = (ts.map Prod.fst ++ (feedB y).1, (feedB y).2)) (hy : feedB y = ([], y)) : ts.map Prod.fst = (feedB x).1 ∧ y = (feedB x).2 := by
  rw [h, hy]; simp
theorem tag_inside (y : List UInt8) (e : Nat) : (ofL y).extract 1 e = ofL ((y.take e).drop 1) := by
  rw [extract_eq, ofL_list]
  congr 1
  rw [List.drop_take]
theorem endB_nil : endB [] = [] := by simp [endB]
theorem endB_tag {r : List UInt8} (h : r[0]? = some 60) : endB r = [] := by unfold endB; rw [if_pos (Or.inr h)]
theorem endB_text {r : List UInt8} (h : r ≠ []) (h2 : r[0]? ≠ some 60) : endB r = [tokText (ofL r)] := by unfold endB; rw [if_neg (by rintro (h3 | h3); exact h h3; exact h2 h3)]
theorem idx_tag {y : List UInt8} (h0 : idxB 60 y = 0) (h1 : idxB 62 y < y.length) : 1 ≤ idxB 62 y := by
  cases y with
  | nil => exact absurd h1 (Nat.not_lt_zero _)
  | cons b l =>
    have hb : b = 60 := by
      have := idxB_at (c := 60) (l := b :: l) (by rw [h0]; simp)
      rw [h0] at this
      simpa using this
    subst hb
    rw [idxB, if_neg (by decide)]; omega

end Go.Proofs.YtpkicliimhflgaaDoor
namespace Go.Proofs.YtpkicliimhflgaaDoor
open Go.ChangeShapes Go.WideShapes Go.ChangeAt Go.RowKit

theorem tagB_attrs {l : List UInt8} {t : Tok} (h : tagB l = some t) : t.attrs.length ≤ 4 := by
  unfold tagB at h
  split at h
  · cases h
  · split at h
    · split at h
      · cases h; exact Nat.zero_le _
      · cases h
    · split at h
      · cases h
      · split at h
        · cases h
        · split at h
          · rename_i hh; cases h; exact hh.2
          · cases h
theorem feed_attrs (a : List UInt8) : ∀ t ∈ (feedB a).1, t.attrs.length ≤ 4 := by
  generalize hn : a.length = n
  induction n using Nat.strongRecOn generalizing a with
  | _ n ih =>
    by_cases h1 : 0 < idxB 60 a ∧ idxB 60 a < a.length
    · rw [feed_text h1.1 h1.2]
      intro t ht
      rcases List.mem_cons.1 ht with h | h
      · subst h; exact Nat.zero_le _
      · exact ih (a.length - idxB 60 a) (by omega) (a.drop (idxB 60 a)) List.length_drop t h
    · by_cases h2 : idxB 60 a = 0 ∧ idxB 62 a < a.length
      · rw [feed_tag h2.1 h2.2]
        intro t ht
        rcases List.mem_append.1 ht with h | h
        · exact tagB_attrs (Option.mem_toList.1 h)
        · exact ih (a.length - (idxB 62 a + 1)) (by omega) (a.drop (idxB 62 a + 1)) List.length_drop t h
      · have hl := idxB_le 60 a
        have hl2 := idxB_le 62 a
        rw [feed_end (x := a) (by omega) h1]
        intro t ht; cases ht
theorem end_attrs (r : List UInt8) : ∀ t ∈ endB r, t.attrs.length ≤ 4 := by
  intro t ht
  unfold endB at ht
  split at ht
  · cases ht
  · rw [List.mem_singleton] at ht; subst ht; exact Nat.zero_le _
theorem tokens_attrs (s : List UInt8) : ∀ t ∈ tokensB s, t.attrs.length ≤ 4 := by
  intro t ht
  rcases List.mem_append.1 ht with h | h
  · exact feed_attrs s t h
  · exact end_attrs _ t h
theorem atCells_count : ∀ ats : List At, countL (atCells ats) = 2 * ats.length
  | [] => rfl
  | a :: ats => by rw [atCells, countL, countL, Rw.count, Rw.count, atCells_count ats, List.length_cons]; omega
theorem mark_is_read {x : Rw} {lo hi k hi' : Nat} {w : World} (h : (x.mark k).OwnR lo hi w) (hh : hi ≤ hi') : (x.mark k).ReadR hi' w := Rw.ReadR.mono hh _ (Rw.OwnR.reads _ h)
theorem own_read {x : Rw} {lo hi hi' : Nat} {w : World} (h : x.OwnR lo hi w) (hh : hi ≤ hi') : x.ReadR hi' w := Rw.ReadR.mono hh _ (Rw.OwnR.reads _ h)
/-- What another call owns is as it was when this call's own is written. -/
theorem own_apart {x y : Rw} {lo hi lo' hi' : Nat} {w w' : World} (h : x.OwnR lo hi w) (hy : y.OwnR lo' hi' w) (hh : hi ≤ lo') (ho : OnlyB y.blocks w w') : x.OwnR lo hi w' := by
  refine Rw.OwnR.only ho x h fun b hb hby => ?_
  have h1 := Rw.OwnR.lt x h b hb
  have h2 := Rw.OwnR.lt y hy b hby
  omega
theorem own_back {y : Rw} {lo hi : Nat} {w0 w w' : World} (hb : Below lo w0 w) (hy : y.OwnR lo hi w) (hl : lo ≤ w.heap.size) (ho : OnlyB y.blocks w w') : Below lo w0 w' :=
  hb.trans (ho.below (fun b hbm => (Rw.OwnR.lt y hy b hbm).1) hl)
theorem optL_nodup (o : Option Nat) : o.toList.Nodup := by cases o <;> simp

end Go.Proofs.YtpkicliimhflgaaDoor
namespace Go.Proofs.YtpkicliimhflgaaDoor
open Go.ChangeShapes Go.WideShapes Go.ChangeAt Go.RowKit

theorem toV_one (v : Value) (ss : List Se) (w : World) (r : (rwV v ss).ReadR w.heap.size w) (h : (rwV v ss).weight ≤ 1048576) :
    Calls Tryd.prog 15 #[v] w fun e w' => ∃ y : Rw, e = .returned y.cell ∧ IsServerS y ∧ y.data = (rwV v ss).data ∧ OwnRL w.heap.size w'.heap.size w' [y] ∧ (blocksL [y]).Nodup ∧ Below w.heap.size w w' := by
  refine (to_ServerS (rwV v ss) (rwV_is v ss) w r (Nat.le_trans h (by decide))).mono ?_
  rintro e w' ⟨y, rfl, h1, h2, h3, h4, h5⟩
  exact ⟨y, rfl, h1, h2, ownL_one.2 h4, by rw [blocksL, blocksL, List.append_nil]; exact h3, h5⟩
theorem mkSv_one (x : Rw) (hx : IsServerS x) (lo hi k0 : Nat) (q : Int) (hq : q = k0) (w : World) (ho : OwnRL lo hi w [x]) (hd : (blocksL [x]).Nodup) (hk : k0 + countL [x] ≤ 4611686018427387904) :
    Calls Tryd.prog 20 #[x.cell, .int .i64 q] w fun e w' => e = .returned (.int .i64 ((k0 + countL [x] : Nat) : Int)) ∧ OwnRL lo hi w' (markL [x] k0) ∧ OnlyB (blocksL [x]) w w' := by
  simp only [countL, Nat.add_zero] at hk ⊢
  simp only [blocksL, List.append_nil, markL] at hd ⊢
  refine (mk_ServerS x hx lo hi k0 q hq w (ownL_one.1 ho) hd hk).mono ?_
  rintro e w' ⟨rfl, h1, h2⟩
  exact ⟨rfl, ownL_one.2 h1, h2⟩
theorem hdSv_one (x : Rw) (hx : IsServerS x) (hi k0 : Nat) (q : Int) (hq : q = k0) (w : World) (hr : ReadRL hi w (markL [x] k0)) (hh : hi ≤ w.heap.size) (hk : k0 + countL [x] ≤ 4611686018427387904) :
    Calls Tryd.prog 21 #[x.cell, .int .i64 q] w fun e w' => e = .returned (.int .i64 ((k0 + countL [x] : Nat) : Int)) ∧ Grw w w' := by
  simp only [countL, Nat.add_zero] at hk ⊢
  exact hd_ServerS x hx hi k0 q hq w (readRL_iff.1 hr _ (by simp [markL])) hh hk

end Go.Proofs.YtpkicliimhflgaaDoor
namespace Go.Proofs.YtpkicliimhflgaaDoor
open Go.ChangeShapes Go.WideShapes Go.ChangeAt Go.RowKit

def insV (ts : List Se) : List Nat := ts.flatMap fun p => (sv p.2).ownBlock.toList
theorem seCells_blocks : ∀ ts : List Se, blocksL (seCells ts) = insV ts
  | [] => rfl
  | p :: ts => by
    rw [seCells, blocksL, blocksL, seCells_blocks ts, Rw.blocks, rwF_blocks, insV, insV, List.flatMap_cons]
    rfl
theorem sv_ne_fl : 29 ≠ 57 := by decide
theorem insV_append (ts us : List Se) : insV (ts ++ us) = insV ts ++ insV us := by unfold insV; rw [List.flatMap_append]
theorem insV_mem {ts : List Se} {b : Nat} : b ∈ insV ts ↔ ∃ p ∈ ts, (sv p.2).ownBlock = some b := by
  unfold insV
  rw [List.mem_flatMap]
  constructor
  · rintro ⟨p, hp, hb⟩
    exact ⟨p, hp, by simpa using hb⟩
  · rintro ⟨p, hp, hb⟩
    exact ⟨p, hp, by simpa using hb⟩
/-- A slice of servers of the call's own, with all that they hold, in blocks from B on, while of what lay below B nothing was written. -/
structure MineV (B : Nat) (w0 w : World) (v : Value) (ts : List Se) : Prop where
  row : MineK encG 2 29 B w0 w v ts
  inn : ∀ p ∈ ts, OwnK encF 7 57 B w.heap.size w (sv p.2) p.1.2
  nod : (insV ts).Nodup
theorem MineV.own {B : Nat} {w0 w : World} {v : Value} {ts : List Se} (h : MineV B w0 w v ts) : (rwV v ts).OwnR B w.heap.size w := by
  rw [rwV, Rw.OwnR]
  refine ⟨⟨by rw [seCells_map]; exact h.row.row, fun g hg => (h.row.row.lt g hg).2⟩, ownRL_iff.2 fun c hc => ?_⟩
  obtain ⟨p, hp, rfl | rfl⟩ := seCells_mem c hc
  · rw [Rw.OwnR]; rfl
  · exact rwF_own (h.inn p hp)
theorem MineV.nodup {B : Nat} {w0 w : World} {v : Value} {ts : List Se} (h : MineV B w0 w v ts) : (rwV v ts).blocks.Nodup := by
  rw [rwV, Rw.blocks, seCells_blocks]
  cases hv : v.ownBlock with
  | none => exact h.nod
  | some g =>
    refine List.nodup_cons.2 ⟨fun hg => ?_, h.nod⟩
    obtain ⟨p, hp, hb⟩ := insV_mem.1 hg
    exact rows_ne h.row.row (h.inn p hp).1 sv_ne_fl hv hb
theorem MineV.later {B : Nat} {w0 w w' : World} {v : Value} {ts : List Se} (h : MineV B w0 w v ts) (hb : Below w.heap.size w w') : MineV B w0 w' v ts :=
  ⟨h.row.later hb, fun p hp => ((h.inn p hp).later hb).mono (Nat.le_refl _) hb.size, h.nod⟩
theorem MineV.empty (w0 w : World) (B : Nat) (hb : Below B w0 w) (hB : B ≤ w.heap.size) : MineV B w0 (w.alloc (.cells #[] 29)) (.slice (some ⟨w.heap.size, 0, none⟩) 0 0) [] :=
  ⟨MineK.empty _ _ _ _ _ _ hb hB, fun p hp => (by cases hp), List.nodup_nil⟩
theorem MineV.lt {B : Nat} {w0 w : World} {v : Value} {ts : List Se} (h : MineV B w0 w v ts) : ∀ b ∈ insV ts, B ≤ b ∧ b < w.heap.size := by
  intro b hb
  obtain ⟨p, hp, e⟩ := insV_mem.1 hb
  exact ⟨((h.inn p hp).1.lt b e).1, ((h.inn p hp).1.lt b e).2⟩
/-- append to such a slice, of whatever reads as tokens whose attributes the call owns. -/
theorem wpList_appV {w : World} {ops : Array Oper} {rest : List Oper} {o : Oper} {a : Act} {Q : Exit → Act → World → Prop} (hgd : o.guard = none) (s x : Operand)
    (ho : o.op = .call { callee := .builtin .append, args := #[s, x], argTypes := #[41, 41] })
    (B : Nat) (w0 : World) (v : Value) (ts : List Se) (hs : a.eval s = v) (hM : MineV B w0 w v ts) (vx : Value) (top : Nat) (us : List Se) (hx : a.eval x = vx) (hr : ReadsK encG 2 top w vx us)
    (hin : ∀ p ∈ us, OwnK encF 7 57 B w.heap.size w (sv p.2) p.1.2) (hnd : (insV ts ++ insV us).Nodup)
    (hlen : ts.length + us.length ≤ 137438953472)
    (h : ∀ v' w', MineV B w0 w' v' (ts ++ us) → w.grownBy w' v.ownBlock → wpList Tryd.prog ops Q rest (a.put o.dst v') w') : wpList Tryd.prog ops Q (o :: rest) a w := by
  obtain ⟨i, hi, hz, hsize, hby⟩ := info_parts infoSe
  obtain ⟨ad, cap, rfl, h1, h2, h3, h4⟩ := id hr
  cases ad with
  | none =>
    obtain ⟨rfl, _, rfl⟩ := hr.nil
    refine wpList_append_own_none hgd s x _ ho B _ i 2 Tryd.underlying41 hi v ts.length _ hs hM.row.row hx ?_
    exact h v w (by simpa using hM) ⟨rfl, rfl, rfl, Nat.le_refl _, fun _ _ _ => rfl⟩
  | some ad =>
    refine wpList_append_own _ hgd s x _ ho B _ i _ 2 40 Tryd.underlying41 hi hz hsize hby (by rfl) (by decide) v ts.length _ hs hM.row.row ad us.length cap (us.flatMap encG) hx (flat_len encG_len us) (hr.news encG_len) ?_ ?_ ?_ hM.row.size ?_
    · intro u hu
      obtain ⟨y, _, hy⟩ := List.mem_flatMap.1 hu
      exact encG_one y u hy
    · unfold maxLen; omega
    · have : (ts.length + us.length) * 40 ≤ (ts.length + us.length) * 1024 := Nat.mul_le_mul_left _ (by omega)
      omega
    · intro v' w' hown hgr hn
      refine h v' w' ⟨hM.row.grow hown hgr, fun p hp => ?_, by rw [insV_append]; exact hnd⟩ hgr
      have hall : OwnK encF 7 57 B w.heap.size w (sv p.2) p.1.2 := by
        rcases List.mem_append.1 hp with h | h
        · exact hM.inn p h
        · exact hin p h
      refine ⟨hall.1.kept hgr ?_, fun g hg => Nat.lt_of_lt_of_le (hall.2 g hg) hgr.size⟩
      cases hv : (sv p.2).ownBlock with
      | none => exact Or.inl rfl
      | some g =>
        right
        intro e
        exact rows_ne hM.row.row hall.1 sv_ne_fl e.symm hv
theorem MineV.nil (w0 w : World) (B : Nat) (hb : Below B w0 w) (hB : B ≤ w.heap.size) : MineV B w0 w (.slice none 0 0) [] :=
  ⟨MineK.nil _ _ _ _ _ _ hb hB, fun p hp => (by cases hp), List.nodup_nil⟩
theorem MineV.reads {B hi : Nat} {w0 w : World} {v : Value} {ts : List Se} (h : MineV B w0 w v ts) (hh : w.heap.size ≤ hi) : ReadV hi w v ts :=
  ⟨(h.row.own.reads encG_len).mono hh, fun p hp => ((h.inn p hp).reads encF_len).mono hh⟩
theorem MineV.form {B : Nat} {w0 w : World} {v : Value} {ts : List Se} (h : MineV B w0 w v ts) : ∃ a c, v = .slice a ts.length c := by
  rcases h.row.row.2 with ⟨e, h0⟩ | ⟨g, cap, cur, e, _⟩
  · exact ⟨none, 0, by rw [e, h0]⟩
  · exact ⟨_, _, e⟩
theorem MineV.down {B B' : Nat} {w0 w0' w : World} {v : Value} {ts : List Se} (h : MineV B w0 w v ts) (hb : Below B' w0' w) (hB : B' ≤ B) : MineV B' w0' w v ts :=
  ⟨⟨(h.row.own.mono hB (Nat.le_refl _)).1, hb, Nat.le_trans hB h.row.size⟩, fun p hp => (h.inn p hp).mono hB (Nat.le_refl _), h.nod⟩
/-- A row's elements with one of them set anew. -/
theorem flat_setG : ∀ {xs : List Se} {k : Nat} {p : Se} (s : Sv) (fs : List Fl), xs[k]? = some p → (xs.flatMap encG).set (k * 2 + 1) (sv s) = (xs.set k ((p.1.1, fs), s)).flatMap encG
  | [], k, p, s, fs, h => by simp at h
  | q :: xs, 0, p, s, fs, h => by
    have : q = p := by simpa using h
    subst this; rfl
  | q :: xs, k + 1, p, s, fs, h => by
    have ih := flat_setG (xs := xs) (k := k) s fs (by simpa using h)
    rw [List.flatMap_cons, List.set_cons_succ, List.flatMap_cons, ← ih]
    show (Value.string q.1.1 :: sv q.2 :: xs.flatMap encG).set ((k + 1) * 2 + 1) (sv s) = Value.string q.1.1 :: sv q.2 :: (xs.flatMap encG).set (k * 2 + 1) (sv s)
    rw [show (k + 1) * 2 + 1 = k * 2 + 1 + 1 + 1 by omega, List.set_cons_succ, List.set_cons_succ]
theorem insV_set {xs : List Se} {k : Nat} {q : Se} {b : Nat} (h : b ∈ insV (xs.set k q)) : b ∈ insV xs ∨ (sv q.2).ownBlock = some b := by
  obtain ⟨p, hp, hb⟩ := insV_mem.1 h
  rcases List.mem_or_eq_of_mem_set hp with h1 | h1
  · exact Or.inl (insV_mem.2 ⟨p, h1, hb⟩)
  · subst h1; exact Or.inr hb

end Go.Proofs.YtpkicliimhflgaaDoor
namespace Go.Proofs.YtpkicliimhflgaaDoor
open Go.ChangeShapes Go.WideShapes Go.ChangeAt Go.RowKit

theorem run_copyK {P : Program} (w : World) (dT sT ty elem : TypeId) (g n k dCap : Nat) (a : Addr) (sCap : Nat) (cur : Array Value) (t : TypeId) (cs : List Value)
    (hu : P.underlying dT = some (.slice elem)) (i : TypeInfo) (hi : P.info? elem = some i) (hk : i.size = k)
    (hg : w.heap[g]? = some (.cells cur t (0, 0))) (hn : cs.length = n * k) (hc : cur.size = n * k)
    (hsrc : ∀ j v, cs[j]? = some v → w.cell? (a.add j) = some v) (h1 : ∀ v ∈ cs, v.oneCell' = true) :
    (Builtin.copy_ #[dT, sT] ty #[.slice (some ⟨g, 0, none⟩) n dCap, .slice (some a) n sCap]).run P w = .ok (goInt n) (w.setRow g cs.toArray) := by
  have hl := run_loadCells_list (P := P) w a cs hsrc
  have hst := run_storeCells_at P g 0 t cs 0 cur w hg (by omega) h1
  have e0 : (cur.toList.take 0 ++ cs ++ cur.toList.drop (0 + cs.length)).toArray = cs.toArray := by
    rw [List.take_zero, List.nil_append, List.drop_of_length_le (by rw [Array.length_toList]; omega), List.append_nil]
  have hn2 : n * k = cs.length := hn.symm
  simp at hst
  simp [Builtin.copy_, run_underlying hu, Builtin.lenOf, Builtin.firstCells, sizeOf, typeInfo, hi, hk, hn2, hl, hst]
  congr 1
  rw [List.drop_of_length_le (by rw [Array.length_toList]; omega), List.append_nil]
theorem setRow_size (w : World) (g : Nat) (cs : Array Value) : (w.setRow g cs).heap.size = w.heap.size := by simp [World.setRow]

theorem wpList_copyK {α : Type} {enc : α → List Value} {k : Nat} {P : Program} {w : World} {ops : Array Oper} {rest : List Oper} {o : Oper} {a : Act} {Q : Exit → Act → World → Prop} (hgd : o.guard = none) (d s : Operand) (dT sT : TypeId)
    (ho : o.op = .call { callee := .builtin .copy, args := #[d, s], argTypes := #[dT, sT] }) (elem : TypeId) (hu : P.underlying dT = some (.slice elem)) (i : TypeInfo) (hi : P.info? elem = some i) (hk : i.size = k)
    (henc : ∀ x, (enc x).length = k) (h1c : ∀ x, ∀ u ∈ enc x, u.oneCell' = true)
    (B : Nat) (w0 : World) (hb : Below B w0 w) (g n : Nat) (zs : List Value) (hown : w.ownsRow B elem k (.slice (some ⟨g, 0, none⟩) n n) n zs) (hd : a.eval d = .slice (some ⟨g, 0, none⟩) n n)
    (vx : Value) (top : Nat) (xs : List α) (hs : a.eval s = vx) (hr : ReadsK enc k top w vx xs) (hn : xs.length = n)
    (h : ∀ w', w'.ownsRow B elem k (.slice (some ⟨g, 0, none⟩) n n) n (xs.flatMap enc) → Below B w0 w' → w'.heap.size = w.heap.size → wpList P ops Q rest (a.put o.dst (goInt n)) w') : wpList P ops Q (o :: rest) a w := by
  obtain ⟨ad, cap, rfl, g1, g2, g3, g4⟩ := id hr
  rcases hown.2 with ⟨e, _⟩ | ⟨g', cap', cur, e, hB, hh, hc, hm, hcz, htk⟩
  · cases e
  · cases e
    cases ad with
    | none =>
      obtain ⟨rfl, e0, rfl⟩ := hr.nil
      have hn0 : n = 0 := by simpa using hn.symm
      subst hn0
      refine wpList_plain hgd fun K hK => ?_
      have hrun : (Builtin.copy_ #[dT, sT] o.type #[.slice (some ⟨g, 0, none⟩) 0 0, .slice none 0 0]).run P w = .ok (goInt 0) w := run_copy_nil (P := P) w dT sT o.type elem ⟨g, 0, none⟩ 0 0 hu (by rw [hi]; rfl)
      unfold Oper.wp
      simp only [List.length_nil] at hs
      simp [execOp, ho, resolve, invoke, builtin, hd, hs, hrun, Result.andThen]
      refine hK _ _ (h w ?_ hb rfl)
      have hz : zs = [] := List.eq_nil_of_length_eq_zero (by have := hown.1; omega)
      rw [hz] at hown
      simpa using hown
    | some ad =>
      have hl : (xs.flatMap enc).length = n * k := by rw [flat_len henc, hn]
      have h1 : ∀ v ∈ xs.flatMap enc, v.oneCell' = true := fun v hv => by
        obtain ⟨y, _, hy⟩ := List.mem_flatMap.1 hv
        exact h1c y v hy
      refine wpList_plain hgd fun K hK => ?_
      have hrun := run_copyK (P := P) w dT sT o.type elem g n k n ad cap cur elem (xs.flatMap enc) hu i hi hk hh hl hcz (fun j v hv => hr.news henc j v hv) h1
      unfold Oper.wp
      rw [hn] at hs
      simp [execOp, ho, resolve, invoke, builtin, hd, hs, hrun, Result.andThen]
      refine hK _ _ (h _ ⟨hl, Or.inr ⟨g, n, (xs.flatMap enc).toArray, rfl, hB, setRow_heap w g cur _ elem _ hh, Nat.le_refl _, hm, by simp [hl], ?_⟩⟩ (below_setRow hb hB _) (setRow_size _ _ _))
      show (xs.flatMap enc).take (n * k) = _
      rw [List.take_of_length_le (by omega)]

end Go.Proofs.YtpkicliimhflgaaDoor
namespace Go.Proofs.YtpkicliimhflgaaDoor
open Go.ChangeShapes Go.WideShapes Go.ChangeAt Go.RowKit

/-- What a slice of this type holds. -/
def IsNodeS (x : Rw) : Prop := ∃ v n e cs, x = .sl v n 4 e cs ∧ ∀ j, j < n → ∃ (a0 : ByteArray) (a1 : ByteArray) (a2 : Int) (a3 : Rw), cs[j * 4]? = some (.leaf (.string a0)) ∧ cs[j * 4 + 1]? = some (.leaf (.string a1)) ∧ cs[j * 4 + 2]? = some (.leaf (.int .i64 a2)) ∧ cs[j * 4 + 3]? = some a3 ∧ IsAttrS a3
theorem is_sl_NodeS {x : Rw} (h : IsNodeS x) : ∃ v n k e cs, x = .sl v n k e cs := by
  obtain ⟨v, n, e, cs, rfl, _⟩ := h
  exact ⟨v, n, _, e, cs, rfl⟩

end Go.Proofs.YtpkicliimhflgaaDoor
namespace Go.Proofs.YtpkicliimhflgaaDoor
open Go.ChangeShapes Go.WideShapes Go.ChangeAt Go.RowKit

def SzNode (a0 : ByteArray) (a1 : ByteArray) (a3 : Rw) (left : Int) (w : World) (e : Ending) (w' : World) : Prop :=
  ∃ r : Int, e = .returned (.int .i64 r) ∧ -1 ≤ r ∧ (0 ≤ r → r + (a0.size : Nat) + (a1.size : Nat) + (a3.weight : Nat) = left) ∧ Grw w w'

end Go.Proofs.YtpkicliimhflgaaDoor
namespace Go.Proofs.YtpkicliimhflgaaDoor
open Go.ChangeShapes Go.WideShapes Go.ChangeAt Go.RowKit

def SzBuilder (a0 : Rw) (a1 : Rw) (left : Int) (w : World) (e : Ending) (w' : World) : Prop :=
  ∃ r : Int, e = .returned (.int .i64 r) ∧ -1 ≤ r ∧ (0 ≤ r → r + (a0.weight : Nat) + (a1.weight : Nat) = left) ∧ Grw w w'

end Go.Proofs.YtpkicliimhflgaaDoor
namespace Go.Proofs.YtpkicliimhflgaaDoor
/-- A node: name, text, the number of its parent, attributes. -/
structure Nd where
  name : ByteArray
  text : ByteArray
  parent : Int
  attrs : List (ByteArray × ByteArray)
deriving DecidableEq
structure Bd where
  nodes : List Nd
  opn : List Int
deriving DecidableEq
def sPage : ByteArray := ⟨#[112, 97, 103, 101]⟩
def isVoid (s : ByteArray) : Bool := (s.toList == [105, 109, 103]) || (s.toList == [108, 105, 110, 107])
def bdNew : Bd := ⟨[⟨sPage, ⟨#[]⟩, -1, []⟩], [0]⟩
/-- The node of this number has this name. -/
def hasName (ns : List Nd) (z : Int) (s : ByteArray) : Bool := decide (0 ≤ z) && match ns[z.toNat]? with
  | some x => x.name.toList == s.toList
  | none => false
/-- How many elements stay open: all, or those ahead of the last one of this name (the first one always stays). -/
def closeN (b : Bd) (s : ByteArray) : Nat → Nat
  | 0 => b.opn.length
  | k + 1 => if hasName b.nodes (b.opn.getD (k + 1) 0) s then k + 1 else closeN b s k
def closeB (b : Bd) (s : ByteArray) : Bd := ⟨b.nodes, b.opn.take (closeN b s (b.opn.length - 1))⟩
def lastOpen (b : Bd) : Int := b.opn.getD (b.opn.length - 1) 0
def pushN (b : Bd) (x : Nd) : Bd := ⟨b.nodes ++ [x], b.opn⟩
/-- A node is appended below the last open one, where there is room. -/
def roomB (b : Bd) : Bool := decide (b.nodes.length < 40) && decide (0 < b.opn.length)
def openB (b : Bd) (n : ByteArray) (ats : List (ByteArray × ByteArray)) : Bd × Int :=
  if isVoid n = false ∧ 8 ≤ b.opn.length then (b, -1)
  else if roomB b = false then (b, -1)
  else (⟨b.nodes ++ [⟨n, ⟨#[]⟩, lastOpen b, ats⟩], if isVoid n = false then b.opn ++ [(b.nodes.length : Int)] else b.opn⟩, (b.nodes.length : Int))
def textB (b : Bd) (t : ByteArray) : Bd × Int :=
  if t.size = 0 ∨ roomB b = false then (b, -1)
  else (⟨b.nodes ++ [⟨⟨#[]⟩, t, lastOpen b, []⟩], b.opn⟩, (b.nodes.length : Int))
def addTok (b : Bd) (t : Tok) : Bd × Int :=
  if t.kind = 1 then openB b t.name t.attrs
  else if t.kind = 2 then (closeB b t.name, -1)
  else if t.kind = 3 then textB b t.text
  else (b, -1)
def addToks (b : Bd) : List Tok → Bd
  | [] => b
  | t :: ts => addToks (addTok b t).1 ts
theorem addToks_append (b : Bd) : ∀ (ts : List Tok) (t : Tok), addToks b (ts ++ [t]) = (addTok (addToks b ts) t).1
  | [], t => rfl
  | u :: ts, t => by
    rw [List.cons_append, addToks, addToks]
    exact addToks_append _ ts t
def textsOf (ns : List Nd) (k : Int) : List ByteArray := match ns with
  | [] => []
  | x :: ns => if x.parent = k ∧ x.name.size = 0 then x.text :: textsOf ns k else textsOf ns k
def joinE : List ByteArray → ByteArray
  | [] => ⟨#[]⟩
  | x :: xs => x ++ joinE xs
def textOf (b : Bd) (k : Int) : ByteArray := joinE (textsOf b.nodes k)
def countName (ns : List Nd) (s : ByteArray) : Nat := match ns with
  | [] => 0
  | x :: ns => (if (x.name.toList == s.toList) = true then 1 else 0) + countName ns s
/-- A node that can have children. -/
def canOpen (ns : List Nd) (z : Int) : Bool := decide (0 ≤ z) && match ns[z.toNat]? with
  | some x => decide (x.name.size ≠ 0) && !isVoid x.name
  | none => false
def okNode (ns : List Nd) (i : Nat) : Bool := match ns[i]? with
  | some x => decide (x.parent < (i : Int)) && canOpen ns x.parent && (if x.name.size = 0 then decide (x.text.size ≠ 0) && decide (x.attrs = []) else isNm x.name && decide (x.text.size = 0))
  | none => false
def okRoot (ns : List Nd) : Bool := match ns[0]? with
  | some x => (x.name.toList == [112, 97, 103, 101]) && decide (x.text.size = 0) && decide (x.parent = -1) && decide (x.attrs = [])
  | none => false
def parentOf (ns : List Nd) (z : Int) : Int := (ns[z.toNat]?.map Nd.parent).getD 0
def okOpen (b : Bd) (i : Nat) : Bool := canOpen b.nodes (b.opn.getD i 0) && decide (1 ≤ b.opn.getD i 0) && decide (parentOf b.nodes (b.opn.getD i 0) = b.opn.getD (i - 1) 0)
/-- The numbers from 1 to below n all satisfy it. -/
def allFrom (f : Nat → Bool) : Nat → Bool
  | 0 => true
  | 1 => true
  | n + 2 => allFrom f (n + 1) && f (n + 1)
theorem allFrom_iff (f : Nat → Bool) : ∀ n, allFrom f n = true ↔ ∀ i, 1 ≤ i → i < n → f i = true
  | 0 => by simp [allFrom]
  | 1 => by
    simp [allFrom]; intro i h1 h2; omega
  | n + 2 => by
    rw [allFrom, Bool.and_eq_true, allFrom_iff f (n + 1)]
    constructor
    · rintro ⟨h1, h2⟩ i hi1 hi2
      by_cases e : i = n + 1
      · rw [e]; exact h2
      · exact h1 i hi1 (by omega)
    · intro h
      exact ⟨fun i h1 h2 => h i h1 (by omega), h (n + 1) (by omega) (by omega)⟩
def isBd (b : Bd) : Bool :=
  decide (1 ≤ b.nodes.length ∧ b.nodes.length ≤ 40) && okRoot b.nodes && allFrom (okNode b.nodes) b.nodes.length && decide (1 ≤ b.opn.length ∧ b.opn.length ≤ 8) && decide (b.opn.getD 0 0 = 0) && allFrom (okOpen b) b.opn.length

end Go.Proofs.YtpkicliimhflgaaDoor
namespace Go.Proofs.YtpkicliimhflgaaDoor
open Go.ChangeShapes Go.WideShapes Go.ChangeAt Go.RowKit

abbrev Nv := Nd × Sv
def ndV (p : Nv) : Value := .agg #[.string p.1.name, .string p.1.text, .int .i64 p.1.parent, sv p.2]
def encN (p : Nv) : List Value := [.string p.1.name, .string p.1.text, .int .i64 p.1.parent, sv p.2]
theorem encN_len (p : Nv) : (encN p).length = 4 := rfl
theorem encN_one (p : Nv) : ∀ u ∈ encN p, u.oneCell' = true := by
  intro u hu
  simp only [encN, List.mem_cons, List.mem_nil_iff, or_false] at hu
  rcases hu with rfl | rfl | rfl | rfl <;> rfl
def insN (ts : List Nv) : List Nat := ts.flatMap fun p => (sv p.2).ownBlock.toList
theorem insN_append (ts us : List Nv) : insN (ts ++ us) = insN ts ++ insN us := by unfold insN; rw [List.flatMap_append]
theorem insN_mem {ts : List Nv} {b : Nat} : b ∈ insN ts ↔ ∃ p ∈ ts, (sv p.2).ownBlock = some b := by
  unfold insN
  rw [List.mem_flatMap]
  constructor
  · rintro ⟨p, hp, hb⟩
    exact ⟨p, hp, by simpa using hb⟩
  · rintro ⟨p, hp, hb⟩
    exact ⟨p, hp, by simpa using hb⟩
theorem rwN_count {ts us : List Nv} (h : ts.map Prod.fst = us.map Prod.fst) : ts.length = us.length := by
  have := congrArg List.length h
  simpa using this
/-- It reads so, with all that the nodes hold. -/
def ReadN (hi : Nat) (w : World) (v : Value) (ns : List Nv) : Prop := ReadsK encN 4 hi w v ns ∧ ∀ p ∈ ns, ReadsK encA 2 hi w (sv p.2) p.1.attrs
theorem ReadN.below {hi B : Nat} {w w' : World} {v : Value} {ns : List Nv} (h : ReadN hi w v ns) (hb : Below B w w') (hB : hi ≤ B) : ReadN hi w' v ns :=
  ⟨h.1.below hb hB, fun p hp => (h.2 p hp).below hb hB⟩
theorem ReadN.mono {hi hi' : Nat} {w : World} {v : Value} {ns : List Nv} (h : ReadN hi w v ns) (hh : hi ≤ hi') : ReadN hi' w v ns :=
  ⟨h.1.mono hh, fun p hp => (h.2 p hp).mono hh⟩
/-- The same for tokens. -/
def ReadT (hi : Nat) (w : World) (v : Value) (ts : List Tv) : Prop := ReadsK encT 4 hi w v ts ∧ ∀ p ∈ ts, ReadsK encA 2 hi w (sv p.2) p.1.attrs
theorem ReadT.below {hi B : Nat} {w w' : World} {v : Value} {ns : List Tv} (h : ReadT hi w v ns) (hb : Below B w w') (hB : hi ≤ B) : ReadT hi w' v ns :=
  ⟨h.1.below hb hB, fun p hp => (h.2 p hp).below hb hB⟩
theorem ReadT.mono {hi hi' : Nat} {w : World} {v : Value} {ns : List Tv} (h : ReadT hi w v ns) (hh : hi ≤ hi') : ReadT hi' w v ns :=
  ⟨h.1.mono hh, fun p hp => (h.2 p hp).mono hh⟩
/-- What is owned lies in no block of another type. -/
theorem ownK_setT {α : Type} {enc : α → List Value} {k : Nat} {e T : TypeId} {lo hi b o : Nat} {w : World} {v u : Value} {xs : List α} {cs : Array Value} (h : OwnK enc k e lo hi w v xs) (hb : w.heap[b]? = some (.cells cs T (0, 0))) (hne : e ≠ T) : OwnK enc k e lo hi (w.setCell ⟨b, o, none⟩ u) v xs := by
  refine ⟨⟨h.1.1, ?_⟩, h.2⟩
  rcases h.1.2 with h1 | ⟨g, cap, cur, h1, h2, h3, h4⟩
  · exact Or.inl h1
  · refine Or.inr ⟨g, cap, cur, h1, h2, ?_, h4⟩
    rw [Below.heap_setCell _ _ _ _ (show g ≠ b from fun e' => ?_)]
    · exact h3
    · subst e'
      rw [h3] at hb
      injection hb with h5
      injection h5 with _ h6 _
      exact hne h6
theorem row_ne_box {w : World} {B k n b : Nat} {e T : TypeId} {v : Value} {xs : List Value} {cs : Array Value} (h : w.ownsRow B e k v n xs) (hb : w.heap[b]? = some (.cells cs T (0, 0))) (hne : e ≠ T) : some b ≠ v.ownBlock := by
  rcases h.2 with ⟨rfl, _⟩ | ⟨g, cap, cur, rfl, _, h2, _⟩
  · intro h; cases h
  · intro h
    have e : b = g := Option.some.inj h
    subst e
    rw [h2] at hb
    injection hb with h5
    injection h5 with _ h6 _
    exact hne h6
theorem own_setT {k : IntKind} {e T : TypeId} {lo hi b o : Nat} {w : World} {v u : Value} {zs : List Int} {cs : Array Value} (h : Own k e lo hi w v zs) (hb : w.heap[b]? = some (.cells cs T (0, 0))) (hne : e ≠ T) : Own k e lo hi (w.setCell ⟨b, o, none⟩ u) v zs := by
  refine ⟨⟨h.1.1, ?_⟩, h.2⟩
  rcases h.1.2 with h1 | ⟨g, cap, cur, h1, h2, h3, h4⟩
  · exact Or.inl h1
  · refine Or.inr ⟨g, cap, cur, h1, h2, ?_, h4⟩
    rw [Below.heap_setCell _ _ _ _ (show g ≠ b from fun e' => ?_)]
    · exact h3
    · subst e'
      rw [h3] at hb
      injection hb with h5
      injection h5 with _ h6 _
      exact hne h6
/-- The first elements of an own row. -/
theorem row_take {w : World} {B k n m g cap : Nat} {e : TypeId} {xs : List Value} (h : w.ownsRow B e k (.slice (some ⟨g, 0, none⟩) n cap) n xs) (hm : m ≤ n) : w.ownsRow B e k (.slice (some ⟨g, 0, none⟩) m cap) m (xs.take (m * k)) := by
  refine ⟨by rw [List.length_take, h.1, Nat.min_eq_left (Nat.mul_le_mul_right k hm)], ?_⟩
  rcases h.2 with ⟨h1, _⟩ | ⟨g', cap', cur, h1, h2, h3, h4, h5, h6, h7⟩
  · cases h1
  · cases h1
    refine Or.inr ⟨g, cap, cur, rfl, h2, h3, by omega, h5, h6, ?_⟩
    rw [← h7, List.take_take, Nat.min_eq_left (Nat.mul_le_mul_right k hm)]
theorem Mine.take {k : IntKind} {e : TypeId} {B n cap g m : Nat} {w0 w : World} {zs : List Int} (h : Mine k e B w0 w (.slice (some ⟨g, 0, none⟩) n cap) zs) (hn : n = zs.length) (hm : m ≤ n) : Mine k e B w0 w (.slice (some ⟨g, 0, none⟩) m cap) (zs.take m) := by
  have h1 := row_take (hn ▸ h.row) (hn ▸ hm)
  have e2 : (zs.take m).length = m := by rw [List.length_take]; omega
  exact ⟨by rw [e2, List.map_take]; simpa using h1, h.below, h.size⟩

def BdIn (hi : Nat) (w : World) (nv ov : Value) (b : Bd) : Prop := ∃ ns : List Nv, ns.map Prod.fst = b.nodes ∧ ReadN hi w nv ns ∧ Reads .i64 hi w ov b.opn
theorem BdIn.below {hi B : Nat} {w w' : World} {nv ov : Value} {b : Bd} (h : BdIn hi w nv ov b) (hb : Below B w w') (hB : hi ≤ B) : BdIn hi w' nv ov b := by
  obtain ⟨ns, h1, h2, h3⟩ := h
  exact ⟨ns, h1, h2.below hb hB, h3.below hb hB⟩
theorem BdIn.mono {hi hi' : Nat} {w : World} {nv ov : Value} {b : Bd} (h : BdIn hi w nv ov b) (hh : hi ≤ hi') : BdIn hi' w nv ov b := by
  obtain ⟨ns, h1, h2, h3⟩ := h
  exact ⟨ns, h1, h2.mono hh, h3.mono hh⟩
theorem BdIn.up {w w' : World} {nv ov : Value} {b : Bd} (h : BdIn w.heap.size w nv ov b) (hb : Below w.heap.size w w') : BdIn w'.heap.size w' nv ov b := (h.below hb (Nat.le_refl _)).mono hb.size
/-- How many plain values the nodes hold. -/
def ndW : List Nd → Nat
  | [] => 0
  | x :: ns => 3 + 2 * x.attrs.length + ndW ns
theorem atCells_count' : ∀ ats : List At, countL (atCells ats) = 2 * ats.length
  | [] => rfl
  | a :: ats => by rw [atCells, countL, countL, Rw.count, Rw.count, atCells_count' ats, List.length_cons]; omega
theorem ndW_append : ∀ (a b : List Nd), ndW (a ++ b) = ndW a + ndW b
  | [], b => by rw [ndW, List.nil_append, Nat.zero_add]
  | x :: a, b => by rw [List.cons_append, ndW, ndW, ndW_append a b]; omega
theorem addTok_W (b : Bd) (t : Tok) : ndW (addTok b t).1.nodes ≤ ndW b.nodes + 3 + 2 * t.attrs.length ∧ (addTok b t).1.nodes.length ≤ max 40 b.nodes.length ∧ (addTok b t).1.opn.length ≤ max 8 b.opn.length := by
  unfold addTok openB textB roomB closeB
  split
  · split
    · exact ⟨by dsimp only; omega, by dsimp only; omega, by dsimp only; omega⟩
    · split
      · exact ⟨by dsimp only; omega, by dsimp only; omega, by dsimp only; omega⟩
      · rename_i h1 h2
        simp only [Bool.and_eq_false_iff, decide_eq_false_iff_not, not_or, Decidable.not_not] at h2
        refine ⟨by simp only [ndW_append, ndW]; omega, by simp only [List.length_append, List.length_cons, List.length_nil]; omega, ?_⟩
        show (if isVoid t.name = false then b.opn ++ [(b.nodes.length : Int)] else b.opn).length ≤ _
        split
        · rename_i h3
          have : ¬ 8 ≤ b.opn.length := fun h => h1 ⟨h3, h⟩
          simp only [List.length_append, List.length_cons, List.length_nil]; omega
        · omega
  · split
    · exact ⟨by dsimp only; omega, by dsimp only; omega, by simp only [List.length_take]; omega⟩
    · split
      · split
        · exact ⟨by dsimp only; omega, by dsimp only; omega, by dsimp only; omega⟩
        · rename_i h2
          simp only [Bool.and_eq_false_iff, decide_eq_false_iff_not, not_or, Decidable.not_not] at h2
          refine ⟨by simp only [ndW_append, ndW, List.length_nil]; omega, by simp only [List.length_append, List.length_cons, List.length_nil]; omega, by dsimp only; omega⟩
      · exact ⟨by dsimp only; omega, by dsimp only; omega, by dsimp only; omega⟩

end Go.Proofs.YtpkicliimhflgaaDoor
namespace Go.Proofs.YtpkicliimhflgaaDoor
open Go.ChangeShapes Go.WideShapes Go.ChangeAt Go.RowKit

theorem emp_size {s : ByteArray} : (s.toList == ([] : List UInt8)) = decide (s.size = 0) := by
  rw [ByteArray.toList_eq]
  have h := size_list s
  by_cases e : s.size = 0
  · rw [decide_eq_true e, List.eq_nil_of_length_eq_zero (h.trans e)]; rfl
  · rw [decide_eq_false e]
    refine beq_eq_false_iff_ne.2 fun k => e ?_
    rw [k] at h; simpa using h.symm
theorem nd_at {ns : List Nv} {k : Nat} (h : k < ns.length) : ∃ p, ns[k]? = some p := ⟨_, List.getElem?_eq_getElem h⟩
/-- The cells of node k. -/
theorem ReadN.at {hi n cap k : Nat} {w : World} {a : Option Addr} {ns : List Nv} {p : Nv} (h : ReadN hi w (.slice a n cap) ns) (hk : ns[k]? = some p) :
    ∃ g off, a = some ⟨g, off, none⟩ ∧ g < hi ∧ w.cell? ⟨g, off + k * 4, none⟩ = some (.string p.1.name) ∧ w.cell? ⟨g, off + k * 4 + 1, none⟩ = some (.string p.1.text) ∧ w.cell? ⟨g, off + k * 4 + 2, none⟩ = some (.int .i64 p.1.parent) ∧ w.cell? ⟨g, off + k * 4 + 3, none⟩ = some (sv p.2) := by
  obtain ⟨⟨a', cap', e, h1, h2, h3, h4⟩, _⟩ := h
  cases e
  have hlt := (List.getElem?_eq_some_iff.1 hk).1
  rcases h4 with h4 | ⟨g, off, rfl, hg, hc⟩
  · omega
  · exact ⟨g, off, rfl, hg, hc k p hk 0 (by omega), hc k p hk 1 (by omega), hc k p hk 2 (by omega), hc k p hk 3 (by omega)⟩
theorem ReadN.form {hi : Nat} {w : World} {v : Value} {ns : List Nv} (h : ReadN hi w v ns) : ∃ a cap, v = .slice a ns.length cap ∧ ns.length ≤ cap ∧ cap ≤ 9223372036854775807 := by
  obtain ⟨⟨a, cap, e, h1, h2, _⟩, _⟩ := h
  exact ⟨a, cap, e, h1, h2⟩
theorem reads_form {hi : Nat} {w : World} {v : Value} {zs : List Int} (h : Reads .i64 hi w v zs) : ∃ a cap, v = .slice a zs.length cap ∧ zs.length ≤ cap ∧ cap ≤ 9223372036854775807 := by
  obtain ⟨a, cap, e, h1, h2, _⟩ := h
  exact ⟨a, cap, e, h1, h2⟩
theorem reads_at {hi n cap k : Nat} {w : World} {a : Option Addr} {zs : List Int} (h : Reads .i64 hi w (.slice a n cap) zs) (hk : k < zs.length) :
    ∃ g off, a = some ⟨g, off, none⟩ ∧ g < hi ∧ w.cell? ⟨g, off + k, none⟩ = some (.int .i64 (zs.getD k 0)) := by
  obtain ⟨a', cap', e, h1, h2, h3, h4⟩ := h
  cases e
  rcases h4 with h4 | ⟨g, off, rfl, hg, hc⟩
  · omega
  · exact ⟨g, off, rfl, hg, hc k hk⟩

theorem nil_size {α : Type} {l : List α} [DecidableEq α] : decide (l = []) = decide (l.length = 0) := decide_eq_decide.2 ⟨fun h => by rw [h]; rfl, List.eq_nil_of_length_eq_zero⟩

end Go.Proofs.YtpkicliimhflgaaDoor
namespace Go.Proofs.YtpkicliimhflgaaDoor
open Go.ChangeShapes Go.WideShapes Go.ChangeAt Go.RowKit

theorem count_more {ns : List Nd} {s : ByteArray} {k : Nat} {x : Nd} (h : ns[k]? = some x) : countName (ns.take (k + 1)) s = countName (ns.take k) s + (if (x.name.toList == s.toList) = true then 1 else 0) := by
  induction ns generalizing k with
  | nil => simp at h
  | cons y ns ih =>
    cases k with
    | zero =>
      have : y = x := by simpa using h
      subst this
      simp [countName]
    | succ k =>
      rw [List.take_succ_cons, List.take_succ_cons, countName, countName, ih (by simpa using h)]; omega
theorem count_le : ∀ (ns : List Nd) (s : ByteArray), countName ns s ≤ ns.length
  | [], s => Nat.le_refl _
  | x :: ns, s => by
    have := count_le ns s
    rw [countName, List.length_cons]; split <;> omega
theorem map_fst_at {ns : List Nv} {l : List Nd} (h : ns.map Prod.fst = l) {k : Nat} {p : Nv} (hp : ns[k]? = some p) : l[k]? = some p.1 := by
  subst h; rw [List.getElem?_map, hp]; rfl

end Go.Proofs.YtpkicliimhflgaaDoor
namespace Go.Proofs.YtpkicliimhflgaaDoor
theorem isBd_iff {b : Bd} : isBd b = true ↔ (1 ≤ b.nodes.length ∧ b.nodes.length ≤ 40) ∧ okRoot b.nodes = true ∧ (∀ i, 1 ≤ i → i < b.nodes.length → okNode b.nodes i = true) ∧ (1 ≤ b.opn.length ∧ b.opn.length ≤ 8) ∧ b.opn.getD 0 0 = 0 ∧ (∀ i, 1 ≤ i → i < b.opn.length → okOpen b i = true) := by
  unfold isBd
  simp only [Bool.and_eq_true, decide_eq_true_eq, allFrom_iff, and_assoc]
theorem isNm_pos {s : ByteArray} (h : isNm s = true) : 1 ≤ s.size := by
  unfold isNm at h
  have := (Bool.and_eq_true _ _ ▸ h : _ ∧ _).1
  have := of_decide_eq_true this
  exact this.1
theorem canOpen_lt {ns : List Nd} {z : Int} (h : canOpen ns z = true) : 0 ≤ z ∧ z.toNat < ns.length := by
  unfold canOpen at h
  rw [Bool.and_eq_true] at h
  refine ⟨of_decide_eq_true h.1, ?_⟩
  cases e : ns[z.toNat]? with
  | none => rw [e] at h; exact absurd h.2 (by simp)
  | some x => exact (List.getElem?_eq_some_iff.1 e).1
theorem canOpen_app {ns : List Nd} {z : Int} (xs : List Nd) (h : canOpen ns z = true) : canOpen (ns ++ xs) z = true := by
  have hl := (canOpen_lt h).2
  unfold canOpen at h ⊢
  rw [List.getElem?_append_left hl]; exact h
theorem okNode_app {ns : List Nd} {i : Nat} (xs : List Nd) (h : okNode ns i = true) (hi : i < ns.length) : okNode (ns ++ xs) i = true := by
  unfold okNode at h ⊢
  rw [List.getElem?_append_left hi]
  cases e : ns[i]? with
  | none => rw [e] at h; exact absurd h (by simp)
  | some x =>
    rw [e] at h
    simp only [Bool.and_eq_true] at h ⊢
    exact ⟨⟨h.1.1, canOpen_app xs h.1.2⟩, h.2⟩
theorem okRoot_app {ns : List Nd} (xs : List Nd) (h : okRoot ns = true) (hi : 0 < ns.length) : okRoot (ns ++ xs) = true := by
  unfold okRoot at h ⊢
  rw [List.getElem?_append_left hi]; exact h
theorem parentOf_app {ns : List Nd} {z : Int} (xs : List Nd) (hi : z.toNat < ns.length) : parentOf (ns ++ xs) z = parentOf ns z := by
  unfold parentOf; rw [List.getElem?_append_left hi]
theorem getD_app {xs ys : List Int} {i : Nat} (h : i < xs.length) : (xs ++ ys).getD i 0 = xs.getD i 0 := by
  rw [List.getD_eq_getElem?_getD, List.getD_eq_getElem?_getD, List.getElem?_append_left h]
theorem getD_take {xs : List Int} {i m : Nat} (h : i < m) : (xs.take m).getD i 0 = xs.getD i 0 := by
  rw [List.getD_eq_getElem?_getD, List.getD_eq_getElem?_getD, List.getElem?_take, if_pos h]
theorem okOpen_app {b : Bd} {i : Nat} (xs : List Nd) (ys : List Int) (h : okOpen b i = true) (hi : i < b.opn.length) : okOpen ⟨b.nodes ++ xs, b.opn ++ ys⟩ i = true := by
  unfold okOpen at h ⊢
  simp only [Bool.and_eq_true, decide_eq_true_eq] at h ⊢
  have hl := (canOpen_lt h.1.1).2
  rw [getD_app hi, getD_app (show i - 1 < b.opn.length by omega), parentOf_app xs hl]
  exact ⟨⟨canOpen_app xs h.1.1, h.1.2⟩, h.2⟩
theorem okOpen_take {b : Bd} {i m : Nat} (h : okOpen b i = true) (hi : i < m) : okOpen ⟨b.nodes, b.opn.take m⟩ i = true := by
  unfold okOpen at h ⊢
  simp only at h ⊢
  rw [getD_take hi, getD_take (show i - 1 < m by omega)]; exact h
theorem closeN_in (b : Bd) (s : ByteArray) : ∀ k, closeN b s k = b.opn.length ∨ 1 ≤ closeN b s k ∧ closeN b s k ≤ k
  | 0 => Or.inl rfl
  | k + 1 => by
    rw [closeN]; split
    · right; omega
    · rcases closeN_in b s k with h | h
      · exact Or.inl h
      · right; omega
theorem okRoot_open {ns : List Nd} (h : okRoot ns = true) : canOpen ns 0 = true := by
  unfold okRoot at h
  unfold canOpen
  cases e : ns[0]? with
  | none => rw [e] at h; exact absurd h (by simp)
  | some x =>
    rw [e] at h
    simp only [Bool.and_eq_true, decide_eq_true_eq] at h
    have h1 : x.name.toList = [112, 97, 103, 101] := by simpa using h.1.1.1
    have h2 : x.name.size ≠ 0 := by
      intro e0
      rw [ByteArray.toList_eq] at h1
      have : x.name.data.toList.length = 0 := by rw [Array.length_toList]; exact e0
      rw [h1] at this; cases this
    show (decide (0 ≤ (0 : Int)) && match ns[0]? with | some x => decide (x.name.size ≠ 0) && !isVoid x.name | none => false) = true
    rw [e]
    unfold isVoid
    dsimp only
    rw [h1, decide_eq_true h2]; rfl
theorem last_open {b : Bd} (h : isBd b = true) : canOpen b.nodes (lastOpen b) = true := by
  obtain ⟨_, hr, _, ho, h0, hop⟩ := isBd_iff.1 h
  unfold lastOpen
  by_cases e : b.opn.length = 1
  · rw [e, h0]; exact okRoot_open hr
  · have := hop (b.opn.length - 1) (by omega) (by omega)
    unfold okOpen at this
    simp only [Bool.and_eq_true] at this
    exact this.1.1
theorem node_new (ns : List Nd) (x : Nd) (h : canOpen ns x.parent = true) (hx : (if x.name.size = 0 then decide (x.text.size ≠ 0) && decide (x.attrs = []) else isNm x.name && decide (x.text.size = 0)) = true) : okNode (ns ++ [x]) ns.length = true := by
  unfold okNode
  rw [List.getElem?_append_right (Nat.le_refl _), Nat.sub_self]
  have hl := canOpen_lt h
  simp only [List.getElem?_cons_zero, Bool.and_eq_true, decide_eq_true_eq]
  exact ⟨⟨by omega, canOpen_app _ h⟩, hx⟩
theorem isBd_push {b : Bd} {x : Nd} (h : isBd b = true) (hn : b.nodes.length < 40) (hp : x.parent = lastOpen b) (hx : (if x.name.size = 0 then decide (x.text.size ≠ 0) && decide (x.attrs = []) else isNm x.name && decide (x.text.size = 0)) = true) : isBd ⟨b.nodes ++ [x], b.opn⟩ = true := by
  have hl := last_open h
  obtain ⟨h1, hr, hno, ho, h0, hop⟩ := isBd_iff.1 h
  refine isBd_iff.2 ⟨by simp only [List.length_append, List.length_cons, List.length_nil]; omega, okRoot_app _ hr (by omega), fun i hi1 hi2 => ?_, ho, h0, fun i hi1 hi2 => ?_⟩
  · simp only [List.length_append, List.length_cons, List.length_nil] at hi2
    by_cases e : i = b.nodes.length
    · rw [e]; exact node_new _ x (hp ▸ hl) hx
    · exact okNode_app _ (hno i hi1 (by omega)) (by omega)
  · have := okOpen_app [x] [] (hop i hi1 hi2) hi2
    rwa [List.append_nil] at this
theorem isBd_open {b : Bd} {x : Nd} (h : isBd b = true) (hn : b.nodes.length < 40) (ho8 : b.opn.length < 8) (hp : x.parent = lastOpen b) (hv : isVoid x.name = false) (hnm : isNm x.name = true) (ht : x.text.size = 0) : isBd ⟨b.nodes ++ [x], b.opn ++ [(b.nodes.length : Int)]⟩ = true := by
  have hs : ¬ x.name.size = 0 := by have := isNm_pos hnm; omega
  have h' := isBd_push h hn hp (by rw [if_neg hs, hnm, decide_eq_true ht]; rfl)
  have hl := last_open h
  obtain ⟨h1, hr, hno, ho, h0, hop⟩ := isBd_iff.1 h'
  obtain ⟨_, _, _, ho', _, hop'⟩ := isBd_iff.1 h
  refine isBd_iff.2 ⟨h1, hr, hno, by simp only [List.length_append, List.length_cons, List.length_nil]; omega, by rw [getD_app (by omega)]; exact h0, fun i hi1 hi2 => ?_⟩
  simp only [List.length_append, List.length_cons, List.length_nil] at hi2
  by_cases e : i = b.opn.length
  · subst e
    have eN : (b.opn ++ [(b.nodes.length : Int)]).getD b.opn.length 0 = (b.nodes.length : Int) := by
      rw [List.getD_eq_getElem?_getD, List.getElem?_append_right (Nat.le_refl _), Nat.sub_self]; rfl
    unfold okOpen
    simp only [Bool.and_eq_true, decide_eq_true_eq]
    rw [eN, getD_app (by omega)]
    have hx : (b.nodes ++ [x])[((b.nodes.length : Int)).toNat]? = some x := by
      rw [Int.toNat_natCast, List.getElem?_append_right (Nat.le_refl _), Nat.sub_self]; rfl
    refine ⟨⟨?_, by have := (isBd_iff.1 h).1; omega⟩, ?_⟩
    · unfold canOpen
      rw [hx]
      simp only [Bool.and_eq_true, decide_eq_true_eq, Bool.not_eq_true']
      exact ⟨by omega, hs, hv⟩
    · unfold parentOf
      rw [hx]
      show x.parent = _
      rw [hp]; rfl
  · exact okOpen_app [x] [(b.nodes.length : Int)] (hop' i hi1 (by omega)) (by omega)
theorem isBd_close {b : Bd} (h : isBd b = true) (s : ByteArray) : isBd (closeB b s) = true := by
  obtain ⟨h1, hr, hno, ho, h0, hop⟩ := isBd_iff.1 h
  unfold closeB
  have hc : 1 ≤ closeN b s (b.opn.length - 1) ∧ closeN b s (b.opn.length - 1) ≤ b.opn.length := by
    rcases closeN_in b s (b.opn.length - 1) with e | e <;> omega
  refine isBd_iff.2 ⟨h1, hr, hno, by simp only [List.length_take]; omega, by rw [getD_take (by omega)]; exact h0, fun i hi1 hi2 => ?_⟩
  simp only [List.length_take] at hi2
  exact okOpen_take (hop i hi1 (by omega)) (by omega)
theorem isBd_add {b : Bd} (h : isBd b = true) (t : Tok) (ht : t.kind ≠ 1 ∨ isNm t.name = true) : isBd (addTok b t).1 = true := by
  have hb := isBd_iff.1 h
  unfold addTok openB textB
  split
  · rename_i hk
    have hnm : isNm t.name = true := by rcases ht with h1 | h1; exact absurd hk h1; exact h1
    split
    · exact h
    · rename_i h8
      split
      · exact h
      · rename_i hroom
        have hroom' : roomB b = true := by cases e : roomB b; exact absurd e hroom; rfl
        unfold roomB at hroom'
        simp only [Bool.and_eq_true, decide_eq_true_eq] at hroom'
        have hs : ¬ t.name.size = 0 := by have := isNm_pos hnm; omega
        by_cases hv : isVoid t.name = false
        · rw [if_pos hv]
          exact isBd_open (x := ⟨t.name, ⟨#[]⟩, lastOpen b, t.attrs⟩) h hroom'.1 (by rcases Nat.lt_or_ge b.opn.length 8 with h1 | h1; exact h1; exact absurd ⟨hv, h1⟩ h8) rfl hv hnm rfl
        · rw [if_neg hv]
          exact isBd_push (x := ⟨t.name, ⟨#[]⟩, lastOpen b, t.attrs⟩) h hroom'.1 rfl (by show (if t.name.size = 0 then _ else _) = true; rw [if_neg hs, hnm]; rfl)
  · split
    · exact isBd_close h _
    · split
      · split
        · exact h
        · rename_i hr
          have hroom : roomB b = true := by cases e : roomB b; exact absurd (Or.inr e) hr; rfl
          have htx : t.text.size ≠ 0 := fun e => hr (Or.inl e)
          unfold roomB at hroom
          simp only [Bool.and_eq_true, decide_eq_true_eq] at hroom
          exact isBd_push (x := ⟨⟨#[]⟩, t.text, lastOpen b, []⟩) h hroom.1 rfl (by show (if (0 : Nat) = 0 then _ else _) = true; rw [if_pos rfl, decide_eq_true htx]; rfl)
      · exact h
/-- Which number a token's node gets, and how many nodes there are then. -/
theorem addTok_num (b : Bd) (t : Tok) : (addTok b t).2 = (b.nodes.length : Int) ∧ (addTok b t).1.nodes.length = b.nodes.length + 1 ∨ (addTok b t).2 = -1 ∧ (addTok b t).1.nodes.length = b.nodes.length := by
  unfold addTok openB textB closeB
  split
  · split
    · exact Or.inr ⟨rfl, rfl⟩
    · split
      · exact Or.inr ⟨rfl, rfl⟩
      · exact Or.inl ⟨rfl, by simp⟩
  · split
    · exact Or.inr ⟨rfl, rfl⟩
    · split
      · split
        · exact Or.inr ⟨rfl, rfl⟩
        · exact Or.inl ⟨rfl, by simp⟩
      · exact Or.inr ⟨rfl, rfl⟩
theorem addToks_num : ∀ (ts : List Tok) (b : Bd), (addToks b ts).nodes.length ≤ b.nodes.length + ts.length
  | [], b => Nat.le_refl _
  | t :: ts, b => by
    have h := addToks_num ts (addTok b t).1
    rw [addToks, List.length_cons]
    rcases addTok_num b t with ⟨_, e⟩ | ⟨_, e⟩ <;> omega

end Go.Proofs.YtpkicliimhflgaaDoor
namespace Go.Proofs.YtpkicliimhflgaaDoor
open Go.ChangeShapes Go.WideShapes Go.ChangeAt Go.RowKit

/-- Blocks of other types than this are kept. -/
def KeepT (e : TypeId) (w w' : World) : Prop := ∀ (b : Nat) (cs : Array Value) (T : TypeId), T ≠ e → w.heap[b]? = some (.cells cs T (0, 0)) → w'.heap[b]? = some (.cells cs T (0, 0))
theorem keep_of {w w' : World} {B k n : Nat} {e : TypeId} {v : Value} {xs : List Value} (h : w.ownsRow B e k v n xs) (hg : w.grownBy w' v.ownBlock) : KeepT e w w' :=
  fun b _ _ hT hb => (hg.block b (heap_lt hb) (row_ne_box h hb hT.symm)).trans hb
theorem grown_refl (w : World) (r : Option Nat) : w.grownBy w r := ⟨rfl, rfl, rfl, Nat.le_refl _, fun _ _ _ => rfl⟩
theorem infoInt : (Tryd.prog.info? 3).map (fun i => (i.zero, i.size, i.bytes)) = some (some (.int .i64 0), 1, 8) := by kernel_rfl
theorem kept_ne {w : World} {B B' k k' n n' : Nat} {e e' : TypeId} {v v' : Value} {xs xs' : List Value} (h : w.ownsRow B e k v n xs) (h' : w.ownsRow B' e' k' v' n' xs') (hne : e ≠ e') : v'.ownBlock = none ∨ v'.ownBlock ≠ v.ownBlock := by
  cases hv : v'.ownBlock with
  | none => exact Or.inl rfl
  | some g =>
    right
    intro e0
    exact rows_ne h h' hne e0.symm hv

end Go.Proofs.YtpkicliimhflgaaDoor
namespace Go.Proofs.YtpkicliimhflgaaDoor
open Go.ChangeShapes Go.WideShapes Go.ChangeAt Go.RowKit

/-- How much a builder holds, as far as append goes. -/
def Fits (b : Bd) : Prop := ndW b.nodes ≤ 68719476736 ∧ b.opn.length ≤ 68719476736
theorem ndW_at : ∀ {ns : List Nd} {x : Nd}, x ∈ ns → 3 + 2 * x.attrs.length ≤ ndW ns
  | [], x, h => by cases h
  | y :: ns, x, h => by
    rw [ndW]
    rcases List.mem_cons.1 h with e | h2
    · rw [e]; omega
    · have := ndW_at h2; omega
theorem ndW_len : ∀ ns : List Nd, 3 * ns.length ≤ ndW ns
  | [] => Nat.le_refl _
  | y :: ns => by
    have := ndW_len ns
    rw [ndW, List.length_cons]; omega
theorem take_moreN {α : Type} {l : List α} {k : Nat} {a : α} (h : l[k]? = some a) : l.take (k + 1) = l.take k ++ [a] := by
  rw [List.take_add_one, h]; rfl
theorem mine_form {B : Nat} {w0 w : World} {v : Value} {zs : List Int} (h : Mine .i64 3 B w0 w v zs) : ∃ a c, v = .slice a zs.length c := by
  rcases h.row.2 with ⟨e, h0⟩ | ⟨g, cap, cur, e, _⟩
  · exact ⟨none, 0, by rw [e, h0]⟩
  · exact ⟨_, _, e⟩
theorem size_setC (w : World) (a : Addr) (u : Value) : (w.setCell a u).heap.size = w.heap.size := by simp [World.setCell]

end Go.Proofs.YtpkicliimhflgaaDoor
namespace Go.Proofs.YtpkicliimhflgaaDoor
open Go.ChangeShapes Go.WideShapes Go.ChangeAt Go.RowKit

theorem set_mid {α : Type} {ts ss : List α} {k : Nat} {p q : α} (hl : ts.length = k) (hp : ss[k]? = some p) : (ts ++ ss.drop k).set k q = (ts ++ [q]) ++ ss.drop (k + 1) := by
  obtain ⟨hk, he⟩ := List.getElem?_eq_some_iff.1 hp
  rw [List.drop_eq_getElem_cons hk, List.set_append_right _ _ (by omega), hl, Nat.sub_self, List.set_cons_zero, List.append_assoc]; rfl
theorem mid_at {α : Type} {ts ss : List α} {k : Nat} {p : α} (hl : ts.length = k) (hp : ss[k]? = some p) : (ts ++ ss.drop k)[k]? = some p := by
  rw [List.getElem?_append_right (by omega), hl, Nat.sub_self, List.getElem?_drop, Nat.add_zero]; exact hp
/-- A file list's place is taken by another one of the call's own. -/
theorem MineK.setG {B n g k : Nat} {w0 w : World} {xs : List Se} {p : Se} (h : MineK encG 2 29 B w0 w (.slice (some ⟨g, 0, none⟩) n n) xs) (hn : xs.length = n) (hp : xs[k]? = some p) (s : Sv) (fs : List Fl) :
    MineK encG 2 29 B w0 (w.setCell ⟨g, k * 2 + 1, none⟩ (sv s)) (.slice (some ⟨g, 0, none⟩) n n) (xs.set k ((p.1.1, fs), s)) := by
  have hr := h.row; rw [hn] at hr
  have hB : B ≤ g := (hr.lt g rfl).1
  have h1 := (hr.stored (k * 2 + 1) (sv s)).1
  rw [flat_setG s fs hp] at h1
  exact ⟨by rw [List.length_set, hn]; exact h1, h.below.setCell hB _, by rw [size_setC]; exact h.size⟩
/-- A slice of servers of the call's own, with these values. -/
def VOut (vals : List Sp) (w : World) (e : Ending) (w' : World) : Prop := ∃ (a : Option Addr) (n c : Nat) (ts : List Se), e = .returned (.slice a n c) ∧ ts.map Prod.fst = vals ∧ MineV w.heap.size w w' (.slice a n c) ts
theorem insV_one (q : Se) : (insV [q]).Nodup := by unfold insV; cases hv : (sv q.2).ownBlock <;> simp [hv]
theorem take_snocS {ss : List Se} {k : Nat} {p : Se} (h : ss[k]? = some p) : (ss.map Prod.fst).take (k + 1) = (ss.map Prod.fst).take k ++ [p.1] := by
  rw [List.take_add_one, List.getElem?_map, h]; rfl
set_option maxRecDepth 100000 in
set_option maxHeartbeats 4000000 in
theorem copyF_impl (v : Value) (hi : Nat) (fs : List Fl) (w : World) (hr : ReadsK encF 7 hi w v fs) (hh : hi ≤ w.heap.size) (hl : fs.length ≤ 1099511627776) :
    Calls Tryd.prog 48 #[v] w (NewK encF 7 57 fs w) := by
  obtain ⟨i0, hi0, hz0, hz1, hz2⟩ := info_parts infoFl
  obtain ⟨a, cap, rfl, hc1, hc2⟩ := hr.formF
  obtain ⟨n, hn⟩ : ∃ n, fs.length = n := ⟨_, rfl⟩
  rw [hn] at hr hc1 hl ⊢
  have HI := Lib.hid hz2; have HN := Lib.hid hn; have HR := Lib.hid hr; clear hz2 hn hr
  go_enter Tryd.func48, Tryd.ntmps48
  go_wp2_with (at_make; refine wpList_make_full _ rfl _ _ 27 rfl w.heap.size 57 i0 (.agg #[.string ⟨#[]⟩, .int .i64 0, .int .i64 0, .string ⟨#[]⟩, .int .i64 0, .bool false, .string ⟨#[]⟩]) 7 Tryd.underlying27 hi0 hz0 hz1 .i64 .i64 _ _ n rfl rfl rfl rfl ?c1 ?c2 (Nat.le_refl _) ?_)
  case c1 => rw [HI.out]; omega
  case c2 => unfold maxLen; omega
  intro w1 hown1 hgr1
  have HB1 := Lib.hid ((Below.refl w.heap.size w).grown hgr1 (Nat.le_refl _) (fun k h => by cases h))
  have HO1 := Lib.hid hown1; clear hown1 hgr1
  go_wp2_with ((with_reducible show wpList _ _ _ _ _ _); refine wpList_copyK rfl _ _ _ _ rfl 57 Tryd.underlying27 i0 hi0 hz1 encF_len encF_one w.heap.size w HB1.out w.heap.size n _ HO1.out rfl _ hi fs rfl (HR.out.below HB1.out hh) HN.out ?_)
  intro w2 hown2 hb2 _
  have HO2 := Lib.hid hown2; have HB2 := Lib.hid hb2; clear hown2 hb2
  go_wp2
  go_ret
  exact ⟨_, rfl, ⟨by rw [HN.out]; exact HO2.out, fun g hg => (HO2.out.lt g hg).2⟩, HB2.out⟩

set_option maxRecDepth 100000 in
set_option maxHeartbeats 4000000 in
theorem copyV_impl (v : Value) (ss : List Se) (w : World) (hv : ReadV w.heap.size w v ss) (hl : ss.length ≤ 1099511627776) (hf : ∀ p ∈ ss, p.1.2.length ≤ 1099511627776) :
    Calls Tryd.prog 35 #[v] w (VOut (ss.map Prod.fst) w) := by
  obtain ⟨i0, hi0, hz0, hz1, hz2⟩ := info_parts infoSe
  obtain ⟨a, cap, rfl, hc1, hc2⟩ := hv.form
  obtain ⟨n, hn⟩ : ∃ n, ss.length = n := ⟨_, rfl⟩
  rw [hn] at hv hc1 hl ⊢
  have HI := Lib.hid hz2; have HN := Lib.hid hn; have HV := Lib.hid hv; have HF := Lib.hid hf; clear hz2 hn hv hf
  go_enter Tryd.func35, Tryd.ntmps35
  go_wp2_with (at_make; refine wpList_make_full _ rfl _ _ 41 rfl w.heap.size 29 i0 (.agg #[.string ⟨#[]⟩, .slice none 0 0]) 2 Tryd.underlying41 hi0 hz0 hz1 .i64 .i64 _ _ n rfl rfl rfl rfl ?c1 ?c2 (Nat.le_refl _) ?_)
  case c1 => rw [HI.out]; omega
  case c2 => unfold maxLen; omega
  intro w1 hown1 hgr1
  have HB1 := Lib.hid ((Below.refl w.heap.size w).grown hgr1 (Nat.le_refl _) (fun k h => by cases h))
  have HO1 := Lib.hid hown1; have HS1 := Lib.hid hgr1.size; clear hown1 hgr1
  go_wp2_with ((with_reducible show wpList _ _ _ _ _ _); refine wpList_copyK rfl _ _ _ _ rfl 29 Tryd.underlying41 i0 hi0 hz1 encG_len encG_one w.heap.size w HB1.out w.heap.size n _ HO1.out rfl _ w.heap.size ss rfl (HV.out.1.below HB1.out (Nat.le_refl _)) HN.out ?_)
  intro w2 hown2 hb2 hs2
  have HM2 := Lib.hid (show MineK encG 2 29 w.heap.size w w2 (.slice (some ⟨w.heap.size, 0, none⟩) n n) ss from ⟨by rw [HN.out]; exact hown2, hb2, by rw [hs2]; exact HS1.out⟩)
  clear hown2 hb2 hs2
  go_wp2
  go_loopw [13] (fun i wr => ∃ (k : Nat) (ts : List Se), k ≤ n ∧ i = .int .i64 k ∧ MineK encG 2 29 w.heap.size w wr (.slice (some ⟨w.heap.size, 0, none⟩) n n) (ts ++ ss.drop k) ∧ ts.length = k ∧ (∀ p ∈ ts, OwnK encF 7 57 w.heap.size wr.heap.size wr (sv p.2) p.1.2) ∧ (insV ts).Nodup ∧ ts.map Prod.fst = (ss.map Prod.fst).take k)
    (fun i _ => n - (intOf i).toNat)
  case atStart => exact ⟨0, [], Nat.zero_le _, rfl, HM2.out, rfl, fun p hp => (by cases hp), List.nodup_nil, rfl⟩
  case round =>
    obtain ⟨k, ts, hk, rfl, hm, hln, hin, hnd, hmap⟩ := hrel
    have HM := Lib.hid hm; have HLN := Lib.hid hln; have HIN := Lib.hid hin; have HND := Lib.hid hnd; have HMP := Lib.hid hmap
    clear hm hln hin hnd hmap
    have hgw : w.heap.size < wr.heap.size := (HM.out.row.lt w.heap.size rfl).2
    by_cases hlt : (k : Int) < (n : Int)
    · obtain ⟨p, hp⟩ := se_at (ss := ss) (j := k) (by rw [HN.out]; omega)
      obtain ⟨g, off, rfl, hg, c0, c1⟩ := HV.out.at hp
      have HPS := Lib.hid hp
      have HFS := Lib.hid (HV.out.files hp)
      have hfl := HF.out p (List.mem_of_getElem? hp)
      obtain ⟨⟨p_a, fs⟩, ⟨sa, sn, sc⟩⟩ := p
      replace hfl : fs.length ≤ 1099511627776 := hfl
      have HFL := Lib.hid hfl; clear hfl hp c0
      replace c1 : wr.cell? ⟨g, off + k * 2 + 1, none⟩ = some (.slice sa sn sc) := by rw [HM.out.below.cell (show g < _ by omega)]; exact c1
      have HCP := Lib.hid (copyF_impl (.slice sa sn sc) w.heap.size fs wr (HFS.out.below HM.out.below (Nat.le_refl _)) HM.out.size HFL.out)
      go_wp2_with fail
      refine HCP.out.mono ?_
      rintro e w3 ⟨v3, rfl, ho3, hb3⟩
      obtain ⟨⟨xa, xn, xc⟩, rfl⟩ := ho3.sv
      have hm3 := HM.out.later hb3
      have hlen : (ts ++ ss.drop k).length = n := by rw [List.length_append, HLN.out, List.length_drop, HN.out]; omega
      have hrow := hm3.row; rw [hlen] at hrow
      have d1 : w3.cell? ⟨w.heap.size, k * 2 + 1, none⟩ = some (.slice sa sn sc) := by
        rw [hrow.cellAt (k * 2 + 1) (by omega), flat_at encG_len (mid_at HLN.out HPS.out) (by decide)]; rfl
      have z1 : w3.frozen? ⟨w.heap.size, k * 2 + 1, none⟩ = false := hrow.frozenAt _
      have HM3 := Lib.hid hm3; have HO3 := Lib.hid ho3; have HB3 := Lib.hid hb3; have HLEN := Lib.hid hlen
      clear c1 HCP hm3 ho3 hb3 hlen hrow
      rw [show sv (xa, xn, xc) = Value.slice xa xn xc from rfl]
      go_wp2_with fail
      go_roundw
      case rel =>
        have hset := HM3.out.setG HLEN.out (mid_at HLN.out HPS.out) (xa, xn, xc) fs
        rw [set_mid HLN.out HPS.out] at hset
        obtain ⟨cur, hcur⟩ : ∃ cur : Array Value, w3.heap[w.heap.size]? = some (.cells cur 29 (0, 0)) := by
          rcases HM3.out.row.2 with ⟨e, _⟩ | ⟨g', cap', cur, e, _, h, _⟩
          · cases e
          · cases e; exact ⟨cur, h⟩
        refine ⟨k + 1, ts ++ [((p_a, fs), (xa, xn, xc))], by omega, by go_num, hset, by rw [List.length_append, HLN.out]; rfl, fun q hq => ?_, ?_, ?_⟩
        · rcases List.mem_append.1 hq with h | h
          · exact (ownK_setT ((HIN.out q h).later HB3.out) hcur sv_ne_fl.symm).mono (Nat.le_refl _) (by rw [size_setC]; exact HB3.out.size)
          · rw [List.mem_singleton] at h; subst h
            exact (ownK_setT HO3.out hcur sv_ne_fl.symm).mono HM.out.size (by rw [size_setC]; exact Nat.le_refl _)
        · rw [insV_append]
          refine List.nodup_append.2 ⟨HND.out, insV_one _, fun b hb c hc e => ?_⟩
          subst e
          obtain ⟨q, hq, hqb⟩ := insV_mem.1 hb
          obtain ⟨q', hq', hqb'⟩ := insV_mem.1 hc
          rw [List.mem_singleton] at hq'; subst hq'
          have h1 := (HIN.out q hq).2 b hqb
          have h2 := (HO3.out.lt b hqb').1
          omega
        · rw [List.map_append, HMP.out, take_snocS HPS.out]; rfl
      case measure => simp [intOf]; omega
    · have hkn : k = n := by omega
      subst hkn
      have HD := Lib.hid (show ts ++ ss.drop k = ts by rw [List.drop_of_length_le (by rw [HN.out]; exact Nat.le_refl _), List.append_nil])
      go_wp2
      go_ret
      exact ⟨_, _, _, ts, rfl, by rw [HMP.out, List.take_of_length_le (by rw [List.length_map, HN.out]; exact Nat.le_refl _)], ⟨by have h := HM.out; rw [HD.out] at h; exact h, HIN.out, HND.out⟩⟩

end Go.Proofs.YtpkicliimhflgaaDoor
namespace Go.Proofs.YtpkicliimhflgaaDoor
open Go.ChangeShapes Go.WideShapes Go.ChangeAt Go.RowKit

/-- What a slice of this type holds. -/
def IsStringS (x : Rw) : Prop := ∃ v n e cs, x = .sl v n 1 e cs ∧ ∀ j, j < n → ∃ (a0 : ByteArray), cs[j]? = some (.leaf (.string a0))
theorem is_sl_StringS {x : Rw} (h : IsStringS x) : ∃ v n k e cs, x = .sl v n k e cs := by
  obtain ⟨v, n, e, cs, rfl, _⟩ := h
  exact ⟨v, n, _, e, cs, rfl⟩

theorem info_StringS : (Tryd.prog.info? 9).map (fun i => (i.zero, i.size, i.bytes)) = some (some (.string ⟨#[]⟩), 1, 16) := by kernel_rfl

end Go.Proofs.YtpkicliimhflgaaDoor
namespace Go.Proofs.YtpkicliimhflgaaDoor
open Go.ChangeShapes Go.WideShapes Go.ChangeAt Go.RowKit Go.Joins Go.Deep

def stCells (xs : List ByteArray) : List Rw := xs.map fun s => .leaf (.string s)
/-- A slice of strings. -/
def rwSs (v : Value) (xs : List ByteArray) : Rw := .sl v xs.length 1 9 (stCells xs)
theorem rwSs_cell (v : Value) (xs : List ByteArray) : (rwSs v xs).cell = v := rfl
theorem flatS (xs : List ByteArray) : xs.flatMap encS = xs.map Value.string := by
  induction xs with
  | nil => rfl
  | cons x xs ih => rw [List.flatMap_cons, ih]; rfl
theorem stCells_map (xs : List ByteArray) : (stCells xs).map Rw.cell = xs.flatMap encS := by
  rw [flatS]; unfold stCells; rw [List.map_map]; rfl
theorem stCells_len (xs : List ByteArray) : (stCells xs).length = xs.length := by unfold stCells; rw [List.length_map]
theorem stCells_at {xs : List ByteArray} {j : Nat} {a : ByteArray} (h : xs[j]? = some a) : (stCells xs)[j]? = some (.leaf (.string a)) := by
  unfold stCells; rw [List.getElem?_map, h]; rfl
theorem stCells_leaf {xs : List ByteArray} {c : Rw} (h : c ∈ stCells xs) : ∃ a, a ∈ xs ∧ c = .leaf (.string a) := by
  obtain ⟨a, ha, rfl⟩ := List.mem_map.1 h
  exact ⟨a, ha, rfl⟩
theorem stCells_blocks (xs : List ByteArray) : blocksL (stCells xs) = [] := blocksL_nil fun c hc => by
  obtain ⟨s, _, rfl⟩ := stCells_leaf hc
  rw [Rw.blocks]
theorem rwSs_blocks (v : Value) (xs : List ByteArray) : (rwSs v xs).blocks = v.ownBlock.toList := by rw [rwSs, Rw.blocks, stCells_blocks, List.append_nil]
theorem rwSs_nodup (v : Value) (xs : List ByteArray) : (rwSs v xs).blocks.Nodup := by rw [rwSs_blocks]; cases v.ownBlock <;> simp
theorem rwSs_is (v : Value) (xs : List ByteArray) : IsStringS (rwSs v xs) :=
  ⟨v, xs.length, _, stCells xs, rfl, fun j hj => ⟨xs[j], stCells_at (List.getElem?_eq_getElem hj)⟩⟩
theorem rwSs_own {lo hi : Nat} {w : World} {v : Value} {xs : List ByteArray} (h : OwnK encS 1 9 lo hi w v xs) : (rwSs v xs).OwnR lo hi w := by
  rw [rwSs, Rw.OwnR]
  exact ⟨by rw [stCells_map]; exact h, ownRL_iff.2 fun c hc => by obtain ⟨s, _, rfl⟩ := stCells_leaf hc; rw [Rw.OwnR]; rfl⟩
theorem rwSs_reads {hi : Nat} {w : World} {v : Value} {xs : List ByteArray} (h : ReadsK encS 1 hi w v xs) : (rwSs v xs).ReadR hi w := by
  rw [rwSs, Rw.ReadR]
  have h0 := h
  obtain ⟨a, cap, rfl, h1, h2, h3, h4⟩ := h
  refine ⟨⟨a, cap, rfl, by rw [stCells_len, Nat.mul_one], h1, h2, h3, ?_⟩, readRL_iff.2 fun c hc => by obtain ⟨s, _, rfl⟩ := stCells_leaf hc; rw [Rw.ReadR]; rfl⟩
  rcases h4 with h4 | ⟨g, off, rfl, hg, hc⟩
  · exact Or.inl h4
  · refine Or.inr ⟨g, off, rfl, hg, fun j c hj => ?_⟩
    rw [stCells_map] at hj
    have := h0.news encS_len j c hj
    rwa [add_off] at this
theorem rwSs_data (v u : Value) (xs : List ByteArray) : (rwSs v xs).data = (rwSs u xs).data := by rw [rwSs, rwSs, Rw.data, Rw.data]
theorem strs_of_data {x : Rw} {u : Value} {xs : List ByteArray} {hi : Nat} {w : World} (h : x.data = (rwSs u xs).data) (hr : x.ReadR hi w) : ReadsK encS 1 hi w x.cell xs := by
  cases x with
  | leaf v => rw [rwSs, Rw.data, Rw.data] at h; cases h
  | sl v n k e cs =>
    rw [rwSs, Rw.data, Rw.data] at h
    obtain ⟨rfl, hd⟩ := Dt.sl.inj h
    have hl : cs.length = xs.length := by have := congrArg List.length hd; rwa [dataL_len, dataL_len, stCells_len] at this
    rw [Rw.ReadR] at hr
    obtain ⟨⟨a, cap, rfl, h1, h2, h3, h4, h5⟩, _⟩ := hr
    have hn : n = xs.length := by omega
    subst hn
    refine ⟨a, cap, rfl, h2, h3, h4, ?_⟩
    rcases h5 with h5 | ⟨g, off, rfl, hg, hc⟩
    · exact Or.inl h5
    · refine Or.inr ⟨g, off, rfl, hg, fun j y hj i hi' => ?_⟩
      have hjl := (List.getElem?_eq_some_iff.1 hj).1
      obtain rfl : i = 0 := by omega
      obtain ⟨c, hcm⟩ : ∃ c, cs[j]? = some c := ⟨_, List.getElem?_eq_getElem (by omega)⟩
      have e1 := leaf_of_data (data_same hd hcm (stCells_at hj))
      rw [Nat.mul_one]
      refine hc j _ ?_
      rw [List.getElem?_map, hcm, e1]; rfl
theorem sum_le_at {xs : List ByteArray} {s : ByteArray} (h : s ∈ xs) : s.size ≤ (xs.map ByteArray.size).sum := by
  induction xs with
  | nil => cases h
  | cons x xs ih =>
    rw [List.map_cons, List.sum_cons]
    rcases List.mem_cons.1 h with e | h
    · rw [e]; omega
    · have := ih h; omega
def sumSt (xs : List ByteArray) : Nat := (xs.map ByteArray.size).sum
theorem stCells_weight : ∀ xs : List ByteArray, weightL (stCells xs) = sumSt xs
  | [] => rfl
  | x :: xs => by
    have h := stCells_weight xs
    unfold stCells at h ⊢
    rw [List.map_cons, weightL, Rw.weight, h, sumSt, sumSt, List.map_cons, List.sum_cons]; rfl
theorem rwSs_weight (v : Value) (xs : List ByteArray) : (rwSs v xs).weight = xs.length + sumSt xs := by rw [rwSs, Rw.weight, stCells_weight]
theorem stCells_count : ∀ xs : List ByteArray, countL (stCells xs) = xs.length
  | [] => rfl
  | x :: xs => by
    have h := stCells_count xs
    unfold stCells at h ⊢
    rw [List.map_cons, countL, Rw.count, h, List.length_cons]; omega
theorem rwSs_count (v : Value) (xs : List ByteArray) : (rwSs v xs).count = xs.length := by rw [rwSs, Rw.count, stCells_count]
theorem rwSs_small {v : Value} {xs : List ByteArray} (h : ∀ s ∈ xs, s.size ≤ 9223372036854775807) : (rwSs v xs).Small := by
  rw [rwSs, Rw.Small]
  refine smallL_iff.2 fun c hc => ?_
  obtain ⟨a, ha, rfl⟩ := stCells_leaf hc
  rw [Rw.Small]; exact h a ha
/-- A slice of strings that came in. -/
def IsSts (w : World) (v : Value) (xs : List ByteArray) : Prop := ReadsK encS 1 w.heap.size w v xs ∧ ∀ s ∈ xs, s.size ≤ 9223372036854775807
theorem IsSts.form {w : World} {v : Value} {xs : List ByteArray} (h : IsSts w v xs) : ∃ a n c, v = .slice a n c := by
  obtain ⟨⟨a, cap, rfl, _⟩, _⟩ := h
  exact ⟨a, _, cap, rfl⟩

set_option maxRecDepth 100000 in
theorem strs_of {H : Type} {enc : TypeId × Value → H} {W : World} {fuel : Nat} {v : Value} {d : DataW H × List MemPlace} (hf : DataW.trod enc Tryd.prog W 0 (fun _ => true) true fuel 73 [v] = some d) :
    ∃ xs, IsSts W v xs := by
  rcases open_slice Tryd.underlying73 hf with ⟨hcs, _⟩ | ⟨x, len, cap, m, n, D, Pl, hcs, _, hl, hc, hm, _, hel⟩
  · obtain rfl : v = .slice none 0 0 := by simpa using hcs
    exact ⟨[], ⟨none, 0, rfl, Nat.le_refl _, by omega, (fun _ => rfl), Or.inl rfl⟩, by simp⟩
  · obtain rfl : v = .slice (some x) len cap := by simpa using hcs
    simp only [if_true] at hm
    subst hm
    have hstr : Tryd.prog.cellsOf 9 = 1 := by kernel_rfl
    rw [hstr] at hel
    have hx : ∀ i, i < len → ∃ s : ByteArray, W.cell? (x.add i) = some (.string s) ∧ s.size ≤ 9223372036854775807 := by
      intro i hi
      obtain ⟨cs, h1, h2⟩ := hel i (by omega)
      obtain ⟨hlen, hat⟩ := cells?_at h1
      obtain ⟨t, e1, _, w1⟩ := DataW.trod_string Tryd.underlying9 h2
      subst e1
      have g0 := hat 0 (by omega)
      rw [add_add] at g0
      simp at g0
      exact ⟨t, g0, w1⟩
    obtain ⟨f, hf⟩ := choose_lt hx
    refine ⟨(List.range len).map f, ⟨some x, _, by rw [List.length_map, List.length_range], by simpa using hl, by unfold maxLen at hc; omega, (fun h => by cases h), ?_⟩, ?_⟩
    · by_cases h0 : len = 0
      · exact Or.inl (by simpa using h0)
      · obtain ⟨blk, off, spot⟩ := x
        have c0 := (hf 0 (by omega)).1
        have hspot : spot = none := by simpa [Addr.add] using World.cell?_spot c0
        subst hspot
        have hlt : blk < W.heap.size := by
          have := World.block_lt_of_cell? W _ c0
          rwa [add_off] at this
        refine Or.inr ⟨blk, off, rfl, hlt, fun j y hj i hi' => ?_⟩
        have hjl : j < len := by have := (List.getElem?_eq_some_iff.1 hj).1; simpa using this
        simp [hjl] at hj
        subst hj
        obtain ⟨g0, _⟩ := hf j hjl
        rw [add_off] at g0
        obtain rfl : i = 0 := by omega
        rw [Nat.add_zero, Nat.mul_one]; exact g0
    · intro r hr
      obtain ⟨i, hi, rfl⟩ := List.mem_map.1 hr
      exact (hf i (List.mem_range.1 hi)).2

theorem strs_arg {H : Type} {enc : TypeId × Value → H} {W : World} {v : Value} {d : DataW H} {p : List MemPlace} (hv : ∃ a n c, v = .slice a n c) (h : DataW.Trod enc Tryd.prog W 0 (fun _ => true) true 73 v d p) : ∃ xs, IsSts W v xs := by
  obtain ⟨a, n, c, rfl⟩ := hv
  obtain ⟨fuel, hf⟩ := h
  exact strs_of hf

/-- A struct whose fields are one cell each, by value, opened: each field's cell reads at its type. -/
theorem open_fields {P : Program} {H : Type} {enc : TypeId × Value → H} {w : World} {base : Nat} {spare : Nat → Bool} {held : Bool} {r : Reach} {b0 : Nat} {t : TypeId} {fs : Array Field} {v : Value} {d : DataW H} {p : List MemPlace} (hs : P.underlying t = some (.struct fs)) (hone : oneCellFields P fs = true) (hC : P.cellsOf t = fs.size)
    (hv : Value.okWide P w r b0 t v) (h : DataW.Trod enc P w base spare held t v d p) :
    ∃ (cs : Array Value) (m : Nat), v = .agg cs ∧ cs.size = fs.size ∧ ∀ (i : Nat) (f : Field), fs[i]? = some f → ∃ c y, cs[i]? = some c ∧ DataW.trod enc P w base spare held m f.type [c] = some y := by
  obtain ⟨cs, rfl, hsz⟩ := okWide_struct hs hv
  obtain ⟨fuel, hf⟩ := h
  obtain ⟨ys, n, _, _, hl, hlen, hat⟩ := DataW.trod_struct hs hf
  refine ⟨cs, n, rfl, hsz.trans hC, fun i f hi => ?_⟩
  obtain ⟨o, k⟩ := hone_of hone i f hi
  have hil : i < fs.size := (Array.getElem?_eq_some_iff.1 hi).1
  have hic : i < cs.size := by omega
  obtain ⟨y, hy⟩ : ∃ y, ys[i]? = some y := ⟨_, List.getElem?_eq_getElem (by omega)⟩
  refine ⟨cs[i], y, Array.getElem?_eq_getElem hic, ?_⟩
  have := hat i f hi
  rw [o, k, hy] at this
  rw [← this]
  congr 1
  show [cs[i]] = (((Value.agg cs).cells.toList).drop i).take 1
  rw [show (Value.agg cs).cells = cs from rfl, List.drop_eq_getElem_cons (by rw [Array.length_toList]; exact hic)]
  simp

end Go.Proofs.YtpkicliimhflgaaDoor
namespace Go.Proofs.YtpkicliimhflgaaDoor
open Go.ChangeShapes Go.WideShapes Go.ChangeAt Go.RowKit

/-- A slice of strings of the call's own, wherever it begins in its block. -/
def OwnO (lo hi : Nat) (w : World) (v : Value) (xs : List ByteArray) : Prop :=
  ∃ (a : Option Addr) (c : Nat), v = .slice a xs.length c ∧ xs.length ≤ c ∧ c ≤ 9223372036854775807 ∧ (a = none → c = 0) ∧ (xs.length = 0 ∨ ∃ (g off : Nat) (cs : Array Value), a = some ⟨g, off, none⟩ ∧ lo ≤ g ∧ g < hi ∧ w.heap[g]? = some (.cells cs 9 (0, 0)) ∧ ∀ (j : Nat) (x : ByteArray), xs[j]? = some x → cs[off + j]? = some (.string x))
theorem OwnO.reads {lo hi : Nat} {w : World} {v : Value} {xs : List ByteArray} (h : OwnO lo hi w v xs) : ReadsK encS 1 hi w v xs := by
  obtain ⟨a, c, rfl, h1, h2, h3, h4⟩ := h
  refine ⟨a, c, rfl, h1, h2, h3, ?_⟩
  rcases h4 with h4 | ⟨g, off, cs, rfl, _, hg, hh, hc⟩
  · exact Or.inl h4
  · refine Or.inr ⟨g, off, rfl, hg, fun j x hj i hi' => ?_⟩
    obtain rfl : i = 0 := by omega
    rw [Nat.mul_one, Nat.add_zero]
    exact box_cell hh (hc j x hj)
theorem OwnO.later {lo hi : Nat} {w w' : World} {v : Value} {xs : List ByteArray} (h : OwnO lo hi w v xs) (hb : Below w.heap.size w w') : OwnO lo hi w' v xs := by
  obtain ⟨a, c, e, h1, h2, h3, h4⟩ := h
  refine ⟨a, c, e, h1, h2, h3, ?_⟩
  rcases h4 with h4 | ⟨g, off, cs, e2, hl, hg, hh, hc⟩
  · exact Or.inl h4
  · exact Or.inr ⟨g, off, cs, e2, hl, hg, below_heap hb (heap_lt hh) hh, hc⟩
theorem OwnO.mono {lo hi lo' hi' : Nat} {w : World} {v : Value} {xs : List ByteArray} (h : OwnO lo hi w v xs) (hl' : lo' ≤ lo) (hh' : hi ≤ hi') : OwnO lo' hi' w v xs := by
  obtain ⟨a, c, e, h1, h2, h3, h4⟩ := h
  refine ⟨a, c, e, h1, h2, h3, ?_⟩
  rcases h4 with h4 | ⟨g, off, cs, e2, hl, hg, hh, hc⟩
  · exact Or.inl h4
  · exact Or.inr ⟨g, off, cs, e2, Nat.le_trans hl' hl, Nat.lt_of_lt_of_le hg hh', hh, hc⟩
theorem OwnO.top {lo hi : Nat} {w : World} {v : Value} {xs : List ByteArray} (h : OwnO lo hi w v xs) : OwnO lo w.heap.size w v xs := by
  obtain ⟨a, c, e, h1, h2, h3, h4⟩ := h
  refine ⟨a, c, e, h1, h2, h3, ?_⟩
  rcases h4 with h4 | ⟨g, off, cs, e2, hl, hg, hh, hc⟩
  · exact Or.inl h4
  · exact Or.inr ⟨g, off, cs, e2, hl, heap_lt hh, hh, hc⟩
theorem ownO_none (lo hi : Nat) (w : World) : OwnO lo hi w (.slice none 0 0) [] := ⟨_, 0, rfl, Nat.le_refl _, by omega, (fun _ => rfl), Or.inl rfl⟩
/-- The blocks in which something of it lies. -/
def blkO (v : Value) (xs : List ByteArray) : List Nat := if xs.length = 0 then [] else v.ownBlock.toList
theorem OwnO.blk {lo hi : Nat} {w : World} {v : Value} {xs : List ByteArray} (h : OwnO lo hi w v xs) : ∀ b ∈ blkO v xs, lo ≤ b ∧ b < hi ∧ b < w.heap.size := by
  obtain ⟨a, c, rfl, h1, h2, h3, h4⟩ := h
  intro b hb
  unfold blkO at hb
  rcases h4 with h4 | ⟨g, off, cs, rfl, hl, hg, hh, hc⟩
  · rw [if_pos h4] at hb; cases hb
  · split at hb
    · cases hb
    · have : b = g := by simpa [Value.ownBlock] using hb
      subst this
      exact ⟨hl, hg, heap_lt hh⟩
theorem OwnO.only {lo hi : Nat} {w w' : World} {v : Value} {xs : List ByteArray} {bs : List Nat} (h : OwnO lo hi w v xs) (hb : OnlyB bs w w') (hn : ∀ b ∈ blkO v xs, b ∉ bs) : OwnO lo hi w' v xs := by
  obtain ⟨a, c, rfl, h1, h2, h3, h4⟩ := h
  refine ⟨a, c, rfl, h1, h2, h3, ?_⟩
  rcases h4 with h4 | ⟨g, off, cs, rfl, hl, hg, hh, hc⟩
  · exact Or.inl h4
  · by_cases h0 : xs.length = 0
    · exact Or.inl h0
    · refine Or.inr ⟨g, off, cs, rfl, hl, hg, ?_, hc⟩
      rw [hb.block g (heap_lt hh) (hn g (by unfold blkO; rw [if_neg h0]; simp [Value.ownBlock]))]; exact hh
/-- What lies behind the first. -/
theorem OwnO.tail {lo hi n c g : Nat} {w : World} {x : ByteArray} {xs : List ByteArray} (h : OwnK encS 1 9 lo hi w (.slice (some ⟨g, 0, none⟩) n c) (x :: xs)) : OwnO lo hi w (if c = 1 then .slice (some ⟨g, 0, none⟩) (n - 1) (c - 1) else .slice (some ⟨g, 1, none⟩) (n - 1) (c - 1)) xs := by
  obtain ⟨hrow, hlt⟩ := h
  have hrl := hrow.1
  rcases hrow.2 with ⟨e, _⟩ | ⟨g', cap, cur, e, hg, hh, hcap, hm, hsz, htk⟩
  · cases e
  · unfold maxLen at hm
    injection e with e1 e2 e3
    injection e1 with e1
    injection e1 with e1
    subst e1; subst e3
    have hn : n = xs.length + 1 := by rw [e2]; rfl
    subst hn
    rw [Nat.add_sub_cancel]
    rw [flatS] at htk
    have hcl : ∀ (j : Nat) (y : ByteArray), xs[j]? = some y → cur[1 + j]? = some (.string y) := fun j y hj => by
      have h1 : ((x :: xs).map Value.string)[1 + j]? = some (.string y) := by rw [Nat.add_comm, List.map_cons, List.getElem?_cons_succ, List.getElem?_map, hj]; rfl
      rw [← htk, List.getElem?_take] at h1
      split at h1
      · rw [Array.getElem?_toList] at h1; exact h1
      · cases h1
    by_cases h1 : c = 1
    · subst h1
      rw [if_pos rfl]
      have : xs = [] := List.eq_nil_of_length_eq_zero (by omega)
      subst this
      exact ⟨_, 0, rfl, Nat.le_refl _, by omega, (fun h => by cases h), Or.inl rfl⟩
    · rw [if_neg h1]
      exact ⟨_, c - 1, rfl, by omega, by omega, (fun h => by cases h), Or.inr ⟨g, 1, cur, rfl, hg, hlt g rfl, hh, hcl⟩⟩
/-- A new slice of strings, wherever it begins in its block. -/
def NewO (xs : List ByteArray) (X : World) (e : Ending) (w' : World) : Prop := ∃ (a : Option Addr) (n c : Nat), e = .returned (.slice a n c) ∧ OwnO X.heap.size w'.heap.size w' (.slice a n c) xs ∧ Below X.heap.size X w'

end Go.Proofs.YtpkicliimhflgaaDoor

/- What files and servers that came in are, for the walks. Helper facts, no claim of its own. Helper facts for the walks over the pieces of a page: a slice of tokens of the call's own over the changes of memory, what is answered, in plain words; the pieces that the program takes. No claim of its own. Helper facts for the walks of the exact laws over tokens: bounds on the marks, the call's own tokens over the changes of memory. No claim of its own. The helper contracts of chapter 12 over copies that a law makes of its servers. Helper facts, no claim of its own. Helper contracts over the functions with which the laws copy, compare, measure and mark slices, by program (deep.py). Asked: what lies in memory is as named. Helper contracts over the functions with which the laws copy, compare, measure and mark slices, by program (deep.py). Asked: what lies in memory is as named. Helper contracts over the functions with which the laws copy, compare, measure and mark slices, by program (deep.py). Asked: what lies in memory is as named. Trees under construction as plain values: what a token adds, what is closed, the text of children, the count of a name, what a valid one is. No program. Nodes and their attributes in memory: what it means that a slice value reads as a list of them, that a call owns all of it, and append to such a slice. Helper facts, no claim of its own. Helper contracts on trees that only read: IsVoid, the nodes by pointer, what can be open, NewBuilder. Asked: what lies in memory is as named. Helper contracts: CountName and TextOf of the program and of the model. Asked: the builder lies in memory as named. Helper contracts: EqualBuilders of the program and of the model answer alike: whether the builders are equal. Asked: they lie in memory as named. Helper contracts: FitsKind, SizeResponse and NotFound of the program and of the model answer alike. Helper contracts: findServer, findFile, AnswerTo of the program and of the model. Asked: the servers lie in memory as named, and are fewer than 2^40. Helper contract: AnswerTo of the program. Asked: the servers lie in memory as named, and are fewer than 2^40. Helper contract: AnswerTo of the model. Asked: the servers lie in memory as named, and are fewer than 2^40. What stays below, in small steps. Helper facts, no claim of its own. AnswerTo of model and program over copies that a law makes of its servers. Helper facts, no claim of its own. Helper contracts: IsAddr, FormatAddr of the program and of the model answer alike. Asked: the strings are shorter than 2^62 bytes. -/
import Derived.Test.YtpkicliimhflgaaMa3
import Derived.Test.YtpkicliimhflgaaMa2
import Derived.Test.YtpkicliimhflgaaMa1
import Derived.Shelf.SlSortCmp.QuietGrown
import Derived.Deep.CutRange
import Derived.Below
namespace Go.Proofs.Ytpkicliimhflgaa

open Go.ChangeShapes Go.WideShapes Go.ChangeAt Go.RowKit Go.Joins Go.Deep

instance : Inhabited Fl := ⟨⟨⟨#[]⟩, ⟨0, 0, ⟨#[]⟩, 0, false, ⟨#[]⟩⟩⟩⟩
instance : Inhabited Se := ⟨((⟨#[]⟩, []), svNil)⟩
theorem list7 {α : Type} {a : List α} (h : a.length = 7) : ∃ x0 x1 x2 x3 x4 x5 x6, a = [x0, x1, x2, x3, x4, x5, x6] := by
  match a, h with
  | [x0, x1, x2, x3, x4, x5, x6], _ => exact ⟨x0, x1, x2, x3, x4, x5, x6, rfl⟩
theorem list2 {α : Type} {a : List α} (h : a.length = 2) : ∃ x0 x1, a = [x0, x1] := by
  match a, h with
  | [x0, x1], _ => exact ⟨x0, x1, rfl⟩
/-- A slice of files that came in. -/
def IsFls (w : World) (v : Value) (fs : List Fl) : Prop := ReadsK encF 7 w.heap.size w v fs ∧ ∀ f ∈ fs, FlOk f

set_option maxRecDepth 100000 in
theorem files_of {H : Type} {enc : TypeId × Value → H} {W : World} {fuel : Nat} {v : Value} {d : DataW H × List MemPlace} (hf : DataW.trod enc Try.prog W 0 (fun _ => true) true fuel 39 [v] = some d) :
    ∃ fs, IsFls W v fs := by
  rcases open_slice Try.underlying39 hf with ⟨hcs, _⟩ | ⟨x, len, cap, m, n, D, Pl, hcs, _, hl, hc, hm, _, hel⟩
  · obtain rfl : v = .slice none 0 0 := by simpa using hcs
    exact ⟨[], ⟨none, 0, rfl, Nat.le_refl _, by omega, (fun _ => rfl), Or.inl rfl⟩, by simp⟩
  · obtain rfl : v = .slice (some x) len cap := by simpa using hcs
    simp only [if_true] at hm
    subst hm
    have hC : Try.prog.cellsOf 64 = 7 := by kernel_rfl
    rw [hC] at hel
    have es : Try.prog.cellsOf 9 = 1 := by kernel_rfl
    have ei : Try.prog.cellsOf 3 = 1 := by kernel_rfl
    have eb : Try.prog.cellsOf 4 = 1 := by kernel_rfl
    have er : Try.prog.cellsOf 62 = 6 := by kernel_rfl
    have hx : ∀ i, i < len → ∃ y : Fl, (∀ t, t < 7 → W.cell? (x.add (i * 7 + t)) = (encF y)[t]?) ∧ FlOk y := by
      intro i hi
      obtain ⟨cs, h1, h2⟩ := hel i (by omega)
      obtain ⟨hlen, hat⟩ := cells?_at h1
      obtain ⟨c0, c1, c2, c3, c4, c5, c6, rfl⟩ := list7 hlen
      obtain ⟨n0, hf0⟩ := fields_at Try.underlying64 h2
      obtain ⟨y0, t0⟩ := hf0 0 _ rfl
      obtain ⟨y1, t1⟩ := hf0 1 _ rfl
      replace t0 : DataW.trod enc Try.prog W 0 (fun _ => true) true n0 9 [c0] = some y0 := by
        have h := t0; change DataW.trod _ _ _ _ _ _ _ 9 (List.take (Try.prog.cellsOf 9) _) = _ at h; rw [es] at h; exact h
      replace t1 : DataW.trod enc Try.prog W 0 (fun _ => true) true n0 62 [c1, c2, c3, c4, c5, c6] = some y1 := by
        have h := t1; change DataW.trod _ _ _ _ _ _ _ 62 (List.take (Try.prog.cellsOf 62) _) = _ at h; rw [er] at h; exact h
      obtain ⟨n1, hf1⟩ := fields_at Try.underlying62 t1
      obtain ⟨z0, u0⟩ := hf1 0 _ rfl
      obtain ⟨z1, u1⟩ := hf1 1 _ rfl
      obtain ⟨z2, u2⟩ := hf1 2 _ rfl
      obtain ⟨z3, u3⟩ := hf1 3 _ rfl
      obtain ⟨z4, u4⟩ := hf1 4 _ rfl
      obtain ⟨z5, u5⟩ := hf1 5 _ rfl
      replace u0 : DataW.trod enc Try.prog W 0 (fun _ => true) true n1 3 [c1] = some z0 := by
        have h := u0; change DataW.trod _ _ _ _ _ _ _ 3 (List.take (Try.prog.cellsOf 3) _) = _ at h; rw [ei] at h; exact h
      replace u1 : DataW.trod enc Try.prog W 0 (fun _ => true) true n1 3 [c2] = some z1 := by
        have h := u1; change DataW.trod _ _ _ _ _ _ _ 3 (List.take (Try.prog.cellsOf 3) _) = _ at h; rw [ei] at h; exact h
      replace u2 : DataW.trod enc Try.prog W 0 (fun _ => true) true n1 9 [c3] = some z2 := by
        have h := u2; change DataW.trod _ _ _ _ _ _ _ 9 (List.take (Try.prog.cellsOf 9) _) = _ at h; rw [es] at h; exact h
      replace u3 : DataW.trod enc Try.prog W 0 (fun _ => true) true n1 3 [c4] = some z3 := by
        have h := u3; change DataW.trod _ _ _ _ _ _ _ 3 (List.take (Try.prog.cellsOf 3) _) = _ at h; rw [ei] at h; exact h
      replace u4 : DataW.trod enc Try.prog W 0 (fun _ => true) true n1 4 [c5] = some z4 := by
        have h := u4; change DataW.trod _ _ _ _ _ _ _ 4 (List.take (Try.prog.cellsOf 4) _) = _ at h; rw [eb] at h; exact h
      replace u5 : DataW.trod enc Try.prog W 0 (fun _ => true) true n1 9 [c6] = some z5 := by
        have h := u5; change DataW.trod _ _ _ _ _ _ _ 9 (List.take (Try.prog.cellsOf 9) _) = _ at h; rw [es] at h; exact h
      obtain ⟨pa, k0, _, w0⟩ := DataW.trod_string Try.underlying9 t0
      obtain ⟨st, k1, _, w1⟩ := DataW.trod_int Try.underlying3 u0
      obtain ⟨kd, k2, _, w2⟩ := DataW.trod_int Try.underlying3 u1
      obtain ⟨bo, k3, _, w3⟩ := DataW.trod_string Try.underlying9 u2
      obtain ⟨ag, k4, _, w4⟩ := DataW.trod_int Try.underlying3 u3
      obtain ⟨sh, k5, _⟩ := DataW.trod_bool Try.underlying4 u4
      obtain ⟨po, k6, _, w6⟩ := DataW.trod_string Try.underlying9 u5
      cases k0; cases k1; cases k2; cases k3; cases k4; cases k5; cases k6
      refine ⟨⟨pa, ⟨st, kd, bo, ag, sh, po⟩⟩, fun t ht => ?_, w0, w3, w6⟩
      have h := hat t ht
      rw [add_add] at h
      exact h
    obtain ⟨f, hf⟩ := choose_lt hx
    refine ⟨(List.range len).map f, ⟨some x, _, by rw [List.length_map, List.length_range], by simpa using hl, by unfold maxLen at hc; omega, (fun h => by cases h), ?_⟩, ?_⟩
    · by_cases h0 : len = 0
      · exact Or.inl (by simpa using h0)
      · obtain ⟨blk, off, spot⟩ := x
        have c0 := (hf 0 (by omega)).1 0 (by decide)
        have hspot : spot = none := by simpa [Addr.add] using World.cell?_spot (c0.trans (show _ = some (Value.string (f 0).pa) from rfl))
        subst hspot
        have hlt : blk < W.heap.size := by
          have := World.block_lt_of_cell? W _ (c0.trans (show _ = some (Value.string (f 0).pa) from rfl))
          rwa [add_lit] at this
        refine Or.inr ⟨blk, off, rfl, hlt, fun j y hj i hi' => ?_⟩
        have hjl : j < len := by have := (List.getElem?_eq_some_iff.1 hj).1; simpa using this
        simp [hjl] at hj
        subst hj
        have h := (hf j hjl).1 i hi'
        rw [add_lit] at h
        rw [Nat.add_assoc]; exact h
    · intro r hr
      obtain ⟨i, hi, rfl⟩ := List.mem_map.1 hr
      exact (hf i (List.mem_range.1 hi)).2

/-- A slice of servers that came in. -/
def IsSvs (w : World) (v : Value) (ss : List Se) : Prop := ReadV w.heap.size w v ss ∧ ∀ p ∈ ss, SvOk p
set_option maxRecDepth 100000 in
theorem servers_of {H : Type} {enc : TypeId × Value → H} {W : World} {fuel : Nat} {v : Value} {d : DataW H × List MemPlace} (hf : DataW.trod enc Try.prog W 0 (fun _ => true) true fuel 22 [v] = some d) :
    ∃ ss, IsSvs W v ss := by
  rcases open_slice Try.underlying22 hf with ⟨hcs, _⟩ | ⟨x, len, cap, m, n, D, Pl, hcs, _, hl, hc, hm, _, hel⟩
  · obtain rfl : v = .slice none 0 0 := by simpa using hcs
    exact ⟨[], ⟨⟨none, 0, rfl, Nat.le_refl _, by omega, (fun _ => rfl), Or.inl rfl⟩, by simp⟩, by simp⟩
  · obtain rfl : v = .slice (some x) len cap := by simpa using hcs
    simp only [if_true] at hm
    subst hm
    have hC : Try.prog.cellsOf 41 = 2 := by kernel_rfl
    rw [hC] at hel
    have es : Try.prog.cellsOf 9 = 1 := by kernel_rfl
    have el : Try.prog.cellsOf 39 = 1 := by kernel_rfl
    have hx : ∀ i, i < len → ∃ p : Se, (∀ t, t < 2 → W.cell? (x.add (i * 2 + t)) = (encG p)[t]?) ∧ p.1.1.size ≤ 9223372036854775807 ∧ IsFls W (sv p.2) p.1.2 := by
      intro i hi
      obtain ⟨cs, h1, h2⟩ := hel i (by omega)
      obtain ⟨hlen, hat⟩ := cells?_at h1
      obtain ⟨c0, c1, rfl⟩ := list2 hlen
      obtain ⟨n0, hf0⟩ := fields_at Try.underlying41 h2
      obtain ⟨y0, t0⟩ := hf0 0 _ rfl
      obtain ⟨y1, t1⟩ := hf0 1 _ rfl
      replace t0 : DataW.trod enc Try.prog W 0 (fun _ => true) true n0 9 [c0] = some y0 := by
        have h := t0; change DataW.trod _ _ _ _ _ _ _ 9 (List.take (Try.prog.cellsOf 9) _) = _ at h; rw [es] at h; exact h
      replace t1 : DataW.trod enc Try.prog W 0 (fun _ => true) true n0 39 [c1] = some y1 := by
        have h := t1; change DataW.trod _ _ _ _ _ _ _ 39 (List.take (Try.prog.cellsOf 39) _) = _ at h; rw [el] at h; exact h
      obtain ⟨ho, k0, _, w0⟩ := DataW.trod_string Try.underlying9 t0
      cases k0
      obtain ⟨aa, al, ac, rfl⟩ := slice_in Try.underlying39 t1
      obtain ⟨fs, hfs⟩ := files_of (enc := enc) (W := W) t1
      refine ⟨((ho, fs), (aa, al, ac)), fun t ht => ?_, w0, hfs⟩
      have h := hat t ht
      rw [add_add] at h
      exact h
    obtain ⟨f, hf⟩ := choose_lt hx
    refine ⟨(List.range len).map f, ⟨⟨some x, _, by rw [List.length_map, List.length_range], by simpa using hl, by unfold maxLen at hc; omega, (fun h => by cases h), ?_⟩, fun p hp => ?_⟩, fun p hp => ?_⟩
    · by_cases h0 : len = 0
      · exact Or.inl (by simpa using h0)
      · obtain ⟨blk, off, spot⟩ := x
        have c0 := (hf 0 (by omega)).1 0 (by decide)
        have hspot : spot = none := by simpa [Addr.add] using World.cell?_spot (c0.trans (show _ = some (Value.string (f 0).1.1) from rfl))
        subst hspot
        have hlt : blk < W.heap.size := by
          have := World.block_lt_of_cell? W _ (c0.trans (show _ = some (Value.string (f 0).1.1) from rfl))
          rwa [add_lit] at this
        refine Or.inr ⟨blk, off, rfl, hlt, fun j y hj i hi' => ?_⟩
        have hjl : j < len := by have := (List.getElem?_eq_some_iff.1 hj).1; simpa using this
        simp [hjl] at hj
        subst hj
        have h := (hf j hjl).1 i hi'
        rw [add_lit] at h
        rw [Nat.add_assoc]; exact h
    · obtain ⟨i, hi, rfl⟩ := List.mem_map.1 hp
      exact (hf i (List.mem_range.1 hi)).2.2.1
    · obtain ⟨i, hi, rfl⟩ := List.mem_map.1 hp
      exact ⟨(hf i (List.mem_range.1 hi)).2.1, (hf i (List.mem_range.1 hi)).2.2.2⟩
theorem servers_arg {H : Type} {enc : TypeId × Value → H} {W : World} {v : Value} {d : DataW H} {p : List MemPlace} (hv : ∃ a n c, v = .slice a n c) (h : DataW.Trod enc Try.prog W 0 (fun _ => true) true 22 v d p) : ∃ ss, IsSvs W v ss := by
  obtain ⟨a, n, c, rfl⟩ := hv
  obtain ⟨fuel, hf⟩ := h
  exact servers_of hf

set_option maxRecDepth 100000 in
theorem server_of {H : Type} {enc : TypeId × Value → H} {W : World} {base : Nat} {v : Value} {d : DataW H} {p : List MemPlace} (hv : Value.okWide Try.prog W .any base 41 v) (h : DataW.Trod enc Try.prog W 0 (fun _ => true) true 41 v d p) :
    ∃ (ho : ByteArray) (a : Option Addr) (n c : Nat) (fs : List Fl), v = .agg #[.string ho, .slice a n c] ∧ ho.size ≤ 9223372036854775807 ∧ IsFls W (.slice a n c) fs := by
  obtain ⟨v0, v1, y0, y1, n, rfl, _, _, h0, h1⟩ := open_agg2 Try.underlying41 (by kernel_rfl) (by kernel_rfl) hv h
  obtain ⟨s, e0, _, w0⟩ := DataW.trod_string Try.underlying9 h0
  cases e0
  obtain ⟨a, l, c, rfl⟩ := slice_in Try.underlying39 h1
  obtain ⟨fs, hfs⟩ := files_of (enc := enc) (W := W) h1
  exact ⟨s, a, l, c, fs, rfl, w0, hfs⟩

end Go.Proofs.Ytpkicliimhflgaa
namespace Go.Proofs.Ytpkicliimhflgaa
open Go.ChangeShapes Go.WideShapes Go.ChangeAt Go.RowKit

theorem heap_one1 {w : World} {b : Nat} {x u : Value} {T : TypeId} (h : w.heap[b]? = some (.cells #[x] T (0, 0))) : (w.setCell ⟨b, 0, none⟩ u).heap[b]? = some (.cells #[u] T (0, 0)) := by
  rw [heap_one (o := 0) h u]; rfl
theorem cells_one {w : World} {b : Nat} {x : Value} {T : TypeId} (h : w.heap[b]? = some (.cells #[x] T (0, 0))) : w.cell? ⟨b, 0, none⟩ = some x ∧ w.frozen? ⟨b, 0, none⟩ = false := by
  refine ⟨?_, ?_⟩
  · unfold World.cell?; rw [h]; rfl
  · unfold World.frozen?; rw [h]; rfl

/-- One token more. -/
theorem toks_more {x y z : List UInt8} {ts : List Tv} {p : Tv} (h : feedB x = (ts.map Prod.fst ++ (feedB y).1, (feedB y).2)) (hy : feedB y = (p.1 :: (feedB z).1, (feedB z).2)) : feedB x = ((ts ++ [p]).map Prod.fst ++ (feedB z).1, (feedB z).2) := by
  rw [h, hy]; simp
theorem toks_none {x y z : List UInt8} {ts : List Tv} (h : feedB x = (ts.map Prod.fst ++ (feedB y).1, (feedB y).2)) (hy : feedB y = ((feedB z).1, (feedB z).2)) : feedB x = (ts.map Prod.fst ++ (feedB z).1, (feedB z).2) := by
  rw [h, hy]
theorem toks_end {x y : List UInt8} {ts : List Tv} (h : feedB x = (ts.map Prod.fst ++ (feedB y).1, (feedB y).2)) (hy : feedB y = ([], y)) : ts.map Prod.fst = (feedB x).1 ∧ y = (feedB x).2 := by
  rw [h, hy]; simp
theorem tag_inside (y : List UInt8) (e : Nat) : (ofL y).extract 1 e = ofL ((y.take e).drop 1) := by
  rw [extract_eq, ofL_list]
  congr 1
  rw [List.drop_take]
theorem endB_nil : endB [] = [] := by simp [endB]
theorem endB_tag {r : List UInt8} (h : r[0]? = some 60) : endB r = [] := by unfold endB; rw [if_pos (Or.inr h)]
theorem endB_text {r : List UInt8} (h : r ≠ []) (h2 : r[0]? ≠ some 60) : endB r = [tokText (ofL r)] := by unfold endB; rw [if_neg (by rintro (h3 | h3); exact h h3; exact h2 h3)]
theorem idx_tag {y : List UInt8} (h0 : idxB 60 y = 0) (h1 : idxB 62 y < y.length) : 1 ≤ idxB 62 y := by
  cases y with
  | nil => exact absurd h1 (Nat.not_lt_zero _)
  | cons b l =>
    have hb : b = 60 := by
      have := idxB_at (c := 60) (l := b :: l) (by rw [h0]; simp)
      rw [h0] at this
      simpa using this
    subst hb
    rw [idxB, if_neg (by decide)]; omega

end Go.Proofs.Ytpkicliimhflgaa
namespace Go.Proofs.Ytpkicliimhflgaa
open Go.ChangeShapes Go.WideShapes Go.ChangeAt Go.RowKit

theorem tagB_attrs {l : List UInt8} {t : Tok} (h : tagB l = some t) : t.attrs.length ≤ 4 := by
  unfold tagB at h
  split at h
  · cases h
  · split at h
    · split at h
      · cases h; exact Nat.zero_le _
      · cases h
    · split at h
      · cases h
      · split at h
        · cases h
        · split at h
          · rename_i hh; cases h; exact hh.2
          · cases h
theorem feed_attrs (a : List UInt8) : ∀ t ∈ (feedB a).1, t.attrs.length ≤ 4 := by
  generalize hn : a.length = n
  induction n using Nat.strongRecOn generalizing a with
  | _ n ih =>
    by_cases h1 : 0 < idxB 60 a ∧ idxB 60 a < a.length
    · rw [feed_text h1.1 h1.2]
      intro t ht
      rcases List.mem_cons.1 ht with h | h
      · subst h; exact Nat.zero_le _
      · exact ih (a.length - idxB 60 a) (by omega) (a.drop (idxB 60 a)) List.length_drop t h
    · by_cases h2 : idxB 60 a = 0 ∧ idxB 62 a < a.length
      · rw [feed_tag h2.1 h2.2]
        intro t ht
        rcases List.mem_append.1 ht with h | h
        · exact tagB_attrs (Option.mem_toList.1 h)
        · exact ih (a.length - (idxB 62 a + 1)) (by omega) (a.drop (idxB 62 a + 1)) List.length_drop t h
      · have hl := idxB_le 60 a
        have hl2 := idxB_le 62 a
        rw [feed_end (x := a) (by omega) h1]
        intro t ht; cases ht
theorem end_attrs (r : List UInt8) : ∀ t ∈ endB r, t.attrs.length ≤ 4 := by
  intro t ht
  unfold endB at ht
  split at ht
  · cases ht
  · rw [List.mem_singleton] at ht; subst ht; exact Nat.zero_le _
theorem tokens_attrs (s : List UInt8) : ∀ t ∈ tokensB s, t.attrs.length ≤ 4 := by
  intro t ht
  rcases List.mem_append.1 ht with h | h
  · exact feed_attrs s t h
  · exact end_attrs _ t h
theorem atCells_count : ∀ ats : List At, countL (atCells ats) = 2 * ats.length
  | [] => rfl
  | a :: ats => by rw [atCells, countL, countL, Rw.count, Rw.count, atCells_count ats, List.length_cons]; omega
theorem mark_is_read {x : Rw} {lo hi k hi' : Nat} {w : World} (h : (x.mark k).OwnR lo hi w) (hh : hi ≤ hi') : (x.mark k).ReadR hi' w := Rw.ReadR.mono hh _ (Rw.OwnR.reads _ h)
theorem own_read {x : Rw} {lo hi hi' : Nat} {w : World} (h : x.OwnR lo hi w) (hh : hi ≤ hi') : x.ReadR hi' w := Rw.ReadR.mono hh _ (Rw.OwnR.reads _ h)
/-- What another call owns is as it was when this call's own is written. -/
theorem own_apart {x y : Rw} {lo hi lo' hi' : Nat} {w w' : World} (h : x.OwnR lo hi w) (hy : y.OwnR lo' hi' w) (hh : hi ≤ lo') (ho : OnlyB y.blocks w w') : x.OwnR lo hi w' := by
  refine Rw.OwnR.only ho x h fun b hb hby => ?_
  have h1 := Rw.OwnR.lt x h b hb
  have h2 := Rw.OwnR.lt y hy b hby
  omega
theorem own_back {y : Rw} {lo hi : Nat} {w0 w w' : World} (hb : Below lo w0 w) (hy : y.OwnR lo hi w) (hl : lo ≤ w.heap.size) (ho : OnlyB y.blocks w w') : Below lo w0 w' :=
  hb.trans (ho.below (fun b hbm => (Rw.OwnR.lt y hy b hbm).1) hl)
theorem optL_nodup (o : Option Nat) : o.toList.Nodup := by cases o <;> simp

end Go.Proofs.Ytpkicliimhflgaa
namespace Go.Proofs.Ytpkicliimhflgaa
open Go.ChangeShapes Go.WideShapes Go.ChangeAt Go.RowKit

theorem toV_one (v : Value) (ss : List Se) (w : World) (r : (rwV v ss).ReadR w.heap.size w) (h : (rwV v ss).weight ≤ 1048576) :
    Calls Try.prog 8 #[v] w fun e w' => ∃ y : Rw, e = .returned y.cell ∧ IsServerS y ∧ y.data = (rwV v ss).data ∧ OwnRL w.heap.size w'.heap.size w' [y] ∧ (blocksL [y]).Nodup ∧ Below w.heap.size w w' := by
  refine (to_ServerS (rwV v ss) (rwV_is v ss) w r (Nat.le_trans h (by decide))).mono ?_
  rintro e w' ⟨y, rfl, h1, h2, h3, h4, h5⟩
  exact ⟨y, rfl, h1, h2, ownL_one.2 h4, by rw [blocksL, blocksL, List.append_nil]; exact h3, h5⟩

end Go.Proofs.Ytpkicliimhflgaa
namespace Go.Proofs.Ytpkicliimhflgaa
open Go.ChangeShapes Go.WideShapes Go.ChangeAt Go.RowKit

/-- What a slice of this type holds. -/
def IsNodeS (x : Rw) : Prop := ∃ v n e cs, x = .sl v n 4 e cs ∧ ∀ j, j < n → ∃ (a0 : ByteArray) (a1 : ByteArray) (a2 : Int) (a3 : Rw), cs[j * 4]? = some (.leaf (.string a0)) ∧ cs[j * 4 + 1]? = some (.leaf (.string a1)) ∧ cs[j * 4 + 2]? = some (.leaf (.int .i64 a2)) ∧ cs[j * 4 + 3]? = some a3 ∧ IsAttrS a3
theorem is_sl_NodeS {x : Rw} (h : IsNodeS x) : ∃ v n k e cs, x = .sl v n k e cs := by
  obtain ⟨v, n, e, cs, rfl, _⟩ := h
  exact ⟨v, n, _, e, cs, rfl⟩

end Go.Proofs.Ytpkicliimhflgaa
namespace Go.Proofs.Ytpkicliimhflgaa
open Go.ChangeShapes Go.WideShapes Go.ChangeAt Go.RowKit

def SzNode (a0 : ByteArray) (a1 : ByteArray) (a3 : Rw) (left : Int) (w : World) (e : Ending) (w' : World) : Prop :=
  ∃ r : Int, e = .returned (.int .i64 r) ∧ -1 ≤ r ∧ (0 ≤ r → r + (a0.size : Nat) + (a1.size : Nat) + (a3.weight : Nat) = left) ∧ Grw w w'

end Go.Proofs.Ytpkicliimhflgaa
namespace Go.Proofs.Ytpkicliimhflgaa
open Go.ChangeShapes Go.WideShapes Go.ChangeAt Go.RowKit

def SzBuilder (a0 : Rw) (a1 : Rw) (left : Int) (w : World) (e : Ending) (w' : World) : Prop :=
  ∃ r : Int, e = .returned (.int .i64 r) ∧ -1 ≤ r ∧ (0 ≤ r → r + (a0.weight : Nat) + (a1.weight : Nat) = left) ∧ Grw w w'

end Go.Proofs.Ytpkicliimhflgaa
namespace Go.Proofs.Ytpkicliimhflgaa
/-- A node: name, text, the number of its parent, attributes. -/
structure Nd where
  name : ByteArray
  text : ByteArray
  parent : Int
  attrs : List (ByteArray × ByteArray)
deriving DecidableEq
structure Bd where
  nodes : List Nd
  opn : List Int
deriving DecidableEq
def sPage : ByteArray := ⟨#[112, 97, 103, 101]⟩
def isVoid (s : ByteArray) : Bool := (s.toList == [105, 109, 103]) || (s.toList == [108, 105, 110, 107])
def bdNew : Bd := ⟨[⟨sPage, ⟨#[]⟩, -1, []⟩], [0]⟩
/-- The node of this number has this name. -/
def hasName (ns : List Nd) (z : Int) (s : ByteArray) : Bool := decide (0 ≤ z) && match ns[z.toNat]? with
  | some x => x.name.toList == s.toList
  | none => false
/-- How many elements stay open: all, or those ahead of the last one of this name (the first one always stays). -/
def closeN (b : Bd) (s : ByteArray) : Nat → Nat
  | 0 => b.opn.length
  | k + 1 => if hasName b.nodes (b.opn.getD (k + 1) 0) s then k + 1 else closeN b s k
def closeB (b : Bd) (s : ByteArray) : Bd := ⟨b.nodes, b.opn.take (closeN b s (b.opn.length - 1))⟩
def lastOpen (b : Bd) : Int := b.opn.getD (b.opn.length - 1) 0
def pushN (b : Bd) (x : Nd) : Bd := ⟨b.nodes ++ [x], b.opn⟩
/-- A node is appended below the last open one, where there is room. -/
def roomB (b : Bd) : Bool := decide (b.nodes.length < 40) && decide (0 < b.opn.length)
def openB (b : Bd) (n : ByteArray) (ats : List (ByteArray × ByteArray)) : Bd × Int :=
  if isVoid n = false ∧ 8 ≤ b.opn.length then (b, -1)
  else if roomB b = false then (b, -1)
  else (⟨b.nodes ++ [⟨n, ⟨#[]⟩, lastOpen b, ats⟩], if isVoid n = false then b.opn ++ [(b.nodes.length : Int)] else b.opn⟩, (b.nodes.length : Int))
def textB (b : Bd) (t : ByteArray) : Bd × Int :=
  if t.size = 0 ∨ roomB b = false then (b, -1)
  else (⟨b.nodes ++ [⟨⟨#[]⟩, t, lastOpen b, []⟩], b.opn⟩, (b.nodes.length : Int))
def addTok (b : Bd) (t : Tok) : Bd × Int :=
  if t.kind = 1 then openB b t.name t.attrs
  else if t.kind = 2 then (closeB b t.name, -1)
  else if t.kind = 3 then textB b t.text
  else (b, -1)
def addToks (b : Bd) : List Tok → Bd
  | [] => b
  | t :: ts => addToks (addTok b t).1 ts
theorem addToks_append (b : Bd) : ∀ (ts : List Tok) (t : Tok), addToks b (ts ++ [t]) = (addTok (addToks b ts) t).1
  | [], t => rfl
  | u :: ts, t => by
    rw [List.cons_append, addToks, addToks]
    exact addToks_append _ ts t
def textsOf (ns : List Nd) (k : Int) : List ByteArray := match ns with
  | [] => []
  | x :: ns => if x.parent = k ∧ x.name.size = 0 then x.text :: textsOf ns k else textsOf ns k
def joinE : List ByteArray → ByteArray
  | [] => ⟨#[]⟩
  | x :: xs => x ++ joinE xs
def textOf (b : Bd) (k : Int) : ByteArray := joinE (textsOf b.nodes k)
def countName (ns : List Nd) (s : ByteArray) : Nat := match ns with
  | [] => 0
  | x :: ns => (if (x.name.toList == s.toList) = true then 1 else 0) + countName ns s
/-- A node that can have children. -/
def canOpen (ns : List Nd) (z : Int) : Bool := decide (0 ≤ z) && match ns[z.toNat]? with
  | some x => decide (x.name.size ≠ 0) && !isVoid x.name
  | none => false
def okNode (ns : List Nd) (i : Nat) : Bool := match ns[i]? with
  | some x => decide (x.parent < (i : Int)) && canOpen ns x.parent && (if x.name.size = 0 then decide (x.text.size ≠ 0) && decide (x.attrs = []) else isNm x.name && decide (x.text.size = 0))
  | none => false
def okRoot (ns : List Nd) : Bool := match ns[0]? with
  | some x => (x.name.toList == [112, 97, 103, 101]) && decide (x.text.size = 0) && decide (x.parent = -1) && decide (x.attrs = [])
  | none => false
def parentOf (ns : List Nd) (z : Int) : Int := (ns[z.toNat]?.map Nd.parent).getD 0
def okOpen (b : Bd) (i : Nat) : Bool := canOpen b.nodes (b.opn.getD i 0) && decide (1 ≤ b.opn.getD i 0) && decide (parentOf b.nodes (b.opn.getD i 0) = b.opn.getD (i - 1) 0)
/-- The numbers from 1 to below n all satisfy it. -/
def allFrom (f : Nat → Bool) : Nat → Bool
  | 0 => true
  | 1 => true
  | n + 2 => allFrom f (n + 1) && f (n + 1)
theorem allFrom_iff (f : Nat → Bool) : ∀ n, allFrom f n = true ↔ ∀ i, 1 ≤ i → i < n → f i = true
  | 0 => by simp [allFrom]
  | 1 => by
    simp [allFrom]; intro i h1 h2; omega
  | n + 2 => by
    rw [allFrom, Bool.and_eq_true, allFrom_iff f (n + 1)]
    constructor
    · rintro ⟨h1, h2⟩ i hi1 hi2
      by_cases e : i = n + 1
      · rw [e]; exact h2
      · exact h1 i hi1 (by omega)
    · intro h
      exact ⟨fun i h1 h2 => h i h1 (by omega), h (n + 1) (by omega) (by omega)⟩
def isBd (b : Bd) : Bool :=
  decide (1 ≤ b.nodes.length ∧ b.nodes.length ≤ 40) && okRoot b.nodes && allFrom (okNode b.nodes) b.nodes.length && decide (1 ≤ b.opn.length ∧ b.opn.length ≤ 8) && decide (b.opn.getD 0 0 = 0) && allFrom (okOpen b) b.opn.length

end Go.Proofs.Ytpkicliimhflgaa
namespace Go.Proofs.Ytpkicliimhflgaa
open Go.ChangeShapes Go.WideShapes Go.ChangeAt Go.RowKit

abbrev Nv := Nd × Sv
def ndV (p : Nv) : Value := .agg #[.string p.1.name, .string p.1.text, .int .i64 p.1.parent, sv p.2]
def encN (p : Nv) : List Value := [.string p.1.name, .string p.1.text, .int .i64 p.1.parent, sv p.2]
theorem encN_len (p : Nv) : (encN p).length = 4 := rfl
theorem encN_one (p : Nv) : ∀ u ∈ encN p, u.oneCell' = true := by
  intro u hu
  simp only [encN, List.mem_cons, List.mem_nil_iff, or_false] at hu
  rcases hu with rfl | rfl | rfl | rfl <;> rfl
def insN (ts : List Nv) : List Nat := ts.flatMap fun p => (sv p.2).ownBlock.toList
theorem insN_append (ts us : List Nv) : insN (ts ++ us) = insN ts ++ insN us := by unfold insN; rw [List.flatMap_append]
theorem insN_mem {ts : List Nv} {b : Nat} : b ∈ insN ts ↔ ∃ p ∈ ts, (sv p.2).ownBlock = some b := by
  unfold insN
  rw [List.mem_flatMap]
  constructor
  · rintro ⟨p, hp, hb⟩
    exact ⟨p, hp, by simpa using hb⟩
  · rintro ⟨p, hp, hb⟩
    exact ⟨p, hp, by simpa using hb⟩
theorem rwN_count {ts us : List Nv} (h : ts.map Prod.fst = us.map Prod.fst) : ts.length = us.length := by
  have := congrArg List.length h
  simpa using this
/-- It reads so, with all that the nodes hold. -/
def ReadN (hi : Nat) (w : World) (v : Value) (ns : List Nv) : Prop := ReadsK encN 4 hi w v ns ∧ ∀ p ∈ ns, ReadsK encA 2 hi w (sv p.2) p.1.attrs
theorem ReadN.below {hi B : Nat} {w w' : World} {v : Value} {ns : List Nv} (h : ReadN hi w v ns) (hb : Below B w w') (hB : hi ≤ B) : ReadN hi w' v ns :=
  ⟨h.1.below hb hB, fun p hp => (h.2 p hp).below hb hB⟩
theorem ReadN.mono {hi hi' : Nat} {w : World} {v : Value} {ns : List Nv} (h : ReadN hi w v ns) (hh : hi ≤ hi') : ReadN hi' w v ns :=
  ⟨h.1.mono hh, fun p hp => (h.2 p hp).mono hh⟩
/-- The same for tokens. -/
def ReadT (hi : Nat) (w : World) (v : Value) (ts : List Tv) : Prop := ReadsK encT 4 hi w v ts ∧ ∀ p ∈ ts, ReadsK encA 2 hi w (sv p.2) p.1.attrs
theorem ReadT.below {hi B : Nat} {w w' : World} {v : Value} {ns : List Tv} (h : ReadT hi w v ns) (hb : Below B w w') (hB : hi ≤ B) : ReadT hi w' v ns :=
  ⟨h.1.below hb hB, fun p hp => (h.2 p hp).below hb hB⟩
theorem ReadT.mono {hi hi' : Nat} {w : World} {v : Value} {ns : List Tv} (h : ReadT hi w v ns) (hh : hi ≤ hi') : ReadT hi' w v ns :=
  ⟨h.1.mono hh, fun p hp => (h.2 p hp).mono hh⟩
/-- What is owned lies in no block of another type. -/
theorem ownK_setT {α : Type} {enc : α → List Value} {k : Nat} {e T : TypeId} {lo hi b o : Nat} {w : World} {v u : Value} {xs : List α} {cs : Array Value} (h : OwnK enc k e lo hi w v xs) (hb : w.heap[b]? = some (.cells cs T (0, 0))) (hne : e ≠ T) : OwnK enc k e lo hi (w.setCell ⟨b, o, none⟩ u) v xs := by
  refine ⟨⟨h.1.1, ?_⟩, h.2⟩
  rcases h.1.2 with h1 | ⟨g, cap, cur, h1, h2, h3, h4⟩
  · exact Or.inl h1
  · refine Or.inr ⟨g, cap, cur, h1, h2, ?_, h4⟩
    rw [Below.heap_setCell _ _ _ _ (show g ≠ b from fun e' => ?_)]
    · exact h3
    · subst e'
      rw [h3] at hb
      injection hb with h5
      injection h5 with _ h6 _
      exact hne h6
theorem row_ne_box {w : World} {B k n b : Nat} {e T : TypeId} {v : Value} {xs : List Value} {cs : Array Value} (h : w.ownsRow B e k v n xs) (hb : w.heap[b]? = some (.cells cs T (0, 0))) (hne : e ≠ T) : some b ≠ v.ownBlock := by
  rcases h.2 with ⟨rfl, _⟩ | ⟨g, cap, cur, rfl, _, h2, _⟩
  · intro h; cases h
  · intro h
    have e : b = g := Option.some.inj h
    subst e
    rw [h2] at hb
    injection hb with h5
    injection h5 with _ h6 _
    exact hne h6
theorem own_setT {k : IntKind} {e T : TypeId} {lo hi b o : Nat} {w : World} {v u : Value} {zs : List Int} {cs : Array Value} (h : Own k e lo hi w v zs) (hb : w.heap[b]? = some (.cells cs T (0, 0))) (hne : e ≠ T) : Own k e lo hi (w.setCell ⟨b, o, none⟩ u) v zs := by
  refine ⟨⟨h.1.1, ?_⟩, h.2⟩
  rcases h.1.2 with h1 | ⟨g, cap, cur, h1, h2, h3, h4⟩
  · exact Or.inl h1
  · refine Or.inr ⟨g, cap, cur, h1, h2, ?_, h4⟩
    rw [Below.heap_setCell _ _ _ _ (show g ≠ b from fun e' => ?_)]
    · exact h3
    · subst e'
      rw [h3] at hb
      injection hb with h5
      injection h5 with _ h6 _
      exact hne h6
/-- The first elements of an own row. -/
theorem row_take {w : World} {B k n m g cap : Nat} {e : TypeId} {xs : List Value} (h : w.ownsRow B e k (.slice (some ⟨g, 0, none⟩) n cap) n xs) (hm : m ≤ n) : w.ownsRow B e k (.slice (some ⟨g, 0, none⟩) m cap) m (xs.take (m * k)) := by
  refine ⟨by rw [List.length_take, h.1, Nat.min_eq_left (Nat.mul_le_mul_right k hm)], ?_⟩
  rcases h.2 with ⟨h1, _⟩ | ⟨g', cap', cur, h1, h2, h3, h4, h5, h6, h7⟩
  · cases h1
  · cases h1
    refine Or.inr ⟨g, cap, cur, rfl, h2, h3, by omega, h5, h6, ?_⟩
    rw [← h7, List.take_take, Nat.min_eq_left (Nat.mul_le_mul_right k hm)]
theorem Mine.take {k : IntKind} {e : TypeId} {B n cap g m : Nat} {w0 w : World} {zs : List Int} (h : Mine k e B w0 w (.slice (some ⟨g, 0, none⟩) n cap) zs) (hn : n = zs.length) (hm : m ≤ n) : Mine k e B w0 w (.slice (some ⟨g, 0, none⟩) m cap) (zs.take m) := by
  have h1 := row_take (hn ▸ h.row) (hn ▸ hm)
  have e2 : (zs.take m).length = m := by rw [List.length_take]; omega
  exact ⟨by rw [e2, List.map_take]; simpa using h1, h.below, h.size⟩

def BdIn (hi : Nat) (w : World) (nv ov : Value) (b : Bd) : Prop := ∃ ns : List Nv, ns.map Prod.fst = b.nodes ∧ ReadN hi w nv ns ∧ Reads .i64 hi w ov b.opn
theorem BdIn.below {hi B : Nat} {w w' : World} {nv ov : Value} {b : Bd} (h : BdIn hi w nv ov b) (hb : Below B w w') (hB : hi ≤ B) : BdIn hi w' nv ov b := by
  obtain ⟨ns, h1, h2, h3⟩ := h
  exact ⟨ns, h1, h2.below hb hB, h3.below hb hB⟩
theorem BdIn.mono {hi hi' : Nat} {w : World} {nv ov : Value} {b : Bd} (h : BdIn hi w nv ov b) (hh : hi ≤ hi') : BdIn hi' w nv ov b := by
  obtain ⟨ns, h1, h2, h3⟩ := h
  exact ⟨ns, h1, h2.mono hh, h3.mono hh⟩
theorem BdIn.up {w w' : World} {nv ov : Value} {b : Bd} (h : BdIn w.heap.size w nv ov b) (hb : Below w.heap.size w w') : BdIn w'.heap.size w' nv ov b := (h.below hb (Nat.le_refl _)).mono hb.size
/-- How many plain values the nodes hold. -/
def ndW : List Nd → Nat
  | [] => 0
  | x :: ns => 3 + 2 * x.attrs.length + ndW ns
theorem atCells_count' : ∀ ats : List At, countL (atCells ats) = 2 * ats.length
  | [] => rfl
  | a :: ats => by rw [atCells, countL, countL, Rw.count, Rw.count, atCells_count' ats, List.length_cons]; omega
theorem ndW_append : ∀ (a b : List Nd), ndW (a ++ b) = ndW a + ndW b
  | [], b => by rw [ndW, List.nil_append, Nat.zero_add]
  | x :: a, b => by rw [List.cons_append, ndW, ndW, ndW_append a b]; omega
theorem addTok_W (b : Bd) (t : Tok) : ndW (addTok b t).1.nodes ≤ ndW b.nodes + 3 + 2 * t.attrs.length ∧ (addTok b t).1.nodes.length ≤ max 40 b.nodes.length ∧ (addTok b t).1.opn.length ≤ max 8 b.opn.length := by
  unfold addTok openB textB roomB closeB
  split
  · split
    · exact ⟨by dsimp only; omega, by dsimp only; omega, by dsimp only; omega⟩
    · split
      · exact ⟨by dsimp only; omega, by dsimp only; omega, by dsimp only; omega⟩
      · rename_i h1 h2
        simp only [Bool.and_eq_false_iff, decide_eq_false_iff_not, not_or, Decidable.not_not] at h2
        refine ⟨by simp only [ndW_append, ndW]; omega, by simp only [List.length_append, List.length_cons, List.length_nil]; omega, ?_⟩
        show (if isVoid t.name = false then b.opn ++ [(b.nodes.length : Int)] else b.opn).length ≤ _
        split
        · rename_i h3
          have : ¬ 8 ≤ b.opn.length := fun h => h1 ⟨h3, h⟩
          simp only [List.length_append, List.length_cons, List.length_nil]; omega
        · omega
  · split
    · exact ⟨by dsimp only; omega, by dsimp only; omega, by simp only [List.length_take]; omega⟩
    · split
      · split
        · exact ⟨by dsimp only; omega, by dsimp only; omega, by dsimp only; omega⟩
        · rename_i h2
          simp only [Bool.and_eq_false_iff, decide_eq_false_iff_not, not_or, Decidable.not_not] at h2
          refine ⟨by simp only [ndW_append, ndW, List.length_nil]; omega, by simp only [List.length_append, List.length_cons, List.length_nil]; omega, by dsimp only; omega⟩
      · exact ⟨by dsimp only; omega, by dsimp only; omega, by dsimp only; omega⟩

end Go.Proofs.Ytpkicliimhflgaa
namespace Go.Proofs.Ytpkicliimhflgaa
open Go.ChangeShapes Go.WideShapes Go.ChangeAt Go.RowKit

theorem emp_size {s : ByteArray} : (s.toList == ([] : List UInt8)) = decide (s.size = 0) := by
  rw [ByteArray.toList_eq]
  have h := size_list s
  by_cases e : s.size = 0
  · rw [decide_eq_true e, List.eq_nil_of_length_eq_zero (h.trans e)]; rfl
  · rw [decide_eq_false e]
    refine beq_eq_false_iff_ne.2 fun k => e ?_
    rw [k] at h; simpa using h.symm
theorem nd_at {ns : List Nv} {k : Nat} (h : k < ns.length) : ∃ p, ns[k]? = some p := ⟨_, List.getElem?_eq_getElem h⟩
/-- The cells of node k. -/
theorem ReadN.at {hi n cap k : Nat} {w : World} {a : Option Addr} {ns : List Nv} {p : Nv} (h : ReadN hi w (.slice a n cap) ns) (hk : ns[k]? = some p) :
    ∃ g off, a = some ⟨g, off, none⟩ ∧ g < hi ∧ w.cell? ⟨g, off + k * 4, none⟩ = some (.string p.1.name) ∧ w.cell? ⟨g, off + k * 4 + 1, none⟩ = some (.string p.1.text) ∧ w.cell? ⟨g, off + k * 4 + 2, none⟩ = some (.int .i64 p.1.parent) ∧ w.cell? ⟨g, off + k * 4 + 3, none⟩ = some (sv p.2) := by
  obtain ⟨⟨a', cap', e, h1, h2, h3, h4⟩, _⟩ := h
  cases e
  have hlt := (List.getElem?_eq_some_iff.1 hk).1
  rcases h4 with h4 | ⟨g, off, rfl, hg, hc⟩
  · omega
  · exact ⟨g, off, rfl, hg, hc k p hk 0 (by omega), hc k p hk 1 (by omega), hc k p hk 2 (by omega), hc k p hk 3 (by omega)⟩
theorem ReadN.form {hi : Nat} {w : World} {v : Value} {ns : List Nv} (h : ReadN hi w v ns) : ∃ a cap, v = .slice a ns.length cap ∧ ns.length ≤ cap ∧ cap ≤ 9223372036854775807 := by
  obtain ⟨⟨a, cap, e, h1, h2, _⟩, _⟩ := h
  exact ⟨a, cap, e, h1, h2⟩
theorem reads_form {hi : Nat} {w : World} {v : Value} {zs : List Int} (h : Reads .i64 hi w v zs) : ∃ a cap, v = .slice a zs.length cap ∧ zs.length ≤ cap ∧ cap ≤ 9223372036854775807 := by
  obtain ⟨a, cap, e, h1, h2, _⟩ := h
  exact ⟨a, cap, e, h1, h2⟩
theorem reads_at {hi n cap k : Nat} {w : World} {a : Option Addr} {zs : List Int} (h : Reads .i64 hi w (.slice a n cap) zs) (hk : k < zs.length) :
    ∃ g off, a = some ⟨g, off, none⟩ ∧ g < hi ∧ w.cell? ⟨g, off + k, none⟩ = some (.int .i64 (zs.getD k 0)) := by
  obtain ⟨a', cap', e, h1, h2, h3, h4⟩ := h
  cases e
  rcases h4 with h4 | ⟨g, off, rfl, hg, hc⟩
  · omega
  · exact ⟨g, off, rfl, hg, hc k hk⟩

theorem nil_size {α : Type} {l : List α} [DecidableEq α] : decide (l = []) = decide (l.length = 0) := decide_eq_decide.2 ⟨fun h => by rw [h]; rfl, List.eq_nil_of_length_eq_zero⟩

end Go.Proofs.Ytpkicliimhflgaa
namespace Go.Proofs.Ytpkicliimhflgaa
open Go.ChangeShapes Go.WideShapes Go.ChangeAt Go.RowKit

theorem count_more {ns : List Nd} {s : ByteArray} {k : Nat} {x : Nd} (h : ns[k]? = some x) : countName (ns.take (k + 1)) s = countName (ns.take k) s + (if (x.name.toList == s.toList) = true then 1 else 0) := by
  induction ns generalizing k with
  | nil => simp at h
  | cons y ns ih =>
    cases k with
    | zero =>
      have : y = x := by simpa using h
      subst this
      simp [countName]
    | succ k =>
      rw [List.take_succ_cons, List.take_succ_cons, countName, countName, ih (by simpa using h)]; omega
theorem count_le : ∀ (ns : List Nd) (s : ByteArray), countName ns s ≤ ns.length
  | [], s => Nat.le_refl _
  | x :: ns, s => by
    have := count_le ns s
    rw [countName, List.length_cons]; split <;> omega
theorem map_fst_at {ns : List Nv} {l : List Nd} (h : ns.map Prod.fst = l) {k : Nat} {p : Nv} (hp : ns[k]? = some p) : l[k]? = some p.1 := by
  subst h; rw [List.getElem?_map, hp]; rfl

end Go.Proofs.Ytpkicliimhflgaa
namespace Go.Proofs.Ytpkicliimhflgaa
open Go.ChangeShapes Go.WideShapes Go.ChangeAt Go.RowKit

theorem eq_pre {xs ys : List Int} (hl : xs.length = ys.length) (h : ∀ j, j < xs.length → xs.getD j 0 = ys.getD j 0) : xs = ys := by
  apply List.ext_getElem?
  intro j
  by_cases hj : j < xs.length
  · rw [getD_at hj, getD_at (by omega), h j hj]
  · rw [List.getElem?_eq_none (by omega), List.getElem?_eq_none (by omega)]
def Pre (xs ys : List Int) (k : Nat) : Prop := ∀ j, j < k → xs.getD j 0 = ys.getD j 0
theorem Pre.step {xs ys : List Int} {k : Nat} (h : Pre xs ys k) (e : xs.getD k 0 = ys.getD k 0) : Pre xs ys (k + 1) := by
  intro j hj
  by_cases hjk : j = k
  · subst hjk; exact e
  · exact h j (by omega)
/-- The first k elements are equal. -/
def PreL {α : Type} (xs ys : List α) (k : Nat) : Prop := ∀ j, j < k → xs[j]? = ys[j]?
theorem PreL.zero {α : Type} (xs ys : List α) : PreL xs ys 0 := fun _ h => absurd h (Nat.not_lt_zero _)
theorem PreL.step {α : Type} {xs ys : List α} {k : Nat} (h : PreL xs ys k) (e : xs[k]? = ys[k]?) : PreL xs ys (k + 1) := by
  intro j hj
  by_cases hjk : j = k
  · subst hjk; exact e
  · exact h j (by omega)
theorem PreL.full {α : Type} {xs ys : List α} {k : Nat} (h : PreL xs ys k) (hx : xs.length = k) (hy : ys.length = k) : xs = ys := by
  apply List.ext_getElem?
  intro j
  by_cases hj : j < k
  · exact h j hj
  · rw [List.getElem?_eq_none (by omega), List.getElem?_eq_none (by omega)]
theorem ret_d {p : Prop} [Decidable p] {b : Bool} (h : b = decide p) : Ending.returned (.bool b) = .returned (.bool (decide p)) := by rw [h]

theorem nd_ne {x y : Nd} (h : x.name ≠ y.name ∨ x.text ≠ y.text ∨ x.parent ≠ y.parent ∨ x.attrs ≠ y.attrs) : x ≠ y := by
  rintro rfl
  rcases h with h | h | h | h <;> exact h rfl
theorem nd_eq {x y : Nd} (h1 : x.name = y.name) (h2 : x.text = y.text) (h3 : x.parent = y.parent) : decide (x = y) = decide (x.attrs = y.attrs) := by
  cases x; cases y
  simp only at h1 h2 h3
  subst h1; subst h2; subst h3
  exact decide_eq_decide.2 ⟨fun h => congrArg Nd.attrs h, fun h => by cases h; rfl⟩

end Go.Proofs.Ytpkicliimhflgaa
namespace Go.Proofs.Ytpkicliimhflgaa
open Go.ChangeShapes Go.WideShapes Go.ChangeAt Go.RowKit

def fitB (kd k : Int) : Bool := decide (kd = k) || (decide (k = 5) && decide (kd = 2))
theorem fit_eq {kd k : Int} (h : kd = k) : fitB kd k = true := by unfold fitB; rw [decide_eq_true h]; rfl
theorem fit_not {kd k : Int} (h : kd ≠ k) (h5 : k ≠ 5) : fitB kd k = false := by unfold fitB; rw [decide_eq_false h, decide_eq_false h5]; rfl
theorem fit_yes {kd k : Int} (h5 : k = 5) (h2 : kd = 2) : fitB kd k = true := by unfold fitB; rw [decide_eq_true h5, decide_eq_true h2]; simp
theorem fit_no {kd k : Int} (h : kd ≠ k) (h2 : kd ≠ 2) : fitB kd k = false := by unfold fitB; rw [decide_eq_false h, decide_eq_false h2]; simp

set_option maxRecDepth 100000 in
set_option maxHeartbeats 2000000 in
theorem nf_spec (w : World) :
    Calls Try.prog 17 #[] w fun e w' => e = .returned (.agg #[.int .i64 404, .int .i64 1, .string ⟨#[]⟩, .int .i64 0, .bool false, .string ⟨#[]⟩]) ∧ Grw w w' := by
  go_enter Try.func17, Try.ntmps17
  go_wp2_with fail
  refine bodyPost_ret (v := .agg #[.int .i64 404, .int .i64 1, .string ⟨#[]⟩, .int .i64 0, .bool false, .string ⟨#[]⟩]) (by simp [results, Try.results17, go_sem]) rfl ⟨rfl, ?_⟩
  repeat' (first | (with_reducible exact Grw.refl _) | (with_reducible refine Grw.alloc ?_ _))

set_option maxRecDepth 100000 in
set_option maxHeartbeats 2000000 in
theorem nf_impl (w : World) :
    Calls Try.prog 22 #[] w fun e w' => e = .returned (.agg #[.int .i64 404, .int .i64 1, .string ⟨#[]⟩, .int .i64 0, .bool false, .string ⟨#[]⟩]) ∧ Grw w w' := by
  go_enter Try.func22, Try.ntmps22
  go_wp2_with fail
  refine bodyPost_ret (v := .agg #[.int .i64 404, .int .i64 1, .string ⟨#[]⟩, .int .i64 0, .bool false, .string ⟨#[]⟩]) (by simp [results, Try.results22, go_sem]) rfl ⟨rfl, ?_⟩
  repeat' (first | (with_reducible exact Grw.refl _) | (with_reducible refine Grw.alloc ?_ _))

end Go.Proofs.Ytpkicliimhflgaa
namespace Go.Proofs.Ytpkicliimhflgaa
open Go.ChangeShapes Go.WideShapes Go.ChangeAt Go.RowKit

set_option maxRecDepth 100000 in
set_option maxHeartbeats 4000000 in
theorem host_clo (p_a : ByteArray) (sa : Option Addr) (sn sc : Nat) (h : ByteArray) (b : Nat) (w : World) (hc : w.cell? ⟨b, 0, none⟩ = some (.string h)) :
    Calls Try.prog 29 #[.agg #[.string p_a, .slice sa sn sc], .pointer (some ⟨b, 0, none⟩)] w fun e w' => e = .returned (.bool (decide (p_a = h))) ∧ Grw w w' := by
  have HG := Lib.hid ((Grw.refl w).alloc (.cells #[.string p_a, .slice sa sn sc] 47))
  have hc2 : (w.alloc (.cells #[.string p_a, .slice sa sn sc] 47)).cell? ⟨b, 0, none⟩ = some (.string h) := by rw [((Below.refl _ w).alloc (Nat.le_refl _) _).cell (World.block_lt_of_cell? _ _ hc)]; exact hc
  clear hc
  by_cases hh : p_a = h
  · have e1 : (p_a.toList == h.toList) = true := beqL_yes hh
    have HD := Lib.hid (decide_eq_true hh); clear hh
    go_enter Try.func29, Try.ntmps29
    go_wp2_with fail
    go_ret
    exact ⟨ret_b (by rw [HD.out]), HG.out⟩
  · have e1 : (p_a.toList == h.toList) = false := beqL_no hh
    have HD := Lib.hid (decide_eq_false hh); clear hh
    go_enter Try.func29, Try.ntmps29
    go_wp2_with fail
    go_ret
    exact ⟨ret_b (by rw [HD.out]), HG.out⟩

set_option maxRecDepth 100000 in
set_option maxHeartbeats 4000000 in
theorem path_clo (p_a : ByteArray) (f_s f_k : Int) (f_b : ByteArray) (f_a : Int) (f_h : Bool) (f_o : ByteArray) (h : ByteArray) (b : Nat) (w : World) (hc : w.cell? ⟨b, 0, none⟩ = some (.string h)) :
    Calls Try.prog 31 #[.agg #[.string p_a, .int .i64 f_s, .int .i64 f_k, .string f_b, .int .i64 f_a, .bool f_h, .string f_o], .pointer (some ⟨b, 0, none⟩)] w fun e w' => e = .returned (.bool (decide (p_a = h))) ∧ Grw w w' := by
  have HG := Lib.hid ((Grw.refl w).alloc (.cells #[.string p_a, .int .i64 f_s, .int .i64 f_k, .string f_b, .int .i64 f_a, .bool f_h, .string f_o] 49))
  have hc2 : (w.alloc (.cells #[.string p_a, .int .i64 f_s, .int .i64 f_k, .string f_b, .int .i64 f_a, .bool f_h, .string f_o] 49)).cell? ⟨b, 0, none⟩ = some (.string h) := by rw [((Below.refl _ w).alloc (Nat.le_refl _) _).cell (World.block_lt_of_cell? _ _ hc)]; exact hc
  clear hc
  by_cases hh : p_a = h
  · have e1 : (p_a.toList == h.toList) = true := beqL_yes hh
    have HD := Lib.hid (decide_eq_true hh); clear hh
    go_enter Try.func31, Try.ntmps31
    go_wp2_with fail
    go_ret
    exact ⟨ret_b (by rw [HD.out]), HG.out⟩
  · have e1 : (p_a.toList == h.toList) = false := beqL_no hh
    have HD := Lib.hid (decide_eq_false hh); clear hh
    go_enter Try.func31, Try.ntmps31
    go_wp2_with fail
    go_ret
    exact ⟨ret_b (by rw [HD.out]), HG.out⟩

set_option maxRecDepth 100000 in
set_option maxHeartbeats 4000000 in
theorem index_host (v : Value) (xs : List Se) (h : ByteArray) (b : Nat) (w : World) (hv : ReadV w.heap.size w v xs) (hc : w.cell? ⟨b, 0, none⟩ = some (.string h)) (hl : xs.length ≤ 1099511627776) :
    Calls Try.prog 28 #[v, .func (.func 29) #[] #[.pointer (some ⟨b, 0, none⟩)]] w fun e w' => e = .returned (.int .i64 (ixV (fdS (xs.map Prod.fst) h) xs.length)) ∧ Grw w w' := by
  obtain ⟨a, cap, rfl, hc1, hc2⟩ := hv.form
  obtain ⟨n, hn⟩ : ∃ n, xs.length = n := ⟨_, rfl⟩
  obtain ⟨R, hR⟩ : ∃ R, ixV (fdS (xs.map Prod.fst) h) n = R := ⟨_, rfl⟩
  rw [hn] at hv hc1 hl ⊢; rw [hR]
  have HV := Lib.hid hv; have HN := Lib.hid hn; have HR := Lib.hid hR; have HC := Lib.hid hc; have HBL := Lib.hid (World.block_lt_of_cell? _ _ hc)
  clear hv hn hR hc
  go_enter Try.func28, Try.ntmps28
  go_wp2
  go_loopw [8] (fun i wr => ∃ (k : Nat), k ≤ n ∧ i = .int .i64 k ∧ NoneTo (isHost h) (xs.map Prod.fst) k ∧ Grw w wr)
    (fun i _ => n - (intOf i).toNat)
  case atStart => exact ⟨0, Nat.zero_le _, rfl, NoneTo.zero _ _, Grw.refl _⟩
  case round =>
    obtain ⟨k, hk, rfl, hp, hs⟩ := hrel
    have HS := Lib.hid hs; have HP := Lib.hid hp
    clear hs hp
    by_cases hlt : (k : Int) < (n : Int)
    · obtain ⟨p, hp⟩ := se_at (ss := xs) (j := k) (by rw [HN.out]; omega)
      obtain ⟨g, off, rfl, hg, c0, c1⟩ := HV.out.at hp
      have HPF := Lib.hid (fd_mapS xs k p hp)
      obtain ⟨⟨p_a, fs⟩, ⟨sa, sn, sc⟩⟩ := p
      replace c0 : wr.cell? ⟨g, off + k * 2, none⟩ = some (.string p_a) := by rw [HS.out.below.cell (show g < _ by omega)]; exact c0
      replace c1 : wr.cell? ⟨g, off + k * 2 + 1, none⟩ = some (.slice sa sn sc) := by rw [HS.out.below.cell (show g < _ by omega)]; exact c1
      have HE := Lib.hid (host_clo p_a sa sn sc h b wr (by rw [HS.out.below.cell HBL.out]; exact HC.out))
      have HI := Lib.hid (show isHost h (p_a, fs) = decide (p_a = h) from rfl)
      clear hp
      obtain ⟨D, hD⟩ : ∃ D, decide (p_a = h) = D := ⟨_, rfl⟩
      rw [hD] at HE HI; clear hD
      cases D with
      | true =>
        have HQ := Lib.hid (HP.out.hit HPF.out HI.out)
        go_wp2_with (go_at_call 29; refine HE.out.mono ?_; rintro e w1 ⟨rfl, hg1⟩)
        have HG1 := Lib.hid (HS.out.trans hg1); clear hg1
        go_ret
        exact ⟨ret_ix (by rw [← HR.out]; unfold fdS; rw [HQ.out, ixV_hit (by omega)]), HG1.out⟩
      | false =>
        have HQ := Lib.hid (HP.out.step HPF.out HI.out)
        go_wp2_with (go_at_call 29; refine HE.out.mono ?_; rintro e w1 ⟨rfl, hg1⟩)
        have HG1 := Lib.hid (HS.out.trans hg1); clear hg1
        go_roundw
        case rel => exact ⟨k + 1, by omega, by go_num, HQ.out, HG1.out⟩
        case measure => simp [intOf]; omega
    · have hkn : k = n := by omega
      subst hkn
      have HE := Lib.hid (show fdS (xs.map Prod.fst) h = k from by have h1 := HP.out; have h2 := HN.out; rw [← List.length_map (f := Prod.fst)] at h2; subst h2; exact h1.full)
      go_wp2
      go_ret
      exact ⟨ret_ix (by rw [← HR.out, HE.out, ixV_no]), HS.out⟩

set_option maxRecDepth 100000 in
set_option maxHeartbeats 4000000 in
theorem index_path (v : Value) (xs : List Fl) (h : ByteArray) (b : Nat) (w : World) (hv : ReadsK encF 7 w.heap.size w v xs) (hc : w.cell? ⟨b, 0, none⟩ = some (.string h)) (hl : xs.length ≤ 1099511627776) :
    Calls Try.prog 30 #[v, .func (.func 31) #[] #[.pointer (some ⟨b, 0, none⟩)]] w fun e w' => e = .returned (.int .i64 (ixV (fdF xs h) xs.length)) ∧ Grw w w' := by
  obtain ⟨a, cap, rfl, hc1, hc2⟩ := hv.formF
  obtain ⟨n, hn⟩ : ∃ n, xs.length = n := ⟨_, rfl⟩
  obtain ⟨R, hR⟩ : ∃ R, ixV (fdF xs h) n = R := ⟨_, rfl⟩
  rw [hn] at hv hc1 hl ⊢; rw [hR]
  have HV := Lib.hid hv; have HN := Lib.hid hn; have HR := Lib.hid hR; have HC := Lib.hid hc; have HBL := Lib.hid (World.block_lt_of_cell? _ _ hc)
  clear hv hn hR hc
  go_enter Try.func30, Try.ntmps30
  go_wp2
  go_loopw [8] (fun i wr => ∃ (k : Nat), k ≤ n ∧ i = .int .i64 k ∧ NoneTo (isPath h) xs k ∧ Grw w wr)
    (fun i _ => n - (intOf i).toNat)
  case atStart => exact ⟨0, Nat.zero_le _, rfl, NoneTo.zero _ _, Grw.refl _⟩
  case round =>
    obtain ⟨k, hk, rfl, hp, hs⟩ := hrel
    have HS := Lib.hid hs; have HP := Lib.hid hp
    clear hs hp
    by_cases hlt : (k : Int) < (n : Int)
    · obtain ⟨p_a, f_s, f_k, f_b, f_a, f_h, f_o, hp⟩ := fl_at (xs := xs) (j := k) (by rw [HN.out]; omega)
      obtain ⟨g, off, rfl, hg, c0, c1, c2, c3, c4, c5, c6⟩ := HV.out.file hp
      have HPF := Lib.hid hp
      replace c0 : wr.cell? ⟨g, off + k * 7, none⟩ = some (.string p_a) := by rw [HS.out.below.cell (show g < _ by omega)]; exact c0
      replace c1 : wr.cell? ⟨g, off + k * 7 + 1, none⟩ = some (.int .i64 f_s) := by rw [HS.out.below.cell (show g < _ by omega)]; exact c1
      replace c2 : wr.cell? ⟨g, off + k * 7 + 2, none⟩ = some (.int .i64 f_k) := by rw [HS.out.below.cell (show g < _ by omega)]; exact c2
      replace c3 : wr.cell? ⟨g, off + k * 7 + 3, none⟩ = some (.string f_b) := by rw [HS.out.below.cell (show g < _ by omega)]; exact c3
      replace c4 : wr.cell? ⟨g, off + k * 7 + 4, none⟩ = some (.int .i64 f_a) := by rw [HS.out.below.cell (show g < _ by omega)]; exact c4
      replace c5 : wr.cell? ⟨g, off + k * 7 + 5, none⟩ = some (.bool f_h) := by rw [HS.out.below.cell (show g < _ by omega)]; exact c5
      replace c6 : wr.cell? ⟨g, off + k * 7 + 6, none⟩ = some (.string f_o) := by rw [HS.out.below.cell (show g < _ by omega)]; exact c6
      have HE := Lib.hid (path_clo p_a f_s f_k f_b f_a f_h f_o h b wr (by rw [HS.out.below.cell HBL.out]; exact HC.out))
      have HI := Lib.hid (show isPath h ⟨p_a, ⟨f_s, f_k, f_b, f_a, f_h, f_o⟩⟩ = decide (p_a = h) from rfl)
      clear hp
      obtain ⟨D, hD⟩ : ∃ D, decide (p_a = h) = D := ⟨_, rfl⟩
      rw [hD] at HE HI; clear hD
      cases D with
      | true =>
        have HQ := Lib.hid (HP.out.hit HPF.out HI.out)
        go_wp2_with (go_at_call 31; refine HE.out.mono ?_; rintro e w1 ⟨rfl, hg1⟩)
        have HG1 := Lib.hid (HS.out.trans hg1); clear hg1
        go_ret
        exact ⟨ret_ix (by rw [← HR.out]; unfold fdF; rw [HQ.out, ixV_hit (by omega)]), HG1.out⟩
      | false =>
        have HQ := Lib.hid (HP.out.step HPF.out HI.out)
        go_wp2_with (go_at_call 31; refine HE.out.mono ?_; rintro e w1 ⟨rfl, hg1⟩)
        have HG1 := Lib.hid (HS.out.trans hg1); clear hg1
        go_roundw
        case rel => exact ⟨k + 1, by omega, by go_num, HQ.out, HG1.out⟩
        case measure => simp [intOf]; omega
    · have hkn : k = n := by omega
      subst hkn
      have HE := Lib.hid (show fdF xs h = k from by have h1 := HP.out; have h2 := HN.out; subst h2; exact h1.full)
      go_wp2
      go_ret
      exact ⟨ret_ix (by rw [← HR.out, HE.out, ixV_no]), HS.out⟩

set_option maxRecDepth 100000 in
set_option maxHeartbeats 4000000 in
theorem findS_impl (v : Value) (xs : List Se) (h : ByteArray) (w : World) (hv : ReadV w.heap.size w v xs) (hl : xs.length ≤ 1099511627776) :
    Calls Try.prog 20 #[v, .string h] w fun e w' => e = .returned (.int .i64 (ixV (fdS (xs.map Prod.fst) h) xs.length)) ∧ Grw w w' := by
  have hmf : ∀ (fn : Fn) (first cap : Array Value) (w : World), (Instr.makeFunc fn first cap).run Try.prog w = .ok (.func fn first cap) w := fun _ _ _ _ => rfl
  obtain ⟨W, hW⟩ : ∃ W, w.alloc (.cells #[.string h] 9) = W := ⟨_, rfl⟩
  have HG := Lib.hid (show Grw w W by rw [← hW]; exact (Grw.refl w).alloc _)
  have HX := Lib.hid (index_host v xs h w.heap.size W (hv.up HG.out.below) (by rw [← hW]; simp) hl)
  obtain ⟨a, cap, rfl, _⟩ := hv.form
  obtain ⟨R, hR⟩ : ∃ R, ixV (fdS (xs.map Prod.fst) h) xs.length = R := ⟨_, rfl⟩
  rw [hR] at HX ⊢
  have HW := Lib.hid hW; clear hW hv hR
  go_enter Try.func20, Try.ntmps20
  go_wp2_with fail
  rw [HW.out]
  refine HX.out.mono ?_
  rintro e w1 ⟨rfl, hg1⟩
  go_wp2
  go_ret
  exact ⟨rfl, HG.out.trans hg1⟩

set_option maxRecDepth 100000 in
set_option maxHeartbeats 4000000 in
theorem findF_impl (v : Value) (xs : List Fl) (h : ByteArray) (w : World) (hv : ReadsK encF 7 w.heap.size w v xs) (hl : xs.length ≤ 1099511627776) :
    Calls Try.prog 21 #[v, .string h] w fun e w' => e = .returned (.int .i64 (ixV (fdF xs h) xs.length)) ∧ Grw w w' := by
  have hmf : ∀ (fn : Fn) (first cap : Array Value) (w : World), (Instr.makeFunc fn first cap).run Try.prog w = .ok (.func fn first cap) w := fun _ _ _ _ => rfl
  obtain ⟨W, hW⟩ : ∃ W, w.alloc (.cells #[.string h] 9) = W := ⟨_, rfl⟩
  have HG := Lib.hid (show Grw w W by rw [← hW]; exact (Grw.refl w).alloc _)
  have HX := Lib.hid (index_path v xs h w.heap.size W ((hv.below HG.out.below (Nat.le_refl _)).mono HG.out.below.size) (by rw [← hW]; simp) hl)
  obtain ⟨a, cap, rfl, _⟩ := hv.formF
  obtain ⟨R, hR⟩ : ∃ R, ixV (fdF xs h) xs.length = R := ⟨_, rfl⟩
  rw [hR] at HX ⊢
  have HW := Lib.hid hW; clear hW hv hR
  go_enter Try.func21, Try.ntmps21
  go_wp2_with fail
  rw [HW.out]
  refine HX.out.mono ?_
  rintro e w1 ⟨rfl, hg1⟩
  go_wp2
  go_ret
  exact ⟨rfl, HG.out.trans hg1⟩

set_option maxRecDepth 100000 in
set_option maxHeartbeats 4000000 in
theorem findS_spec (v : Value) (xs : List Se) (h : ByteArray) (w : World) (hv : ReadV w.heap.size w v xs) (hl : xs.length ≤ 1099511627776) :
    Calls Try.prog 16 #[v, .string h] w fun e w' => e = .returned (.int .i64 (ixV (fdS (xs.map Prod.fst) h) xs.length)) ∧ Grw w w' := by
  obtain ⟨a, cap, rfl, hc1, hc2⟩ := hv.form
  obtain ⟨n, hn⟩ : ∃ n, xs.length = n := ⟨_, rfl⟩
  obtain ⟨R, hR⟩ : ∃ R, ixV (fdS (xs.map Prod.fst) h) n = R := ⟨_, rfl⟩
  rw [hn] at hv hc1 hl ⊢; rw [hR]
  have HV := Lib.hid hv; have HN := Lib.hid hn; have HR := Lib.hid hR
  clear hv hn hR
  go_enter Try.func16, Try.ntmps16
  go_wp2
  go_loopw [5] (fun i wr => ∃ (k : Nat), k ≤ n ∧ i = .int .i64 k ∧ NoneTo (isHost h) (xs.map Prod.fst) k ∧ Grw w wr)
    (fun i _ => n - (intOf i).toNat)
  case atStart => exact ⟨0, Nat.zero_le _, rfl, NoneTo.zero _ _, Grw.refl _⟩
  case round =>
    obtain ⟨k, hk, rfl, hp, hs⟩ := hrel
    have HS := Lib.hid hs; have HP := Lib.hid hp
    clear hs hp
    by_cases hlt : (k : Int) < (n : Int)
    · obtain ⟨p, hp⟩ := se_at (ss := xs) (j := k) (by rw [HN.out]; omega)
      obtain ⟨g, off, rfl, hg, c0, c1⟩ := HV.out.at hp
      have HPF := Lib.hid (fd_mapS xs k p hp)
      obtain ⟨⟨p_a, fs⟩, ⟨sa, sn, sc⟩⟩ := p
      replace c0 : wr.cell? ⟨g, off + k * 2, none⟩ = some (.string p_a) := by rw [HS.out.below.cell (show g < _ by omega)]; exact c0
      clear c1
      have HI := Lib.hid (show isHost h (p_a, fs) = decide (p_a = h) from rfl)
      clear hp
      by_cases hh : p_a = h
      · have e1 : (p_a.toList == h.toList) = true := beqL_yes hh
        have HQ := Lib.hid (HP.out.hit HPF.out (HI.out.trans (decide_eq_true hh)))
        clear hh
        go_wp2
        go_ret
        exact ⟨ret_ix (by rw [← HR.out]; unfold fdS; rw [HQ.out, ixV_hit (by omega)]), HS.out⟩
      · have e1 : (p_a.toList == h.toList) = false := beqL_no hh
        have HQ := Lib.hid (HP.out.step HPF.out (HI.out.trans (decide_eq_false hh)))
        clear hh
        go_wp2
        go_roundw
        case rel => exact ⟨k + 1, by omega, by go_num, HQ.out, HS.out⟩
        case measure => simp [intOf]; omega
    · have hkn : k = n := by omega
      subst hkn
      have HE := Lib.hid (show fdS (xs.map Prod.fst) h = k from by have h1 := HP.out; have h2 := HN.out; rw [← List.length_map (f := Prod.fst)] at h2; subst h2; exact h1.full)
      go_wp2
      go_ret
      exact ⟨ret_ix (by rw [← HR.out, HE.out, ixV_no]), HS.out⟩

set_option maxRecDepth 100000 in
set_option maxHeartbeats 4000000 in
theorem findF_spec (h_n : ByteArray) (v : Value) (xs : List Fl) (h : ByteArray) (w : World) (hv : ReadsK encF 7 w.heap.size w v xs) (hl : xs.length ≤ 1099511627776) :
    Calls Try.prog 18 #[.agg #[.string h_n, v], .string h] w fun e w' => e = .returned (.int .i64 (ixV (fdF xs h) xs.length)) ∧ Grw w w' := by
  obtain ⟨a, cap, rfl, hc1, hc2⟩ := hv.formF
  obtain ⟨n, hn⟩ : ∃ n, xs.length = n := ⟨_, rfl⟩
  obtain ⟨R, hR⟩ : ∃ R, ixV (fdF xs h) n = R := ⟨_, rfl⟩
  rw [hn] at hv hc1 hl ⊢; rw [hR]
  obtain ⟨W, hW⟩ : ∃ W, w.alloc (.cells #[.string h_n, .slice a n cap] 47) = W := ⟨_, rfl⟩
  have hg0 : Grw w W := by rw [← hW]; exact (Grw.refl w).alloc _
  have hb1 : W.cell? ⟨w.heap.size, 1, none⟩ = some (.slice a n cap) := by rw [← hW]; simp
  have HG0 := Lib.hid hg0; have HW := Lib.hid hW; have HB1 := Lib.hid hb1; have HBS := Lib.hid (World.block_lt_of_cell? _ _ hb1); clear hg0 hW hb1
  have HV := Lib.hid hv; have HN := Lib.hid hn; have HR := Lib.hid hR
  clear hv hn hR
  go_enter Try.func18, Try.ntmps18
  go_wp2_with fail
  rw [HW.out]
  go_loopw [5] (fun i wr => ∃ (k : Nat), k ≤ n ∧ i = .int .i64 k ∧ NoneTo (isPath h) xs k ∧ Grw W wr)
    (fun i _ => n - (intOf i).toNat)
  case atStart => exact ⟨0, Nat.zero_le _, rfl, NoneTo.zero _ _, Grw.refl _⟩
  case round =>
    obtain ⟨k, hk, rfl, hp, hs⟩ := hrel
    have HS := Lib.hid (HG0.out.trans hs); have HP := Lib.hid hp
    have c8 : wr.cell? ⟨w.heap.size, 1, none⟩ = some (.slice a n cap) := by rw [hs.below.cell HBS.out]; exact HB1.out
    have HS0 := Lib.hid hs
    clear hs hp
    by_cases hlt : (k : Int) < (n : Int)
    · obtain ⟨p_a, f_s, f_k, f_b, f_a, f_h, f_o, hp⟩ := fl_at (xs := xs) (j := k) (by rw [HN.out]; omega)
      obtain ⟨g, off, rfl, hg, c0, _⟩ := HV.out.file hp
      have HPF := Lib.hid hp
      replace c0 : wr.cell? ⟨g, off + k * 7, none⟩ = some (.string p_a) := by rw [HS.out.below.cell (show g < _ by omega)]; exact c0
      have HI := Lib.hid (show isPath h ⟨p_a, ⟨f_s, f_k, f_b, f_a, f_h, f_o⟩⟩ = decide (p_a = h) from rfl)
      clear hp
      by_cases hh : p_a = h
      · have e1 : (p_a.toList == h.toList) = true := beqL_yes hh
        have HQ := Lib.hid (HP.out.hit HPF.out (HI.out.trans (decide_eq_true hh)))
        clear hh
        go_wp2
        go_ret
        exact ⟨ret_ix (by rw [← HR.out]; unfold fdF; rw [HQ.out, ixV_hit (by omega)]), HS.out⟩
      · have e1 : (p_a.toList == h.toList) = false := beqL_no hh
        have HQ := Lib.hid (HP.out.step HPF.out (HI.out.trans (decide_eq_false hh)))
        clear hh
        go_wp2
        go_roundw
        case rel => exact ⟨k + 1, by omega, by go_num, HQ.out, HS0.out⟩
        case measure => simp [intOf]; omega
    · have hkn : k = n := by omega
      subst hkn
      have HE := Lib.hid (show fdF xs h = k from by have h1 := HP.out; have h2 := HN.out; subst h2; exact h1.full)
      go_wp2
      go_ret
      exact ⟨ret_ix (by rw [← HR.out, HE.out, ixV_no]), HS.out⟩

end Go.Proofs.Ytpkicliimhflgaa
namespace Go.Proofs.Ytpkicliimhflgaa
open Go.ChangeShapes Go.WideShapes Go.ChangeAt Go.RowKit

set_option maxRecDepth 100000 in
set_option maxHeartbeats 4000000 in
theorem ans_impl (v : Value) (ss : List Se) (hh pp : ByteArray) (w : World) (hv : ReadV w.heap.size w v ss) (hl : ss.length ≤ 1099511627776) (hf : ∀ p ∈ ss, p.1.2.length ≤ 1099511627776) :
    Calls Try.prog 10 #[v, .agg #[.string hh, .string pp]] w fun e w' => e = .returned (rvG (ansV (ss.map Prod.fst) hh pp)) ∧ Grw w w' := by
  have mixed : Try.prog.follows .mixedOrders = true := by kernel_rfl
  obtain ⟨W, hW⟩ : ∃ W, (w.alloc (.cells #[.string hh, .string pp] 32)).alloc (.cells #[.int .i64 0, .int .i64 0, .string ⟨#[]⟩, .int .i64 0, .bool false, .string ⟨#[]⟩] 28) = W := ⟨_, rfl⟩
  have hg : Grw w W := by rw [← hW]; exact ((Grw.refl w).alloc _).alloc _
  have q0 : W.cell? ⟨w.heap.size, 0, none⟩ = some (.string hh) := by rw [← hW]; simp
  have q1 : W.cell? ⟨w.heap.size, 1, none⟩ = some (.string pp) := by rw [← hW]; simp
  have hxr : W.heap[w.heap.size + 1]? = some (.cells #[.int .i64 0, .int .i64 0, .string ⟨#[]⟩, .int .i64 0, .bool false, .string ⟨#[]⟩] 28 (0, 0)) := by rw [← hW]; exact box2_1 _ _ _
  have HXR := Lib.hid hxr; clear hxr
  have HX := Lib.hid (findS_impl v ss hh W (hv.up hg.below) hl)
  obtain ⟨a, cap, rfl, hc1, hc2⟩ := hv.form
  obtain ⟨n, hn⟩ : ∃ n, ss.length = n := ⟨_, rfl⟩
  rw [hn] at HX hv hc1 hl ⊢
  have HW := Lib.hid hW; have HG := Lib.hid hg; have HV := Lib.hid hv; have HN := Lib.hid hn; have HF := Lib.hid hf
  clear hW hg hv hn hf
  go_enter Try.func10, Try.ntmps10
  go_wp2_with fail
  rw [HW.out]
  refine HX.out.mono ?_
  rintro e w1 ⟨rfl, hg1⟩
  replace q0 := (hg1.below.cell (World.block_lt_of_cell? _ _ q0)).trans q0
  replace q1 := (hg1.below.cell (World.block_lt_of_cell? _ _ q1)).trans q1
  replace HXR := Lib.hid (below_heap hg1.below (heap_lt HXR.out) HXR.out)
  have HGX := Lib.hid (HG.out.trans hg1); clear hg1
  rcases findIdx_or (isHost hh) (ss.map Prod.fst) with ⟨he, _⟩ | ⟨s, hlt, hs, _, _⟩
  · have hix : ixV (fdS (ss.map Prod.fst) hh) n = -1 := by unfold fdS; rw [he, List.length_map, HN.out, ixV_no]
    rw [hix]
    have HE := Lib.hid (show fdS (ss.map Prod.fst) hh = (ss.map Prod.fst).length from he); clear he
    go_wp2_with fail
    refine (nf_impl _).mono ?_
    rintro e w3 ⟨rfl, hg3⟩
    have HG3 := Lib.hid (HGX.out.trans hg3)
    replace HXR := Lib.hid (below_heap hg3.below (heap_lt HXR.out) HXR.out)
    clear hg3
    have z0 := box_cell HXR.out (j := 0) rfl; have x0 := box_frz HXR.out 0
    have z1 := box_cell HXR.out (j := 1) rfl; have x1 := box_frz HXR.out 1
    have z2 := box_cell HXR.out (j := 2) rfl; have x2 := box_frz HXR.out 2
    have z3 := box_cell HXR.out (j := 3) rfl; have x3 := box_frz HXR.out 3
    have z4 := box_cell HXR.out (j := 4) rfl; have x4 := box_frz HXR.out 4
    have z5 := box_cell HXR.out (j := 5) rfl; have x5 := box_frz HXR.out 5
    go_wp2_with fail
    clear z0 x0 z1 x1 z2 x2 z3 x3 z4 x4 z5 x5
    obtain ⟨w9, hw9⟩ : ∃ x, ((((((w3.setCell ⟨w.heap.size + 1, 0, none⟩ (.int .i64 404)).setCell ⟨w.heap.size + 1, 1, none⟩ (.int .i64 1)).setCell ⟨w.heap.size + 1, 2, none⟩ (.string ⟨#[]⟩)).setCell ⟨w.heap.size + 1, 3, none⟩ (.int .i64 0)).setCell ⟨w.heap.size + 1, 4, none⟩ (.bool false)).setCell ⟨w.heap.size + 1, 5, none⟩ (.string ⟨#[]⟩)) = x := ⟨_, rfl⟩
    rw [hw9]
    have hb9 : w9.heap[w.heap.size + 1]? = some (.cells #[.int .i64 404, .int .i64 1, .string ⟨#[]⟩, .int .i64 0, .bool false, .string ⟨#[]⟩] 28 (0, 0)) := by rw [← hw9]; exact set6_box HXR.out (.int .i64 404) (.int .i64 1) (.string ⟨#[]⟩) (.int .i64 0) (.bool false) (.string ⟨#[]⟩)
    have hg9 : Grw w w9 := by rw [← hw9]; exact set6_grw HG3.out (by omega) (.int .i64 404) (.int .i64 1) (.string ⟨#[]⟩) (.int .i64 0) (.bool false) (.string ⟨#[]⟩)
    have r0 := box_cell hb9 (j := 0) rfl
    have r1 := box_cell hb9 (j := 1) rfl
    have r2 := box_cell hb9 (j := 2) rfl
    have r3 := box_cell hb9 (j := 3) rfl
    have r4 := box_cell hb9 (j := 4) rfl
    have r5 := box_cell hb9 (j := 5) rfl
    refine bodyPost_ret (v := .agg #[.int .i64 404, .int .i64 1, .string ⟨#[]⟩, .int .i64 0, .bool false, .string ⟨#[]⟩]) (by simp [results, Try.results10, go_sem, r0, r1, r2, r3, r4, r5]) rfl ⟨by rw [ansV_no HE.out]; rfl, hg9⟩
  · obtain ⟨i, hi⟩ : ∃ i, (ss.map Prod.fst).findIdx (isHost hh) = i := ⟨_, rfl⟩
    rw [hi] at hlt hs
    rw [List.length_map, HN.out] at hlt
    have hix : ixV (fdS (ss.map Prod.fst) hh) n = i := by unfold fdS; rw [hi, ixV_hit hlt]
    rw [hix]
    have HI := Lib.hid (show fdS (ss.map Prod.fst) hh = i from hi); clear hi hix
    obtain ⟨p, hp, rfl⟩ : ∃ p, ss[i]? = some p ∧ p.1 = s := by rw [List.getElem?_map] at hs; cases hq : ss[i]? with
      | none => rw [hq] at hs; cases hs
      | some q => rw [hq] at hs; exact ⟨q, rfl, Option.some.inj hs⟩
    obtain ⟨g, off, rfl, hg, c0, c1⟩ := HV.out.at hp
    have HFS := Lib.hid (HV.out.files hp)
    have hfl := HF.out p (List.mem_of_getElem? hp)
    have HP := Lib.hid (fd_mapS ss i p hp)
    obtain ⟨⟨p_a, fs⟩, ⟨sa, sn, sc⟩⟩ := p
    replace c0 : w1.cell? ⟨g, off + i * 2, none⟩ = some (.string p_a) := by rw [HGX.out.below.cell (show g < _ by omega)]; exact c0
    replace c1 : w1.cell? ⟨g, off + i * 2 + 1, none⟩ = some (.slice sa sn sc) := by rw [HGX.out.below.cell (show g < _ by omega)]; exact c1
    have hfr : ReadsK encF 7 w1.heap.size w1 (.slice sa sn sc) fs := (HFS.out.below HGX.out.below (Nat.le_refl _)).mono HGX.out.below.size
    replace hfl : fs.length ≤ 1099511627776 := hfl
    have HSN := Lib.hid (show sn = fs.length by obtain ⟨_, _, e, _⟩ := hfr; injection e)
    have hnn : ¬ ((i : Int) < 0) := by omega
    have hnd : decide ((0 : Int) ≤ (i : Int)) = true := decide_eq_true (by omega)
    clear hp hs
    have HFR := Lib.hid hfr; clear hfr
    have HC0 := Lib.hid c0; have HC1 := Lib.hid c1
    have HA2 := Lib.hid (fun (m : Nat) (os : Array Obj) => show Calls Try.prog 21 #[.slice sa sn sc, .string pp] (Sort.grow (w1.drewN m) os) fun e w' => e = .returned (.int .i64 (ixV (fdF fs pp) fs.length)) ∧ Grw (Sort.grow (w1.drewN m) os) w' from findF_impl (.slice sa sn sc) fs pp _ ((HFR.out.below (Grw.below ⟨m, os, rfl⟩) (Nat.le_refl _)).mono (Grw.below ⟨m, os, rfl⟩).size) hfl)
    have gc0 := cell_grown (show g < w1.heap.size by have := HGX.out.below.size; omega) c0
    have gc1 := cell_grown (show g < w1.heap.size by have := HGX.out.below.size; omega) c1
    have gq1 := cell_grown (World.block_lt_of_cell? _ _ q1) q1
    clear c0 c1
    go_wp2_with fail
    refine wp_region_quiet_grown mixed (by kernel_rfl) ?_
    repeat (go_big_quiet_step (first | (go_at_call 21; refine Calls.grown_of (HA2.out _ _))))
    refine wpQuiet_nil ?_; intro _ hw'; obtain ⟨⟨nq, osq⟩, hw''⟩ := hw'; subst hw''
    have hg2 : Grw w1 (Sort.grow (w1.drewN nq) osq) := ⟨nq, osq, rfl⟩
    obtain ⟨w2, hw2⟩ : ∃ x, Sort.grow (w1.drewN nq) osq = x := ⟨_, rfl⟩
    rw [hw2] at hg2 ⊢; clear hw2 gc0 gc1 gq1
    replace q0 := (hg2.below.cell (World.block_lt_of_cell? _ _ q0)).trans q0
    replace q1 := (hg2.below.cell (World.block_lt_of_cell? _ _ q1)).trans q1
    replace HXR := Lib.hid (below_heap hg2.below (heap_lt HXR.out) HXR.out)
    replace HGX := Lib.hid (HGX.out.trans hg2)
    have c0 : w2.cell? ⟨g, off + i * 2, none⟩ = some (.string p_a) := (hg2.below.cell (World.block_lt_of_cell? _ _ HC0.out)).trans HC0.out
    have c1 : w2.cell? ⟨g, off + i * 2 + 1, none⟩ = some (.slice sa sn sc) := (hg2.below.cell (World.block_lt_of_cell? _ _ HC1.out)).trans HC1.out
    replace HFR := Lib.hid ((HFR.out.below hg2.below (Nat.le_refl _)).mono hg2.below.size)
    clear hg2
    rcases findIdx_or (isPath pp) fs with ⟨he, _⟩ | ⟨s, hlt2, hs, _, _⟩
    · have hix : ixV (fdF fs pp) fs.length = -1 := by unfold fdF; rw [he, ixV_no]
      rw [hix]
      have HE := Lib.hid (show fdF fs pp = fs.length from he); clear he
      go_wp2_with fail
      refine (nf_impl _).mono ?_
      rintro e w3 ⟨rfl, hg3⟩
      have HG3 := Lib.hid (HGX.out.trans hg3)
      replace HXR := Lib.hid (below_heap hg3.below (heap_lt HXR.out) HXR.out)
      clear hg3
      have z0 := box_cell HXR.out (j := 0) rfl; have x0 := box_frz HXR.out 0
      have z1 := box_cell HXR.out (j := 1) rfl; have x1 := box_frz HXR.out 1
      have z2 := box_cell HXR.out (j := 2) rfl; have x2 := box_frz HXR.out 2
      have z3 := box_cell HXR.out (j := 3) rfl; have x3 := box_frz HXR.out 3
      have z4 := box_cell HXR.out (j := 4) rfl; have x4 := box_frz HXR.out 4
      have z5 := box_cell HXR.out (j := 5) rfl; have x5 := box_frz HXR.out 5
      go_wp2_with fail
      clear z0 x0 z1 x1 z2 x2 z3 x3 z4 x4 z5 x5
      obtain ⟨w9, hw9⟩ : ∃ x, ((((((w3.setCell ⟨w.heap.size + 1, 0, none⟩ (.int .i64 404)).setCell ⟨w.heap.size + 1, 1, none⟩ (.int .i64 1)).setCell ⟨w.heap.size + 1, 2, none⟩ (.string ⟨#[]⟩)).setCell ⟨w.heap.size + 1, 3, none⟩ (.int .i64 0)).setCell ⟨w.heap.size + 1, 4, none⟩ (.bool false)).setCell ⟨w.heap.size + 1, 5, none⟩ (.string ⟨#[]⟩)) = x := ⟨_, rfl⟩
      rw [hw9]
      have hb9 : w9.heap[w.heap.size + 1]? = some (.cells #[.int .i64 404, .int .i64 1, .string ⟨#[]⟩, .int .i64 0, .bool false, .string ⟨#[]⟩] 28 (0, 0)) := by rw [← hw9]; exact set6_box HXR.out (.int .i64 404) (.int .i64 1) (.string ⟨#[]⟩) (.int .i64 0) (.bool false) (.string ⟨#[]⟩)
      have hg9 : Grw w w9 := by rw [← hw9]; exact set6_grw HG3.out (by omega) (.int .i64 404) (.int .i64 1) (.string ⟨#[]⟩) (.int .i64 0) (.bool false) (.string ⟨#[]⟩)
      have r0 := box_cell hb9 (j := 0) rfl
      have r1 := box_cell hb9 (j := 1) rfl
      have r2 := box_cell hb9 (j := 2) rfl
      have r3 := box_cell hb9 (j := 3) rfl
      have r4 := box_cell hb9 (j := 4) rfl
      have r5 := box_cell hb9 (j := 5) rfl
      refine bodyPost_ret (v := .agg #[.int .i64 404, .int .i64 1, .string ⟨#[]⟩, .int .i64 0, .bool false, .string ⟨#[]⟩]) (by simp [results, Try.results10, go_sem, r0, r1, r2, r3, r4, r5]) rfl ⟨by rw [ansV_at HI.out HP.out, ansF_no HE.out]; rfl, hg9⟩
    · obtain ⟨j, hj⟩ : ∃ j, fs.findIdx (isPath pp) = j := ⟨_, rfl⟩
      rw [hj] at hlt2 hs
      have hix : ixV (fdF fs pp) fs.length = j := by unfold fdF; rw [hj, ixV_hit hlt2]
      rw [hix]
      have HJ := Lib.hid (show fdF fs pp = j from hj); clear hj hix
      obtain ⟨p_a2, f_s, f_k, f_b, f_a, f_h, f_o⟩ := s
      obtain ⟨g2, off2, rfl, hg3, d0, d1, d2, d3, d4, d5, d6⟩ := HFR.out.file hs
      have HS := Lib.hid hs; clear hs
      have hjn : ¬ ((j : Int) < 0) := by omega
      have hjs : j < sn := by rw [HSN.out]; exact hlt2
      have hjd : decide ((0 : Int) ≤ (j : Int)) = true := decide_eq_true (by omega)
      have z0 := box_cell HXR.out (j := 0) rfl; have x0 := box_frz HXR.out 0
      have z1 := box_cell HXR.out (j := 1) rfl; have x1 := box_frz HXR.out 1
      have z2 := box_cell HXR.out (j := 2) rfl; have x2 := box_frz HXR.out 2
      have z3 := box_cell HXR.out (j := 3) rfl; have x3 := box_frz HXR.out 3
      have z4 := box_cell HXR.out (j := 4) rfl; have x4 := box_frz HXR.out 4
      have z5 := box_cell HXR.out (j := 5) rfl; have x5 := box_frz HXR.out 5
      go_wp2_with fail
      clear z0 x0 z1 x1 z2 x2 z3 x3 z4 x4 z5 x5
      obtain ⟨w9, hw9⟩ : ∃ x, ((((((w2.setCell ⟨w.heap.size + 1, 0, none⟩ (.int .i64 f_s)).setCell ⟨w.heap.size + 1, 1, none⟩ (.int .i64 f_k)).setCell ⟨w.heap.size + 1, 2, none⟩ (.string f_b)).setCell ⟨w.heap.size + 1, 3, none⟩ (.int .i64 f_a)).setCell ⟨w.heap.size + 1, 4, none⟩ (.bool f_h)).setCell ⟨w.heap.size + 1, 5, none⟩ (.string f_o)) = x := ⟨_, rfl⟩
      rw [hw9]
      have hb9 : w9.heap[w.heap.size + 1]? = some (.cells #[.int .i64 f_s, .int .i64 f_k, .string f_b, .int .i64 f_a, .bool f_h, .string f_o] 28 (0, 0)) := by rw [← hw9]; exact set6_box HXR.out (.int .i64 f_s) (.int .i64 f_k) (.string f_b) (.int .i64 f_a) (.bool f_h) (.string f_o)
      have hg9 : Grw w w9 := by rw [← hw9]; exact set6_grw HGX.out (by omega) (.int .i64 f_s) (.int .i64 f_k) (.string f_b) (.int .i64 f_a) (.bool f_h) (.string f_o)
      have r0 := box_cell hb9 (j := 0) rfl
      have r1 := box_cell hb9 (j := 1) rfl
      have r2 := box_cell hb9 (j := 2) rfl
      have r3 := box_cell hb9 (j := 3) rfl
      have r4 := box_cell hb9 (j := 4) rfl
      have r5 := box_cell hb9 (j := 5) rfl
      refine bodyPost_ret (v := .agg #[.int .i64 f_s, .int .i64 f_k, .string f_b, .int .i64 f_a, .bool f_h, .string f_o]) (by simp [results, Try.results10, go_sem, r0, r1, r2, r3, r4, r5]) rfl ⟨by rw [ansV_at HI.out HP.out, ansF_at HJ.out HS.out]; rfl, hg9⟩

end Go.Proofs.Ytpkicliimhflgaa
namespace Go.Proofs.Ytpkicliimhflgaa
open Go.ChangeShapes Go.WideShapes Go.ChangeAt Go.RowKit

set_option maxRecDepth 100000 in
set_option maxHeartbeats 4000000 in
theorem ans_spec (v : Value) (ss : List Se) (hh pp : ByteArray) (w : World) (hv : ReadV w.heap.size w v ss) (hl : ss.length ≤ 1099511627776) (hf : ∀ p ∈ ss, p.1.2.length ≤ 1099511627776) :
    Calls Try.prog 7 #[v, .agg #[.string hh, .string pp]] w fun e w' => e = .returned (rvG (ansV (ss.map Prod.fst) hh pp)) ∧ Grw w w' := by
  have mixed : Try.prog.follows .mixedOrders = true := by kernel_rfl
  obtain ⟨W, hW⟩ : ∃ W, (w.alloc (.cells #[.string hh, .string pp] 32)).alloc (.cells #[.int .i64 0, .int .i64 0, .string ⟨#[]⟩, .int .i64 0, .bool false, .string ⟨#[]⟩] 28) = W := ⟨_, rfl⟩
  have hg : Grw w W := by rw [← hW]; exact ((Grw.refl w).alloc _).alloc _
  have q0 : W.cell? ⟨w.heap.size, 0, none⟩ = some (.string hh) := by rw [← hW]; simp
  have q1 : W.cell? ⟨w.heap.size, 1, none⟩ = some (.string pp) := by rw [← hW]; simp
  have hxr : W.heap[w.heap.size + 1]? = some (.cells #[.int .i64 0, .int .i64 0, .string ⟨#[]⟩, .int .i64 0, .bool false, .string ⟨#[]⟩] 28 (0, 0)) := by rw [← hW]; exact box2_1 _ _ _
  have HXR := Lib.hid hxr; clear hxr
  have HX := Lib.hid (findS_spec v ss hh W (hv.up hg.below) hl)
  obtain ⟨a, cap, rfl, hc1, hc2⟩ := hv.form
  obtain ⟨n, hn⟩ : ∃ n, ss.length = n := ⟨_, rfl⟩
  rw [hn] at HX hv hc1 hl ⊢
  have HW := Lib.hid hW; have HG := Lib.hid hg; have HV := Lib.hid hv; have HN := Lib.hid hn; have HF := Lib.hid hf
  clear hW hg hv hn hf
  go_enter Try.func7, Try.ntmps7
  go_wp2_with fail
  rw [HW.out]
  refine HX.out.mono ?_
  rintro e w1 ⟨rfl, hg1⟩
  replace q0 := (hg1.below.cell (World.block_lt_of_cell? _ _ q0)).trans q0
  replace q1 := (hg1.below.cell (World.block_lt_of_cell? _ _ q1)).trans q1
  replace HXR := Lib.hid (below_heap hg1.below (heap_lt HXR.out) HXR.out)
  have HGX := Lib.hid (HG.out.trans hg1); clear hg1
  rcases findIdx_or (isHost hh) (ss.map Prod.fst) with ⟨he, _⟩ | ⟨s, hlt, hs, _, _⟩
  · have hix : ixV (fdS (ss.map Prod.fst) hh) n = -1 := by unfold fdS; rw [he, List.length_map, HN.out, ixV_no]
    rw [hix]
    have HE := Lib.hid (show fdS (ss.map Prod.fst) hh = (ss.map Prod.fst).length from he); clear he
    go_wp2_with fail
    refine (nf_spec _).mono ?_
    rintro e w3 ⟨rfl, hg3⟩
    have HG3 := Lib.hid (HGX.out.trans hg3)
    replace HXR := Lib.hid (below_heap hg3.below (heap_lt HXR.out) HXR.out)
    clear hg3
    have z0 := box_cell HXR.out (j := 0) rfl; have x0 := box_frz HXR.out 0
    have z1 := box_cell HXR.out (j := 1) rfl; have x1 := box_frz HXR.out 1
    have z2 := box_cell HXR.out (j := 2) rfl; have x2 := box_frz HXR.out 2
    have z3 := box_cell HXR.out (j := 3) rfl; have x3 := box_frz HXR.out 3
    have z4 := box_cell HXR.out (j := 4) rfl; have x4 := box_frz HXR.out 4
    have z5 := box_cell HXR.out (j := 5) rfl; have x5 := box_frz HXR.out 5
    go_wp2_with fail
    clear z0 x0 z1 x1 z2 x2 z3 x3 z4 x4 z5 x5
    obtain ⟨w9, hw9⟩ : ∃ x, ((((((w3.setCell ⟨w.heap.size + 1, 0, none⟩ (.int .i64 404)).setCell ⟨w.heap.size + 1, 1, none⟩ (.int .i64 1)).setCell ⟨w.heap.size + 1, 2, none⟩ (.string ⟨#[]⟩)).setCell ⟨w.heap.size + 1, 3, none⟩ (.int .i64 0)).setCell ⟨w.heap.size + 1, 4, none⟩ (.bool false)).setCell ⟨w.heap.size + 1, 5, none⟩ (.string ⟨#[]⟩)) = x := ⟨_, rfl⟩
    rw [hw9]
    have hb9 : w9.heap[w.heap.size + 1]? = some (.cells #[.int .i64 404, .int .i64 1, .string ⟨#[]⟩, .int .i64 0, .bool false, .string ⟨#[]⟩] 28 (0, 0)) := by rw [← hw9]; exact set6_box HXR.out (.int .i64 404) (.int .i64 1) (.string ⟨#[]⟩) (.int .i64 0) (.bool false) (.string ⟨#[]⟩)
    have hg9 : Grw w w9 := by rw [← hw9]; exact set6_grw HG3.out (by omega) (.int .i64 404) (.int .i64 1) (.string ⟨#[]⟩) (.int .i64 0) (.bool false) (.string ⟨#[]⟩)
    have r0 := box_cell hb9 (j := 0) rfl
    have r1 := box_cell hb9 (j := 1) rfl
    have r2 := box_cell hb9 (j := 2) rfl
    have r3 := box_cell hb9 (j := 3) rfl
    have r4 := box_cell hb9 (j := 4) rfl
    have r5 := box_cell hb9 (j := 5) rfl
    refine bodyPost_ret (v := .agg #[.int .i64 404, .int .i64 1, .string ⟨#[]⟩, .int .i64 0, .bool false, .string ⟨#[]⟩]) (by simp [results, Try.results7, go_sem, r0, r1, r2, r3, r4, r5]) rfl ⟨by rw [ansV_no HE.out]; rfl, hg9⟩
  · obtain ⟨i, hi⟩ : ∃ i, (ss.map Prod.fst).findIdx (isHost hh) = i := ⟨_, rfl⟩
    rw [hi] at hlt hs
    rw [List.length_map, HN.out] at hlt
    have hix : ixV (fdS (ss.map Prod.fst) hh) n = i := by unfold fdS; rw [hi, ixV_hit hlt]
    rw [hix]
    have HI := Lib.hid (show fdS (ss.map Prod.fst) hh = i from hi); clear hi hix
    obtain ⟨p, hp, rfl⟩ : ∃ p, ss[i]? = some p ∧ p.1 = s := by rw [List.getElem?_map] at hs; cases hq : ss[i]? with
      | none => rw [hq] at hs; cases hs
      | some q => rw [hq] at hs; exact ⟨q, rfl, Option.some.inj hs⟩
    obtain ⟨g, off, rfl, hg, c0, c1⟩ := HV.out.at hp
    have HFS := Lib.hid (HV.out.files hp)
    have hfl := HF.out p (List.mem_of_getElem? hp)
    have HP := Lib.hid (fd_mapS ss i p hp)
    obtain ⟨⟨p_a, fs⟩, ⟨sa, sn, sc⟩⟩ := p
    replace c0 : w1.cell? ⟨g, off + i * 2, none⟩ = some (.string p_a) := by rw [HGX.out.below.cell (show g < _ by omega)]; exact c0
    replace c1 : w1.cell? ⟨g, off + i * 2 + 1, none⟩ = some (.slice sa sn sc) := by rw [HGX.out.below.cell (show g < _ by omega)]; exact c1
    have hfr : ReadsK encF 7 w1.heap.size w1 (.slice sa sn sc) fs := (HFS.out.below HGX.out.below (Nat.le_refl _)).mono HGX.out.below.size
    replace hfl : fs.length ≤ 1099511627776 := hfl
    have HSN := Lib.hid (show sn = fs.length by obtain ⟨_, _, e, _⟩ := hfr; injection e)
    have hnn : ¬ ((i : Int) < 0) := by omega
    have hnd : decide ((0 : Int) ≤ (i : Int)) = true := decide_eq_true (by omega)
    clear hp hs
    have HFR := Lib.hid hfr; clear hfr
    have HC0 := Lib.hid c0; have HC1 := Lib.hid c1
    have HA2 := Lib.hid (fun (m : Nat) (os : Array Obj) => show Calls Try.prog 18 #[.agg #[.string p_a, .slice sa sn sc], .string pp] (Sort.grow (w1.drewN m) os) fun e w' => e = .returned (.int .i64 (ixV (fdF fs pp) fs.length)) ∧ Grw (Sort.grow (w1.drewN m) os) w' from findF_spec p_a (.slice sa sn sc) fs pp _ ((HFR.out.below (Grw.below ⟨m, os, rfl⟩) (Nat.le_refl _)).mono (Grw.below ⟨m, os, rfl⟩).size) hfl)
    have gc0 := cell_grown (show g < w1.heap.size by have := HGX.out.below.size; omega) c0
    have gc1 := cell_grown (show g < w1.heap.size by have := HGX.out.below.size; omega) c1
    have gq1 := cell_grown (World.block_lt_of_cell? _ _ q1) q1
    clear c0 c1
    go_wp2_with fail
    refine wp_region_quiet_grown mixed (by kernel_rfl) ?_
    repeat (go_big_quiet_step (first | (go_at_call 18; refine Calls.grown_of (HA2.out _ _))))
    refine wpQuiet_nil ?_; intro _ hw'; obtain ⟨⟨nq, osq⟩, hw''⟩ := hw'; subst hw''
    have hg2 : Grw w1 (Sort.grow (w1.drewN nq) osq) := ⟨nq, osq, rfl⟩
    obtain ⟨w2, hw2⟩ : ∃ x, Sort.grow (w1.drewN nq) osq = x := ⟨_, rfl⟩
    rw [hw2] at hg2 ⊢; clear hw2 gc0 gc1 gq1
    replace q0 := (hg2.below.cell (World.block_lt_of_cell? _ _ q0)).trans q0
    replace q1 := (hg2.below.cell (World.block_lt_of_cell? _ _ q1)).trans q1
    replace HXR := Lib.hid (below_heap hg2.below (heap_lt HXR.out) HXR.out)
    replace HGX := Lib.hid (HGX.out.trans hg2)
    have c0 : w2.cell? ⟨g, off + i * 2, none⟩ = some (.string p_a) := (hg2.below.cell (World.block_lt_of_cell? _ _ HC0.out)).trans HC0.out
    have c1 : w2.cell? ⟨g, off + i * 2 + 1, none⟩ = some (.slice sa sn sc) := (hg2.below.cell (World.block_lt_of_cell? _ _ HC1.out)).trans HC1.out
    replace HFR := Lib.hid ((HFR.out.below hg2.below (Nat.le_refl _)).mono hg2.below.size)
    clear hg2
    rcases findIdx_or (isPath pp) fs with ⟨he, _⟩ | ⟨s, hlt2, hs, _, _⟩
    · have hix : ixV (fdF fs pp) fs.length = -1 := by unfold fdF; rw [he, ixV_no]
      rw [hix]
      have HE := Lib.hid (show fdF fs pp = fs.length from he); clear he
      go_wp2_with fail
      refine (nf_spec _).mono ?_
      rintro e w3 ⟨rfl, hg3⟩
      have HG3 := Lib.hid (HGX.out.trans hg3)
      replace HXR := Lib.hid (below_heap hg3.below (heap_lt HXR.out) HXR.out)
      clear hg3
      have z0 := box_cell HXR.out (j := 0) rfl; have x0 := box_frz HXR.out 0
      have z1 := box_cell HXR.out (j := 1) rfl; have x1 := box_frz HXR.out 1
      have z2 := box_cell HXR.out (j := 2) rfl; have x2 := box_frz HXR.out 2
      have z3 := box_cell HXR.out (j := 3) rfl; have x3 := box_frz HXR.out 3
      have z4 := box_cell HXR.out (j := 4) rfl; have x4 := box_frz HXR.out 4
      have z5 := box_cell HXR.out (j := 5) rfl; have x5 := box_frz HXR.out 5
      go_wp2_with fail
      clear z0 x0 z1 x1 z2 x2 z3 x3 z4 x4 z5 x5
      obtain ⟨w9, hw9⟩ : ∃ x, ((((((w3.setCell ⟨w.heap.size + 1, 0, none⟩ (.int .i64 404)).setCell ⟨w.heap.size + 1, 1, none⟩ (.int .i64 1)).setCell ⟨w.heap.size + 1, 2, none⟩ (.string ⟨#[]⟩)).setCell ⟨w.heap.size + 1, 3, none⟩ (.int .i64 0)).setCell ⟨w.heap.size + 1, 4, none⟩ (.bool false)).setCell ⟨w.heap.size + 1, 5, none⟩ (.string ⟨#[]⟩)) = x := ⟨_, rfl⟩
      rw [hw9]
      have hb9 : w9.heap[w.heap.size + 1]? = some (.cells #[.int .i64 404, .int .i64 1, .string ⟨#[]⟩, .int .i64 0, .bool false, .string ⟨#[]⟩] 28 (0, 0)) := by rw [← hw9]; exact set6_box HXR.out (.int .i64 404) (.int .i64 1) (.string ⟨#[]⟩) (.int .i64 0) (.bool false) (.string ⟨#[]⟩)
      have hg9 : Grw w w9 := by rw [← hw9]; exact set6_grw HG3.out (by omega) (.int .i64 404) (.int .i64 1) (.string ⟨#[]⟩) (.int .i64 0) (.bool false) (.string ⟨#[]⟩)
      have r0 := box_cell hb9 (j := 0) rfl
      have r1 := box_cell hb9 (j := 1) rfl
      have r2 := box_cell hb9 (j := 2) rfl
      have r3 := box_cell hb9 (j := 3) rfl
      have r4 := box_cell hb9 (j := 4) rfl
      have r5 := box_cell hb9 (j := 5) rfl
      refine bodyPost_ret (v := .agg #[.int .i64 404, .int .i64 1, .string ⟨#[]⟩, .int .i64 0, .bool false, .string ⟨#[]⟩]) (by simp [results, Try.results7, go_sem, r0, r1, r2, r3, r4, r5]) rfl ⟨by rw [ansV_at HI.out HP.out, ansF_no HE.out]; rfl, hg9⟩
    · obtain ⟨j, hj⟩ : ∃ j, fs.findIdx (isPath pp) = j := ⟨_, rfl⟩
      rw [hj] at hlt2 hs
      have hix : ixV (fdF fs pp) fs.length = j := by unfold fdF; rw [hj, ixV_hit hlt2]
      rw [hix]
      have HJ := Lib.hid (show fdF fs pp = j from hj); clear hj hix
      obtain ⟨p_a2, f_s, f_k, f_b, f_a, f_h, f_o⟩ := s
      obtain ⟨g2, off2, rfl, hg3, d0, d1, d2, d3, d4, d5, d6⟩ := HFR.out.file hs
      have HS := Lib.hid hs; clear hs
      have hjn : ¬ ((j : Int) < 0) := by omega
      have hjs : j < sn := by rw [HSN.out]; exact hlt2
      have hjd : decide ((0 : Int) ≤ (j : Int)) = true := decide_eq_true (by omega)
      have z0 := box_cell HXR.out (j := 0) rfl; have x0 := box_frz HXR.out 0
      have z1 := box_cell HXR.out (j := 1) rfl; have x1 := box_frz HXR.out 1
      have z2 := box_cell HXR.out (j := 2) rfl; have x2 := box_frz HXR.out 2
      have z3 := box_cell HXR.out (j := 3) rfl; have x3 := box_frz HXR.out 3
      have z4 := box_cell HXR.out (j := 4) rfl; have x4 := box_frz HXR.out 4
      have z5 := box_cell HXR.out (j := 5) rfl; have x5 := box_frz HXR.out 5
      go_wp2_with fail
      clear z0 x0 z1 x1 z2 x2 z3 x3 z4 x4 z5 x5
      obtain ⟨w9, hw9⟩ : ∃ x, ((((((w2.setCell ⟨w.heap.size + 1, 0, none⟩ (.int .i64 f_s)).setCell ⟨w.heap.size + 1, 1, none⟩ (.int .i64 f_k)).setCell ⟨w.heap.size + 1, 2, none⟩ (.string f_b)).setCell ⟨w.heap.size + 1, 3, none⟩ (.int .i64 f_a)).setCell ⟨w.heap.size + 1, 4, none⟩ (.bool f_h)).setCell ⟨w.heap.size + 1, 5, none⟩ (.string f_o)) = x := ⟨_, rfl⟩
      rw [hw9]
      have hb9 : w9.heap[w.heap.size + 1]? = some (.cells #[.int .i64 f_s, .int .i64 f_k, .string f_b, .int .i64 f_a, .bool f_h, .string f_o] 28 (0, 0)) := by rw [← hw9]; exact set6_box HXR.out (.int .i64 f_s) (.int .i64 f_k) (.string f_b) (.int .i64 f_a) (.bool f_h) (.string f_o)
      have hg9 : Grw w w9 := by rw [← hw9]; exact set6_grw HGX.out (by omega) (.int .i64 f_s) (.int .i64 f_k) (.string f_b) (.int .i64 f_a) (.bool f_h) (.string f_o)
      have r0 := box_cell hb9 (j := 0) rfl
      have r1 := box_cell hb9 (j := 1) rfl
      have r2 := box_cell hb9 (j := 2) rfl
      have r3 := box_cell hb9 (j := 3) rfl
      have r4 := box_cell hb9 (j := 4) rfl
      have r5 := box_cell hb9 (j := 5) rfl
      refine bodyPost_ret (v := .agg #[.int .i64 f_s, .int .i64 f_k, .string f_b, .int .i64 f_a, .bool f_h, .string f_o]) (by simp [results, Try.results7, go_sem, r0, r1, r2, r3, r4, r5]) rfl ⟨by rw [ansV_at HI.out HP.out, ansF_at HJ.out HS.out]; rfl, hg9⟩

end Go.Proofs.Ytpkicliimhflgaa
namespace Go.Proofs.Ytpkicliimhflgaa
open Go.ChangeShapes Go.WideShapes Go.ChangeAt Go.RowKit

theorem bl_tr {w X w' : World} (h : Below w.heap.size w X) (k : Below X.heap.size X w') : Below w.heap.size w w' := h.trans (k.mono h.size)
theorem bl_via {B : Nat} {w0 w X : World} (h : Below B w0 w) (hB : B ≤ w.heap.size) (k : Below w.heap.size w X) : Below B w0 X := h.trans (k.mono hB)
theorem bl_dw {B : Nat} {w w' : World} (h : Below B w w') : Below B w w'.drew := h.drew
theorem bl_aw {w w' : World} (h : Below w.heap.size w w') (o : Obj) : Below w.heap.size w (w'.alloc o) := h.alloc h.size o
theorem hq_dr {w : World} {g : Nat} {o : Obj} (h : w.heap[g]? = some o) : w.drew.heap[g]? = some o := h
theorem hq_nw {w : World} {g : Nat} {o : Obj} (h : w.heap.size = g) : (w.alloc o).heap[g]? = some o := by subst h; exact (MapKept.heap_alloc w o).1
theorem box_ca {w : World} {o o' : Obj} {g : Nat} (h : w.heap[g]? = some o) : (w.alloc o').heap[g]? = some o := by
  rw [Below.heap_alloc _ _ _ (heap_lt h)]; exact h
theorem box3_0 (w : World) (o1 o2 o3 : Obj) : (((w.alloc o1).alloc o2).alloc o3).heap[w.heap.size]? = some o1 := box_ca (box_ca (heap_alloc_new _ _))
theorem box3_1 (w : World) (o1 o2 o3 : Obj) : (((w.alloc o1).alloc o2).alloc o3).heap[w.heap.size + 1]? = some o2 := box_ca (by rw [← World.size_alloc]; exact heap_alloc_new _ _)
theorem box3_2 (w : World) (o1 o2 o3 : Obj) : (((w.alloc o1).alloc o2).alloc o3).heap[w.heap.size + 1 + 1]? = some o3 := by
  have h := heap_alloc_new ((w.alloc o1).alloc o2) o3
  rw [World.size_alloc, World.size_alloc] at h; exact h
/-- One cell of a box is stored. -/
theorem box_set {w : World} {b o : Nat} {cs : Array Value} {T : TypeId} (h : w.heap[b]? = some (.cells cs T (0, 0))) (u : Value) : (w.setCell ⟨b, o, none⟩ u).heap[b]? = some (.cells (cs.setIfInBounds o u) T (0, 0)) := by
  show (w.heap.modify b _)[b]? = _
  rw [Array.getElem?_modify, if_pos rfl, h]; rfl
theorem box_off {w : World} {b r o : Nat} {x : Obj} (h : w.heap[b]? = some x) (hne : b ≠ r) (u : Value) : (w.setCell ⟨r, o, none⟩ u).heap[b]? = some x := by
  rw [Below.heap_setCell _ _ _ _ hne]; exact h

end Go.Proofs.Ytpkicliimhflgaa
namespace Go.Proofs.Ytpkicliimhflgaa
open Go.ChangeShapes Go.WideShapes Go.ChangeAt Go.RowKit

theorem ansS_data {x : Rw} {u : Value} {ss : List Se} {w : World} (h : x.data = (rwV u ss).data) (ho : x.ReadR w.heap.size w) (ok : SsOk ss) (hh pp : ByteArray) :
    Calls Try.prog 7 #[x.cell, .agg #[.string hh, .string pp]] w fun e w' => e = .returned (rvG (ansV (ss.map Prod.fst) hh pp)) ∧ Grw w w' := by
  obtain ⟨us, e, hr⟩ := servers_of_data h ho
  have ok2 := ok.of e
  rw [← e]
  exact ans_spec _ us hh pp w hr (Nat.le_trans ok2.len (by decide)) (fun p hp => Nat.le_trans (ok2.few p hp) (by decide))
theorem ansI_data {x : Rw} {u : Value} {ss : List Se} {w : World} (h : x.data = (rwV u ss).data) (ho : x.ReadR w.heap.size w) (ok : SsOk ss) (hh pp : ByteArray) :
    Calls Try.prog 10 #[x.cell, .agg #[.string hh, .string pp]] w fun e w' => e = .returned (rvG (ansV (ss.map Prod.fst) hh pp)) ∧ Grw w w' := by
  obtain ⟨us, e, hr⟩ := servers_of_data h ho
  have ok2 := ok.of e
  rw [← e]
  exact ans_impl _ us hh pp w hr (Nat.le_trans ok2.len (by decide)) (fun p hp => Nat.le_trans (ok2.few p hp) (by decide))
theorem heap_blV {X w' : World} {g : Nat} {o : Obj} (k : Below X.heap.size X w') (h : X.heap[g]? = some o) : w'.heap[g]? = some o := below_heap k (heap_lt h) h
theorem bl_sV {B c o : Nat} {w w' : World} (h : Below B w w') (hb : B ≤ c) (u : Value) : Below B w (w'.setCell ⟨c, o, none⟩ u) := h.setCell hb u
theorem lay6 {Q : Prop} {w : World} {c : Nat} (h : w.heap[c]? = some (.cells #[.int .i64 0, .int .i64 0, .string ⟨#[]⟩, .int .i64 0, .bool false, .string ⟨#[]⟩] 28 (0, 0)))
    (k : w.cell? ⟨c, 0, none⟩ = some (.int .i64 0) → w.frozen? ⟨c, 0, none⟩ = false → w.cell? ⟨c, 1, none⟩ = some (.int .i64 0) → w.frozen? ⟨c, 1, none⟩ = false → w.cell? ⟨c, 2, none⟩ = some (.string ⟨#[]⟩) → w.frozen? ⟨c, 2, none⟩ = false → w.cell? ⟨c, 3, none⟩ = some (.int .i64 0) → w.frozen? ⟨c, 3, none⟩ = false → w.cell? ⟨c, 4, none⟩ = some (.bool false) → w.frozen? ⟨c, 4, none⟩ = false → w.cell? ⟨c, 5, none⟩ = some (.string ⟨#[]⟩) → w.frozen? ⟨c, 5, none⟩ = false → Q) : Q :=
  k (box_cell h rfl) (box_frz h 0) (box_cell h rfl) (box_frz h 1) (box_cell h rfl) (box_frz h 2) (box_cell h rfl) (box_frz h 3) (box_cell h rfl) (box_frz h 4) (box_cell h rfl) (box_frz h 5)
theorem toV_sl (v : Value) (ss : List Se) (w : World) (r : (rwV v ss).ReadR w.heap.size w) (h : (rwV v ss).weight ≤ 1048576) :
    Calls Try.prog 8 #[v] w fun e w' => ∃ (a : Option Addr) (n c : Nat) (y : Rw), e = .returned (.slice a n c) ∧ y.cell = .slice a n c ∧ y.data = (rwV v ss).data ∧ y.ReadR w'.heap.size w' ∧ Below w.heap.size w w' := by
  refine (to_ServerS (rwV v ss) (rwV_is v ss) w r (Nat.le_trans h (by decide))).mono ?_
  rintro e w' ⟨y, rfl, h1, h2, h3, h4, h5⟩
  have hr := rd_of h4
  obtain ⟨a, n, c, hc⟩ := sl_form (is_sl_ServerS h1) hr
  exact ⟨a, n, c, y, by rw [hc], hc, h2, hr, h5⟩
theorem rd_up {y : Rw} {w w' : World} (h : y.ReadR w.heap.size w) (hb : Below w.heap.size w w') : y.ReadR w'.heap.size w' := Rw.ReadR.mono hb.size _ (Rw.ReadR.below hb (Nat.le_refl _) _ h)

end Go.Proofs.Ytpkicliimhflgaa
namespace Go.Proofs.Ytpkicliimhflgaa
open Go.ChangeShapes Go.WideShapes Go.ChangeAt Go.RowKit

abbrev Ad := ByteArray × ByteArray
def isAd (a : Ad) : Bool := isNm a.1 && isNm a.2
def slash : ByteArray := ⟨#[47]⟩
def fmtA (a : Ad) : ByteArray := if isAd a = true then a.1 ++ slash ++ a.2 else ⟨#[]⟩
theorem isAd_no1 {a : Ad} (h : isNm a.1 = false) : isAd a = false := by unfold isAd; rw [h, Bool.false_and]
theorem isAd_1 {a : Ad} (h : isNm a.1 = true) : isAd a = isNm a.2 := by unfold isAd; rw [h, Bool.true_and]
theorem isNm_size {s : ByteArray} (h : isNm s = true) : 1 ≤ s.size ∧ s.size ≤ 8 := by
  unfold isNm at h
  exact of_decide_eq_true (Bool.and_eq_true_iff.1 h).1
theorem isAd_size {a : Ad} (h : isAd a = true) : (1 ≤ a.1.size ∧ a.1.size ≤ 8) ∧ 1 ≤ a.2.size ∧ a.2.size ≤ 8 := by
  unfold isAd at h
  have := Bool.and_eq_true_iff.1 h
  exact ⟨isNm_size this.1, isNm_size this.2⟩

theorem fmtA_yes {a : Ad} (h : isAd a = true) : fmtA a = a.1 ++ slash ++ a.2 := by unfold fmtA; rw [if_pos h]
theorem fmtA_no {a : Ad} (h : isAd a = false) : fmtA a = ⟨#[]⟩ := by unfold fmtA; rw [if_neg (by rw [h]; exact Bool.false_ne_true)]
theorem ret_s {a b : ByteArray} (h : a = b) : Ending.returned (.string a) = .returned (.string b) := by rw [h]

end Go.Proofs.Ytpkicliimhflgaa

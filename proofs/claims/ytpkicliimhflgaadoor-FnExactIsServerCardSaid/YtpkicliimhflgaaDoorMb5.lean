/- What files and servers that came in are, for the walks. Helper facts, no claim of its own. Helper facts for the walks over the pieces of a page: a slice of tokens of the call's own over the changes of memory, what is answered, in plain words; the pieces that the program takes. No claim of its own. Helper facts for the walks of the exact laws over tokens: bounds on the marks, the call's own tokens over the changes of memory. No claim of its own. The helper contracts of chapter 12 over copies that a law makes of its servers. Helper facts, no claim of its own. Helper contracts over the functions with which the laws copy, compare, measure and mark slices, by program (deep.py). Asked: what lies in memory is as named. Slices of strings in memory: what it means that a slice value reads as a list of strings, as data; what an argument of this type is. Helper facts, no claim of its own. Slices of strings of the call's own, wherever they begin in their block. Helper facts, no claim of its own. Helper contracts: the program's calls into Go's strings at one byte (IndexByte, CutPrefix at "/", Cut, Split), by the plain words of this development. Asked: the string is shorter than 2^32 bytes where it is divided. A bound on lengths out of the world's own shape: the library's MaxLen holds a number. Helper facts, no claim of their own. Helper contracts over the functions with which the laws copy, compare, measure and mark slices, by program (deep.py). Asked: what lies in memory is as named. Policies: as plain values, and what a policy that came in is. Helper facts, no claim of its own. Policies as plain values: what is valid, what is allowed, the form, its reading back, the narrowed one. Pure facts, no claim of their own. Helper contracts: strings.Cut at the word ahead of a nonce, the hosts behind a word. Asked: the text is no longer than 2^20 bytes; for Cut: the library's MaxLen holds a number. Helper contracts: whether a slice of strings holds a string; whether two slices of strings are equal: of the model, and of Go's library at this type. Asked: the slices read as the lists named. Helper contracts: Allows, AllowsInline, KindName of the program and of the model. Asked: the policy's slices read as named. -/
import Derived.Test.YtpkicliimhflgaaDoorMb4
import Derived.Test.YtpkicliimhflgaaDoorMb2
import Derived.Test.YtpkicliimhflgaaDoorMb1
import Derived.Shelf.SlSortCmp.QuietGrown
import Derived.Test.YtpkicliimhflgaaDoorMb3
import Derived.Deep.Slices
import Derived.Lib.SmallJoins
import Derived.ShutString
import Derived.ChangeOld
import Derived.Carry
import Derived.Deep.Fields
import Derived.Test.YtpkicliimhflgaaDoorShelf
import Derived.Lib.IndexMore
namespace Go.Proofs.YtpkicliimhflgaaDoor

open Go.ChangeShapes Go.WideShapes Go.ChangeAt Go.RowKit Go.Joins Go.Deep

instance : Inhabited Fl := ⟨⟨⟨#[]⟩, ⟨0, 0, ⟨#[]⟩, 0, false, ⟨#[]⟩⟩⟩⟩
instance : Inhabited Se := ⟨((⟨#[]⟩, []), svNil)⟩
theorem list7 {α : Type} {a : List α} (h : a.length = 7) : ∃ x0 x1 x2 x3 x4 x5 x6, a = [x0, x1, x2, x3, x4, x5, x6] := by
  match a, h with
  | [x0, x1, x2, x3, x4, x5, x6], _ => exact ⟨x0, x1, x2, x3, x4, x5, x6, rfl⟩
theorem list2 {α : Type} {a : List α} (h : a.length = 2) : ∃ x0 x1, a = [x0, x1] := by
  match a, h with
  | [x0, x1], _ => exact ⟨x0, x1, rfl⟩
/-- A slice of files that came in. -/
def IsFls (w : World) (v : Value) (fs : List Fl) : Prop := ReadsK encF 7 w.heap.size w v fs ∧ ∀ f ∈ fs, FlOk f

set_option maxRecDepth 100000 in
theorem files_of {H : Type} {enc : TypeId × Value → H} {W : World} {fuel : Nat} {v : Value} {d : DataW H × List MemPlace} (hf : DataW.trod enc Tryd.prog W 0 (fun _ => true) true fuel 22 [v] = some d) :
    ∃ fs, IsFls W v fs := by
  rcases open_slice Tryd.underlying22 hf with ⟨hcs, _⟩ | ⟨x, len, cap, m, n, D, Pl, hcs, _, hl, hc, hm, _, hel⟩
  · obtain rfl : v = .slice none 0 0 := by simpa using hcs
    exact ⟨[], ⟨none, 0, rfl, Nat.le_refl _, by omega, (fun _ => rfl), Or.inl rfl⟩, by simp⟩
  · obtain rfl : v = .slice (some x) len cap := by simpa using hcs
    simp only [if_true] at hm
    subst hm
    have hC : Tryd.prog.cellsOf 71 = 7 := by kernel_rfl
    rw [hC] at hel
    have es : Tryd.prog.cellsOf 9 = 1 := by kernel_rfl
    have ei : Tryd.prog.cellsOf 3 = 1 := by kernel_rfl
    have eb : Tryd.prog.cellsOf 4 = 1 := by kernel_rfl
    have er : Tryd.prog.cellsOf 37 = 6 := by kernel_rfl
    have hx : ∀ i, i < len → ∃ y : Fl, (∀ t, t < 7 → W.cell? (x.add (i * 7 + t)) = (encF y)[t]?) ∧ FlOk y := by
      intro i hi
      obtain ⟨cs, h1, h2⟩ := hel i (by omega)
      obtain ⟨hlen, hat⟩ := cells?_at h1
      obtain ⟨c0, c1, c2, c3, c4, c5, c6, rfl⟩ := list7 hlen
      obtain ⟨n0, hf0⟩ := fields_at Tryd.underlying71 h2
      obtain ⟨y0, t0⟩ := hf0 0 _ rfl
      obtain ⟨y1, t1⟩ := hf0 1 _ rfl
      replace t0 : DataW.trod enc Tryd.prog W 0 (fun _ => true) true n0 9 [c0] = some y0 := by
        have h := t0; change DataW.trod _ _ _ _ _ _ _ 9 (List.take (Tryd.prog.cellsOf 9) _) = _ at h; rw [es] at h; exact h
      replace t1 : DataW.trod enc Tryd.prog W 0 (fun _ => true) true n0 37 [c1, c2, c3, c4, c5, c6] = some y1 := by
        have h := t1; change DataW.trod _ _ _ _ _ _ _ 37 (List.take (Tryd.prog.cellsOf 37) _) = _ at h; rw [er] at h; exact h
      obtain ⟨n1, hf1⟩ := fields_at Tryd.underlying37 t1
      obtain ⟨z0, u0⟩ := hf1 0 _ rfl
      obtain ⟨z1, u1⟩ := hf1 1 _ rfl
      obtain ⟨z2, u2⟩ := hf1 2 _ rfl
      obtain ⟨z3, u3⟩ := hf1 3 _ rfl
      obtain ⟨z4, u4⟩ := hf1 4 _ rfl
      obtain ⟨z5, u5⟩ := hf1 5 _ rfl
      replace u0 : DataW.trod enc Tryd.prog W 0 (fun _ => true) true n1 3 [c1] = some z0 := by
        have h := u0; change DataW.trod _ _ _ _ _ _ _ 3 (List.take (Tryd.prog.cellsOf 3) _) = _ at h; rw [ei] at h; exact h
      replace u1 : DataW.trod enc Tryd.prog W 0 (fun _ => true) true n1 3 [c2] = some z1 := by
        have h := u1; change DataW.trod _ _ _ _ _ _ _ 3 (List.take (Tryd.prog.cellsOf 3) _) = _ at h; rw [ei] at h; exact h
      replace u2 : DataW.trod enc Tryd.prog W 0 (fun _ => true) true n1 9 [c3] = some z2 := by
        have h := u2; change DataW.trod _ _ _ _ _ _ _ 9 (List.take (Tryd.prog.cellsOf 9) _) = _ at h; rw [es] at h; exact h
      replace u3 : DataW.trod enc Tryd.prog W 0 (fun _ => true) true n1 3 [c4] = some z3 := by
        have h := u3; change DataW.trod _ _ _ _ _ _ _ 3 (List.take (Tryd.prog.cellsOf 3) _) = _ at h; rw [ei] at h; exact h
      replace u4 : DataW.trod enc Tryd.prog W 0 (fun _ => true) true n1 4 [c5] = some z4 := by
        have h := u4; change DataW.trod _ _ _ _ _ _ _ 4 (List.take (Tryd.prog.cellsOf 4) _) = _ at h; rw [eb] at h; exact h
      replace u5 : DataW.trod enc Tryd.prog W 0 (fun _ => true) true n1 9 [c6] = some z5 := by
        have h := u5; change DataW.trod _ _ _ _ _ _ _ 9 (List.take (Tryd.prog.cellsOf 9) _) = _ at h; rw [es] at h; exact h
      obtain ⟨pa, k0, _, w0⟩ := DataW.trod_string Tryd.underlying9 t0
      obtain ⟨st, k1, _, w1⟩ := DataW.trod_int Tryd.underlying3 u0
      obtain ⟨kd, k2, _, w2⟩ := DataW.trod_int Tryd.underlying3 u1
      obtain ⟨bo, k3, _, w3⟩ := DataW.trod_string Tryd.underlying9 u2
      obtain ⟨ag, k4, _, w4⟩ := DataW.trod_int Tryd.underlying3 u3
      obtain ⟨sh, k5, _⟩ := DataW.trod_bool Tryd.underlying4 u4
      obtain ⟨po, k6, _, w6⟩ := DataW.trod_string Tryd.underlying9 u5
      cases k0; cases k1; cases k2; cases k3; cases k4; cases k5; cases k6
      refine ⟨⟨pa, ⟨st, kd, bo, ag, sh, po⟩⟩, fun t ht => ?_, w0, w3, w6⟩
      have h := hat t ht
      rw [add_add] at h
      exact h
    obtain ⟨f, hf⟩ := choose_lt hx
    refine ⟨(List.range len).map f, ⟨some x, _, by rw [List.length_map, List.length_range], by simpa using hl, by unfold maxLen at hc; omega, (fun h => by cases h), ?_⟩, ?_⟩
    · by_cases h0 : len = 0
      · exact Or.inl (by simpa using h0)
      · obtain ⟨blk, off, spot⟩ := x
        have c0 := (hf 0 (by omega)).1 0 (by decide)
        have hspot : spot = none := by simpa [Addr.add] using World.cell?_spot (c0.trans (show _ = some (Value.string (f 0).pa) from rfl))
        subst hspot
        have hlt : blk < W.heap.size := by
          have := World.block_lt_of_cell? W _ (c0.trans (show _ = some (Value.string (f 0).pa) from rfl))
          rwa [add_lit] at this
        refine Or.inr ⟨blk, off, rfl, hlt, fun j y hj i hi' => ?_⟩
        have hjl : j < len := by have := (List.getElem?_eq_some_iff.1 hj).1; simpa using this
        simp [hjl] at hj
        subst hj
        have h := (hf j hjl).1 i hi'
        rw [add_lit] at h
        rw [Nat.add_assoc]; exact h
    · intro r hr
      obtain ⟨i, hi, rfl⟩ := List.mem_map.1 hr
      exact (hf i (List.mem_range.1 hi)).2

/-- A slice of servers that came in. -/
def IsSvs (w : World) (v : Value) (ss : List Se) : Prop := ReadV w.heap.size w v ss ∧ ∀ p ∈ ss, SvOk p
set_option maxRecDepth 100000 in
theorem servers_of {H : Type} {enc : TypeId × Value → H} {W : World} {fuel : Nat} {v : Value} {d : DataW H × List MemPlace} (hf : DataW.trod enc Tryd.prog W 0 (fun _ => true) true fuel 33 [v] = some d) :
    ∃ ss, IsSvs W v ss := by
  rcases open_slice Tryd.underlying33 hf with ⟨hcs, _⟩ | ⟨x, len, cap, m, n, D, Pl, hcs, _, hl, hc, hm, _, hel⟩
  · obtain rfl : v = .slice none 0 0 := by simpa using hcs
    exact ⟨[], ⟨⟨none, 0, rfl, Nat.le_refl _, by omega, (fun _ => rfl), Or.inl rfl⟩, by simp⟩, by simp⟩
  · obtain rfl : v = .slice (some x) len cap := by simpa using hcs
    simp only [if_true] at hm
    subst hm
    have hC : Tryd.prog.cellsOf 24 = 2 := by kernel_rfl
    rw [hC] at hel
    have es : Tryd.prog.cellsOf 9 = 1 := by kernel_rfl
    have el : Tryd.prog.cellsOf 22 = 1 := by kernel_rfl
    have hx : ∀ i, i < len → ∃ p : Se, (∀ t, t < 2 → W.cell? (x.add (i * 2 + t)) = (encG p)[t]?) ∧ p.1.1.size ≤ 9223372036854775807 ∧ IsFls W (sv p.2) p.1.2 := by
      intro i hi
      obtain ⟨cs, h1, h2⟩ := hel i (by omega)
      obtain ⟨hlen, hat⟩ := cells?_at h1
      obtain ⟨c0, c1, rfl⟩ := list2 hlen
      obtain ⟨n0, hf0⟩ := fields_at Tryd.underlying24 h2
      obtain ⟨y0, t0⟩ := hf0 0 _ rfl
      obtain ⟨y1, t1⟩ := hf0 1 _ rfl
      replace t0 : DataW.trod enc Tryd.prog W 0 (fun _ => true) true n0 9 [c0] = some y0 := by
        have h := t0; change DataW.trod _ _ _ _ _ _ _ 9 (List.take (Tryd.prog.cellsOf 9) _) = _ at h; rw [es] at h; exact h
      replace t1 : DataW.trod enc Tryd.prog W 0 (fun _ => true) true n0 22 [c1] = some y1 := by
        have h := t1; change DataW.trod _ _ _ _ _ _ _ 22 (List.take (Tryd.prog.cellsOf 22) _) = _ at h; rw [el] at h; exact h
      obtain ⟨ho, k0, _, w0⟩ := DataW.trod_string Tryd.underlying9 t0
      cases k0
      obtain ⟨aa, al, ac, rfl⟩ := slice_in Tryd.underlying22 t1
      obtain ⟨fs, hfs⟩ := files_of (enc := enc) (W := W) t1
      refine ⟨((ho, fs), (aa, al, ac)), fun t ht => ?_, w0, hfs⟩
      have h := hat t ht
      rw [add_add] at h
      exact h
    obtain ⟨f, hf⟩ := choose_lt hx
    refine ⟨(List.range len).map f, ⟨⟨some x, _, by rw [List.length_map, List.length_range], by simpa using hl, by unfold maxLen at hc; omega, (fun h => by cases h), ?_⟩, fun p hp => ?_⟩, fun p hp => ?_⟩
    · by_cases h0 : len = 0
      · exact Or.inl (by simpa using h0)
      · obtain ⟨blk, off, spot⟩ := x
        have c0 := (hf 0 (by omega)).1 0 (by decide)
        have hspot : spot = none := by simpa [Addr.add] using World.cell?_spot (c0.trans (show _ = some (Value.string (f 0).1.1) from rfl))
        subst hspot
        have hlt : blk < W.heap.size := by
          have := World.block_lt_of_cell? W _ (c0.trans (show _ = some (Value.string (f 0).1.1) from rfl))
          rwa [add_lit] at this
        refine Or.inr ⟨blk, off, rfl, hlt, fun j y hj i hi' => ?_⟩
        have hjl : j < len := by have := (List.getElem?_eq_some_iff.1 hj).1; simpa using this
        simp [hjl] at hj
        subst hj
        have h := (hf j hjl).1 i hi'
        rw [add_lit] at h
        rw [Nat.add_assoc]; exact h
    · obtain ⟨i, hi, rfl⟩ := List.mem_map.1 hp
      exact (hf i (List.mem_range.1 hi)).2.2.1
    · obtain ⟨i, hi, rfl⟩ := List.mem_map.1 hp
      exact ⟨(hf i (List.mem_range.1 hi)).2.1, (hf i (List.mem_range.1 hi)).2.2.2⟩
theorem servers_arg {H : Type} {enc : TypeId × Value → H} {W : World} {v : Value} {d : DataW H} {p : List MemPlace} (hv : ∃ a n c, v = .slice a n c) (h : DataW.Trod enc Tryd.prog W 0 (fun _ => true) true 33 v d p) : ∃ ss, IsSvs W v ss := by
  obtain ⟨a, n, c, rfl⟩ := hv
  obtain ⟨fuel, hf⟩ := h
  exact servers_of hf

set_option maxRecDepth 100000 in
theorem server_of {H : Type} {enc : TypeId × Value → H} {W : World} {base : Nat} {v : Value} {d : DataW H} {p : List MemPlace} (hv : Value.okWide Tryd.prog W .any base 24 v) (h : DataW.Trod enc Tryd.prog W 0 (fun _ => true) true 24 v d p) :
    ∃ (ho : ByteArray) (a : Option Addr) (n c : Nat) (fs : List Fl), v = .agg #[.string ho, .slice a n c] ∧ ho.size ≤ 9223372036854775807 ∧ IsFls W (.slice a n c) fs := by
  obtain ⟨v0, v1, y0, y1, n, rfl, _, _, h0, h1⟩ := open_agg2 Tryd.underlying24 (by kernel_rfl) (by kernel_rfl) hv h
  obtain ⟨s, e0, _, w0⟩ := DataW.trod_string Tryd.underlying9 h0
  cases e0
  obtain ⟨a, l, c, rfl⟩ := slice_in Tryd.underlying22 h1
  obtain ⟨fs, hfs⟩ := files_of (enc := enc) (W := W) h1
  exact ⟨s, a, l, c, fs, rfl, w0, hfs⟩

end Go.Proofs.YtpkicliimhflgaaDoor
namespace Go.Proofs.YtpkicliimhflgaaDoor
open Go.ChangeShapes Go.WideShapes Go.ChangeAt Go.RowKit

theorem heap_one1 {w : World} {b : Nat} {x u : Value} {T : TypeId} (h : w.heap[b]? = some (.cells #[x] T (0, 0))) : (w.setCell ⟨b, 0, none⟩ u).heap[b]? = some (.cells #[u] T (0, 0)) := by
  rw [heap_one (o := 0) h u]; rfl
theorem cells_one {w : World} {b : Nat} {x : Value} {T : TypeId} (h : w.heap[b]? = some (.cells #[x] T (0, 0))) : w.cell? ⟨b, 0, none⟩ = some x ∧ w.frozen? ⟨b, 0, none⟩ = false := by
  refine ⟨?_, ?_⟩
  · unfold World.cell?; rw [h]; rfl
  · unfold World.frozen?; rw [h]; rfl

/-- One token more. -/
theorem toks_more {x y z : List UInt8} {ts : List Tv} {p : Tv} (h : feedB x = (ts.map Prod.fst ++ (feedB y).1, (feedB y).2)) (hy : feedB y = (p.1 :: (feedB z).1, (feedB z).2)) : feedB x = ((ts ++ [p]).map Prod.fst ++ (feedB z).1, (feedB z).2) := by
  rw [h, hy]; simp
theorem toks_none {x y z : List UInt8} {ts : List Tv} (h : feedB x = (ts.map Prod.fst ++ (feedB y).1, (feedB y).2)) (hy : feedB y = ((feedB z).1, (feedB z).2)) : feedB x = (ts.map Prod.fst ++ (feedB z).1, (feedB z).2) := by
  rw [h, hy]
theorem toks_end {x y : List UInt8} {ts : List Tv} (h : feedB x = (ts.map Prod.fst ++ (feedB y).1, (feedB y).2)) (hy : feedB y = ([], y)) : ts.map Prod.fst = (feedB x).1 ∧ y = (feedB x).2 := by
  rw [h, hy]; simp
theorem tag_inside (y : List UInt8) (e : Nat) : (ofL y).extract 1 e = ofL ((y.take e).drop 1) := by
  rw [extract_eq, ofL_list]
  congr 1
  rw [List.drop_take]
theorem endB_nil : endB [] = [] := by simp [endB]
theorem endB_tag {r : List UInt8} (h : r[0]? = some 60) : endB r = [] := by unfold endB; rw [if_pos (Or.inr h)]
theorem endB_text {r : List UInt8} (h : r ≠ []) (h2 : r[0]? ≠ some 60) : endB r = [tokText (ofL r)] := by unfold endB; rw [if_neg (by rintro (h3 | h3); exact h h3; exact h2 h3)]
theorem idx_tag {y : List UInt8} (h0 : idxB 60 y = 0) (h1 : idxB 62 y < y.length) : 1 ≤ idxB 62 y := by
  cases y with
  | nil => exact absurd h1 (Nat.not_lt_zero _)
  | cons b l =>
    have hb : b = 60 := by
      have := idxB_at (c := 60) (l := b :: l) (by rw [h0]; simp)
      rw [h0] at this
      simpa using this
    subst hb
    rw [idxB, if_neg (by decide)]; omega

end Go.Proofs.YtpkicliimhflgaaDoor
namespace Go.Proofs.YtpkicliimhflgaaDoor
open Go.ChangeShapes Go.WideShapes Go.ChangeAt Go.RowKit

theorem tagB_attrs {l : List UInt8} {t : Tok} (h : tagB l = some t) : t.attrs.length ≤ 4 := by
  unfold tagB at h
  split at h
  · cases h
  · split at h
    · split at h
      · cases h; exact Nat.zero_le _
      · cases h
    · split at h
      · cases h
      · split at h
        · cases h
        · split at h
          · rename_i hh; cases h; exact hh.2
          · cases h
theorem feed_attrs (a : List UInt8) : ∀ t ∈ (feedB a).1, t.attrs.length ≤ 4 := by
  generalize hn : a.length = n
  induction n using Nat.strongRecOn generalizing a with
  | _ n ih =>
    by_cases h1 : 0 < idxB 60 a ∧ idxB 60 a < a.length
    · rw [feed_text h1.1 h1.2]
      intro t ht
      rcases List.mem_cons.1 ht with h | h
      · subst h; exact Nat.zero_le _
      · exact ih (a.length - idxB 60 a) (by omega) (a.drop (idxB 60 a)) List.length_drop t h
    · by_cases h2 : idxB 60 a = 0 ∧ idxB 62 a < a.length
      · rw [feed_tag h2.1 h2.2]
        intro t ht
        rcases List.mem_append.1 ht with h | h
        · exact tagB_attrs (Option.mem_toList.1 h)
        · exact ih (a.length - (idxB 62 a + 1)) (by omega) (a.drop (idxB 62 a + 1)) List.length_drop t h
      · have hl := idxB_le 60 a
        have hl2 := idxB_le 62 a
        rw [feed_end (x := a) (by omega) h1]
        intro t ht; cases ht
theorem end_attrs (r : List UInt8) : ∀ t ∈ endB r, t.attrs.length ≤ 4 := by
  intro t ht
  unfold endB at ht
  split at ht
  · cases ht
  · rw [List.mem_singleton] at ht; subst ht; exact Nat.zero_le _
theorem tokens_attrs (s : List UInt8) : ∀ t ∈ tokensB s, t.attrs.length ≤ 4 := by
  intro t ht
  rcases List.mem_append.1 ht with h | h
  · exact feed_attrs s t h
  · exact end_attrs _ t h
theorem atCells_count : ∀ ats : List At, countL (atCells ats) = 2 * ats.length
  | [] => rfl
  | a :: ats => by rw [atCells, countL, countL, Rw.count, Rw.count, atCells_count ats, List.length_cons]; omega
theorem mark_is_read {x : Rw} {lo hi k hi' : Nat} {w : World} (h : (x.mark k).OwnR lo hi w) (hh : hi ≤ hi') : (x.mark k).ReadR hi' w := Rw.ReadR.mono hh _ (Rw.OwnR.reads _ h)
theorem own_read {x : Rw} {lo hi hi' : Nat} {w : World} (h : x.OwnR lo hi w) (hh : hi ≤ hi') : x.ReadR hi' w := Rw.ReadR.mono hh _ (Rw.OwnR.reads _ h)
/-- What another call owns is as it was when this call's own is written. -/
theorem own_apart {x y : Rw} {lo hi lo' hi' : Nat} {w w' : World} (h : x.OwnR lo hi w) (hy : y.OwnR lo' hi' w) (hh : hi ≤ lo') (ho : OnlyB y.blocks w w') : x.OwnR lo hi w' := by
  refine Rw.OwnR.only ho x h fun b hb hby => ?_
  have h1 := Rw.OwnR.lt x h b hb
  have h2 := Rw.OwnR.lt y hy b hby
  omega
theorem own_back {y : Rw} {lo hi : Nat} {w0 w w' : World} (hb : Below lo w0 w) (hy : y.OwnR lo hi w) (hl : lo ≤ w.heap.size) (ho : OnlyB y.blocks w w') : Below lo w0 w' :=
  hb.trans (ho.below (fun b hbm => (Rw.OwnR.lt y hy b hbm).1) hl)
theorem optL_nodup (o : Option Nat) : o.toList.Nodup := by cases o <;> simp

end Go.Proofs.YtpkicliimhflgaaDoor
namespace Go.Proofs.YtpkicliimhflgaaDoor
open Go.ChangeShapes Go.WideShapes Go.ChangeAt Go.RowKit

theorem toV_one (v : Value) (ss : List Se) (w : World) (r : (rwV v ss).ReadR w.heap.size w) (h : (rwV v ss).weight ≤ 1048576) :
    Calls Tryd.prog 15 #[v] w fun e w' => ∃ y : Rw, e = .returned y.cell ∧ IsServerS y ∧ y.data = (rwV v ss).data ∧ OwnRL w.heap.size w'.heap.size w' [y] ∧ (blocksL [y]).Nodup ∧ Below w.heap.size w w' := by
  refine (to_ServerS (rwV v ss) (rwV_is v ss) w r (Nat.le_trans h (by decide))).mono ?_
  rintro e w' ⟨y, rfl, h1, h2, h3, h4, h5⟩
  exact ⟨y, rfl, h1, h2, ownL_one.2 h4, by rw [blocksL, blocksL, List.append_nil]; exact h3, h5⟩
theorem mkSv_one (x : Rw) (hx : IsServerS x) (lo hi k0 : Nat) (q : Int) (hq : q = k0) (w : World) (ho : OwnRL lo hi w [x]) (hd : (blocksL [x]).Nodup) (hk : k0 + countL [x] ≤ 4611686018427387904) :
    Calls Tryd.prog 20 #[x.cell, .int .i64 q] w fun e w' => e = .returned (.int .i64 ((k0 + countL [x] : Nat) : Int)) ∧ OwnRL lo hi w' (markL [x] k0) ∧ OnlyB (blocksL [x]) w w' := by
  simp only [countL, Nat.add_zero] at hk ⊢
  simp only [blocksL, List.append_nil, markL] at hd ⊢
  refine (mk_ServerS x hx lo hi k0 q hq w (ownL_one.1 ho) hd hk).mono ?_
  rintro e w' ⟨rfl, h1, h2⟩
  exact ⟨rfl, ownL_one.2 h1, h2⟩
theorem hdSv_one (x : Rw) (hx : IsServerS x) (hi k0 : Nat) (q : Int) (hq : q = k0) (w : World) (hr : ReadRL hi w (markL [x] k0)) (hh : hi ≤ w.heap.size) (hk : k0 + countL [x] ≤ 4611686018427387904) :
    Calls Tryd.prog 21 #[x.cell, .int .i64 q] w fun e w' => e = .returned (.int .i64 ((k0 + countL [x] : Nat) : Int)) ∧ Grw w w' := by
  simp only [countL, Nat.add_zero] at hk ⊢
  exact hd_ServerS x hx hi k0 q hq w (readRL_iff.1 hr _ (by simp [markL])) hh hk

end Go.Proofs.YtpkicliimhflgaaDoor
namespace Go.Proofs.YtpkicliimhflgaaDoor
open Go.ChangeShapes Go.WideShapes Go.ChangeAt Go.RowKit

/-- What a slice of this type holds. -/
def IsStringS (x : Rw) : Prop := ∃ v n e cs, x = .sl v n 1 e cs ∧ ∀ j, j < n → ∃ (a0 : ByteArray), cs[j]? = some (.leaf (.string a0))
theorem is_sl_StringS {x : Rw} (h : IsStringS x) : ∃ v n k e cs, x = .sl v n k e cs := by
  obtain ⟨v, n, e, cs, rfl, _⟩ := h
  exact ⟨v, n, _, e, cs, rfl⟩

theorem info_StringS : (Tryd.prog.info? 9).map (fun i => (i.zero, i.size, i.bytes)) = some (some (.string ⟨#[]⟩), 1, 16) := by kernel_rfl

end Go.Proofs.YtpkicliimhflgaaDoor
namespace Go.Proofs.YtpkicliimhflgaaDoor
open Go.ChangeShapes Go.WideShapes Go.ChangeAt Go.RowKit Go.Joins Go.Deep

def stCells (xs : List ByteArray) : List Rw := xs.map fun s => .leaf (.string s)
/-- A slice of strings. -/
def rwSs (v : Value) (xs : List ByteArray) : Rw := .sl v xs.length 1 9 (stCells xs)
theorem rwSs_cell (v : Value) (xs : List ByteArray) : (rwSs v xs).cell = v := rfl
theorem flatS (xs : List ByteArray) : xs.flatMap encS = xs.map Value.string := by
  induction xs with
  | nil => rfl
  | cons x xs ih => rw [List.flatMap_cons, ih]; rfl
theorem stCells_map (xs : List ByteArray) : (stCells xs).map Rw.cell = xs.flatMap encS := by
  rw [flatS]; unfold stCells; rw [List.map_map]; rfl
theorem stCells_len (xs : List ByteArray) : (stCells xs).length = xs.length := by unfold stCells; rw [List.length_map]
theorem stCells_at {xs : List ByteArray} {j : Nat} {a : ByteArray} (h : xs[j]? = some a) : (stCells xs)[j]? = some (.leaf (.string a)) := by
  unfold stCells; rw [List.getElem?_map, h]; rfl
theorem stCells_leaf {xs : List ByteArray} {c : Rw} (h : c ∈ stCells xs) : ∃ a, a ∈ xs ∧ c = .leaf (.string a) := by
  obtain ⟨a, ha, rfl⟩ := List.mem_map.1 h
  exact ⟨a, ha, rfl⟩
theorem stCells_blocks (xs : List ByteArray) : blocksL (stCells xs) = [] := blocksL_nil fun c hc => by
  obtain ⟨s, _, rfl⟩ := stCells_leaf hc
  rw [Rw.blocks]
theorem rwSs_blocks (v : Value) (xs : List ByteArray) : (rwSs v xs).blocks = v.ownBlock.toList := by rw [rwSs, Rw.blocks, stCells_blocks, List.append_nil]
theorem rwSs_nodup (v : Value) (xs : List ByteArray) : (rwSs v xs).blocks.Nodup := by rw [rwSs_blocks]; cases v.ownBlock <;> simp
theorem rwSs_is (v : Value) (xs : List ByteArray) : IsStringS (rwSs v xs) :=
  ⟨v, xs.length, _, stCells xs, rfl, fun j hj => ⟨xs[j], stCells_at (List.getElem?_eq_getElem hj)⟩⟩
theorem rwSs_own {lo hi : Nat} {w : World} {v : Value} {xs : List ByteArray} (h : OwnK encS 1 9 lo hi w v xs) : (rwSs v xs).OwnR lo hi w := by
  rw [rwSs, Rw.OwnR]
  exact ⟨by rw [stCells_map]; exact h, ownRL_iff.2 fun c hc => by obtain ⟨s, _, rfl⟩ := stCells_leaf hc; rw [Rw.OwnR]; rfl⟩
theorem rwSs_reads {hi : Nat} {w : World} {v : Value} {xs : List ByteArray} (h : ReadsK encS 1 hi w v xs) : (rwSs v xs).ReadR hi w := by
  rw [rwSs, Rw.ReadR]
  have h0 := h
  obtain ⟨a, cap, rfl, h1, h2, h3, h4⟩ := h
  refine ⟨⟨a, cap, rfl, by rw [stCells_len, Nat.mul_one], h1, h2, h3, ?_⟩, readRL_iff.2 fun c hc => by obtain ⟨s, _, rfl⟩ := stCells_leaf hc; rw [Rw.ReadR]; rfl⟩
  rcases h4 with h4 | ⟨g, off, rfl, hg, hc⟩
  · exact Or.inl h4
  · refine Or.inr ⟨g, off, rfl, hg, fun j c hj => ?_⟩
    rw [stCells_map] at hj
    have := h0.news encS_len j c hj
    rwa [add_off] at this
theorem rwSs_data (v u : Value) (xs : List ByteArray) : (rwSs v xs).data = (rwSs u xs).data := by rw [rwSs, rwSs, Rw.data, Rw.data]
theorem strs_of_data {x : Rw} {u : Value} {xs : List ByteArray} {hi : Nat} {w : World} (h : x.data = (rwSs u xs).data) (hr : x.ReadR hi w) : ReadsK encS 1 hi w x.cell xs := by
  cases x with
  | leaf v => rw [rwSs, Rw.data, Rw.data] at h; cases h
  | sl v n k e cs =>
    rw [rwSs, Rw.data, Rw.data] at h
    obtain ⟨rfl, hd⟩ := Dt.sl.inj h
    have hl : cs.length = xs.length := by have := congrArg List.length hd; rwa [dataL_len, dataL_len, stCells_len] at this
    rw [Rw.ReadR] at hr
    obtain ⟨⟨a, cap, rfl, h1, h2, h3, h4, h5⟩, _⟩ := hr
    have hn : n = xs.length := by omega
    subst hn
    refine ⟨a, cap, rfl, h2, h3, h4, ?_⟩
    rcases h5 with h5 | ⟨g, off, rfl, hg, hc⟩
    · exact Or.inl h5
    · refine Or.inr ⟨g, off, rfl, hg, fun j y hj i hi' => ?_⟩
      have hjl := (List.getElem?_eq_some_iff.1 hj).1
      obtain rfl : i = 0 := by omega
      obtain ⟨c, hcm⟩ : ∃ c, cs[j]? = some c := ⟨_, List.getElem?_eq_getElem (by omega)⟩
      have e1 := leaf_of_data (data_same hd hcm (stCells_at hj))
      rw [Nat.mul_one]
      refine hc j _ ?_
      rw [List.getElem?_map, hcm, e1]; rfl
theorem sum_le_at {xs : List ByteArray} {s : ByteArray} (h : s ∈ xs) : s.size ≤ (xs.map ByteArray.size).sum := by
  induction xs with
  | nil => cases h
  | cons x xs ih =>
    rw [List.map_cons, List.sum_cons]
    rcases List.mem_cons.1 h with e | h
    · rw [e]; omega
    · have := ih h; omega
def sumSt (xs : List ByteArray) : Nat := (xs.map ByteArray.size).sum
theorem stCells_weight : ∀ xs : List ByteArray, weightL (stCells xs) = sumSt xs
  | [] => rfl
  | x :: xs => by
    have h := stCells_weight xs
    unfold stCells at h ⊢
    rw [List.map_cons, weightL, Rw.weight, h, sumSt, sumSt, List.map_cons, List.sum_cons]; rfl
theorem rwSs_weight (v : Value) (xs : List ByteArray) : (rwSs v xs).weight = xs.length + sumSt xs := by rw [rwSs, Rw.weight, stCells_weight]
theorem stCells_count : ∀ xs : List ByteArray, countL (stCells xs) = xs.length
  | [] => rfl
  | x :: xs => by
    have h := stCells_count xs
    unfold stCells at h ⊢
    rw [List.map_cons, countL, Rw.count, h, List.length_cons]; omega
theorem rwSs_count (v : Value) (xs : List ByteArray) : (rwSs v xs).count = xs.length := by rw [rwSs, Rw.count, stCells_count]
theorem rwSs_small {v : Value} {xs : List ByteArray} (h : ∀ s ∈ xs, s.size ≤ 9223372036854775807) : (rwSs v xs).Small := by
  rw [rwSs, Rw.Small]
  refine smallL_iff.2 fun c hc => ?_
  obtain ⟨a, ha, rfl⟩ := stCells_leaf hc
  rw [Rw.Small]; exact h a ha
/-- A slice of strings that came in. -/
def IsSts (w : World) (v : Value) (xs : List ByteArray) : Prop := ReadsK encS 1 w.heap.size w v xs ∧ ∀ s ∈ xs, s.size ≤ 9223372036854775807
theorem IsSts.form {w : World} {v : Value} {xs : List ByteArray} (h : IsSts w v xs) : ∃ a n c, v = .slice a n c := by
  obtain ⟨⟨a, cap, rfl, _⟩, _⟩ := h
  exact ⟨a, _, cap, rfl⟩

set_option maxRecDepth 100000 in
theorem strs_of {H : Type} {enc : TypeId × Value → H} {W : World} {fuel : Nat} {v : Value} {d : DataW H × List MemPlace} (hf : DataW.trod enc Tryd.prog W 0 (fun _ => true) true fuel 73 [v] = some d) :
    ∃ xs, IsSts W v xs := by
  rcases open_slice Tryd.underlying73 hf with ⟨hcs, _⟩ | ⟨x, len, cap, m, n, D, Pl, hcs, _, hl, hc, hm, _, hel⟩
  · obtain rfl : v = .slice none 0 0 := by simpa using hcs
    exact ⟨[], ⟨none, 0, rfl, Nat.le_refl _, by omega, (fun _ => rfl), Or.inl rfl⟩, by simp⟩
  · obtain rfl : v = .slice (some x) len cap := by simpa using hcs
    simp only [if_true] at hm
    subst hm
    have hstr : Tryd.prog.cellsOf 9 = 1 := by kernel_rfl
    rw [hstr] at hel
    have hx : ∀ i, i < len → ∃ s : ByteArray, W.cell? (x.add i) = some (.string s) ∧ s.size ≤ 9223372036854775807 := by
      intro i hi
      obtain ⟨cs, h1, h2⟩ := hel i (by omega)
      obtain ⟨hlen, hat⟩ := cells?_at h1
      obtain ⟨t, e1, _, w1⟩ := DataW.trod_string Tryd.underlying9 h2
      subst e1
      have g0 := hat 0 (by omega)
      rw [add_add] at g0
      simp at g0
      exact ⟨t, g0, w1⟩
    obtain ⟨f, hf⟩ := choose_lt hx
    refine ⟨(List.range len).map f, ⟨some x, _, by rw [List.length_map, List.length_range], by simpa using hl, by unfold maxLen at hc; omega, (fun h => by cases h), ?_⟩, ?_⟩
    · by_cases h0 : len = 0
      · exact Or.inl (by simpa using h0)
      · obtain ⟨blk, off, spot⟩ := x
        have c0 := (hf 0 (by omega)).1
        have hspot : spot = none := by simpa [Addr.add] using World.cell?_spot c0
        subst hspot
        have hlt : blk < W.heap.size := by
          have := World.block_lt_of_cell? W _ c0
          rwa [add_off] at this
        refine Or.inr ⟨blk, off, rfl, hlt, fun j y hj i hi' => ?_⟩
        have hjl : j < len := by have := (List.getElem?_eq_some_iff.1 hj).1; simpa using this
        simp [hjl] at hj
        subst hj
        obtain ⟨g0, _⟩ := hf j hjl
        rw [add_off] at g0
        obtain rfl : i = 0 := by omega
        rw [Nat.add_zero, Nat.mul_one]; exact g0
    · intro r hr
      obtain ⟨i, hi, rfl⟩ := List.mem_map.1 hr
      exact (hf i (List.mem_range.1 hi)).2

theorem strs_arg {H : Type} {enc : TypeId × Value → H} {W : World} {v : Value} {d : DataW H} {p : List MemPlace} (hv : ∃ a n c, v = .slice a n c) (h : DataW.Trod enc Tryd.prog W 0 (fun _ => true) true 73 v d p) : ∃ xs, IsSts W v xs := by
  obtain ⟨a, n, c, rfl⟩ := hv
  obtain ⟨fuel, hf⟩ := h
  exact strs_of hf

/-- A struct whose fields are one cell each, by value, opened: each field's cell reads at its type. -/
theorem open_fields {P : Program} {H : Type} {enc : TypeId × Value → H} {w : World} {base : Nat} {spare : Nat → Bool} {held : Bool} {r : Reach} {b0 : Nat} {t : TypeId} {fs : Array Field} {v : Value} {d : DataW H} {p : List MemPlace} (hs : P.underlying t = some (.struct fs)) (hone : oneCellFields P fs = true) (hC : P.cellsOf t = fs.size)
    (hv : Value.okWide P w r b0 t v) (h : DataW.Trod enc P w base spare held t v d p) :
    ∃ (cs : Array Value) (m : Nat), v = .agg cs ∧ cs.size = fs.size ∧ ∀ (i : Nat) (f : Field), fs[i]? = some f → ∃ c y, cs[i]? = some c ∧ DataW.trod enc P w base spare held m f.type [c] = some y := by
  obtain ⟨cs, rfl, hsz⟩ := okWide_struct hs hv
  obtain ⟨fuel, hf⟩ := h
  obtain ⟨ys, n, _, _, hl, hlen, hat⟩ := DataW.trod_struct hs hf
  refine ⟨cs, n, rfl, hsz.trans hC, fun i f hi => ?_⟩
  obtain ⟨o, k⟩ := hone_of hone i f hi
  have hil : i < fs.size := (Array.getElem?_eq_some_iff.1 hi).1
  have hic : i < cs.size := by omega
  obtain ⟨y, hy⟩ : ∃ y, ys[i]? = some y := ⟨_, List.getElem?_eq_getElem (by omega)⟩
  refine ⟨cs[i], y, Array.getElem?_eq_getElem hic, ?_⟩
  have := hat i f hi
  rw [o, k, hy] at this
  rw [← this]
  congr 1
  show [cs[i]] = (((Value.agg cs).cells.toList).drop i).take 1
  rw [show (Value.agg cs).cells = cs from rfl, List.drop_eq_getElem_cons (by rw [Array.length_toList]; exact hic)]
  simp

end Go.Proofs.YtpkicliimhflgaaDoor
namespace Go.Proofs.YtpkicliimhflgaaDoor
open Go.ChangeShapes Go.WideShapes Go.ChangeAt Go.RowKit

/-- A slice of strings of the call's own, wherever it begins in its block. -/
def OwnO (lo hi : Nat) (w : World) (v : Value) (xs : List ByteArray) : Prop :=
  ∃ (a : Option Addr) (c : Nat), v = .slice a xs.length c ∧ xs.length ≤ c ∧ c ≤ 9223372036854775807 ∧ (a = none → c = 0) ∧ (xs.length = 0 ∨ ∃ (g off : Nat) (cs : Array Value), a = some ⟨g, off, none⟩ ∧ lo ≤ g ∧ g < hi ∧ w.heap[g]? = some (.cells cs 9 (0, 0)) ∧ ∀ (j : Nat) (x : ByteArray), xs[j]? = some x → cs[off + j]? = some (.string x))
theorem OwnO.reads {lo hi : Nat} {w : World} {v : Value} {xs : List ByteArray} (h : OwnO lo hi w v xs) : ReadsK encS 1 hi w v xs := by
  obtain ⟨a, c, rfl, h1, h2, h3, h4⟩ := h
  refine ⟨a, c, rfl, h1, h2, h3, ?_⟩
  rcases h4 with h4 | ⟨g, off, cs, rfl, _, hg, hh, hc⟩
  · exact Or.inl h4
  · refine Or.inr ⟨g, off, rfl, hg, fun j x hj i hi' => ?_⟩
    obtain rfl : i = 0 := by omega
    rw [Nat.mul_one, Nat.add_zero]
    exact box_cell hh (hc j x hj)
theorem OwnO.later {lo hi : Nat} {w w' : World} {v : Value} {xs : List ByteArray} (h : OwnO lo hi w v xs) (hb : Below w.heap.size w w') : OwnO lo hi w' v xs := by
  obtain ⟨a, c, e, h1, h2, h3, h4⟩ := h
  refine ⟨a, c, e, h1, h2, h3, ?_⟩
  rcases h4 with h4 | ⟨g, off, cs, e2, hl, hg, hh, hc⟩
  · exact Or.inl h4
  · exact Or.inr ⟨g, off, cs, e2, hl, hg, below_heap hb (heap_lt hh) hh, hc⟩
theorem OwnO.mono {lo hi lo' hi' : Nat} {w : World} {v : Value} {xs : List ByteArray} (h : OwnO lo hi w v xs) (hl' : lo' ≤ lo) (hh' : hi ≤ hi') : OwnO lo' hi' w v xs := by
  obtain ⟨a, c, e, h1, h2, h3, h4⟩ := h
  refine ⟨a, c, e, h1, h2, h3, ?_⟩
  rcases h4 with h4 | ⟨g, off, cs, e2, hl, hg, hh, hc⟩
  · exact Or.inl h4
  · exact Or.inr ⟨g, off, cs, e2, Nat.le_trans hl' hl, Nat.lt_of_lt_of_le hg hh', hh, hc⟩
theorem OwnO.top {lo hi : Nat} {w : World} {v : Value} {xs : List ByteArray} (h : OwnO lo hi w v xs) : OwnO lo w.heap.size w v xs := by
  obtain ⟨a, c, e, h1, h2, h3, h4⟩ := h
  refine ⟨a, c, e, h1, h2, h3, ?_⟩
  rcases h4 with h4 | ⟨g, off, cs, e2, hl, hg, hh, hc⟩
  · exact Or.inl h4
  · exact Or.inr ⟨g, off, cs, e2, hl, heap_lt hh, hh, hc⟩
theorem ownO_none (lo hi : Nat) (w : World) : OwnO lo hi w (.slice none 0 0) [] := ⟨_, 0, rfl, Nat.le_refl _, by omega, (fun _ => rfl), Or.inl rfl⟩
/-- The blocks in which something of it lies. -/
def blkO (v : Value) (xs : List ByteArray) : List Nat := if xs.length = 0 then [] else v.ownBlock.toList
theorem OwnO.blk {lo hi : Nat} {w : World} {v : Value} {xs : List ByteArray} (h : OwnO lo hi w v xs) : ∀ b ∈ blkO v xs, lo ≤ b ∧ b < hi ∧ b < w.heap.size := by
  obtain ⟨a, c, rfl, h1, h2, h3, h4⟩ := h
  intro b hb
  unfold blkO at hb
  rcases h4 with h4 | ⟨g, off, cs, rfl, hl, hg, hh, hc⟩
  · rw [if_pos h4] at hb; cases hb
  · split at hb
    · cases hb
    · have : b = g := by simpa [Value.ownBlock] using hb
      subst this
      exact ⟨hl, hg, heap_lt hh⟩
theorem OwnO.only {lo hi : Nat} {w w' : World} {v : Value} {xs : List ByteArray} {bs : List Nat} (h : OwnO lo hi w v xs) (hb : OnlyB bs w w') (hn : ∀ b ∈ blkO v xs, b ∉ bs) : OwnO lo hi w' v xs := by
  obtain ⟨a, c, rfl, h1, h2, h3, h4⟩ := h
  refine ⟨a, c, rfl, h1, h2, h3, ?_⟩
  rcases h4 with h4 | ⟨g, off, cs, rfl, hl, hg, hh, hc⟩
  · exact Or.inl h4
  · by_cases h0 : xs.length = 0
    · exact Or.inl h0
    · refine Or.inr ⟨g, off, cs, rfl, hl, hg, ?_, hc⟩
      rw [hb.block g (heap_lt hh) (hn g (by unfold blkO; rw [if_neg h0]; simp [Value.ownBlock]))]; exact hh
/-- What lies behind the first. -/
theorem OwnO.tail {lo hi n c g : Nat} {w : World} {x : ByteArray} {xs : List ByteArray} (h : OwnK encS 1 9 lo hi w (.slice (some ⟨g, 0, none⟩) n c) (x :: xs)) : OwnO lo hi w (if c = 1 then .slice (some ⟨g, 0, none⟩) (n - 1) (c - 1) else .slice (some ⟨g, 1, none⟩) (n - 1) (c - 1)) xs := by
  obtain ⟨hrow, hlt⟩ := h
  have hrl := hrow.1
  rcases hrow.2 with ⟨e, _⟩ | ⟨g', cap, cur, e, hg, hh, hcap, hm, hsz, htk⟩
  · cases e
  · unfold maxLen at hm
    injection e with e1 e2 e3
    injection e1 with e1
    injection e1 with e1
    subst e1; subst e3
    have hn : n = xs.length + 1 := by rw [e2]; rfl
    subst hn
    rw [Nat.add_sub_cancel]
    rw [flatS] at htk
    have hcl : ∀ (j : Nat) (y : ByteArray), xs[j]? = some y → cur[1 + j]? = some (.string y) := fun j y hj => by
      have h1 : ((x :: xs).map Value.string)[1 + j]? = some (.string y) := by rw [Nat.add_comm, List.map_cons, List.getElem?_cons_succ, List.getElem?_map, hj]; rfl
      rw [← htk, List.getElem?_take] at h1
      split at h1
      · rw [Array.getElem?_toList] at h1; exact h1
      · cases h1
    by_cases h1 : c = 1
    · subst h1
      rw [if_pos rfl]
      have : xs = [] := List.eq_nil_of_length_eq_zero (by omega)
      subst this
      exact ⟨_, 0, rfl, Nat.le_refl _, by omega, (fun h => by cases h), Or.inl rfl⟩
    · rw [if_neg h1]
      exact ⟨_, c - 1, rfl, by omega, by omega, (fun h => by cases h), Or.inr ⟨g, 1, cur, rfl, hg, hlt g rfl, hh, hcl⟩⟩
/-- A new slice of strings, wherever it begins in its block. -/
def NewO (xs : List ByteArray) (X : World) (e : Ending) (w' : World) : Prop := ∃ (a : Option Addr) (n c : Nat), e = .returned (.slice a n c) ∧ OwnO X.heap.size w'.heap.size w' (.slice a n c) xs ∧ Below X.heap.size X w'

end Go.Proofs.YtpkicliimhflgaaDoor
namespace Go.Proofs.YtpkicliimhflgaaDoor
open Go.ChangeShapes Go.WideShapes Go.ChangeAt Go.RowKit

theorem indexByte_idx (c : UInt8) : ∀ l : List UInt8, Lib.indexByte l c = if idxB c l < l.length then (idxB c l : Int) else -1
  | [] => rfl
  | b :: l => by
    have ih := indexByte_idx c l
    have hle := idxB_le c l
    unfold Lib.indexByte idxB
    by_cases h : b = c
    · rw [if_pos (by simpa using h), if_pos h, if_pos (by simp)]; rfl
    · rw [if_neg (by simpa using h), if_neg h, ih]
      by_cases h2 : idxB c l < l.length
      · rw [if_pos h2, if_neg (by simp <;> omega), if_pos (by simp <;> omega)]; omega
      · rw [if_neg h2, if_pos (by rfl), if_neg (by simp <;> omega)]
theorem index_idx (c : UInt8) : ∀ l : List UInt8, Lib.index l [c] = if idxB c l < l.length then (idxB c l : Int) else -1
  | [] => rfl
  | b :: l => by
    have ih := index_idx c l
    have hle := idxB_le c l
    unfold idxB
    by_cases h : b = c
    · subst h
      rw [if_pos rfl, if_pos (by simp), Lib.index]; simp [List.isPrefixOf]
    · have hp : ([c] : List UInt8).isPrefixOf (b :: l) = false := by simp [List.isPrefixOf, Ne.symm h]
      have hix : Lib.index (b :: l) [c] = if Lib.index l [c] == -1 then -1 else Lib.index l [c] + 1 := by rw [Lib.index, hp]; simp
      rw [if_neg h, hix, ih]
      by_cases h2 : idxB c l < l.length
      · rw [if_pos h2, if_neg (by simp <;> omega), if_pos (by simp <;> omega)]; omega
      · rw [if_neg h2, if_pos (by rfl), if_neg (by simp <;> omega)]
theorem indexByte_index (c : UInt8) (l : List UInt8) : Lib.indexByte l c = Lib.index l [c] := by rw [indexByte_idx, index_idx]
theorem idx_split {c : UInt8} {l : List UInt8} (h : idxB c l < l.length) : splitB c l = l.take (idxB c l) :: splitB c (l.drop (idxB c l + 1)) := by
  have := split_round (c := c) (l := l) (a := 0) (Nat.zero_le _) (idxB_at h) fun j _ hj => idxB_before hj
  rwa [List.drop_zero, Nat.sub_zero] at this
theorem idx_split_none {c : UInt8} {l : List UInt8} (h : ¬ idxB c l < l.length) : splitB c l = [l] := by
  have := split_last (c := c) (l := l) (a := 0) fun j _ hj => by
    have hjl := (List.getElem?_eq_some_iff.1 hj).1
    exact idxB_before (by omega) hj
  rwa [List.drop_zero] at this
theorem splitK_mine (c : UInt8) (l : List UInt8) : Lib.splitK [c] 0 (Lib.count l [c]) l = splitB c l := by
  generalize hn : l.length = n
  induction n using Nat.strongRecOn generalizing l with
  | _ n ih =>
    by_cases h : idxB c l < l.length
    · have hix : Lib.index l [c] = ((idxB c l : Nat) : Int) := by rw [index_idx, if_pos h]
      rw [Lib.count_hit (by simp) hix, Nat.add_comm, Lib.splitK, if_neg (by rw [hix]; simp <;> omega), hix, idx_split h]
      rw [show ((idxB c l : Nat) : Int).toNat = idxB c l from rfl, Nat.add_zero, show ([c] : List UInt8).length = 1 from rfl]
      rw [ih (l.drop (idxB c l + 1)).length (by rw [List.length_drop]; omega) _ rfl]
    · have hix : Lib.index l [c] = -1 := by rw [index_idx, if_neg h]
      rw [Lib.count_miss hix, Lib.splitK, idx_split_none h]
theorem splitB_mine (c : UInt8) (s : ByteArray) : Lib.splitB ⟨#[c]⟩ 0 (Lib.countB s ⟨#[c]⟩) s = splS c s.data.toList := by
  have h := Lib.splitB_data ⟨#[c]⟩ 0 (Lib.countB s ⟨#[c]⟩) s
  have e : Lib.countB s ⟨#[c]⟩ = Lib.count s.data.toList [c] := rfl
  rw [e] at h ⊢
  rw [show (⟨#[c]⟩ : ByteArray).data.toList = [c] from rfl, splitK_mine] at h
  unfold splS
  rw [← h, List.map_map]
  conv => lhs; rw [← List.map_id (Lib.splitB _ _ _ _)]
  exact List.map_congr_left fun x _ => (ofL_of x).symm

/-- What Cut returns at one byte. -/
def cutC (c : UInt8) (s : ByteArray) : Value :=
  if idxB c s.data.toList < s.size then .tuple #[.string (s.extract 0 (idxB c s.data.toList)), .string (s.extract (idxB c s.data.toList + 1) s.size), .bool true]
  else .tuple #[.string s, .string ⟨#[]⟩, .bool false]

set_option maxHeartbeats 1000000 in
theorem lcutC_any (c : UInt8) (s : ByteArray) (hs : s.size ≤ 4611686018427387904) (w : World) :
    Calls Tryd.prog 68 #[.string s, .string ⟨#[c]⟩] w fun e w' => e = .returned (cutC c s) ∧ ∃ n, w' = w.drewN n := by
  have hix := indexByte_idx c s.data.toList
  rw [size_list] at hix
  by_cases h1 : idxB c s.data.toList < s.size
  · have HV := Lib.hid (show cutC c s = _ from by unfold cutC; rw [if_pos h1])
    rw [if_pos h1] at hix
    obtain ⟨i, hi⟩ : ∃ i, idxB c s.data.toList = i := ⟨_, rfl⟩
    rw [hi] at hix h1 HV
    have HI := Lib.hid hix
    clear hix hi
    have c1 : (0 : Int) ≤ ↑i := by omega
    have c2 : (↑i : Int) ≤ ↑s.size := by omega
    have c3 : (0 : Int) ≤ ↑i + 1 := by omega
    have c4 : (↑i + 1 : Int) ≤ ↑s.size := by omega
    go_enter Tryd.func68, Tryd.ntmps68
    go_wp2_with fail
    refine (Tryd.stringslite_Index_one s c _).mono ?_
    rintro e w' ⟨rfl, rfl⟩
    rw [HI.out]
    go_wp2_with fail
    go_quiet (fail)
    go_wp2
    go_ret3
    exact ⟨by rw [HV.out]; rfl, _, rfl⟩
  · have HV := Lib.hid (show cutC c s = _ from by unfold cutC; rw [if_neg h1])
    rw [if_neg h1] at hix
    have HI := Lib.hid hix
    clear hix h1
    go_enter Tryd.func68, Tryd.ntmps68
    go_wp2_with fail
    refine (Tryd.stringslite_Index_one s c _).mono ?_
    rintro e w' ⟨rfl, rfl⟩
    rw [HI.out]
    go_wp2_with fail
    go_ret3
    exact ⟨by rw [HV.out]; rfl, 0, rfl⟩

set_option maxHeartbeats 1000000 in
theorem cutC_any (c : UInt8) (s : ByteArray) (hs : s.size ≤ 4611686018427387904) (w : World) :
    Calls Tryd.prog 63 #[.string s, .string ⟨#[c]⟩] w fun e w' => e = .returned (cutC c s) ∧ ∃ n, w' = w.drewN n := by
  have hcon := lcutC_any c s hs
  have : ∃ a b d, cutC c s = .tuple #[.string a, .string b, .bool d] := by
    unfold cutC; split <;> exact ⟨_, _, _, rfl⟩
  obtain ⟨a, b, d, hv⟩ := this
  rw [hv] at hcon ⊢
  clear hv
  have HC := Lib.hid hcon; clear hcon
  go_enter Tryd.func63, Tryd.ntmps63
  go_wp2_with fail
  refine (HC.out _).mono ?_
  rintro e w' ⟨rfl, n, rfl⟩
  go_wp2_with fail
  go_ret3
  exact ⟨rfl, n, rfl⟩

theorem splS_flat (l : List ByteArray) : l.flatMap encS = l.map Value.string := by
  induction l with
  | nil => rfl
  | cons x l ih => rw [List.flatMap_cons, ih]; rfl

set_option maxHeartbeats 1000000 in
theorem gsplit_any (s : ByteArray) (c : UInt8) (hs : s.size < 4294967281) (w : World) :
    Calls Tryd.prog 69 #[.string s, .string ⟨#[c]⟩, .int .i64 0, .int .i64 (-1)] w (NewK encS 1 9 (splS c s.data.toList) w) := by
  have hC : Calls Tryd.prog 76 #[.string s, .string ⟨#[c]⟩] w fun e w' => e = .returned (.int .i64 (Lib.countB s ⟨#[c]⟩)) ∧ w' = w := by
    refine (Tryd.strings_Count_one s c w).mono ?_
    rintro e w' ⟨rfl, rfl⟩
    refine ⟨?_, rfl⟩
    show Ending.returned (.int .i64 (Lib.countByte s.data.toList c)) = Ending.returned (Value.int .i64 ((Lib.count s.data.toList [c] : Nat) : Int))
    rw [Lib.count_one]; rfl
  have h1 : 1 ≤ (⟨#[c]⟩ : ByteArray).size := Nat.le_refl 1
  have hle := Lib.countB_le ⟨#[c]⟩ h1 s.size s (Nat.le_refl _)
  have hlen := Lib.splitB_all ⟨#[c]⟩ h1 0 _ s rfl
  have core := Any.strings_genSplit_core Tryd.lays221 (by kernel_rfl) s ⟨#[c]⟩ 0 (-1) (Lib.countB s ⟨#[c]⟩ + 1) w hs h1 (Nat.zero_le _)
    (fun x cc hx => by
      refine (Tryd.strings_Index_one x c _).mono ?_
      rintro e w' ⟨rfl, rfl⟩
      refine ⟨?_, rfl⟩
      rw [indexByte_index]) hC (by decide) (by decide) (by rw [if_pos (by decide)]; omega)
  refine core.mono ?_
  rintro e w' ⟨rfl, rfl⟩
  rw [Nat.add_sub_cancel, splitB_mine]
  rw [splitB_mine] at hlen
  refine ⟨_, rfl, ?_, (Below.refl _ _).alloc (Nat.le_refl _) _⟩
  rw [← hlen]
  refine ⟨?_, fun g hg => ?_⟩
  · have := World.ownsRow_lit (base := w.heap.size) (e := 9) (size := 1) w ((splS c s.data.toList).map Value.string).toArray (splS c s.data.toList).length (Nat.le_refl _) (by unfold maxLen; omega) (by simp)
    rw [splS_flat, Lib.cellsOf_full]
    rw [List.toList_toArray] at this
    exact this
  · have : g = w.heap.size := (Option.some.inj hg).symm
    subst this; simp

set_option maxHeartbeats 1000000 in
theorem split_any (s : ByteArray) (c : UInt8) (hs : s.size < 4294967281) (w : World) :
    Calls Tryd.prog 64 #[.string s, .string ⟨#[c]⟩] w (NewK encS 1 9 (splS c s.data.toList) w) := by
  go_enter Tryd.func64, Tryd.ntmps64
  go_wp2_with fail
  refine (gsplit_any s c hs _).mono ?_
  rintro e w' ⟨v, rfl, ho, hb⟩
  have HO := Lib.hid ho; have HB := Lib.hid hb; clear ho hb
  go_wp2_with fail
  go_ret
  exact ⟨_, rfl, HO.out, HB.out⟩

end Go.Proofs.YtpkicliimhflgaaDoor
namespace Go.Proofs.YtpkicliimhflgaaDoor
open Go.ChangeShapes Go.WideShapes Go.ChangeAt Go.RowKit

/-- The library's MaxLen holds a number. -/
def Max0 (w : World) : Prop := ∃ m, w.cell? ⟨0, 0, none⟩ = some (.int .i64 m)
theorem Max0.on {w w' : World} (h : Max0 w) (hb : Below w.heap.size w w') : Max0 w' := by
  obtain ⟨m, hm⟩ := h
  exact ⟨m, (hb.cell (World.block_lt_of_cell? _ _ hm)).trans hm⟩

end Go.Proofs.YtpkicliimhflgaaDoor
namespace Go.Proofs.YtpkicliimhflgaaDoor
open Go.ChangeShapes Go.WideShapes Go.ChangeAt Go.RowKit

def SzPolicy (a1 : Rw) (a2 : Rw) (a3 : Rw) (a4 : ByteArray) (left : Int) (w : World) (e : Ending) (w' : World) : Prop :=
  ∃ r : Int, e = .returned (.int .i64 r) ∧ -1 ≤ r ∧ (0 ≤ r → r + (a1.weight : Nat) + (a2.weight : Nat) + (a3.weight : Nat) + (a4.size : Nat) = left) ∧ Grw w w'

end Go.Proofs.YtpkicliimhflgaaDoor
namespace Go.Proofs.YtpkicliimhflgaaDoor
open Go.ChangeShapes Go.WideShapes Go.ChangeAt Go.RowKit Go.Joins Go.Deep

/-- A policy as a plain value. -/
structure Pol where
  set : Bool
  scr : List ByteArray
  sty : List ByteArray
  img : List ByteArray
  non : ByteArray
/-- A policy in memory: its three slices read so. -/
def ReadP (hi : Nat) (w : World) (v1 v2 v3 : Value) (p : Pol) : Prop := ReadsK encS 1 hi w v1 p.scr ∧ ReadsK encS 1 hi w v2 p.sty ∧ ReadsK encS 1 hi w v3 p.img
/-- A policy that came in. -/
def IsPo (w : World) (v1 v2 v3 : Value) (p : Pol) : Prop := IsSts w v1 p.scr ∧ IsSts w v2 p.sty ∧ IsSts w v3 p.img ∧ p.non.size ≤ 9223372036854775807
theorem ReadP.below {hi B : Nat} {w w' : World} {v1 v2 v3 : Value} {p : Pol} (h : ReadP hi w v1 v2 v3 p) (hb : Below B w w') (hB : hi ≤ B) : ReadP hi w' v1 v2 v3 p := ⟨h.1.below hb hB, h.2.1.below hb hB, h.2.2.below hb hB⟩
theorem ReadP.mono {hi hi' : Nat} {w : World} {v1 v2 v3 : Value} {p : Pol} (h : ReadP hi w v1 v2 v3 p) (hh : hi ≤ hi') : ReadP hi' w v1 v2 v3 p := ⟨h.1.mono hh, h.2.1.mono hh, h.2.2.mono hh⟩

end Go.Proofs.YtpkicliimhflgaaDoor
namespace Go.Proofs.YtpkicliimhflgaaDoor
open Go.ChangeShapes Go.WideShapes Go.ChangeAt Go.RowKit

def hasS (xs : List ByteArray) (s : ByteArray) : Bool := xs.any fun x => decide (x = s)
theorem hasS_iff {xs : List ByteArray} {a : ByteArray} : hasS xs a = true ↔ a ∈ xs := by
  unfold hasS
  rw [List.any_eq_true]
  constructor
  · rintro ⟨x, hx, he⟩
    rw [← of_decide_eq_true he]; exact hx
  · exact fun h => ⟨a, h, decide_eq_true rfl⟩
def hostsP (p : Pol) (k : Int) : List ByteArray := if k = 2 ∨ k = 5 then p.scr else if k = 3 then p.sty else if k = 4 then p.img else []
/-- Allows. -/
def alB (p : Pol) (k : Int) (h : ByteArray) : Bool := !p.set || hasS (hostsP p k) h
/-- AllowsInline. -/
def inlB (p : Pol) (n : ByteArray) : Bool := !p.set || (decide (p.non.size ≠ 0) && decide (p.non = n))
def okHosts (l : List ByteArray) : Bool := decide (l.length ≤ 4) && l.all isNm
/-- IsPolicy. -/
def isPol (p : Pol) : Bool :=
  if p.set = true then okHosts p.scr && okHosts p.sty && okHosts p.img && (decide (p.non.size = 0) || isVal p.non)
  else decide (p.scr.length = 0) && decide (p.sty.length = 0) && decide (p.img.length = 0) && decide (p.non.size = 0)
def eqP (a b : Pol) : Bool := (a.set == b.set) && decide (a.scr = b.scr) && decide (a.sty = b.sty) && decide (a.img = b.img) && decide (a.non = b.non)
def polZ : Pol := ⟨false, [], [], [], ⟨#[]⟩⟩
def bothS (xs ys : List ByteArray) : List ByteArray := xs.filter (hasS ys)
/-- NarrowPolicy. -/
def nrP (a b : Pol) : Pol := if a.set = false then b else if b.set = false then a else ⟨true, bothS a.scr b.scr, bothS a.sty b.sty, bothS a.img b.img, if a.non = b.non then a.non else ⟨#[]⟩⟩
theorem hasS_both (xs ys : List ByteArray) (h : ByteArray) : hasS (bothS xs ys) h = (hasS xs h && hasS ys h) := by
  rw [Bool.eq_iff_iff, Bool.and_eq_true, hasS_iff, hasS_iff]
  unfold bothS
  rw [List.mem_filter]
theorem alB_nr (a b : Pol) (k : Int) (h : ByteArray) : alB (nrP a b) k h = (alB a k h && alB b k h) := by
  unfold nrP
  by_cases ha : a.set = false
  · rw [if_pos ha]; simp [alB, ha]
  by_cases hb : b.set = false
  · rw [if_neg ha, if_pos hb]; simp [alB, hb]
  rw [if_neg ha, if_neg hb]
  have ha' : a.set = true := by cases h0 : a.set <;> simp_all
  have hb' : b.set = true := by cases h0 : b.set <;> simp_all
  simp only [alB, ha', hb', Bool.not_true, Bool.false_or]
  unfold hostsP
  by_cases k1 : k = 2 ∨ k = 5
  · rw [if_pos k1, if_pos k1, if_pos k1, hasS_both]
  by_cases k2 : k = 3
  · rw [if_neg k1, if_neg k1, if_neg k1, if_pos k2, if_pos k2, if_pos k2, hasS_both]
  by_cases k3 : k = 4
  · rw [if_neg k1, if_neg k1, if_neg k1, if_neg k2, if_neg k2, if_neg k2, if_pos k3, if_pos k3, if_pos k3, hasS_both]
  rw [if_neg k1, if_neg k1, if_neg k1, if_neg k2, if_neg k2, if_neg k2, if_neg k3, if_neg k3, if_neg k3]
  rfl
theorem inlB_nr (a b : Pol) (n : ByteArray) : inlB (nrP a b) n = (inlB a n && inlB b n) := by
  unfold nrP
  by_cases ha : a.set = false
  · rw [if_pos ha]; simp [inlB, ha]
  by_cases hb : b.set = false
  · rw [if_neg ha, if_pos hb]; simp [inlB, hb]
  rw [if_neg ha, if_neg hb]
  have ha' : a.set = true := by cases h0 : a.set <;> simp_all
  have hb' : b.set = true := by cases h0 : b.set <;> simp_all
  simp only [inlB, ha', hb', Bool.not_true, Bool.false_or]
  by_cases e : a.non = b.non
  · rw [if_pos e, e]; cases (decide (b.non.size ≠ 0) && decide (b.non = n)) <;> rfl
  · rw [if_neg e]
    by_cases e1 : a.non = n
    · have e2 : ¬ b.non = n := fun h => e (e1.trans h.symm)
      have e3 : decide (b.non = n) = false := decide_eq_false e2
      rw [e3, Bool.and_false, Bool.and_false]; rfl
    · have e3 : decide (a.non = n) = false := decide_eq_false e1
      rw [e3, Bool.and_false, Bool.false_and]; rfl

def spS : ByteArray := ⟨#[32]⟩
def scS : ByteArray := ⟨#[59]⟩
def kScr : ByteArray := ⟨#[115, 99, 114, 105, 112, 116]⟩
def kSty : ByteArray := ⟨#[115, 116, 121, 108, 101]⟩
def kImg : ByteArray := ⟨#[105, 109, 103]⟩
def kNon : ByteArray := ⟨#[59, 110, 111, 110, 99, 101, 32]⟩
/-- Words with a space ahead of each. -/
def wordsS (w : ByteArray) (xs : List ByteArray) : ByteArray := xs.foldl (fun a x => a ++ spS ++ x) w
def hostsL (xs : List ByteArray) : List UInt8 := xs.flatMap fun x => 32 :: x.data.toList
theorem wordsS_list (xs : List ByteArray) : ∀ w, (wordsS w xs).data.toList = w.data.toList ++ hostsL xs := by
  induction xs with
  | nil => intro w; simp [wordsS, hostsL]
  | cons x xs ih =>
    intro w
    show (wordsS (w ++ spS ++ x) xs).data.toList = _
    rw [ih, append_list, append_list]
    simp [hostsL, spS]
theorem wordsS_snoc (w : ByteArray) (xs : List ByteArray) (x : ByteArray) : wordsS w (xs ++ [x]) = wordsS w xs ++ spS ++ x := by
  unfold wordsS; rw [List.foldl_append]; rfl
theorem hostsL_len (xs : List ByteArray) : (hostsL xs).length = xs.length + sumSt xs := by
  induction xs with
  | nil => rfl
  | cons x xs ih =>
    have : hostsL (x :: xs) = (32 :: x.data.toList) ++ hostsL xs := rfl
    rw [this, List.length_append, ih, List.length_cons, size_list, List.length_cons, sumSt, sumSt, List.map_cons, List.sum_cons]; omega
theorem wordsS_size (w : ByteArray) (xs : List ByteArray) : (wordsS w xs).size = w.size + xs.length + sumSt xs := by
  rw [← size_list, wordsS_list, List.length_append, size_list, hostsL_len]; omega
def nonS (n : ByteArray) : ByteArray := if n.size = 0 then ⟨#[]⟩ else kNon ++ n
def nonL (n : ByteArray) : List UInt8 := if n.size = 0 then [] else kNon.data.toList ++ n.data.toList
/-- FormatPolicy. -/
def fmtP (p : Pol) : ByteArray := if p.set = true ∧ isPol p = true then wordsS kScr p.scr ++ scS ++ wordsS kSty p.sty ++ scS ++ wordsS kImg p.img ++ nonS p.non else ⟨#[]⟩
theorem fmtP_list {p : Pol} (h1 : p.set = true) (h2 : isPol p = true) : (fmtP p).data.toList = kScr.data.toList ++ hostsL p.scr ++ 59 :: (kSty.data.toList ++ hostsL p.sty ++ 59 :: (kImg.data.toList ++ hostsL p.img ++ nonL p.non)) := by
  unfold fmtP
  rw [if_pos ⟨h1, h2⟩]
  have hn : (nonS p.non).data.toList = nonL p.non := by
    unfold nonS nonL
    by_cases e : p.non.size = 0
    · rw [if_pos e, if_pos e]
    · rw [if_neg e, if_neg e, append_list]
  rw [append_list, append_list, append_list, append_list, append_list, wordsS_list, wordsS_list, wordsS_list, hn]
  simp [scS, List.append_assoc]
theorem fmtP_no {p : Pol} (h : ¬ (p.set = true ∧ isPol p = true)) : fmtP p = ⟨#[]⟩ := by unfold fmtP; rw [if_neg h]
theorem okHosts_low {l : List ByteArray} (h : okHosts l = true) : ∀ x ∈ l, ∀ b ∈ x.data.toList, 97 ≤ b.toNat ∧ b.toNat ≤ 122 := by
  intro x hx b hb
  unfold okHosts at h
  rw [Bool.and_eq_true] at h
  have h1 := List.all_eq_true.1 h.2 x hx
  unfold isNm at h1
  rw [Bool.and_eq_true] at h1
  exact of_decide_eq_true (List.all_eq_true.1 h1.2 b hb)
theorem okHosts_ne {l : List ByteArray} (h : okHosts l = true) {c : UInt8} (hc : c.toNat < 97) : ∀ x ∈ l, ∀ b ∈ x.data.toList, b ≠ c := by
  intro x hx b hb e
  have := okHosts_low h x hx b hb
  rw [e] at this; omega
theorem hostsL_ne {l : List ByteArray} (h : okHosts l = true) : ∀ b ∈ hostsL l, b ≠ 59 := by
  intro b hb
  unfold hostsL at hb
  obtain ⟨x, hx, hbx⟩ := List.mem_flatMap.1 hb
  rcases List.mem_cons.1 hbx with e | hb2
  · rw [e]; decide
  · exact okHosts_ne h (by decide) x hx b hb2
theorem split_words {c : UInt8} (hc : c = 32) : ∀ (xs : List ByteArray) (w : List UInt8), (∀ b ∈ w, b ≠ c) → (∀ x ∈ xs, ∀ b ∈ x.data.toList, b ≠ c) → splitB c (w ++ hostsL xs) = w :: xs.map (·.data.toList)
  | [], w, hw, _ => by
    show splitB c (w ++ []) = _
    rw [List.append_nil, splitB_free hw]; rfl
  | x :: xs, w, hw, hx => by
    have e : w ++ hostsL (x :: xs) = w ++ c :: (x.data.toList ++ hostsL xs) := by subst hc; rfl
    rw [e, splitB_at _ hw, split_words hc xs x.data.toList (hx x List.mem_cons_self) fun y hy => hx y (List.mem_cons_of_mem _ hy), List.map_cons]
theorem map_ofL (xs : List ByteArray) : (xs.map (·.data.toList)).map ofL = xs := by
  rw [List.map_map]
  conv => rhs; rw [← List.map_id xs]
  exact List.map_congr_left fun x _ => ofL_of x
theorem words_back {l : List ByteArray} (h : okHosts l = true) {w : List UInt8} (hw : ∀ b ∈ w, b ≠ 32) : (splS 32 (w ++ hostsL l)).tail = l := by
  unfold splS
  rw [split_words rfl l w hw (okHosts_ne h (by decide)), List.map_cons, List.tail_cons, map_ofL]
/-- What the model reads. -/
def rdM (s : ByteArray) : Option Pol := match splS 59 s.data.toList with
  | a :: b :: c :: ds => some ⟨true, (splS 32 a.data.toList).tail, (splS 32 b.data.toList).tail, (splS 32 c.data.toList).tail, match ds with
    | [] => ⟨#[]⟩
    | d :: _ => if 6 < d.size then d.extract 6 d.size else ⟨#[]⟩⟩
  | _ => none
/-- What the program reads. -/
def rdI (s : ByteArray) : Pol := match splS 59 (Lib.cut s.data.toList kNon.data.toList).1 with
  | [a, b, c] => ⟨true, (splS 32 a.data.toList).tail, (splS 32 b.data.toList).tail, (splS 32 c.data.toList).tail, ofL (Lib.cut s.data.toList kNon.data.toList).2.1⟩
  | _ => polZ
theorem val_ne {n : ByteArray} (h : isVal n = true) : ∀ b ∈ n.data.toList, b ≠ 59 := by
  intro b hb e
  unfold isVal at h
  rw [Bool.and_eq_true] at h
  have h1 := List.all_eq_true.1 h.2 b hb
  rw [e] at h1
  revert h1; decide
theorem isPol_parts {p : Pol} (h1 : p.set = true) (h2 : isPol p = true) : okHosts p.scr = true ∧ okHosts p.sty = true ∧ okHosts p.img = true ∧ (p.non.size = 0 ∨ isVal p.non = true) := by
  unfold isPol at h2
  rw [if_pos h1, Bool.and_eq_true, Bool.and_eq_true, Bool.and_eq_true, Bool.or_eq_true] at h2
  exact ⟨h2.1.1.1, h2.1.1.2, h2.1.2, h2.2.imp of_decide_eq_true id⟩
theorem free_app {A B : List UInt8} {c : UInt8} (h1 : ∀ b ∈ A, b ≠ c) (h2 : ∀ b ∈ B, b ≠ c) : ∀ b ∈ A ++ B, b ≠ c := fun b hb => (List.mem_append.1 hb).elim (h1 b) (h2 b)
theorem emptyB {n : ByteArray} (h : n.size = 0) : n = ⟨#[]⟩ := bytesEq (List.eq_nil_of_length_eq_zero (by rw [size_list]; exact h))
theorem splS_three {A B C : List UInt8} (h1 : ∀ b ∈ A, b ≠ 59) (h2 : ∀ b ∈ B, b ≠ 59) (h3 : ∀ b ∈ C, b ≠ 59) : splS 59 (A ++ 59 :: (B ++ 59 :: C)) = [ofL A, ofL B, ofL C] := by
  unfold splS
  rw [splitB_at _ h1, splitB_at _ h2, splitB_free h3]; rfl
theorem rdM_fmt {p : Pol} (h1 : p.set = true) (h2 : isPol p = true) : rdM (fmtP p) = some p := by
  obtain ⟨o1, o2, o3, o4⟩ := isPol_parts h1 h2
  have f1 := free_app (c := 59) (A := kScr.data.toList) (by decide) (hostsL_ne o1)
  have f2 := free_app (c := 59) (A := kSty.data.toList) (by decide) (hostsL_ne o2)
  have f3 := free_app (c := 59) (A := kImg.data.toList) (by decide) (hostsL_ne o3)
  have w1 := words_back o1 (w := kScr.data.toList) (by decide)
  have w2 := words_back o2 (w := kSty.data.toList) (by decide)
  have w3 := words_back o3 (w := kImg.data.toList) (by decide)
  obtain ⟨set, scr, sty, img, non⟩ := p
  simp only at h1 o1 o2 o3 o4 f1 f2 f3 w1 w2 w3
  subst h1
  unfold rdM
  rw [fmtP_list rfl h2]
  simp only
  by_cases e : non.size = 0
  · have en := emptyB e
    subst en
    rw [show nonL ⟨#[]⟩ = [] from rfl, List.append_nil, splS_three f1 f2 f3]
    simp only [ofL_list]
    rw [w1, w2, w3]
  · have hv : isVal non = true := o4.resolve_left e
    have hN : nonL non = 59 :: ([110, 111, 110, 99, 101, 32] ++ non.data.toList) := by unfold nonL; rw [if_neg e]; rfl
    have f4 := free_app (c := 59) (A := [110, 111, 110, 99, 101, 32]) (by decide) (val_ne hv)
    have hs : splS 59 (kScr.data.toList ++ hostsL scr ++ 59 :: (kSty.data.toList ++ hostsL sty ++ 59 :: (kImg.data.toList ++ hostsL img ++ nonL non))) = [ofL (kScr.data.toList ++ hostsL scr), ofL (kSty.data.toList ++ hostsL sty), ofL (kImg.data.toList ++ hostsL img), ofL ([110, 111, 110, 99, 101, 32] ++ non.data.toList)] := by
      unfold splS
      rw [hN, splitB_at _ f1, splitB_at _ f2, splitB_at _ f3, splitB_free f4]; rfl
    rw [hs]
    simp only [ofL_list]
    have hsz : (ofL ([110, 111, 110, 99, 101, 32] ++ non.data.toList)).size = 6 + non.size := by rw [ofL_size, List.length_append, size_list]; rfl
    rw [w1, w2, w3, if_pos (by omega), extract_suf, ofL_list]
    congr 1
theorem index_free {c : UInt8} (m : List UInt8) : ∀ (A l : List UInt8), (∀ b ∈ A, b ≠ c) → Lib.index (A ++ l) (c :: m) = if Lib.index l (c :: m) = -1 then -1 else Lib.index l (c :: m) + (A.length : Int)
  | [], l, _ => by
    rw [List.nil_append]
    split
    · assumption
    · simp
  | a :: A, l, h => by
    have ih := index_free m A l fun b hb => h b (List.mem_cons_of_mem _ hb)
    have ha : a ≠ c := h a List.mem_cons_self
    have hp : (c :: m).isPrefixOf (a :: (A ++ l)) = false := by
      show ((c == a) && _) = false
      rw [beq_eq_false_iff_ne.2 (Ne.symm ha), Bool.false_and]
    rw [List.cons_append]
    conv => lhs; unfold Lib.index
    rw [if_neg (by rw [hp]; decide), ih]
    have hge := Lib.index_ge l (c :: m)
    by_cases e : Lib.index l (c :: m) = -1
    · rw [if_pos e, if_pos e]; rfl
    · rw [if_neg e, if_neg e, if_neg (by intro hq; have := beq_iff_eq.1 hq; omega)]
      rw [List.length_cons]; push_cast; omega
theorem index_past1 {c d b : UInt8} (t l : List UInt8) (hb : b ≠ d) : Lib.index (c :: b :: l) (c :: d :: t) = if Lib.index (b :: l) (c :: d :: t) = -1 then -1 else Lib.index (b :: l) (c :: d :: t) + 1 := by
  have hp : (c :: d :: t).isPrefixOf (c :: b :: l) = false := by
    show ((c == c) && ((d == b) && _)) = false
    rw [beq_eq_false_iff_ne.2 (Ne.symm hb), Bool.false_and, Bool.and_false]
  conv => lhs; unfold Lib.index
  rw [if_neg (by rw [hp]; decide)]
  by_cases e : Lib.index (b :: l) (c :: d :: t) = -1
  · rw [if_pos e, e]; rfl
  · rw [if_neg e, if_neg (fun hq => e (beq_iff_eq.1 hq))]
theorem index_here (s m : List UInt8) : Lib.index (s ++ m) s = 0 := by
  refine Lib.index_first (i := 0) (Nat.zero_le _) ?_ fun j hj => absurd hj (Nat.not_lt_zero _)
  unfold Lib.occAt
  rw [List.drop_zero, List.isPrefixOf_iff_prefix]
  exact List.prefix_append _ _
theorem index_three {A B C R : List UInt8} (h1 : ∀ b ∈ A, b ≠ 59) (h2 : ∀ b ∈ B, b ≠ 59) (h3 : ∀ b ∈ C, b ≠ 59) {b0 c0 : UInt8} {B' C' : List UInt8} (eb : B = b0 :: B') (ec : C = c0 :: C') (nb : b0 ≠ 110) (nc : c0 ≠ 110) (t : List UInt8) :
    Lib.index (A ++ 59 :: (B ++ 59 :: (C ++ R))) (59 :: 110 :: t) = if Lib.index R (59 :: 110 :: t) = -1 then -1 else Lib.index R (59 :: 110 :: t) + (A.length + 1 + B.length + 1 + C.length : Nat) := by
  have g := Lib.index_ge R (59 :: 110 :: t)
  have e3 := index_free (110 :: t) C R h3
  have e2' : Lib.index (59 :: (C ++ R)) (59 :: 110 :: t) = if Lib.index (C ++ R) (59 :: 110 :: t) = -1 then -1 else Lib.index (C ++ R) (59 :: 110 :: t) + 1 := by
    rw [ec]; exact index_past1 t _ nc
  have e2 := index_free (110 :: t) B (59 :: (C ++ R)) h2
  have e1' : Lib.index (59 :: (B ++ 59 :: (C ++ R))) (59 :: 110 :: t) = if Lib.index (B ++ 59 :: (C ++ R)) (59 :: 110 :: t) = -1 then -1 else Lib.index (B ++ 59 :: (C ++ R)) (59 :: 110 :: t) + 1 := by
    rw [eb]; exact index_past1 t _ nb
  rw [index_free (110 :: t) A _ h1, e1', e2, e2', e3]
  by_cases e : Lib.index R (59 :: 110 :: t) = -1
  · simp [e]
  · have k1 : ¬ (Lib.index R (59 :: 110 :: t) + (C.length : Int) = -1) := by omega
    have k2 : ¬ (Lib.index R (59 :: 110 :: t) + (C.length : Int) + 1 = -1) := by omega
    have k3 : ¬ (Lib.index R (59 :: 110 :: t) + (C.length : Int) + 1 + (B.length : Int) = -1) := by omega
    have k4 : ¬ (Lib.index R (59 :: 110 :: t) + (C.length : Int) + 1 + (B.length : Int) + 1 = -1) := by omega
    rw [if_neg e, if_neg e, if_neg k1, if_neg k2, if_neg k3, if_neg k4]
    push_cast; omega
theorem rdI_fmt {p : Pol} (h1 : p.set = true) (h2 : isPol p = true) : rdI (fmtP p) = p := by
  obtain ⟨o1, o2, o3, o4⟩ := isPol_parts h1 h2
  have f1 := free_app (c := 59) (A := kScr.data.toList) (by decide) (hostsL_ne o1)
  have f2 := free_app (c := 59) (A := kSty.data.toList) (by decide) (hostsL_ne o2)
  have f3 := free_app (c := 59) (A := kImg.data.toList) (by decide) (hostsL_ne o3)
  have w1 := words_back o1 (w := kScr.data.toList) (by decide)
  have w2 := words_back o2 (w := kSty.data.toList) (by decide)
  have w3 := words_back o3 (w := kImg.data.toList) (by decide)
  obtain ⟨set, scr, sty, img, non⟩ := p
  simp only at h1 o1 o2 o3 o4 f1 f2 f3 w1 w2 w3
  subst h1
  have hix := index_three (R := nonL non) f1 f2 f3 (b0 := 115) (c0 := 105) rfl rfl (by decide) (by decide) [111, 110, 99, 101, 32]
  have hl := fmtP_list rfl h2
  simp only at hl
  have hc : Lib.cut (fmtP ⟨true, scr, sty, img, non⟩).data.toList kNon.data.toList = (kScr.data.toList ++ hostsL scr ++ 59 :: (kSty.data.toList ++ hostsL sty ++ 59 :: (kImg.data.toList ++ hostsL img)), non.data.toList, decide (non.size ≠ 0)) := by
    rw [hl]
    unfold Lib.cut
    by_cases e : non.size = 0
    · have en := emptyB e
      subst en
      rw [show nonL ⟨#[]⟩ = [] from rfl] at hix ⊢
      have hx : Lib.index ([] : List UInt8) (59 :: 110 :: [111, 110, 99, 101, 32]) = -1 := rfl
      rw [if_pos hx] at hix
      rw [show kNon.data.toList = 59 :: 110 :: [111, 110, 99, 101, 32] from rfl, if_neg (by rw [hix]; decide), List.append_nil]
      rfl
    · have hN : nonL non = kNon.data.toList ++ non.data.toList := by unfold nonL; rw [if_neg e]
      have hx : Lib.index (nonL non) (59 :: 110 :: [111, 110, 99, 101, 32]) = 0 := by rw [hN]; exact index_here _ _
      rw [if_neg (by rw [hx]; decide), hx, Int.zero_add] at hix
      rw [show kNon.data.toList = 59 :: 110 :: [111, 110, 99, 101, 32] from rfl, if_pos (by rw [hix]; omega), hix, Int.toNat_natCast, hN]
      have hd : decide (non.size ≠ 0) = true := decide_eq_true e
      rw [hd]
      have ha : kScr.data.toList ++ hostsL scr ++ 59 :: (kSty.data.toList ++ hostsL sty ++ 59 :: (kImg.data.toList ++ hostsL img ++ (kNon.data.toList ++ non.data.toList))) = (kScr.data.toList ++ hostsL scr ++ 59 :: (kSty.data.toList ++ hostsL sty ++ 59 :: (kImg.data.toList ++ hostsL img))) ++ (kNon.data.toList ++ non.data.toList) := by simp [List.append_assoc]
      have hlen : (kScr.data.toList ++ hostsL scr).length + 1 + (kSty.data.toList ++ hostsL sty).length + 1 + (kImg.data.toList ++ hostsL img).length = (kScr.data.toList ++ hostsL scr ++ 59 :: (kSty.data.toList ++ hostsL sty ++ 59 :: (kImg.data.toList ++ hostsL img))).length := by
        simp only [List.length_append, List.length_cons]; omega
      rw [ha, hlen, List.take_left', Prod.mk.injEq, Prod.mk.injEq]
      · refine ⟨rfl, ?_, rfl⟩
        rw [← List.drop_drop, List.drop_left' rfl]
        exact List.drop_left' rfl
      · rfl
  unfold rdI
  rw [hc]
  simp only
  rw [splS_three f1 f2 f3]
  simp only [ofL_list]
  rw [w1, w2, w3, ofL_of]
theorem fmtP_ne {q : Pol} {s : ByteArray} (h : fmtP q = s) (hs : s.size ≠ 0) : q.set = true ∧ isPol q = true := by
  by_cases e : q.set = true ∧ isPol q = true
  · exact e
  · rw [fmtP_no e] at h; subst h; exact absurd rfl hs
/-- ParsePolicy. -/
def prsP (s : ByteArray) : Pol × Bool := if s.size = 0 then (polZ, true) else if fmtP (rdI s) = s then (rdI s, true) else (polZ, false)
theorem prsP_model {s : ByteArray} (hs : s.size ≠ 0) : (match rdM s with | none => (polZ, false) | some q => if fmtP q = s then (q, true) else (polZ, false)) = prsP s := by
  unfold prsP
  rw [if_neg hs]
  by_cases e : fmtP (rdI s) = s
  · obtain ⟨k1, k2⟩ := fmtP_ne e hs
    have hm := rdM_fmt k1 k2
    rw [e] at hm
    rw [hm, if_pos e]
    simp only
    rw [if_pos e]
  · rw [if_neg e]
    cases hq : rdM s with
    | none => rfl
    | some q =>
      simp only
      by_cases e2 : fmtP q = s
      · obtain ⟨k1, k2⟩ := fmtP_ne e2 hs
        have hi := rdI_fmt k1 k2
        rw [e2] at hi
        rw [hi] at e
        exact absurd e2 e
      · rw [if_neg e2]
theorem prsP_fmt {p : Pol} (h1 : p.set = true) (h2 : isPol p = true) : prsP (fmtP p) = (p, true) := by
  have hs : (fmtP p).size ≠ 0 := by rw [← size_list, fmtP_list h1 h2]; simp [kScr]
  unfold prsP
  rw [if_neg hs, rdI_fmt h1 h2, if_pos rfl]
theorem fmtP_polZ : fmtP polZ = ⟨#[]⟩ := fmtP_no (by rintro ⟨h, _⟩; cases h)
theorem prsP_yes {s : ByteArray} (h : (prsP s).2 = true) : fmtP (prsP s).1 = s := by
  unfold prsP at h ⊢
  by_cases e : s.size = 0
  · rw [if_pos e, emptyB e]; exact fmtP_polZ
  · rw [if_neg e] at h ⊢
    by_cases e2 : fmtP (rdI s) = s
    · rw [if_pos e2]; exact e2
    · rw [if_neg e2] at h; cases h
theorem isPol_zero {p : Pol} (h1 : p.set = false) (h2 : isPol p = true) : p = polZ := by
  obtain ⟨set, scr, sty, img, non⟩ := p
  simp only at h1
  subst h1
  unfold isPol at h2
  rw [if_neg Bool.false_ne_true, Bool.and_eq_true, Bool.and_eq_true, Bool.and_eq_true] at h2
  obtain ⟨⟨⟨a, b⟩, c⟩, d⟩ := h2
  obtain rfl : scr = [] := List.eq_nil_of_length_eq_zero (of_decide_eq_true a)
  obtain rfl : sty = [] := List.eq_nil_of_length_eq_zero (of_decide_eq_true b)
  obtain rfl : img = [] := List.eq_nil_of_length_eq_zero (of_decide_eq_true c)
  obtain rfl : non = ⟨#[]⟩ := emptyB (of_decide_eq_true d)
  rfl
/-- A valid policy is read back from its form. -/
theorem prsP_valid {p : Pol} (h : isPol p = true) : prsP (fmtP p) = (p, true) := by
  cases hs : p.set with
  | true => exact prsP_fmt hs h
  | false =>
    rw [isPol_zero hs h, fmtP_polZ]; rfl

end Go.Proofs.YtpkicliimhflgaaDoor
namespace Go.Proofs.YtpkicliimhflgaaDoor
open Go.ChangeShapes Go.WideShapes Go.ChangeAt Go.RowKit

theorem max0C_of {w : World} (h : w.ShapedOpen Tryd.prog) : Max0 w := Tryd.laysM145.s1_3 w h
theorem cutN_any (s : ByteArray) (hs : s.size ≤ 1048576) (w : World) (hm : Max0 w) :
    Calls Tryd.prog 63 #[.string s, .string ⟨#[59, 110, 111, 110, 99, 101, 32]⟩] w fun e w' => e = .returned (.tuple #[.string (ofL (Lib.cut s.data.toList kNon.data.toList).1), .string (ofL (Lib.cut s.data.toList kNon.data.toList).2.1), .bool (Lib.cut s.data.toList kNon.data.toList).2.2]) ∧ ∃ n, w' = w.drewN n := by
  obtain ⟨m, hm⟩ := hm
  exact Tryd.strings_Cut s ⟨#[59, 110, 111, 110, 99, 101, 32]⟩ m w (by omega) hm
theorem splS_cons (c : UInt8) (l : List UInt8) : ∃ x xs, splS c l = x :: xs := by
  have h : splS c l ≠ [] := by
    unfold splS
    intro e
    have h2 : splitB c l = [] := List.map_eq_nil_iff.1 e
    have := splitB_ne c l
    exact this h2
  cases hs : splS c l with
  | nil => exact absurd hs h
  | cons x xs => exact ⟨x, xs, rfl⟩
theorem own_first {lo hi : Nat} {w : World} {v : Value} {x : ByteArray} {xs : List ByteArray} (h : OwnK encS 1 9 lo hi w v (x :: xs)) : ∃ g n c, v = .slice (some ⟨g, 0, none⟩) n c ∧ 1 ≤ n ∧ n ≤ c ∧ c ≤ 9223372036854775807 := by
  rcases h.1.2 with ⟨_, h0⟩ | ⟨g, cap, cur, e, _, _, hc, hm, _⟩
  · rw [List.length_cons] at h0; omega
  · unfold maxLen at hm
    exact ⟨g, _, cap, e, by rw [List.length_cons]; omega, hc, by omega⟩

set_option maxHeartbeats 1000000 in
theorem readHosts_any (p : ByteArray) (hz : p.size ≤ 1048576) (w : World) :
    Calls Tryd.prog 65 #[.string p] w (NewO ((splS 32 p.data.toList).tail) w) := by
  obtain ⟨x, xs, hx⟩ := splS_cons 32 p.data.toList
  rw [hx, List.tail_cons]
  have HX := Lib.hid hx; clear hx
  go_enter Tryd.func65, Tryd.ntmps65
  go_wp2_with fail
  refine (split_any p 32 (by omega) _).mono ?_
  rintro e w1 ⟨v, rfl, ho, hb⟩
  rw [HX.out] at ho
  obtain ⟨g, n, c, rfl, hn, hc, hcm⟩ := own_first ho
  have HT := Lib.hid (OwnO.tail ho); have HB := Lib.hid hb; clear ho hb
  by_cases h1 : c = 1
  · subst h1
    obtain rfl : n = 1 := by omega
    rw [if_pos rfl] at HT
    go_wp2_with fail
    go_ret
    exact ⟨_, _, _, rfl, HT.out, HB.out⟩
  · rw [if_neg h1] at HT
    have hn1 : (1 : Int) ≤ (n : Int) := by omega
    have hc1 : (n : Int) ≤ (c : Int) := by omega
    go_wp2_with fail
    go_ret
    exact ⟨_, _, _, rfl, HT.out, HB.out⟩

end Go.Proofs.YtpkicliimhflgaaDoor
namespace Go.Proofs.YtpkicliimhflgaaDoor
open Go.ChangeShapes Go.WideShapes Go.ChangeAt Go.RowKit

def notInS (xs : List ByteArray) (a : ByteArray) (k : Nat) : Prop := ∀ j : Nat, j < k → xs[j]? ≠ some a
theorem notInS.zero (xs : List ByteArray) (a : ByteArray) : notInS xs a 0 := fun _ h => absurd h (Nat.not_lt_zero _)
theorem notInS.succ {xs : List ByteArray} {a x : ByteArray} {k : Nat} (h : notInS xs a k) (hx : xs[k]? = some x) (hne : x ≠ a) : notInS xs a (k + 1) := by
  intro j hj
  by_cases e : j = k
  · subst e; rw [hx]; simpa using hne
  · exact h j (by omega)
theorem hasS_yes {xs : List ByteArray} {a : ByteArray} {k : Nat} (h : xs[k]? = some a) : hasS xs a = true := hasS_iff.2 (List.mem_of_getElem? h)
theorem hasS_no {xs : List ByteArray} {a : ByteArray} {k : Nat} (h : notInS xs a k) (hk : k = xs.length) : hasS xs a = false := by
  refine Bool.eq_false_iff.2 fun hm => ?_
  obtain ⟨j, hj⟩ := List.mem_iff_getElem?.1 (hasS_iff.1 hm)
  exact h j (by have := (List.getElem?_eq_some_iff.1 hj).1; omega) hj
/-- A string in a slice of strings. -/
theorem str_cell {hi n cap k : Nat} {w : World} {a : Option Addr} {xs : List ByteArray} {s : ByteArray} (h : ReadsK encS 1 hi w (.slice a n cap) xs) (hk : xs[k]? = some s) : ∃ g off, a = some ⟨g, off, none⟩ ∧ g < hi ∧ w.cell? ⟨g, off + k, none⟩ = some (.string s) := by
  obtain ⟨a', c', e, _, _, _, hc⟩ := h
  injection e with e1 e2 e3; subst e1
  rcases hc with h0 | ⟨g, off, rfl, hg, hc⟩
  · have := (List.getElem?_eq_some_iff.1 hk).1; omega
  · refine ⟨g, off, rfl, hg, ?_⟩
    have := hc k s hk 0 (by omega)
    rwa [Nat.mul_one] at this
theorem ssAt {xs : List ByteArray} {j : Nat} (h : j < xs.length) : ∃ x, xs[j]? = some x := ⟨_, List.getElem?_eq_getElem h⟩

def sameTo (xs ys : List ByteArray) (k : Nat) : Prop := ∀ j : Nat, j < k → xs[j]? = ys[j]?
theorem sameTo.zero (xs ys : List ByteArray) : sameTo xs ys 0 := fun _ h => absurd h (Nat.not_lt_zero _)
theorem sameTo.succ {xs ys : List ByteArray} {x : ByteArray} {k : Nat} (h : sameTo xs ys k) (hx : xs[k]? = some x) (hy : ys[k]? = some x) : sameTo xs ys (k + 1) := by
  intro j hj
  by_cases e : j = k
  · subst e; rw [hx, hy]
  · exact h j (by omega)
theorem same_all {xs ys : List ByteArray} {k : Nat} (h : sameTo xs ys k) (hx : xs.length = k) (hy : ys.length = k) : decide (xs = ys) = true := by
  refine decide_eq_true (List.ext_getElem? fun j => ?_)
  by_cases hj : j < k
  · exact h j hj
  · rw [List.getElem?_eq_none (by omega), List.getElem?_eq_none (by omega)]
theorem same_not {xs ys : List ByteArray} {x y : ByteArray} {k : Nat} (hx : xs[k]? = some x) (hy : ys[k]? = some y) (h : x ≠ y) : decide (xs = ys) = false := by
  refine decide_eq_false fun e => h ?_
  rw [e, hy] at hx
  exact (Option.some.inj hx).symm
theorem same_len {xs ys : List ByteArray} (h : xs.length ≠ ys.length) : decide (xs = ys) = false := decide_eq_false fun e => h (by rw [e])

set_option maxHeartbeats 1000000 in
theorem equalS_lib (v u : Value) (hi hi' : Nat) (xs ys : List ByteArray) (w : World) (hr : ReadsK encS 1 hi w v xs) (hr' : ReadsK encS 1 hi' w u ys) :
    Calls Tryd.prog 78 #[v, u] w fun e w' => e = .returned (.bool (decide (xs = ys))) ∧ Grw w w' := by
  obtain ⟨a, cap, rfl, hc1, hc2, _⟩ := id hr
  obtain ⟨a', cap', rfl, hc1', hc2', _⟩ := id hr'
  by_cases hl : xs.length = ys.length
  · obtain ⟨n, hn⟩ : ∃ n, ys.length = n := ⟨_, rfl⟩
    have hx := hl.trans hn
    rw [hx] at hr hc1; rw [hx, hn]; rw [hn] at hr' hc1'
    have HX := Lib.hid hx; have HY := Lib.hid hn; have HR := Lib.hid hr; have HR' := Lib.hid hr'; clear hx hn hr hr' hl
    have hnn : ((n : Int) == (n : Int)) = true := beq_self_eq_true _
    have hnb : ((n : Int) != (n : Int)) = false := by rw [bne, hnn]; rfl
    go_enter Tryd.func78, Tryd.ntmps78
    go_wp2
    go_loopw [13] (fun i wr => ∃ (k : Nat), k ≤ n ∧ i = .int .i64 k ∧ sameTo xs ys k ∧ Grw w wr) (fun i _ => n - (intOf i).toNat)
    case atStart => exact ⟨0, Nat.zero_le _, rfl, sameTo.zero _ _, Grw.refl _⟩
    case round =>
      obtain ⟨k, hk, rfl, hs, hg⟩ := hrel
      have HS := Lib.hid hs; have HG := Lib.hid hg; clear hs hg
      by_cases hlt : (k : Int) < (n : Int)
      · obtain ⟨x, hx⟩ := ssAt (xs := xs) (j := k) (by have := HX.out; omega)
        obtain ⟨y, hy⟩ := ssAt (xs := ys) (j := k) (by have := HY.out; omega)
        obtain ⟨g, off, rfl, hg, c0⟩ := str_cell HR.out hx
        obtain ⟨g', off', rfl, hg', c1⟩ := str_cell HR'.out hy
        replace c0 := (HG.out.below.cell (show (⟨g, off + k, none⟩ : Addr).block < _ from World.block_lt_of_cell? _ _ c0)).trans c0
        replace c1 := (HG.out.below.cell (show (⟨g', off' + k, none⟩ : Addr).block < _ from World.block_lt_of_cell? _ _ c1)).trans c1
        clear hg hg'
        have HXA := Lib.hid hx; have HYA := Lib.hid hy; clear hx hy
        by_cases e1 : x = y
        · have e2 : (x.toList == y.toList) = true := beqL_yes e1
          have e3 : (x.toList != y.toList) = false := by rw [bne, e2]; rfl
          have HN := Lib.hid (HS.out.succ HXA.out (by rw [HYA.out, e1]))
          clear e1
          go_wp2
          go_quiet (fail)
          go_wp2
          go_roundw
          case rel => exact ⟨k + 1, by omega, by go_num, HN.out, HG.out.drewN _⟩
          case measure => simp [intOf]; omega
        · have e2 : (x.toList == y.toList) = false := beqL_no e1
          have e3 : (x.toList != y.toList) = true := by rw [bne, e2]; rfl
          have HV := Lib.hid (same_not HXA.out HYA.out e1)
          clear e1
          go_wp2
          go_quiet (fail)
          go_wp2
          go_ret
          exact ⟨by rw [HV.out]; rfl, HG.out.drewN _⟩
      · have hlf : decide ((k : Int) < (n : Int)) = false := decide_eq_false hlt
        have HV := Lib.hid (same_all (k := n) (by rw [show n = k by omega]; exact HS.out) HX.out HY.out)
        go_wp2
        go_ret
        exact ⟨by rw [HV.out]; rfl, HG.out⟩
  · have HV := Lib.hid (same_len hl)
    obtain ⟨n, hn⟩ : ∃ n, xs.length = n := ⟨_, rfl⟩
    obtain ⟨n', hn'⟩ : ∃ n, ys.length = n := ⟨_, rfl⟩
    rw [hn] at hc1 hl; rw [hn, hn']; rw [hn'] at hc1' hl
    have hnn : ((n : Int) == (n' : Int)) = false := beq_eq_false_iff_ne.2 (by omega)
    have hnb : ((n : Int) != (n' : Int)) = true := by rw [bne, hnn]; rfl
    clear hr hr' hn hn' hl
    go_enter Tryd.func78, Tryd.ntmps78
    go_wp2
    go_ret
    exact ⟨by rw [HV.out]; rfl, Grw.refl _⟩

end Go.Proofs.YtpkicliimhflgaaDoor
namespace Go.Proofs.YtpkicliimhflgaaDoor
open Go.ChangeShapes Go.WideShapes Go.ChangeAt Go.RowKit

theorem empP_size (s : ByteArray) : (s.toList == []) = decide (s.size = 0) := by
  by_cases h : s.size = 0
  · obtain rfl := emptyB h; rw [ByteArray.toList_eq]; rfl
  · rw [decide_eq_false h]
    refine beq_eq_false_iff_ne.2 fun e => h ?_
    rw [ByteArray.toList_eq] at e
    rw [← size_list, e]; rfl

/-- KindName. -/
def knB (k : Int) : ByteArray := if k = 1 then ⟨#[112, 97, 103, 101]⟩ else if k = 2 then ⟨#[115, 99, 114, 105, 112, 116]⟩ else if k = 3 then ⟨#[115, 116, 121, 108, 101]⟩ else if k = 4 then ⟨#[105, 109, 97, 103, 101]⟩ else if k = 5 then ⟨#[109, 111, 100, 117, 108, 101]⟩ else ⟨#[]⟩

end Go.Proofs.YtpkicliimhflgaaDoor

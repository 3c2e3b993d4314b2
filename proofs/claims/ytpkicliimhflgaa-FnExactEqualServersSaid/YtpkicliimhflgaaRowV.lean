/- What files and servers that came in are, for the walks. Helper facts, no claim of its own. -/
import Derived.Test.YtpkicliimhflgaaRowS
import Derived.Test.YtpkicliimhflgaaRowQ
import Derived.Test.YtpkicliimhflgaaSe
namespace Go.Proofs.Ytpkicliimhflgaa
open Go.ChangeShapes Go.WideShapes Go.ChangeAt Go.RowKit Go.Joins Go.Deep

instance : Inhabited Fl := ⟨⟨⟨#[]⟩, ⟨0, 0, ⟨#[]⟩, 0, false, ⟨#[]⟩⟩⟩⟩
instance : Inhabited Se := ⟨((⟨#[]⟩, []), svNil)⟩
theorem list7 {α : Type} {a : List α} (h : a.length = 7) : ∃ x0 x1 x2 x3 x4 x5 x6, a = [x0, x1, x2, x3, x4, x5, x6] := by
  match a, h with
  | [x0, x1, x2, x3, x4, x5, x6], _ => exact ⟨x0, x1, x2, x3, x4, x5, x6, rfl⟩
theorem list2 {α : Type} {a : List α} (h : a.length = 2) : ∃ x0 x1, a = [x0, x1] := by
  match a, h with
  | [x0, x1], _ => exact ⟨x0, x1, rfl⟩
/-- A slice of files that came in. -/
def IsFls (w : World) (v : Value) (fs : List Fl) : Prop := ReadsK encF 7 w.heap.size w v fs ∧ ∀ f ∈ fs, FlOk f

set_option maxRecDepth 100000 in
theorem files_of {H : Type} {enc : TypeId × Value → H} {W : World} {fuel : Nat} {v : Value} {d : DataW H × List MemPlace} (hf : DataW.trod enc Try.prog W 0 (fun _ => true) true fuel 39 [v] = some d) :
    ∃ fs, IsFls W v fs := by
  rcases open_slice Try.underlying39 hf with ⟨hcs, _⟩ | ⟨x, len, cap, m, n, D, Pl, hcs, _, hl, hc, hm, _, hel⟩
  · obtain rfl : v = .slice none 0 0 := by simpa using hcs
    exact ⟨[], ⟨none, 0, rfl, Nat.le_refl _, by omega, (fun _ => rfl), Or.inl rfl⟩, by simp⟩
  · obtain rfl : v = .slice (some x) len cap := by simpa using hcs
    simp only [if_true] at hm
    subst hm
    have hC : Try.prog.cellsOf 64 = 7 := by kernel_rfl
    rw [hC] at hel
    have es : Try.prog.cellsOf 9 = 1 := by kernel_rfl
    have ei : Try.prog.cellsOf 3 = 1 := by kernel_rfl
    have eb : Try.prog.cellsOf 4 = 1 := by kernel_rfl
    have er : Try.prog.cellsOf 62 = 6 := by kernel_rfl
    have hx : ∀ i, i < len → ∃ y : Fl, (∀ t, t < 7 → W.cell? (x.add (i * 7 + t)) = (encF y)[t]?) ∧ FlOk y := by
      intro i hi
      obtain ⟨cs, h1, h2⟩ := hel i (by omega)
      obtain ⟨hlen, hat⟩ := cells?_at h1
      obtain ⟨c0, c1, c2, c3, c4, c5, c6, rfl⟩ := list7 hlen
      obtain ⟨n0, hf0⟩ := fields_at Try.underlying64 h2
      obtain ⟨y0, t0⟩ := hf0 0 _ rfl
      obtain ⟨y1, t1⟩ := hf0 1 _ rfl
      replace t0 : DataW.trod enc Try.prog W 0 (fun _ => true) true n0 9 [c0] = some y0 := by
        have h := t0; change DataW.trod _ _ _ _ _ _ _ 9 (List.take (Try.prog.cellsOf 9) _) = _ at h; rw [es] at h; exact h
      replace t1 : DataW.trod enc Try.prog W 0 (fun _ => true) true n0 62 [c1, c2, c3, c4, c5, c6] = some y1 := by
        have h := t1; change DataW.trod _ _ _ _ _ _ _ 62 (List.take (Try.prog.cellsOf 62) _) = _ at h; rw [er] at h; exact h
      obtain ⟨n1, hf1⟩ := fields_at Try.underlying62 t1
      obtain ⟨z0, u0⟩ := hf1 0 _ rfl
      obtain ⟨z1, u1⟩ := hf1 1 _ rfl
      obtain ⟨z2, u2⟩ := hf1 2 _ rfl
      obtain ⟨z3, u3⟩ := hf1 3 _ rfl
      obtain ⟨z4, u4⟩ := hf1 4 _ rfl
      obtain ⟨z5, u5⟩ := hf1 5 _ rfl
      replace u0 : DataW.trod enc Try.prog W 0 (fun _ => true) true n1 3 [c1] = some z0 := by
        have h := u0; change DataW.trod _ _ _ _ _ _ _ 3 (List.take (Try.prog.cellsOf 3) _) = _ at h; rw [ei] at h; exact h
      replace u1 : DataW.trod enc Try.prog W 0 (fun _ => true) true n1 3 [c2] = some z1 := by
        have h := u1; change DataW.trod _ _ _ _ _ _ _ 3 (List.take (Try.prog.cellsOf 3) _) = _ at h; rw [ei] at h; exact h
      replace u2 : DataW.trod enc Try.prog W 0 (fun _ => true) true n1 9 [c3] = some z2 := by
        have h := u2; change DataW.trod _ _ _ _ _ _ _ 9 (List.take (Try.prog.cellsOf 9) _) = _ at h; rw [es] at h; exact h
      replace u3 : DataW.trod enc Try.prog W 0 (fun _ => true) true n1 3 [c4] = some z3 := by
        have h := u3; change DataW.trod _ _ _ _ _ _ _ 3 (List.take (Try.prog.cellsOf 3) _) = _ at h; rw [ei] at h; exact h
      replace u4 : DataW.trod enc Try.prog W 0 (fun _ => true) true n1 4 [c5] = some z4 := by
        have h := u4; change DataW.trod _ _ _ _ _ _ _ 4 (List.take (Try.prog.cellsOf 4) _) = _ at h; rw [eb] at h; exact h
      replace u5 : DataW.trod enc Try.prog W 0 (fun _ => true) true n1 9 [c6] = some z5 := by
        have h := u5; change DataW.trod _ _ _ _ _ _ _ 9 (List.take (Try.prog.cellsOf 9) _) = _ at h; rw [es] at h; exact h
      obtain ⟨pa, k0, _, w0⟩ := DataW.trod_string Try.underlying9 t0
      obtain ⟨st, k1, _, w1⟩ := DataW.trod_int Try.underlying3 u0
      obtain ⟨kd, k2, _, w2⟩ := DataW.trod_int Try.underlying3 u1
      obtain ⟨bo, k3, _, w3⟩ := DataW.trod_string Try.underlying9 u2
      obtain ⟨ag, k4, _, w4⟩ := DataW.trod_int Try.underlying3 u3
      obtain ⟨sh, k5, _⟩ := DataW.trod_bool Try.underlying4 u4
      obtain ⟨po, k6, _, w6⟩ := DataW.trod_string Try.underlying9 u5
      cases k0; cases k1; cases k2; cases k3; cases k4; cases k5; cases k6
      refine ⟨⟨pa, ⟨st, kd, bo, ag, sh, po⟩⟩, fun t ht => ?_, w0, w3, w6⟩
      have h := hat t ht
      rw [add_add] at h
      exact h
    obtain ⟨f, hf⟩ := choose_lt hx
    refine ⟨(List.range len).map f, ⟨some x, _, by rw [List.length_map, List.length_range], by simpa using hl, by unfold maxLen at hc; omega, (fun h => by cases h), ?_⟩, ?_⟩
    · by_cases h0 : len = 0
      · exact Or.inl (by simpa using h0)
      · obtain ⟨blk, off, spot⟩ := x
        have c0 := (hf 0 (by omega)).1 0 (by decide)
        have hspot : spot = none := by simpa [Addr.add] using World.cell?_spot (c0.trans (show _ = some (Value.string (f 0).pa) from rfl))
        subst hspot
        have hlt : blk < W.heap.size := by
          have := World.block_lt_of_cell? W _ (c0.trans (show _ = some (Value.string (f 0).pa) from rfl))
          rwa [add_lit] at this
        refine Or.inr ⟨blk, off, rfl, hlt, fun j y hj i hi' => ?_⟩
        have hjl : j < len := by have := (List.getElem?_eq_some_iff.1 hj).1; simpa using this
        simp [hjl] at hj
        subst hj
        have h := (hf j hjl).1 i hi'
        rw [add_lit] at h
        rw [Nat.add_assoc]; exact h
    · intro r hr
      obtain ⟨i, hi, rfl⟩ := List.mem_map.1 hr
      exact (hf i (List.mem_range.1 hi)).2

/-- A slice of servers that came in. -/
def IsSvs (w : World) (v : Value) (ss : List Se) : Prop := ReadV w.heap.size w v ss ∧ ∀ p ∈ ss, SvOk p
set_option maxRecDepth 100000 in
theorem servers_of {H : Type} {enc : TypeId × Value → H} {W : World} {fuel : Nat} {v : Value} {d : DataW H × List MemPlace} (hf : DataW.trod enc Try.prog W 0 (fun _ => true) true fuel 22 [v] = some d) :
    ∃ ss, IsSvs W v ss := by
  rcases open_slice Try.underlying22 hf with ⟨hcs, _⟩ | ⟨x, len, cap, m, n, D, Pl, hcs, _, hl, hc, hm, _, hel⟩
  · obtain rfl : v = .slice none 0 0 := by simpa using hcs
    exact ⟨[], ⟨⟨none, 0, rfl, Nat.le_refl _, by omega, (fun _ => rfl), Or.inl rfl⟩, by simp⟩, by simp⟩
  · obtain rfl : v = .slice (some x) len cap := by simpa using hcs
    simp only [if_true] at hm
    subst hm
    have hC : Try.prog.cellsOf 41 = 2 := by kernel_rfl
    rw [hC] at hel
    have es : Try.prog.cellsOf 9 = 1 := by kernel_rfl
    have el : Try.prog.cellsOf 39 = 1 := by kernel_rfl
    have hx : ∀ i, i < len → ∃ p : Se, (∀ t, t < 2 → W.cell? (x.add (i * 2 + t)) = (encG p)[t]?) ∧ p.1.1.size ≤ 9223372036854775807 ∧ IsFls W (sv p.2) p.1.2 := by
      intro i hi
      obtain ⟨cs, h1, h2⟩ := hel i (by omega)
      obtain ⟨hlen, hat⟩ := cells?_at h1
      obtain ⟨c0, c1, rfl⟩ := list2 hlen
      obtain ⟨n0, hf0⟩ := fields_at Try.underlying41 h2
      obtain ⟨y0, t0⟩ := hf0 0 _ rfl
      obtain ⟨y1, t1⟩ := hf0 1 _ rfl
      replace t0 : DataW.trod enc Try.prog W 0 (fun _ => true) true n0 9 [c0] = some y0 := by
        have h := t0; change DataW.trod _ _ _ _ _ _ _ 9 (List.take (Try.prog.cellsOf 9) _) = _ at h; rw [es] at h; exact h
      replace t1 : DataW.trod enc Try.prog W 0 (fun _ => true) true n0 39 [c1] = some y1 := by
        have h := t1; change DataW.trod _ _ _ _ _ _ _ 39 (List.take (Try.prog.cellsOf 39) _) = _ at h; rw [el] at h; exact h
      obtain ⟨ho, k0, _, w0⟩ := DataW.trod_string Try.underlying9 t0
      cases k0
      obtain ⟨aa, al, ac, rfl⟩ := slice_in Try.underlying39 t1
      obtain ⟨fs, hfs⟩ := files_of (enc := enc) (W := W) t1
      refine ⟨((ho, fs), (aa, al, ac)), fun t ht => ?_, w0, hfs⟩
      have h := hat t ht
      rw [add_add] at h
      exact h
    obtain ⟨f, hf⟩ := choose_lt hx
    refine ⟨(List.range len).map f, ⟨⟨some x, _, by rw [List.length_map, List.length_range], by simpa using hl, by unfold maxLen at hc; omega, (fun h => by cases h), ?_⟩, fun p hp => ?_⟩, fun p hp => ?_⟩
    · by_cases h0 : len = 0
      · exact Or.inl (by simpa using h0)
      · obtain ⟨blk, off, spot⟩ := x
        have c0 := (hf 0 (by omega)).1 0 (by decide)
        have hspot : spot = none := by simpa [Addr.add] using World.cell?_spot (c0.trans (show _ = some (Value.string (f 0).1.1) from rfl))
        subst hspot
        have hlt : blk < W.heap.size := by
          have := World.block_lt_of_cell? W _ (c0.trans (show _ = some (Value.string (f 0).1.1) from rfl))
          rwa [add_lit] at this
        refine Or.inr ⟨blk, off, rfl, hlt, fun j y hj i hi' => ?_⟩
        have hjl : j < len := by have := (List.getElem?_eq_some_iff.1 hj).1; simpa using this
        simp [hjl] at hj
        subst hj
        have h := (hf j hjl).1 i hi'
        rw [add_lit] at h
        rw [Nat.add_assoc]; exact h
    · obtain ⟨i, hi, rfl⟩ := List.mem_map.1 hp
      exact (hf i (List.mem_range.1 hi)).2.2.1
    · obtain ⟨i, hi, rfl⟩ := List.mem_map.1 hp
      exact ⟨(hf i (List.mem_range.1 hi)).2.1, (hf i (List.mem_range.1 hi)).2.2.2⟩
theorem servers_arg {H : Type} {enc : TypeId × Value → H} {W : World} {v : Value} {d : DataW H} {p : List MemPlace} (hv : ∃ a n c, v = .slice a n c) (h : DataW.Trod enc Try.prog W 0 (fun _ => true) true 22 v d p) : ∃ ss, IsSvs W v ss := by
  obtain ⟨a, n, c, rfl⟩ := hv
  obtain ⟨fuel, hf⟩ := h
  exact servers_of hf

set_option maxRecDepth 100000 in
theorem server_of {H : Type} {enc : TypeId × Value → H} {W : World} {base : Nat} {v : Value} {d : DataW H} {p : List MemPlace} (hv : Value.okWide Try.prog W .any base 41 v) (h : DataW.Trod enc Try.prog W 0 (fun _ => true) true 41 v d p) :
    ∃ (ho : ByteArray) (a : Option Addr) (n c : Nat) (fs : List Fl), v = .agg #[.string ho, .slice a n c] ∧ ho.size ≤ 9223372036854775807 ∧ IsFls W (.slice a n c) fs := by
  obtain ⟨v0, v1, y0, y1, n, rfl, _, _, h0, h1⟩ := open_agg2 Try.underlying41 (by kernel_rfl) (by kernel_rfl) hv h
  obtain ⟨s, e0, _, w0⟩ := DataW.trod_string Try.underlying9 h0
  cases e0
  obtain ⟨a, l, c, rfl⟩ := slice_in Try.underlying39 h1
  obtain ⟨fs, hfs⟩ := files_of (enc := enc) (W := W) h1
  exact ⟨s, a, l, c, fs, rfl, w0, hfs⟩
end Go.Proofs.Ytpkicliimhflgaa

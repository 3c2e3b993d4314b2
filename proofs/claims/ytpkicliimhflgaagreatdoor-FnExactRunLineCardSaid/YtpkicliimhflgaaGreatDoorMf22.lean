/- What a line, and a slice of lines, that came in is, for the walks. Helper facts, no claim of its own. -/
import Derived.Test.YtpkicliimhflgaaGreatDoorMf20
import Derived.Test.YtpkicliimhflgaaGreatDoorMf21
namespace Go.Proofs.YtpkicliimhflgaaGreatDoor
open Go.ChangeShapes Go.WideShapes Go.ChangeAt Go.RowKit Go.Joins Go.Deep

/-- A slice of lines that came in. -/
def IsLns (w : World) (v : Value) (rs : List Lnv) : Prop := ReadsK encL 2 w.heap.size w v rs ∧ ∀ r ∈ rs, LnOk r
set_option maxRecDepth 100000 in
theorem lines_of {H : Type} {enc : TypeId × Value → H} {W : World} {fuel : Nat} {v : Value} {d : DataW H × List MemPlace} (hf : DataW.trod enc Tryz.prog W 0 (fun _ => true) true fuel 72 [v] = some d) :
    ∃ rs, IsLns W v rs := by
  rcases open_slice Tryz.underlying72 hf with ⟨hcs, _⟩ | ⟨x, len, cap, m, n, D, Pl, hcs, _, hl, hc, hm, _, hel⟩
  · obtain rfl : v = .slice none 0 0 := by simpa using hcs
    exact ⟨[], ⟨none, 0, rfl, Nat.le_refl _, by omega, (fun _ => rfl), Or.inl rfl⟩, by simp⟩
  · obtain rfl : v = .slice (some x) len cap := by simpa using hcs
    simp only [if_true] at hm
    subst hm
    have hC : Tryz.prog.cellsOf 61 = 2 := by kernel_rfl
    rw [hC] at hel
    have hstr : Tryz.prog.cellsOf 9 = 1 := by kernel_rfl
    have hint : Tryz.prog.cellsOf 3 = 1 := by kernel_rfl
    have hx : ∀ i, i < len → ∃ y : Lnv, W.cell? (x.add (i * 2)) = some (.int .i64 y.1) ∧ W.cell? (x.add (i * 2 + 1)) = some (.string y.2) ∧ LnOk y := by
      intro i hi
      obtain ⟨cs, h1, h2⟩ := hel i (by omega)
      obtain ⟨hlen, hat⟩ := cells?_at h1
      obtain ⟨y0, y1, n', _, _, t0, t1⟩ := trod_struct2 Tryz.underlying61 h2
      obtain ⟨s, e0, _, w0⟩ := DataW.trod_int Tryz.underlying3 t0
      obtain ⟨t, e1, _, w1⟩ := DataW.trod_string Tryz.underlying9 t1
      obtain ⟨c0, c1, rfl⟩ : ∃ c0 c1, cs = [c0, c1] := by
        rcases cs with _ | ⟨c0, _ | ⟨c1, _ | ⟨c2, cs⟩⟩⟩
        · cases hlen
        · cases hlen
        · exact ⟨c0, c1, rfl⟩
        · exact absurd (congrArg (fun n => n - 2) hlen) (by simp)
      simp [hstr, hint] at e0 e1
      have g0 := hat 0 (by omega)
      have g1 := hat 1 (by omega)
      rw [add_add] at g0 g1
      simp at g0 g1
      have hk := i64_range w0
      exact ⟨(s, t), by rw [g0, e0], by rw [g1, e1], w1, hk.1, hk.2⟩
    obtain ⟨f, hf⟩ := choose_lt hx
    refine ⟨(List.range len).map f, ⟨some x, _, by rw [List.length_map, List.length_range], by simpa using hl, by unfold maxLen at hc; omega, (fun h => by cases h), ?_⟩, ?_⟩
    · by_cases h0 : len = 0
      · exact Or.inl (by simpa using h0)
      · obtain ⟨blk, off, spot⟩ := x
        have c0 := (hf 0 (by omega)).1
        have hspot : spot = none := by simpa [Addr.add] using World.cell?_spot c0
        subst hspot
        have hlt : blk < W.heap.size := by
          have := World.block_lt_of_cell? W _ c0
          rwa [add_lit] at this
        refine Or.inr ⟨blk, off, rfl, hlt, fun j y hj i hi' => ?_⟩
        have hjl : j < len := by have := (List.getElem?_eq_some_iff.1 hj).1; simpa using this
        simp [hjl] at hj
        subst hj
        obtain ⟨g0, g1, _⟩ := hf j hjl
        rw [add_lit] at g0 g1
        rcases (show i = 0 ∨ i = 1 by omega) with rfl | rfl
        · rw [Nat.add_zero]; exact g0
        · rw [Nat.add_assoc]; exact g1
    · intro r hr
      obtain ⟨i, hi, rfl⟩ := List.mem_map.1 hr
      exact (hf i (List.mem_range.1 hi)).2.2
theorem lines_arg {H : Type} {enc : TypeId × Value → H} {W : World} {v : Value} {d : DataW H} {p : List MemPlace} (hv : ∃ a n c, v = .slice a n c) (h : DataW.Trod enc Tryz.prog W 0 (fun _ => true) true 72 v d p) : ∃ rs, IsLns W v rs := by
  obtain ⟨a, n, c, rfl⟩ := hv
  obtain ⟨fuel, hf⟩ := h
  exact lines_of hf
set_option maxRecDepth 100000 in
theorem line_of {H : Type} {enc : TypeId × Value → H} {W : World} {base : Nat} {v : Value} {d : DataW H} {p : List MemPlace} (hv : Value.okWide Tryz.prog W .any base 61 v) (h : DataW.Trod enc Tryz.prog W 0 (fun _ => true) true 61 v d p) :
    ∃ (op : Int) (tx : ByteArray), v = .agg #[.int .i64 op, .string tx] ∧ LnOk (op, tx) := by
  obtain ⟨v0, v1, y0, y1, n, rfl, _, _, h0, h1⟩ := open_agg2 Tryz.underlying61 (by kernel_rfl) (by kernel_rfl) hv h
  obtain ⟨s, e0, _, w0⟩ := DataW.trod_int Tryz.underlying3 h0
  obtain ⟨t, e1, _, w1⟩ := DataW.trod_string Tryz.underlying9 h1
  cases e0
  cases e1
  have hk := i64_range w0
  exact ⟨s, t, rfl, w1, hk.1, hk.2⟩
end Go.Proofs.YtpkicliimhflgaaGreatDoor

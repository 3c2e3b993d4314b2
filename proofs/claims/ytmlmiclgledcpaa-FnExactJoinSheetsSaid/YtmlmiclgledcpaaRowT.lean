/- What a tokenizer, a token, and a slice of attributes, that came in is, for the walks. Helper facts, no claim of its own. -/
import Derived.Test.YtmlmiclgledcpaaTagP
import Derived.Lib.SmallJoins
import Derived.Deep.Slices
import Derived.ShutString
import Derived.ChangeOld
import Derived.Carry
namespace Go.Proofs.Ytmlmiclgledcpaa
open Go.ChangeShapes Go.WideShapes Go.ChangeAt Go.RowKit Go.Joins Go.Deep

theorem add_lit (g off j : Nat) : (⟨g, off, none⟩ : Addr).add j = ⟨g, off + j, none⟩ := by
  unfold Addr.add
  split
  · rename_i h4; subst h4; rfl
  · rfl
theorem mapM_at {f : Nat → Option Value} : ∀ {l : List Nat} {cs : List Value}, l.mapM f = some cs → cs.length = l.length ∧ ∀ i j : Nat, l[i]? = some j → f j = cs[i]?
  | [], cs, h => by
    have : cs = [] := by simpa using h.symm
    subst this
    exact ⟨rfl, fun i j h => by simp at h⟩
  | a :: l, cs, h => by
    rw [List.mapM_cons] at h
    obtain ⟨v, hv, h⟩ := Option.bind_eq_some_iff.1 h
    obtain ⟨vs, hvs, h⟩ := Option.bind_eq_some_iff.1 h
    have : cs = v :: vs := by simpa using h.symm
    subst this
    obtain ⟨k1, k2⟩ := mapM_at hvs
    refine ⟨by simp [k1], fun i j hj => ?_⟩
    cases i with
    | zero =>
      have : a = j := by simpa using hj
      subst this
      simpa using hv
    | succ i => simpa using k2 i j (by simpa using hj)
theorem cells?_at {w : World} {base n : Nat} {a : Addr} {cs : List Value} (h : w.cells? base a n = some cs) : cs.length = n ∧ ∀ i, i < n → w.cell? (a.add i) = cs[i]? := by
  unfold World.cells? at h
  split at h
  · obtain ⟨k1, k2⟩ := mapM_at h
    rw [List.length_range] at k1
    exact ⟨k1, fun i hi => k2 i i (by rw [List.getElem?_range hi])⟩
  · cases h

/-- The strings of an attribute are no longer than a string may be. -/
def AtOk (a : At) : Prop := a.1.size ≤ 9223372036854775807 ∧ a.2.size ≤ 9223372036854775807
theorem atCells_small {ats : List At} (h : ∀ a ∈ ats, AtOk a) : SmallL (atCells ats) := by
  induction ats with
  | nil => rw [atCells, SmallL]; trivial
  | cons a ats ih =>
    rw [atCells, SmallL, SmallL, Rw.Small, Rw.Small]
    exact ⟨(h a List.mem_cons_self).1, (h a List.mem_cons_self).2, ih fun b hb => h b (List.mem_cons_of_mem _ hb)⟩
theorem rwA_small {v : Value} {ats : List At} (h : ∀ a ∈ ats, AtOk a) : (rwA v ats).Small := by rw [rwA, Rw.Small]; exact atCells_small h
/-- A slice of attributes that came in. -/
def IsAts (w : World) (a : Option Addr) (len cap : Nat) (xs : List At) : Prop :=
  ReadsK encA 2 w.heap.size w (.slice a len cap) xs ∧ xs.length = len ∧ ∀ x ∈ xs, AtOk x

theorem attrs_of {H : Type} {enc : TypeId × Value → H} {W : World} {a : Option Addr} {len cap : Nat} {d : DataW H} {p : List MemPlace} (h : DataW.Trod enc Try.prog W 0 (fun _ => true) true 155 (.slice a len cap) d p) :
    ∃ xs, IsAts W a len cap xs := by
  obtain ⟨fuel, hf⟩ := h
  rcases open_slice Try.underlying155 hf with ⟨hcs, _⟩ | ⟨x, l, c, m, n, D, Pl, hcs, _, hl, hc, hm, _, hel⟩
  · simp [Value.cells] at hcs
    obtain ⟨rfl, rfl, rfl⟩ := hcs
    exact ⟨[], ⟨none, 0, rfl, Nat.le_refl _, by omega, (fun _ => rfl), Or.inl rfl⟩, rfl, by simp⟩
  · simp [Value.cells] at hcs
    obtain ⟨rfl, rfl, rfl⟩ := hcs
    simp only [if_true] at hm
    subst hm
    have hC : Try.prog.cellsOf 185 = 2 := by kernel_rfl
    rw [hC] at hel
    have hstr : Try.prog.cellsOf 9 = 1 := by kernel_rfl
    have hx : ∀ i, i < len → ∃ y : At, W.cell? (x.add (i * 2)) = some (.string y.1) ∧ W.cell? (x.add (i * 2 + 1)) = some (.string y.2) ∧ AtOk y := by
      intro i hi
      obtain ⟨cs, h1, h2⟩ := hel i (by omega)
      obtain ⟨hlen, hat⟩ := cells?_at h1
      obtain ⟨y0, y1, n', _, _, t0, t1⟩ := trod_struct2 Try.underlying185 h2
      obtain ⟨s, e0, _, w0⟩ := DataW.trod_string Try.underlying9 t0
      obtain ⟨t, e1, _, w1⟩ := DataW.trod_string Try.underlying9 t1
      simp only [hstr] at e0 e1
      obtain ⟨c0, c1, rfl⟩ : ∃ c0 c1, cs = [c0, c1] := by
        rcases cs with _ | ⟨c0, _ | ⟨c1, _ | ⟨c2, cs⟩⟩⟩
        · cases hlen
        · cases hlen
        · exact ⟨c0, c1, rfl⟩
        · exact absurd (congrArg (fun n => n - 2) hlen) (by simp)
      simp at e0 e1
      have g0 := hat 0 (by omega)
      have g1 := hat 1 (by omega)
      rw [add_add] at g0 g1
      simp at g0 g1
      exact ⟨(s, t), by rw [g0, e0], by rw [g1, e1], w0, w1⟩
    obtain ⟨f, hf⟩ := choose_lt hx
    refine ⟨(List.range len).map f, ⟨some x, _, by rw [List.length_map, List.length_range], by simpa using hl, by unfold maxLen at hc; omega, (fun h => by cases h), ?_⟩, by simp, ?_⟩
    · by_cases h0 : len = 0
      · exact Or.inl (by simpa using h0)
      · obtain ⟨blk, off, spot⟩ := x
        have c0 := (hf 0 (by omega)).1
        have hspot : spot = none := by simpa [Addr.add] using World.cell?_spot c0
        subst hspot
        have hlt : blk < W.heap.size := by
          have := World.block_lt_of_cell? W _ c0
          rwa [add_lit] at this
        refine Or.inr ⟨blk, off, rfl, hlt, fun j y hj i hi' => ?_⟩
        have hjl : j < len := by have := (List.getElem?_eq_some_iff.1 hj).1; simpa using this
        simp [hjl] at hj
        subst hj
        obtain ⟨g0, g1, _⟩ := hf j hjl
        rw [add_lit] at g0 g1
        rcases (show i = 0 ∨ i = 1 by omega) with rfl | rfl
        · rw [Nat.add_zero]; exact g0
        · rw [Nat.add_assoc]; exact g1
    · intro y hy
      obtain ⟨i, hi, rfl⟩ := List.mem_map.1 hy
      exact (hf i (List.mem_range.1 hi)).2.2

theorem array1 {α : Type} {cs : Array α} (h : cs.size = 1) : ∃ c0, cs = #[c0] := by
  obtain ⟨l⟩ := cs
  match l, h with
  | [c0], _ => exact ⟨c0, rfl⟩
set_option maxRecDepth 100000 in
theorem open_agg1 {P : Program} {H : Type} {enc : TypeId × Value → H} {w : World} {base : Nat} {spare : Nat → Bool} {held : Bool} {r : Reach} {b0 : Nat} {t : TypeId} {f0 : Field} {v : Value} {d : DataW H} {p : List MemPlace} (hs : P.underlying t = some (.struct #[f0])) (hone : oneCellFields P #[f0] = true) (hC : P.cellsOf t = 1)
    (hv : Value.okWide P w r b0 t v) (h : DataW.Trod enc P w base spare held t v d p) :
    ∃ (v0 : Value) (y0 : DataW H × List MemPlace) (n : Nat), v = .agg #[v0] ∧ d = .agg [y0.1] ∧ p = y0.2 ∧ DataW.trod enc P w base spare held n f0.type [v0] = some y0 := by
  obtain ⟨cs, rfl, hsz⟩ := okWide_struct hs hv
  obtain ⟨c0, rfl⟩ := array1 (hsz.trans hC)
  obtain ⟨fuel, hf⟩ := h
  obtain ⟨y0, n, hx, _, h0⟩ := trod_struct1 hs hf
  obtain ⟨o0, k0⟩ := hone_of hone 0 f0 rfl
  simp only [Prod.mk.injEq] at hx
  exact ⟨c0, y0, n, rfl, hx.1, hx.2, by simpa [Value.cells, o0, k0] using h0⟩
end Go.Proofs.Ytmlmiclgledcpaa

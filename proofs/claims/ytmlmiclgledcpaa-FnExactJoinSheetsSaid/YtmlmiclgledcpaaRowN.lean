/- What a builder, and a slice of tokens, that came in is, for the walks. Helper facts, no claim of its own. -/
import Derived.Test.YtmlmiclgledcpaaRowT
import Derived.Test.YtmlmiclgledcpaaRowReads
import Derived.Test.YtmlmiclgledcpaaNd
namespace Go.Proofs.Ytmlmiclgledcpaa
open Go.ChangeShapes Go.WideShapes Go.ChangeAt Go.RowKit Go.Joins Go.Deep

theorem trod_struct4 {P : Program} {H : Type} {enc : TypeId × Value → H} {w : World} {base : Nat} {spare : Nat → Bool} {held : Bool} {t : TypeId} {f0 f1 f2 f3 : Field} {fuel : Nat} {cs : List Value} {x : DataW H × List MemPlace} (ht : P.underlying t = some (.struct #[f0, f1, f2, f3])) (h : DataW.trod enc P w base spare held fuel t cs = some x) :
    ∃ y0 y1 y2 y3 n, x = (.agg [y0.1, y1.1, y2.1, y3.1], y0.2 ++ (y1.2 ++ (y2.2 ++ y3.2))) ∧ cs.length = P.cellsOf t ∧ DataW.trod enc P w base spare held n f0.type ((cs.drop f0.offset).take (P.cellsOf f0.type)) = some y0 ∧
      DataW.trod enc P w base spare held n f1.type ((cs.drop f1.offset).take (P.cellsOf f1.type)) = some y1 ∧ DataW.trod enc P w base spare held n f2.type ((cs.drop f2.offset).take (P.cellsOf f2.type)) = some y2 ∧ DataW.trod enc P w base spare held n f3.type ((cs.drop f3.offset).take (P.cellsOf f3.type)) = some y3 := by
  obtain ⟨xs, n, _, rfl, hl, hlen, hf⟩ := DataW.trod_struct ht h
  match xs, hlen with
  | [y0, y1, y2, y3], _ => exact ⟨y0, y1, y2, y3, n, by simp, hl, by simpa using hf 0 f0 rfl, by simpa using hf 1 f1 rfl, by simpa using hf 2 f2 rfl, by simpa using hf 3 f3 rfl⟩
theorem four_of {cs : List Value} (h : cs.length = 4) : ∃ c0 c1 c2 c3, cs = [c0, c1, c2, c3] := by
  match cs, h with
  | [c0, c1, c2, c3], _ => exact ⟨c0, c1, c2, c3, rfl⟩
theorem slice_of {P : Program} {H : Type} {enc : TypeId × Value → H} {w : World} {base : Nat} {spare : Nat → Bool} {held : Bool} {t e : TypeId} {fuel : Nat} {v : Value} {x : DataW H × List MemPlace} (ht : P.underlying t = some (.slice e)) (h : DataW.trod enc P w base spare held fuel t [v] = some x) : ∃ a len cap, v = .slice a len cap := by
  rcases open_slice ht h with ⟨hcs, _⟩ | ⟨a, l, c, _, _, _, _, hcs, _⟩
  · exact ⟨none, 0, 0, by simpa using hcs⟩
  · exact ⟨some a, l, c, by simpa using hcs⟩

instance : Inhabited Nv := ⟨(⟨⟨#[]⟩, ⟨#[]⟩, 0, []⟩, svNil)⟩
instance : Inhabited Tv := ⟨(tokZero, svNil)⟩
def NdOk (x : Nd) : Prop := x.name.size ≤ 9223372036854775807 ∧ x.text.size ≤ 9223372036854775807 ∧ (∀ a ∈ x.attrs, AtOk a) ∧ -9223372036854775808 ≤ x.parent ∧ x.parent ≤ 9223372036854775807
/-- A slice of nodes that came in. -/
def IsNds (w : World) (v : Value) (ns : List Nv) : Prop := ReadN w.heap.size w v ns ∧ ∀ p ∈ ns, NdOk p.1
set_option maxRecDepth 100000 in
theorem nodes_of {H : Type} {enc : TypeId × Value → H} {W : World} {fuel : Nat} {v : Value} {d : DataW H × List MemPlace} (hf : DataW.trod enc Try.prog W 0 (fun _ => true) true fuel 57 [v] = some d) :
    ∃ ns, IsNds W v ns := by
  rcases open_slice Try.underlying57 hf with ⟨hcs, _⟩ | ⟨x, len, cap, m, n, D, Pl, hcs, _, hl, hc, hm, _, hel⟩
  · obtain rfl : v = .slice none 0 0 := by simpa using hcs
    exact ⟨[], ⟨⟨none, 0, rfl, Nat.le_refl _, by omega, (fun _ => rfl), Or.inl rfl⟩, by simp⟩, by simp⟩
  · obtain rfl : v = .slice (some x) len cap := by simpa using hcs
    simp only [if_true] at hm
    subst hm
    have hC : Try.prog.cellsOf 157 = 4 := by kernel_rfl
    rw [hC] at hel
    have hstr : Try.prog.cellsOf 9 = 1 := by kernel_rfl
    have hint : Try.prog.cellsOf 3 = 1 := by kernel_rfl
    have hsl : Try.prog.cellsOf 155 = 1 := by kernel_rfl
    have hx : ∀ i, i < len → ∃ p : Nv, W.cell? (x.add (i * 4)) = some (.string p.1.name) ∧ W.cell? (x.add (i * 4 + 1)) = some (.string p.1.text) ∧ W.cell? (x.add (i * 4 + 2)) = some (.int .i64 p.1.parent) ∧ W.cell? (x.add (i * 4 + 3)) = some (sv p.2) ∧ ReadsK encA 2 W.heap.size W (sv p.2) p.1.attrs ∧ NdOk p.1 := by
      intro i hi
      obtain ⟨cs, h1, h2⟩ := hel i (by omega)
      obtain ⟨hlen, hat⟩ := cells?_at h1
      obtain ⟨y0, y1, y2, y3, n', _, _, t0, t1, t2, t3⟩ := trod_struct4 Try.underlying157 h2
      obtain ⟨c0, c1, c2, c3, rfl⟩ := four_of hlen
      obtain ⟨s, e0, _, w0⟩ := DataW.trod_string Try.underlying9 t0
      obtain ⟨t, e1, _, w1⟩ := DataW.trod_string Try.underlying9 t1
      obtain ⟨k, e2, _, w2⟩ := DataW.trod_int Try.underlying3 t2
      simp [hstr, hint] at e0 e1 e2
      simp [hsl] at t3
      obtain ⟨aa, al, ac, rfl⟩ := slice_of Try.underlying155 t3
      obtain ⟨xs, hxs, _, hok⟩ := attrs_of (enc := enc) (W := W) (a := aa) (len := al) (cap := ac) (d := y3.1) (p := y3.2) ⟨n', t3⟩
      have g0 := hat 0 (by omega)
      have g1 := hat 1 (by omega)
      have g2 := hat 2 (by omega)
      have g3 := hat 3 (by omega)
      rw [add_add] at g0 g1 g2 g3
      simp at g0 g1 g2 g3
      have hk := i64_range w2
      exact ⟨(⟨s, t, k, xs⟩, (aa, al, ac)), by rw [g0, e0], by rw [g1, e1], by rw [g2, e2], g3, hxs, w0, w1, hok, hk.1, hk.2⟩
    obtain ⟨f, hf⟩ := choose_lt hx
    refine ⟨(List.range len).map f, ⟨⟨some x, _, by rw [List.length_map, List.length_range], by simpa using hl, by unfold maxLen at hc; omega, (fun h => by cases h), ?_⟩, fun p hp => ?_⟩, fun p hp => ?_⟩
    · by_cases h0 : len = 0
      · exact Or.inl (by simpa using h0)
      · obtain ⟨blk, off, spot⟩ := x
        have c0 := (hf 0 (by omega)).1
        have hspot : spot = none := by simpa [Addr.add] using World.cell?_spot c0
        subst hspot
        have hlt : blk < W.heap.size := by
          have := World.block_lt_of_cell? W _ c0
          rwa [add_lit] at this
        refine Or.inr ⟨blk, off, rfl, hlt, fun j y hj i hi' => ?_⟩
        have hjl : j < len := by have := (List.getElem?_eq_some_iff.1 hj).1; simpa using this
        simp [hjl] at hj
        subst hj
        obtain ⟨g0, g1, g2, g3, _⟩ := hf j hjl
        rw [add_lit] at g0 g1 g2 g3
        rcases (show i = 0 ∨ i = 1 ∨ i = 2 ∨ i = 3 by omega) with rfl | rfl | rfl | rfl
        · rw [Nat.add_zero]; exact g0
        · rw [Nat.add_assoc]; exact g1
        · rw [Nat.add_assoc]; exact g2
        · rw [Nat.add_assoc]; exact g3
    · obtain ⟨i, hi, rfl⟩ := List.mem_map.1 hp
      exact (hf i (List.mem_range.1 hi)).2.2.2.2.1
    · obtain ⟨i, hi, rfl⟩ := List.mem_map.1 hp
      exact (hf i (List.mem_range.1 hi)).2.2.2.2.2

def TkOk (x : Tok) : Prop := x.name.size ≤ 9223372036854775807 ∧ x.text.size ≤ 9223372036854775807 ∧ (∀ a ∈ x.attrs, AtOk a)
/-- A slice of tokens that came in. -/
def IsTks (w : World) (v : Value) (ns : List Tv) : Prop := ReadT w.heap.size w v ns ∧ ∀ p ∈ ns, TkOk p.1

theorem ndCells_small : ∀ {ns : List Nv}, (∀ p ∈ ns, NdOk p.1) → SmallL (ndCells ns)
  | [], _ => trivial
  | p :: ns, h => by
    have h1 := h p List.mem_cons_self
    rw [ndCells]
    refine smallL_iff.2 fun c hc => ?_
    rcases List.mem_cons.1 hc with e | hc
    · rw [e, Rw.Small]; exact h1.1
    rcases List.mem_cons.1 hc with e | hc
    · rw [e, Rw.Small]; exact h1.2.1
    rcases List.mem_cons.1 hc with e | hc
    · rw [e, Rw.Small]; exact Nat.zero_le _
    rcases List.mem_cons.1 hc with e | hc
    · rw [e]; exact rwA_small h1.2.2.1
    · exact smallL_iff.1 (ndCells_small fun q hq => h q (List.mem_cons_of_mem _ hq)) c hc
theorem rwN_small {v : Value} {ns : List Nv} (h : ∀ p ∈ ns, NdOk p.1) : (rwN v ns).Small := by rw [rwN, Rw.Small]; exact ndCells_small h
theorem tkCells_small : ∀ {ns : List Tv}, (∀ p ∈ ns, TkOk p.1) → SmallL (tkCells ns)
  | [], _ => trivial
  | p :: ns, h => by
    have h1 := h p List.mem_cons_self
    rw [tkCells]
    refine smallL_iff.2 fun c hc => ?_
    rcases List.mem_cons.1 hc with e | hc
    · rw [e, Rw.Small]; exact Nat.zero_le _
    rcases List.mem_cons.1 hc with e | hc
    · rw [e, Rw.Small]; exact h1.1
    rcases List.mem_cons.1 hc with e | hc
    · rw [e]; exact rwA_small h1.2.2
    rcases List.mem_cons.1 hc with e | hc
    · rw [e, Rw.Small]; exact h1.2.1
    · exact smallL_iff.1 (tkCells_small fun q hq => h q (List.mem_cons_of_mem _ hq)) c hc
theorem rwT_smallS {v : Value} {ns : List Tv} (h : ∀ p ∈ ns, TkOk p.1) : (rwT v ns).Small := by rw [rwT, Rw.Small]; exact tkCells_small h
theorem rwI_small (v : Value) (zs : List Int) : (rwI v zs).Small := by
  rw [rwI, Rw.Small]
  refine smallL_iff.2 fun c hc => ?_
  obtain ⟨z, rfl⟩ := intCells_leaf hc
  rw [Rw.Small]; exact Nat.zero_le _
/-- A builder that came in. -/
def IsBd (w : World) (nv ov : Value) (ns : List Nv) (zs : List Int) : Prop := IsNds w nv ns ∧ Reads .i64 w.heap.size w ov zs ∧ (∀ z ∈ zs, (Lit.int .i64 z).wf = true) ∧ (∃ a n c, nv = .slice a n c) ∧ ∃ a n c, ov = .slice a n c
set_option maxRecDepth 100000 in
theorem builder_of {H : Type} {enc : TypeId × Value → H} {W : World} {base : Nat} {v : Value} {d : DataW H} {p : List MemPlace} (hv : Value.okWide Try.prog W .any base 59 v) (h : DataW.Trod enc Try.prog W 0 (fun _ => true) true 59 v d p) :
    ∃ (nv ov : Value) (ns : List Nv) (zs : List Int), v = .agg #[nv, ov] ∧ IsBd W nv ov ns zs := by
  obtain ⟨v0, v1, y0, y1, n, rfl, _, _, h0, h1⟩ := open_agg2 Try.underlying59 (by kernel_rfl) (by kernel_rfl) hv h
  obtain ⟨a1, l1, c1, rfl⟩ := slice_of Try.underlying25 h1
  obtain ⟨a0, l0, c0, rfl⟩ := slice_of Try.underlying57 h0
  obtain ⟨ns, hns⟩ := nodes_of h0
  obtain ⟨zs, hz⟩ := row_of (k := .i64) Try.underlying25 Try.underlying3 (by kernel_rfl) (W := W) (a := a1) (len := l1) (cap := c1) (d := y1.1) (p := y1.2) ⟨n, h1⟩
  obtain ⟨r1, r2, r3⟩ := reads_of_row hz
  exact ⟨_, _, ns, zs.take l1, rfl, hns, r1, r3, ⟨a0, l0, c0, rfl⟩, ⟨a1, l1, c1, rfl⟩⟩
end Go.Proofs.Ytmlmiclgledcpaa
